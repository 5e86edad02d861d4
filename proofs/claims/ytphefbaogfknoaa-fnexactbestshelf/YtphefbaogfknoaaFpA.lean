/-
  Lists of numbers and plans in bands of memory: what stays of them where other bands are written; the laws' own eqShelfPlan, markShelfPlan, heldShelfPlan.
-/
import Derived.Test.YtphefbaogfknoaaFcM
import Derived.Test.YtphefbaogfknoaaFcF
import Derived.Test.YtphefbaogfknoaaOwn2
namespace Go.Proofs.Ytphefbaogfknoaa
open Go.ChangeShapes Go.WideShapes Go.ChangeAt Go.RowKit Go.Deep
set_option linter.unusedVariables false

/-- The numbers L in a block of their own from lo on, below hi. -/
def RowI (lo hi : Nat) (w : World) (g : Option Addr) (L : List Int) : Prop := L = [] ∨ ∃ b, g = some ⟨b, 0, none⟩ ∧ (lo ≤ b ∧ b < hi ∧ hi ≤ w.heap.size) ∧ IntsAt w b 0 L ∧ FreeAt w b 0 L.length
theorem Own2.rowI {lo : Nat} {w : World} {g : Option Addr} {L : List Int} (h : Own2 lo w g L) : RowI lo w.heap.size w g L := by
  rcases h with h | ⟨b, h1, h2, h3, h4, h5⟩
  · exact .inl h
  · exact .inr ⟨b, h1, ⟨h2, h3, Nat.le_refl _⟩, h4, h5⟩
theorem RowI.below {lo hi : Nat} {w w' : World} {g : Option Addr} {L : List Int} (h : RowI lo hi w g L) {D : Nat} (hb : Below D w w') (hD : hi ≤ D) : RowI lo hi w' g L := by
  rcases h with h | ⟨b, h1, ⟨h2, h3, h4⟩, h5, h6⟩
  · exact .inl h
  · exact .inr ⟨b, h1, ⟨h2, h3, Nat.le_trans h4 hb.size⟩, h5.below hb (by omega), h6.below hb (by omega)⟩
theorem RowI.later {lo hi : Nat} {w w' : World} {g : Option Addr} {L : List Int} (h : RowI lo hi w g L) (hb : Below w.heap.size w w') : RowI lo hi w' g L := by
  rcases h with h | ⟨b, h1, ⟨h2, h3, h4⟩, h5, h6⟩
  · exact .inl h
  · exact .inr ⟨b, h1, ⟨h2, h3, Nat.le_trans h4 hb.size⟩, h5.below hb (by omega), h6.below hb (by omega)⟩
theorem RowI.apart {lo hi : Nat} {w w' : World} {g : Option Addr} {L : List Int} (h : RowI lo hi w g L) {lo' hi' : Nat} (hs : Span lo' hi' w w') (hD : hi' ≤ lo) : RowI lo hi w' g L := by
  rcases h with h | ⟨b, h1, ⟨h2, h3, h4⟩, h5, h6⟩
  · exact .inl h
  · exact .inr ⟨b, h1, ⟨h2, h3, Nat.le_trans h4 hs.1.size⟩, fun i hi => (hs.above (b := b) (by omega) (by omega) _).1.trans (h5 i hi), fun i hi => (hs.above (b := b) (by omega) (by omega) _).2.trans (h6 i hi)⟩
theorem RowI.reads {lo hi : Nat} {w : World} {g : Option Addr} {L : List Int} (h : RowI lo hi w g L) : Reads w.heap.size w g L := by
  rcases h with h | ⟨b, h1, ⟨h2, h3, h4⟩, h5, h6⟩
  · exact .inl h
  · exact .inr ⟨b, 0, h1, by omega, h5⟩
theorem Span.wide {lo hi lo' hi' : Nat} {w w' : World} (h : Span lo hi w w') (h1 : lo' ≤ lo) (h2 : hi ≤ hi') : Span lo' hi' w w' := ⟨h.1.mono h1, fun c o k1 k2 => h.2 c o (Nat.le_trans h2 k1) k2⟩
theorem markI_any (lo hi : Nat) (g : Option Addr) (cap : Nat) (L : List Int) (hn : L.length ≤ 1048576) (k0 : Nat) (hk : k0 ≤ 90000000) (w : World) (h : RowI lo hi w g L) :
    Calls Try.prog 21 #[.slice g L.length cap, .int .i64 (k0 : Int)] w fun e w' => e = .returned (.int .i64 ((k0 + L.length : Nat) : Int)) ∧ Span lo hi w w' ∧ RowI lo hi w' g (marks k0 L.length) := by
  have e1 : ((k0 + L.length : Nat) : Int) = (k0 : Int) + (L.length : Int) := by omega
  rw [e1]
  rcases h with h | ⟨b, rfl, ⟨h2, h3, h4⟩, h5, h6⟩
  · subst h
    refine (mark_none g cap k0 w).mono ?_
    rintro e w' ⟨rfl, rfl⟩
    exact ⟨ret_int (by simp), Span.refl _ _ _, .inl rfl⟩
  · refine (mark_any b 0 L.length cap (by omega) k0 (by omega) (by omega) w (fun i h => by rw [h5 i h]; rfl) h6).mono ?_
    rintro e w' ⟨rfl, ho, hm⟩
    exact ⟨rfl, Span.ofOthers ho h2 h3, .inr ⟨b, rfl, ⟨h2, h3, by rw [ho.2.2.1]; exact h4⟩, hm, by rw [marks_length]; exact ho.free h6⟩⟩
theorem heldI_any (lo hi : Nat) (g : Option Addr) (cap n : Nat) (hn : n ≤ 1048576) (k0 : Nat) (hk : k0 ≤ 90000000) (w : World) (h : RowI lo hi w g (marks k0 n)) :
    Calls Try.prog 47 #[.slice g n cap, .int .i64 (k0 : Int)] w fun e w' => e = .returned (.int .i64 ((k0 + n : Nat) : Int)) ∧ w' = w := by
  have e1 : ((k0 + n : Nat) : Int) = (k0 : Int) + (n : Int) := by omega
  rw [e1]
  rcases h with h | ⟨b, rfl, _, hi, _⟩
  · have hz : n = 0 := by rw [← marks_length k0 n, h]; rfl
    subst hz
    refine (held_none g cap k0 w).mono ?_
    rintro e w' ⟨rfl, rfl⟩
    exact ⟨ret_int (by simp), rfl⟩
  · exact held_any b 0 n cap (by omega) k0 (by omega) (by omega) w hi
/-- A plan that lies in a block of its own. -/
def PlAt (W : World) (b : Nat) (q : Option Addr) (n c : Nat) (x y : Int) : Prop := W.cell? ⟨b, 0, none⟩ = some (.slice q n c) ∧ W.cell? ⟨b, 1, none⟩ = some (.int .i64 x) ∧ W.cell? ⟨b, 2, none⟩ = some (.int .i64 y) ∧ b < W.heap.size
theorem PlAt.low {W W' : World} {b : Nat} {q : Option Addr} {n c : Nat} {x y : Int} {D : Nat} (h : PlAt W b q n c x y) (hb : Below D W W') (hD : b < D) : PlAt W' b q n c x y :=
  ⟨(hb.cell (p := ⟨b, 0, none⟩) hD).trans h.1, (hb.cell (p := ⟨b, 1, none⟩) hD).trans h.2.1, (hb.cell (p := ⟨b, 2, none⟩) hD).trans h.2.2.1, Nat.lt_of_lt_of_le h.2.2.2 hb.size⟩
theorem PlAt.later {W W' : World} {b : Nat} {q : Option Addr} {n c : Nat} {x y : Int} (h : PlAt W b q n c x y) (hb : Below W.heap.size W W') : PlAt W' b q n c x y := h.low hb h.2.2.2
theorem PlAt.above {W W' : World} {b : Nat} {q : Option Addr} {n c : Nat} {x y : Int} {lo hi : Nat} (h : PlAt W b q n c x y) (hs : Span lo hi W W') (hD : hi ≤ b) : PlAt W' b q n c x y :=
  ⟨(hs.above hD h.2.2.2 0).1.trans h.1, (hs.above hD h.2.2.2 1).1.trans h.2.1, (hs.above hD h.2.2.2 2).1.trans h.2.2.1, Nat.lt_of_lt_of_le h.2.2.2 hs.1.size⟩
theorem PlAt.new (w : World) (q : Option Addr) (n c : Nat) (x y : Int) (t : TypeId) : PlAt (w.alloc (Obj.cells #[.slice q n c, .int .i64 x, .int .i64 y] t)) w.heap.size q n c x y :=
  ⟨cellNew _ _ _ _ rfl rfl, cellNew _ _ _ _ rfl rfl, cellNew _ _ _ _ rfl rfl, by simp⟩
set_option maxHeartbeats 2000000 in
theorem eqPlan_any (x y : Int) (a b : Option Addr) (ca cb : Nat) (L : List Int) (hn : L.length ≤ 1048576) (w : World) (ra : Reads w.heap.size w a L) (rb : Reads w.heap.size w b L) :
    Calls Try.prog 18 #[.agg #[.slice a L.length ca, .int .i64 x, .int .i64 y], .agg #[.slice b L.length cb, .int .i64 x, .int .i64 y]] w fun e w' => e = .returned (.bool true) ∧ Below w.heap.size w w' := by
  have HW : Hid (∀ W, Below w.heap.size w W → Calls Try.prog 19 #[.slice a L.length ca, .slice b L.length cb] W fun e w' => e = .returned (.bool true) ∧ Below W.heap.size W w') := fun W q => eqZis_any a b ca cb L hn W (ra.later q) (rb.later q)
  clear ra rb
  generalize L.length = n at *
  obtain ⟨W0, hW0⟩ : ∃ W0, W0 = (w.alloc (Obj.cells #[.slice a n ca, .int .i64 x, .int .i64 y] 28)).alloc (Obj.cells #[.slice b n cb, .int .i64 x, .int .i64 y] 28) := ⟨_, rfl⟩
  have HW0 : Hid (W0 = (w.alloc (Obj.cells #[.slice a n ca, .int .i64 x, .int .i64 y] 28)).alloc (Obj.cells #[.slice b n cb, .int .i64 x, .int .i64 y] 28)) := hW0
  have HB0 : Hid (Below w.heap.size w W0) := by show Below _ _ _; rw [hW0]; exact chain (below_alloc _ _) (below_alloc _ _)
  have HP : Hid (PlAt W0 w.heap.size a n ca x y ∧ PlAt W0 (w.heap.size + 1) b n cb x y) := by
    have h1 := PlAt.new w a n ca x y 28
    have h2 := PlAt.new (w.alloc (Obj.cells #[.slice a n ca, .int .i64 x, .int .i64 y] 28)) b n cb x y 28
    rw [World.size_alloc] at h2
    show _ ∧ _
    rw [hW0]
    exact ⟨h1.later (below_alloc _ _), h2⟩
  clear hW0
  go_enter Try.func18, Try.ntmps18
  go_upto_region 1 with fail
  rw [← HW0.out]
  clear HW0
  obtain ⟨⟨e0, _⟩, f0, _⟩ := HP.out
  go_wp2_with fail
  (first | go_at_call 19 | skip)
  refine (HW.out W0 HB0.out).mono ?_
  rintro e w2 ⟨rfl, hb2⟩
  obtain ⟨k0, k1, k2, _⟩ := HP.out.1.later hb2
  obtain ⟨m0, m1, m2, _⟩ := HP.out.2.later hb2
  have HB2 : Hid (Below w.heap.size w w2) := chain HB0.out hb2
  clear hb2 HW e0 f0
  go_wp2
  go_ret
  exact ⟨rfl, HB2.out⟩
theorem markPlan_any (x y : Int) (lo hi : Nat) (g : Option Addr) (cap : Nat) (L : List Int) (hn : L.length ≤ 1048576) (w : World) (h : RowI lo hi w g L) (h1 : hi ≤ w.heap.size) (h2 : lo ≤ hi) :
    Calls Try.prog 22 #[.agg #[.slice g L.length cap, .int .i64 x, .int .i64 y], .int .i64 1] w fun e w' => e = .returned (.int .i64 ((1 + L.length : Nat) : Int)) ∧ Span lo hi w w' ∧ RowI lo hi w' g (marks 1 L.length) := by
  have HT : Hid (∀ W, Below w.heap.size w W → Calls Try.prog 21 #[.slice g L.length cap, .int .i64 1] W fun e w' => e = .returned (.int .i64 ((1 + L.length : Nat) : Int)) ∧ Span lo hi W w' ∧ RowI lo hi w' g (marks 1 L.length)) := fun W hb => markI_any lo hi g cap L hn 1 (by omega) W (h.later hb)
  clear h
  generalize 1 + L.length = kk at *
  generalize hn' : L.length = n at *
  clear hn'
  go_enter Try.func22, Try.ntmps22
  go_wp2_with (go_at_call 21; refine (HT.out _ (below_alloc _ _)).mono ?_; rintro e w2 ⟨rfl, hs2, hr2⟩; have HS2 : Hid _ := hs2; have HR2 : Hid _ := hr2; clear hs2 hr2)
  go_ret
  refine ⟨rfl, ⟨((below_alloc _ _).mono (by omega)).trans HS2.out.1, fun c o k1 k2 => ?_⟩, HR2.out⟩
  have k3 := HS2.out.2 c o k1 (by rw [World.size_alloc]; omega)
  exact ⟨k3.1.trans (cellOld _ _ k2), k3.2.trans ((below_alloc _ _).frozen (p := ⟨c, o, none⟩) k2)⟩
theorem heldPlan_any (x y : Int) (lo hi : Nat) (g : Option Addr) (cap n : Nat) (hn : n ≤ 1048576) (w : World) (h : RowI lo hi w g (marks 1 n)) :
    Calls Try.prog 23 #[.agg #[.slice g n cap, .int .i64 x, .int .i64 y], .int .i64 1] w fun e w' => e = .returned (.int .i64 ((1 + n : Nat) : Int)) ∧ Below w.heap.size w w' := by
  have HT : Hid (∀ W, Below w.heap.size w W → Calls Try.prog 47 #[.slice g n cap, .int .i64 1] W fun e w' => e = .returned (.int .i64 ((1 + n : Nat) : Int)) ∧ w' = W) := fun W hb => heldI_any lo hi g cap n hn 1 (by omega) W (h.later hb)
  clear h
  have hpos : ¬ (((1 + n : Nat) : Int) < 0) := by omega
  generalize 1 + n = kk at *
  go_enter Try.func23, Try.ntmps23
  go_wp2_with (go_at_call 47; refine (HT.out _ (below_alloc _ _)).mono ?_; rintro e w2 ⟨rfl, rfl⟩)
  go_ret
  exact ⟨rfl, below_alloc _ _⟩
end Go.Proofs.Ytphefbaogfknoaa
