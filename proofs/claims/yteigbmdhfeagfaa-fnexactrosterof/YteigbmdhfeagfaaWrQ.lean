/-
  A roster that is held against another one, marked, and held against its marks (the laws' own helpers).
-/
import Derived.Test.YteigbmdhfeagfaaMqQ
import Derived.Test.YteigbmdhfeagfaaZiE
namespace Go.Proofs.Yteigbmdhfeagfaa
open Go.ChangeShapes Go.WideShapes Go.ChangeAt Go.RowKit Go.Deep
set_option linter.unusedVariables false

/-- A roster that lies in a block of its own. -/
def RsAt (W : World) (b : Nat) (q : Option Addr) (n c : Nat) (x : Int) : Prop := W.cell? ⟨b, 0, none⟩ = some (.slice q n c) ∧ W.cell? ⟨b, 1, none⟩ = some (.int .i64 x) ∧ b < W.heap.size
theorem RsAt.low {W W' : World} {b : Nat} {q : Option Addr} {n c : Nat} {x : Int} {D : Nat} (h : RsAt W b q n c x) (hb : Below D W W') (hD : b < D) : RsAt W' b q n c x :=
  ⟨(hb.cell (p := ⟨b, 0, none⟩) hD).trans h.1, (hb.cell (p := ⟨b, 1, none⟩) hD).trans h.2.1, Nat.lt_of_lt_of_le h.2.2 hb.size⟩
theorem RsAt.later {W W' : World} {b : Nat} {q : Option Addr} {n c : Nat} {x : Int} (h : RsAt W b q n c x) (hb : Below W.heap.size W W') : RsAt W' b q n c x := h.low hb h.2.2
theorem RsAt.above {W W' : World} {b : Nat} {q : Option Addr} {n c : Nat} {x : Int} {lo hi : Nat} (h : RsAt W b q n c x) (hs : Span lo hi W W') (hD : hi ≤ b) : RsAt W' b q n c x :=
  ⟨(hs.above hD h.2.2 0).1.trans h.1, (hs.above hD h.2.2 1).1.trans h.2.1, Nat.lt_of_lt_of_le h.2.2 hs.1.size⟩
theorem RsAt.new (w : World) (q : Option Addr) (n c : Nat) (x : Int) (t : TypeId) : RsAt (w.alloc (Obj.cells #[.slice q n c, .int .i64 x] t)) w.heap.size q n c x :=
  ⟨cellNew _ _ _ _ rfl rfl, cellNew _ _ _ _ rfl rfl, by simp⟩
set_option maxHeartbeats 2000000 in
theorem eqRos_any (x : Int) (a b : Option Addr) (ca cb : Nat) (L : List Int) (hn : L.length ≤ 1048576) (w : World) (ra : Reads w.heap.size w a L) (rb : Reads w.heap.size w b L) :
    Calls Try.prog 16 #[.agg #[.slice a L.length ca, .int .i64 x], .agg #[.slice b L.length cb, .int .i64 x]] w fun e w' => e = .returned (.bool true) ∧ Below w.heap.size w w' := by
  have HW : Hid (∀ W, Below w.heap.size w W → Calls Try.prog 17 #[.slice a L.length ca, .slice b L.length cb] W fun e w' => e = .returned (.bool true) ∧ Below W.heap.size W w') := fun W q => eqZis_any a b ca cb L hn W (ra.later q) (rb.later q)
  clear ra rb
  generalize L.length = n at *
  obtain ⟨W0, hW0⟩ : ∃ W0, W0 = (w.alloc (Obj.cells #[.slice a n ca, .int .i64 x] 36)).alloc (Obj.cells #[.slice b n cb, .int .i64 x] 36) := ⟨_, rfl⟩
  have HW0 : Hid (W0 = (w.alloc (Obj.cells #[.slice a n ca, .int .i64 x] 36)).alloc (Obj.cells #[.slice b n cb, .int .i64 x] 36)) := hW0
  have HB0 : Hid (Below w.heap.size w W0) := by show Below _ _ _; rw [hW0]; exact chain (below_alloc _ _) (below_alloc _ _)
  have HP : Hid (RsAt W0 w.heap.size a n ca x ∧ RsAt W0 (w.heap.size + 1) b n cb x) := by
    have h1 := RsAt.new w a n ca x 36
    have h2 := RsAt.new (w.alloc (Obj.cells #[.slice a n ca, .int .i64 x] 36)) b n cb x 36
    rw [World.size_alloc] at h2
    show _ ∧ _
    rw [hW0]
    exact ⟨h1.later (below_alloc _ _), h2⟩
  clear hW0
  go_enter Try.func16, Try.ntmps16
  go_upto_region 1 with fail
  rw [← HW0.out]
  clear HW0
  obtain ⟨⟨e0, _⟩, f0, _⟩ := HP.out
  go_wp2_with fail
  (first | go_at_call 17 | skip)
  refine (HW.out W0 HB0.out).mono ?_
  rintro e w2 ⟨rfl, hb2⟩
  obtain ⟨k0, k1, _⟩ := HP.out.1.later hb2
  obtain ⟨m0, m1, _⟩ := HP.out.2.later hb2
  have HB2 : Hid (Below w.heap.size w w2) := chain HB0.out hb2
  clear hb2 HW e0 f0
  go_wp2
  go_ret
  exact ⟨rfl, HB2.out⟩
theorem markRos_any (x : Int) (lo hi : Nat) (g : Option Addr) (cap : Nat) (L : List Int) (hn : L.length ≤ 1048576) (w : World) (h : RowI lo hi w g L) (h1 : hi ≤ w.heap.size) (h2 : lo ≤ hi) :
    Calls Try.prog 21 #[.agg #[.slice g L.length cap, .int .i64 x], .int .i64 1] w fun e w' => e = .returned (.int .i64 ((1 + L.length : Nat) : Int)) ∧ Span lo hi w w' ∧ RowI lo hi w' g (marks 1 L.length) := by
  have HT : Hid (∀ W, Below w.heap.size w W → Calls Try.prog 20 #[.slice g L.length cap, .int .i64 1] W fun e w' => e = .returned (.int .i64 ((1 + L.length : Nat) : Int)) ∧ Span lo hi W w' ∧ RowI lo hi w' g (marks 1 L.length)) := fun W hb => markI_any lo hi g cap L hn 1 (by omega) W (h.later hb)
  clear h
  generalize 1 + L.length = kk at *
  generalize hn' : L.length = n at *
  clear hn'
  go_enter Try.func21, Try.ntmps21
  go_wp2_with (go_at_call 20; refine (HT.out _ (below_alloc _ _)).mono ?_; rintro e w2 ⟨rfl, hs2, hr2⟩; have HS2 : Hid _ := hs2; have HR2 : Hid _ := hr2; clear hs2 hr2)
  go_ret
  refine ⟨rfl, ⟨((below_alloc _ _).mono (by omega)).trans HS2.out.1, fun c o k1 k2 => ?_⟩, HR2.out⟩
  have k3 := HS2.out.2 c o k1 (by rw [World.size_alloc]; omega)
  exact ⟨k3.1.trans (cellOld _ _ k2), k3.2.trans ((below_alloc _ _).frozen (p := ⟨c, o, none⟩) k2)⟩
theorem heldRos_any (x : Int) (lo hi : Nat) (g : Option Addr) (cap n : Nat) (hn : n ≤ 1048576) (w : World) (h : RowI lo hi w g (marks 1 n)) :
    Calls Try.prog 22 #[.agg #[.slice g n cap, .int .i64 x], .int .i64 1] w fun e w' => e = .returned (.int .i64 ((1 + n : Nat) : Int)) ∧ Below w.heap.size w w' := by
  have HT : Hid (∀ W, Below w.heap.size w W → Calls Try.prog 49 #[.slice g n cap, .int .i64 1] W fun e w' => e = .returned (.int .i64 ((1 + n : Nat) : Int)) ∧ w' = W) := fun W hb => heldI_any lo hi g cap n hn 1 (by omega) W (h.later hb)
  clear h
  have hpos : ¬ (((1 + n : Nat) : Int) < 0) := by omega
  generalize 1 + n = kk at *
  go_enter Try.func22, Try.ntmps22
  go_wp2_with (go_at_call 49; refine (HT.out _ (below_alloc _ _)).mono ?_; rintro e w2 ⟨rfl, rfl⟩)
  go_ret
  exact ⟨rfl, below_alloc _ _⟩
end Go.Proofs.Yteigbmdhfeagfaa
