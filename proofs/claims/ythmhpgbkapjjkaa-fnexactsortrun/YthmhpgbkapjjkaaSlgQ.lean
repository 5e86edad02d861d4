/-
  The laws' own eqSortLog, markSortLog, heldSortLog: a log's two numbers, two lists in bands of memory.
-/
import Derived.Test.YthmhpgbkapjjkaaMqQ
namespace Go.Proofs.Ythmhpgbkapjjkaa
open Go.ChangeShapes Go.WideShapes Go.ChangeAt Go.RowKit Go.Joins
open Go.ChangeMaps (open_string shut_string)
set_option linter.unusedVariables false

/-- A log that lies in a block of its own: two lists, two numbers. -/
def SlgAt (W : World) (b : Nat) (q : Option Addr) (n c : Nat) (s : Option Addr) (m d : Nat) (x y : Int) : Prop := (W.cell? ⟨b, 2, none⟩ = some (.slice q n c) ∧ W.cell? ⟨b, 3, none⟩ = some (.slice s m d) ∧ W.cell? ⟨b, 0, none⟩ = some (.int .i64 x) ∧ W.cell? ⟨b, 1, none⟩ = some (.int .i64 y)) ∧ b < W.heap.size
theorem SlgAt.low {W W' : World} {b : Nat} {q : Option Addr} {n c : Nat} {s : Option Addr} {m d : Nat} {x y : Int} {D : Nat} (h : SlgAt W b q n c s m d x y) (hb : Below D W W') (hD : b < D) : SlgAt W' b q n c s m d x y :=
  ⟨⟨(hb.cell (p := ⟨b, 2, none⟩) hD).trans h.1.1, (hb.cell (p := ⟨b, 3, none⟩) hD).trans h.1.2.1, (hb.cell (p := ⟨b, 0, none⟩) hD).trans h.1.2.2.1, (hb.cell (p := ⟨b, 1, none⟩) hD).trans h.1.2.2.2⟩, Nat.lt_of_lt_of_le h.2 hb.size⟩
theorem SlgAt.later {W W' : World} {b : Nat} {q : Option Addr} {n c : Nat} {s : Option Addr} {m d : Nat} {x y : Int} (h : SlgAt W b q n c s m d x y) (hb : Below W.heap.size W W') : SlgAt W' b q n c s m d x y := h.low hb h.2
theorem SlgAt.above {W W' : World} {b : Nat} {q : Option Addr} {n c : Nat} {s : Option Addr} {m d : Nat} {x y : Int} {lo hi : Nat} (h : SlgAt W b q n c s m d x y) (hs : Span lo hi W W') (hD : hi ≤ b) : SlgAt W' b q n c s m d x y :=
  ⟨⟨(hs.above hD h.2 2).1.trans h.1.1, (hs.above hD h.2 3).1.trans h.1.2.1, (hs.above hD h.2 0).1.trans h.1.2.2.1, (hs.above hD h.2 1).1.trans h.1.2.2.2⟩, Nat.lt_of_lt_of_le h.2 hs.1.size⟩
theorem SlgAt.new (w : World) (q : Option Addr) (n c : Nat) (s : Option Addr) (m d : Nat) (x y : Int) (t : TypeId) : SlgAt (w.alloc (Obj.cells #[.int .i64 x, .int .i64 y, .slice q n c, .slice s m d] t)) w.heap.size q n c s m d x y :=
  ⟨⟨cellNew _ _ _ _ rfl rfl, cellNew _ _ _ _ rfl rfl, cellNew _ _ _ _ rfl rfl, cellNew _ _ _ _ rfl rfl⟩, by simp⟩
set_option maxHeartbeats 2000000 in
theorem eqSlg_any (x y : Int) (a b a2 b2 : Option Addr) (ca cb ca2 cb2 : Nat) (L S : List Int) (hn : L.length ≤ 1048576) (hm : S.length ≤ 1048576) (w : World) (ra : Reads w.heap.size w a L) (rb : Reads w.heap.size w b L) (ra2 : Reads w.heap.size w a2 S) (rb2 : Reads w.heap.size w b2 S) :
    Calls Try.prog 26 #[.agg #[.int .i64 x, .int .i64 y, .slice a L.length ca, .slice a2 S.length ca2], .agg #[.int .i64 x, .int .i64 y, .slice b L.length cb, .slice b2 S.length cb2]] w fun e w' => e = .returned (.bool true) ∧ Below w.heap.size w w' := by
  have HW : Hid (∀ W, Below w.heap.size w W → Calls Try.prog 17 #[.slice a L.length ca, .slice b L.length cb] W fun e w' => e = .returned (.bool true) ∧ Below W.heap.size W w') := fun W q => eqZis_any a b ca cb L hn W (ra.later q) (rb.later q)
  have HV : Hid (∀ W, Below w.heap.size w W → Calls Try.prog 17 #[.slice a2 S.length ca2, .slice b2 S.length cb2] W fun e w' => e = .returned (.bool true) ∧ Below W.heap.size W w') := fun W q => eqZis_any a2 b2 ca2 cb2 S hm W (ra2.later q) (rb2.later q)
  clear ra rb ra2 rb2
  generalize L.length = n at *
  generalize S.length = m at *
  obtain ⟨W0, hW0⟩ : ∃ W0, W0 = (w.alloc (Obj.cells #[.int .i64 x, .int .i64 y, .slice a n ca, .slice a2 m ca2] 41)).alloc (Obj.cells #[.int .i64 x, .int .i64 y, .slice b n cb, .slice b2 m cb2] 41) := ⟨_, rfl⟩
  have HW0 : Hid (W0 = (w.alloc (Obj.cells #[.int .i64 x, .int .i64 y, .slice a n ca, .slice a2 m ca2] 41)).alloc (Obj.cells #[.int .i64 x, .int .i64 y, .slice b n cb, .slice b2 m cb2] 41)) := hW0
  have HB0 : Hid (Below w.heap.size w W0) := by show Below _ _ _; rw [hW0]; exact chain (below_alloc _ _) (below_alloc _ _)
  have HP : Hid (SlgAt W0 w.heap.size a n ca a2 m ca2 x y ∧ SlgAt W0 (w.heap.size + 1) b n cb b2 m cb2 x y) := by
    have h1 := SlgAt.new w a n ca a2 m ca2 x y 41
    have h2 := SlgAt.new (w.alloc (Obj.cells #[.int .i64 x, .int .i64 y, .slice a n ca, .slice a2 m ca2] 41)) b n cb b2 m cb2 x y 41
    rw [World.size_alloc] at h2
    show _ ∧ _
    rw [hW0]
    exact ⟨h1.later (below_alloc _ _), h2⟩
  clear hW0
  go_enter Try.func26, Try.ntmps26
  go_upto_region 1 with fail
  rw [← HW0.out]
  clear HW0
  obtain ⟨⟨⟨e0, e1, e2, e3⟩, _⟩, ⟨f0, f1, f2, f3⟩, _⟩ := HP.out
  go_wp2_with fail
  (first | go_at_call 17 | skip)
  refine (HW.out W0 HB0.out).mono ?_
  rintro e w2 ⟨rfl, hb2⟩
  obtain ⟨⟨k0, k1, k2, k3⟩, _⟩ := HP.out.1.later hb2
  obtain ⟨⟨m0, m1, m2, m3⟩, _⟩ := HP.out.2.later hb2
  have HP2 : Hid (SlgAt w2 w.heap.size a n ca a2 m ca2 x y ∧ SlgAt w2 (w.heap.size + 1) b n cb b2 m cb2 x y) := ⟨HP.out.1.later hb2, HP.out.2.later hb2⟩
  have HB2 : Hid (Below w.heap.size w w2) := chain HB0.out hb2
  clear hb2 HW e0 e1 e2 e3 f0 f1 f2 f3 HP
  go_wp2_with fail
  (first | go_at_call 17 | skip)
  refine (HV.out w2 HB2.out).mono ?_
  rintro e w3 ⟨rfl, hb3⟩
  clear k0 k1 k2 k3 m0 m1 m2 m3
  obtain ⟨⟨k0, k1, k2, k3⟩, _⟩ := HP2.out.1.later hb3
  obtain ⟨⟨m0, m1, m2, m3⟩, _⟩ := HP2.out.2.later hb3
  have HB3 : Hid (Below w.heap.size w w3) := chain HB2.out hb3
  clear hb3 HV HP2
  go_wp2
  go_ret
  exact ⟨rfl, HB3.out⟩
set_option maxHeartbeats 2000000 in
theorem markSlg_any (x y : Int) (lo mid hi : Nat) (g h : Option Addr) (cg ch : Nat) (L S : List Int) (hn : L.length ≤ 1048576) (hm : S.length ≤ 1048576) (w : World) (rg : RowI lo mid w g L) (rh : RowI mid hi w h S) (h1 : hi ≤ w.heap.size) (h2 : lo ≤ mid) (h3 : mid ≤ hi) :
    Calls Try.prog 29 #[.agg #[.int .i64 x, .int .i64 y, .slice g L.length cg, .slice h S.length ch], .int .i64 1] w fun e w' => e = .returned (.int .i64 ((1 + L.length + S.length : Nat) : Int)) ∧ Span lo hi w w' ∧ RowI lo mid w' g (marks 1 L.length) ∧ RowI mid hi w' h (marks ((1 + L.length : Nat) : Int) S.length) := by
  have HT : Hid (∀ W, Below w.heap.size w W → Calls Try.prog 20 #[.slice g L.length cg, .int .i64 1] W fun e w' => e = .returned (.int .i64 ((1 + L.length : Nat) : Int)) ∧ Span lo mid W w' ∧ RowI lo mid w' g (marks 1 L.length)) := fun W hb => markI_any lo mid g cg L hn 1 (by omega) W (rg.later hb)
  have HU : Hid (∀ W, RowI mid hi W h S → Calls Try.prog 20 #[.slice h S.length ch, .int .i64 ((1 + L.length : Nat) : Int)] W fun e w' => e = .returned (.int .i64 ((1 + L.length + S.length : Nat) : Int)) ∧ Span mid hi W w' ∧ RowI mid hi w' h (marks ((1 + L.length : Nat) : Int) S.length)) := fun W hb => markI_any mid hi h ch S hm (1 + L.length) (by omega) W hb
  obtain ⟨W0, hW0⟩ : ∃ W0, W0 = w.alloc (Obj.cells #[.int .i64 x, .int .i64 y, .slice g L.length cg, .slice h S.length ch] 41) := ⟨_, rfl⟩
  have HW0 : Hid (W0 = w.alloc (Obj.cells #[.int .i64 x, .int .i64 y, .slice g L.length cg, .slice h S.length ch] 41)) := hW0
  have HM0 : Hid (SlgAt W0 w.heap.size g L.length cg h S.length ch x y) := by show SlgAt _ _ _ _ _ _ _ _ _ _; rw [hW0]; exact SlgAt.new _ _ _ _ _ _ _ _ _ _
  have HB0 : Hid (Below w.heap.size w W0) := by show Below _ _ _; rw [hW0]; exact below_alloc _ _
  have HR0 : Hid (RowI mid hi W0 h S) := rh.later HB0.out
  clear rg rh hW0
  generalize 1 + L.length + S.length = k2 at *
  generalize hk1 : 1 + L.length = k1 at *
  generalize hn' : L.length = n at *
  generalize hm' : S.length = m at *
  have HK1 : Hid (1 + n = k1) := hk1
  clear hn' hm' hk1
  go_enter Try.func29, Try.ntmps29
  go_upto_region 1 with fail
  rw [← HW0.out]
  obtain ⟨⟨e0, e1, _, _⟩, _⟩ := HM0.out
  go_wp2_with fail
  (first | go_at_call 20 | skip)
  refine (HT.out W0 HB0.out).mono ?_
  rintro e w2 ⟨rfl, hs2, hr2⟩
  have HS2 : Hid (Span lo mid W0 w2) := hs2
  have HR2 : Hid (RowI lo mid w2 g (marks 1 n)) := hr2
  have HR3 : Hid (RowI mid hi w2 h S) := HR0.out.apart hs2 (Nat.le_refl _)
  have HM2 : Hid (SlgAt w2 w.heap.size g n cg h m ch x y) := HM0.out.above hs2 (by omega)
  clear hs2 hr2 e0 e1 HT HM0
  obtain ⟨⟨e0, e1, _, _⟩, _⟩ := HM2.out
  go_wp2_with fail
  (first | go_at_call 20 | skip)
  refine (HU.out w2 HR3.out).mono ?_
  rintro e w3 ⟨rfl, hs3, hr3⟩
  have HS3 : Hid (Span lo hi w w3) := by
    have a := (HS2.out.wide (Nat.le_refl _) h3).trans (hs3.wide h2 (Nat.le_refl _))
    rw [HW0.out] at a
    exact a.box h1 (by omega)
  have HR4 : Hid (RowI mid hi w3 h (marks (k1 : Int) m)) := hr3
  have HR5 : Hid (RowI lo mid w3 g (marks 1 n)) := HR2.out.below hs3.1 (Nat.le_refl _)
  clear hs3 hr3 e0 e1 HU HM2 HS2 HR3 HR2 HW0
  go_wp2_with fail
  go_ret
  exact ⟨rfl, HS3.out, HR5.out, HR4.out⟩
set_option maxHeartbeats 2000000 in
theorem heldSlg_any (x y : Int) (lo mid hi : Nat) (g h : Option Addr) (cg ch n m : Nat) (hn : n ≤ 1048576) (hm : m ≤ 1048576) (w : World) (rg : RowI lo mid w g (marks 1 n)) (rh : RowI mid hi w h (marks ((1 + n : Nat) : Int) m)) :
    Calls Try.prog 30 #[.agg #[.int .i64 x, .int .i64 y, .slice g n cg, .slice h m ch], .int .i64 1] w fun e w' => e = .returned (.int .i64 ((1 + n + m : Nat) : Int)) ∧ Below w.heap.size w w' := by
  have HT : Hid (∀ W, Below w.heap.size w W → Calls Try.prog 21 #[.slice g n cg, .int .i64 1] W fun e w' => e = .returned (.int .i64 ((1 + n : Nat) : Int)) ∧ w' = W) := fun W hb => heldI_any lo mid g cg n hn 1 (by omega) W (rg.later hb)
  have HU : Hid (∀ W, Below w.heap.size w W → Calls Try.prog 21 #[.slice h m ch, .int .i64 ((1 + n : Nat) : Int)] W fun e w' => e = .returned (.int .i64 ((1 + n + m : Nat) : Int)) ∧ w' = W) := fun W hb => heldI_any mid hi h ch m hm (1 + n) (by omega) W (rh.later hb)
  clear rg rh
  have hpos : ¬ (((1 + n : Nat) : Int) < 0) := by omega
  have hpos2 : ¬ (((1 + n + m : Nat) : Int) < 0) := by omega
  generalize 1 + n + m = k2 at *
  generalize 1 + n = k1 at *
  go_enter Try.func30, Try.ntmps30
  go_wp2_with fail
  (first | go_at_call 21 | skip)
  refine (HT.out _ (below_alloc _ _)).mono ?_
  rintro e w2 ⟨rfl, rfl⟩
  go_wp2_with fail
  (first | go_at_call 21 | skip)
  refine (HU.out _ (below_alloc _ _)).mono ?_
  rintro e w3 ⟨rfl, rfl⟩
  go_wp2_with fail
  go_ret
  exact ⟨rfl, below_alloc _ _⟩
end Go.Proofs.Ythmhpgbkapjjkaa
