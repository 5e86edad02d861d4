/-
  Contracts of NeedOK and OrderFor, the program's and the specification's, for every need.
-/
import Derived.Test.YtbgjekhekjbcpaaOrM
namespace Go.Proofs.Ytbgjekhekjbcpaa
open Go.ChangeShapes Go.WideShapes Go.ChangeAt Go.RowKit Go.Joins
set_option linter.unusedVariables false

theorem reads6 (w : World) (a b c d e f : Int) (t : TypeId) : Reads (w.alloc (Obj.cells #[.int .i64 a, .int .i64 b, .int .i64 c, .int .i64 d, .int .i64 e, .int .i64 f] t)).heap.size (w.alloc (Obj.cells #[.int .i64 a, .int .i64 b, .int .i64 c, .int .i64 d, .int .i64 e, .int .i64 f] t)) (some ⟨w.heap.size, 0, none⟩) [a, b, c, d, e, f] := by
  refine .inr ⟨_, _, rfl, by simp, fun i hi => ?_⟩
  simp only [List.length_cons, List.length_nil] at hi
  match i, hi with
  | 0, _ => simp
  | 1, _ => simp
  | 2, _ => simp
  | 3, _ => simp
  | 4, _ => simp
  | 5, _ => simp
theorem implNeed_any (a b c d e f : Int) (w : World) :
    Calls Try.prog 12 #[.agg #[.int .i64 a, .int .i64 b, .int .i64 c, .int .i64 d, .int .i64 e, .int .i64 f]] w fun e' w' => e' = .returned (.bool (ndB a b c d e f)) ∧ Below w.heap.size w w' := by
  have HC : Hid (∀ X, X = ((w.alloc (Obj.cells #[.int .i64 a, .int .i64 b, .int .i64 c, .int .i64 d, .int .i64 e, .int .i64 f] 24)).alloc (Obj.cells #[.int .i64 a, .int .i64 b, .int .i64 c, .int .i64 d, .int .i64 e, .int .i64 f] 3)) → Calls Try.prog 36 #[.agg #[.int .i64 0, .int .i64 100000], .slice (some ⟨w.heap.size + 1, 0, none⟩) 6 6] X fun e' w' => e' = .returned (.bool (alB 0 100000 [a, b, c, d, e, f])) ∧ Below w.heap.size w w' ∧ w'.cell? ⟨w.heap.size, 3, none⟩ = some (.int .i64 d)) := fun X hX => by
    subst hX
    have h0 := reads6 (w.alloc (Obj.cells #[.int .i64 a, .int .i64 b, .int .i64 c, .int .i64 d, .int .i64 e, .int .i64 f] 24)) a b c d e f 3
    have hz : (w.alloc (Obj.cells #[.int .i64 a, .int .i64 b, .int .i64 c, .int .i64 d, .int .i64 e, .int .i64 f] 24)).heap.size = w.heap.size + 1 := by simp
    rw [hz] at h0
    have := hasAll_any 0 100000 (some ⟨w.heap.size + 1, 0, none⟩) 6 [a, b, c, d, e, f] (by simp) _ h0
    refine this.mono ?_
    rintro e' w' ⟨h1, h2⟩
    exact ⟨h1, chain (chain (below_alloc _ _) (below_alloc _ _)) h2, (h2.cell (p := ⟨w.heap.size, 3, none⟩) (by simp; omega)).trans (by simp)⟩
  rw [← nd_al]
  generalize alB 0 100000 [a, b, c, d, e, f] = b1 at *
  cases b1
  all_goals
    go_enter Try.func12, Try.ntmps12
    go_wp2_with (go_at_call 36; refine (HC.out _ rfl).mono ?_; rintro e' w2 ⟨rfl, hb2, hc3⟩)
    go_ret
    exact ⟨ret_bool (by simp), hb2⟩
theorem specNeed_any (a b c d e f : Int) (w : World) :
    Calls Try.prog 21 #[.agg #[.int .i64 a, .int .i64 b, .int .i64 c, .int .i64 d, .int .i64 e, .int .i64 f]] w fun e' w' => e' = .returned (.bool (ndB a b c d e f)) ∧ Below w.heap.size w w' := by
  have H0 : Hid (∀ x W, Calls Try.prog 45 #[.int .i64 x, .int .i64 0, .int .i64 100000] W fun e' w' => e' = .returned (.bool (inB x 0 100000)) ∧ W = w') := fun x W => (in_any _ _ _ W).mono (fun e' w' h => ⟨h.1, h.2.symm⟩)
  have H1 : Hid (∀ x W, Calls Try.prog 45 #[.int .i64 x, .int .i64 1, .int .i64 100000] W fun e' w' => e' = .returned (.bool (inB x 1 100000)) ∧ W = w') := fun x W => (in_any _ _ _ W).mono (fun e' w' h => ⟨h.1, h.2.symm⟩)
  unfold ndB
  have Ha := H0.out a
  have Hb := H0.out b
  have Hc := H0.out c
  have Hd := H1.out d
  have He := H0.out e
  have Hf := H0.out f
  generalize inB a 0 100000 = ba at *
  generalize inB b 0 100000 = bb at *
  generalize inB c 0 100000 = bc at *
  generalize inB d 1 100000 = bd at *
  generalize inB e 0 100000 = be at *
  generalize inB f 0 100000 = bf at *
  have KA : Hid (∀ W, Calls Try.prog 45 #[.int .i64 a, .int .i64 0, .int .i64 100000] W fun e' w' => e' = .returned (.bool ba) ∧ W = w') := Ha
  have KB : Hid (∀ W, Calls Try.prog 45 #[.int .i64 b, .int .i64 0, .int .i64 100000] W fun e' w' => e' = .returned (.bool bb) ∧ W = w') := Hb
  have KC : Hid (∀ W, Calls Try.prog 45 #[.int .i64 c, .int .i64 0, .int .i64 100000] W fun e' w' => e' = .returned (.bool bc) ∧ W = w') := Hc
  have KD : Hid (∀ W, Calls Try.prog 45 #[.int .i64 d, .int .i64 1, .int .i64 100000] W fun e' w' => e' = .returned (.bool bd) ∧ W = w') := Hd
  have KE : Hid (∀ W, Calls Try.prog 45 #[.int .i64 e, .int .i64 0, .int .i64 100000] W fun e' w' => e' = .returned (.bool be) ∧ W = w') := He
  have KF : Hid (∀ W, Calls Try.prog 45 #[.int .i64 f, .int .i64 0, .int .i64 100000] W fun e' w' => e' = .returned (.bool bf) ∧ W = w') := Hf
  clear Ha Hb Hc Hd He Hf H0 H1
  cases ba
  · go_enter Try.func21, Try.ntmps21
    go_wp2_with fail
    (first | go_at_call 45 | skip)
    refine (KA.out _).mono ?_
    rintro e' w2 ⟨rfl, rfl⟩
    go_wp2_with fail
    go_ret
    exact ⟨rfl, below_alloc _ _⟩
  go_enter Try.func21, Try.ntmps21
  go_wp2_with fail
  (first | go_at_call 45 | skip)
  refine (KA.out _).mono ?_
  rintro e' w2 ⟨rfl, rfl⟩
  go_wp2_with fail
  (first | go_at_call 45 | skip)
  refine (KB.out _).mono ?_
  rintro e' w2 ⟨rfl, rfl⟩
  cases bb
  · go_wp2_with fail
    go_ret
    exact ⟨rfl, below_alloc _ _⟩
  go_wp2_with fail
  (first | go_at_call 45 | skip)
  refine (KC.out _).mono ?_
  rintro e' w2 ⟨rfl, rfl⟩
  cases bc
  · go_wp2_with fail
    go_ret
    exact ⟨rfl, below_alloc _ _⟩
  go_wp2_with fail
  (first | go_at_call 45 | skip)
  refine (KD.out _).mono ?_
  rintro e' w2 ⟨rfl, rfl⟩
  cases bd
  · go_wp2_with fail
    go_ret
    exact ⟨rfl, below_alloc _ _⟩
  go_wp2_with fail
  (first | go_at_call 45 | skip)
  refine (KE.out _).mono ?_
  rintro e' w2 ⟨rfl, rfl⟩
  cases be
  · go_wp2_with fail
    go_ret
    exact ⟨rfl, below_alloc _ _⟩
  go_wp2_with fail
  (first | go_at_call 45 | skip)
  refine (KF.out _).mono ?_
  rintro e' w2 ⟨rfl, rfl⟩
  go_wp2_with fail
  go_ret
  exact ⟨ret_bool (by simp), below_alloc _ _⟩
/-- A need in block bk. -/
def NdAt (W : World) (bk : Nat) (a b c d e f : Int) : Prop := W.cell? ⟨bk, 0, none⟩ = some (.int .i64 a) ∧ W.cell? ⟨bk, 1, none⟩ = some (.int .i64 b) ∧ W.cell? ⟨bk, 2, none⟩ = some (.int .i64 c) ∧ W.cell? ⟨bk, 3, none⟩ = some (.int .i64 d) ∧ W.cell? ⟨bk, 4, none⟩ = some (.int .i64 e) ∧ W.cell? ⟨bk, 5, none⟩ = some (.int .i64 f) ∧ bk < W.heap.size
theorem NdAt.later {W W' : World} {bk : Nat} {a b c d e f : Int} (h : NdAt W bk a b c d e f) (hb : Below W.heap.size W W') : NdAt W' bk a b c d e f := by
  obtain ⟨h0, h1, h2, h3, h4, h5, h6⟩ := h
  exact ⟨(hb.cell (p := ⟨bk, 0, none⟩) h6).trans h0, (hb.cell (p := ⟨bk, 1, none⟩) h6).trans h1, (hb.cell (p := ⟨bk, 2, none⟩) h6).trans h2, (hb.cell (p := ⟨bk, 3, none⟩) h6).trans h3, (hb.cell (p := ⟨bk, 4, none⟩) h6).trans h4, (hb.cell (p := ⟨bk, 5, none⟩) h6).trans h5, Nat.lt_of_lt_of_le h6 hb.size⟩
theorem ndNew (w : World) (a b c d e f : Int) (t : TypeId) : NdAt (w.alloc (Obj.cells #[.int .i64 a, .int .i64 b, .int .i64 c, .int .i64 d, .int .i64 e, .int .i64 f] t)) w.heap.size a b c d e f := ⟨by simp, by simp, by simp, by simp, by simp, by simp, by simp⟩
/-- The whole struct is loaded. -/
theorem there_any (a b c d e f : Int) (hb : 0 ≤ b ∧ b ≤ 100000) (hc : 0 ≤ c ∧ c ≤ 100000) (w : World) :
    Calls Try.prog 33 #[.agg #[.int .i64 a, .int .i64 b, .int .i64 c, .int .i64 d, .int .i64 e, .int .i64 f]] w fun e' w' => e' = .returned (.int .i64 (b + c)) ∧ Below w.heap.size w w' := by
  obtain ⟨b1, b2⟩ := hb
  obtain ⟨c1, c2⟩ := hc
  go_enter Try.func33, Try.ntmps33
  go_wp2
  go_ret
  exact ⟨rfl, below_alloc _ _⟩
theorem fewestOf_any (sz al q : Int) (h1 : 1 ≤ sz ∧ sz ≤ 200000) (h2 : 0 ≤ al ∧ al ≤ 1000000) (hq : (al + sz - 1).tdiv sz = q) (hq2 : 0 ≤ q ∧ q ≤ 2000000) (w : World) :
    Calls Try.prog 34 #[.int .i64 sz, .int .i64 al] w fun e' w' => e' = .returned (.int .i64 q) ∧ w = w' := by
  obtain ⟨s1, s2⟩ := h1
  obtain ⟨a1, a2⟩ := h2
  obtain ⟨q1, q2⟩ := hq2
  have z0 : (sz == 0) = false := by simp; omega
  have z1 : ¬ sz = 0 := by omega
  have w1 : IntKind.i64.wrap (al + sz) = al + sz := wrap_id _ (by omega) (by omega)
  have w2 : IntKind.i64.wrap (al + sz - 1) = al + sz - 1 := wrap_id _ (by omega) (by omega)
  have w3 : IntKind.i64.wrap ((al + sz - 1).tdiv sz) = q := by rw [hq]; exact wrap_id _ (by omega) (by omega)
  clear hq
  go_enter Try.func34, Try.ntmps34
  go_wp2
  go_ret
  exact ⟨rfl, rfl⟩
end Go.Proofs.Ytbgjekhekjbcpaa
