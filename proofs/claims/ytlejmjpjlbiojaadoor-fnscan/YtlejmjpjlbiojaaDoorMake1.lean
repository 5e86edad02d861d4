/-
  MakeScan of a code that tells no value: the program's and the specification's.
-/
import Derived.Test.YtlejmjpjlbiojaaDoorScanSame
namespace Go.Proofs.YtlejmjpjlbiojaaDoor
open Go.ChangeShapes Go.WideShapes Go.ChangeAt Go.RowKit
set_option linter.unusedVariables false

def sv (k : Int) (a : ByteArray) (v : Int) : Value := .agg #[.int .i64 k, .string a, .int .i64 v]
theorem neq_scan (k k' : Int) (a a' : ByteArray) (v v' : Int) (w : World) : (binOp BinOp.neq 25 (.agg #[.int .i64 k, .string a, .int .i64 v]) (.agg #[.int .i64 k', .string a', .int .i64 v'])).run Tryd.prog w = .ok (.bool (!(decide (k = k' ∧ a = a' ∧ v = v')))) w := by
  simp [go_sem]
  by_cases hk : k = k' <;> by_cases ha : a = a' <;> by_cases hv : v = v'
  all_goals first | (simp [hk, ha, hv]; done) | (have ha' : ¬ a.toList = a'.toList := fun h => ha (bytes_inj (by rw [← ByteArray.toList_eq, ← ByteArray.toList_eq]; exact h)); simp [hk, ha, ha', hv])

/-- The code and whether what was read is another one than s decide. -/
theorem makeUnit_bad (k : Int) (a : ByteArray) (v : Int) (k' : Int) (a' : ByteArray) (v' c : Int) (hR : ∀ w, Calls Tryd.prog 6 #[.string a] w fun e w' => e = scanV k' a' v' c ∧ Below w.heap.size w w') (hq : (c != 0) = true ∨ ((c != 0) = false ∧ (!(decide (k' = k ∧ a' = a ∧ v' = v))) = true)) (w : World) :
    Calls Tryd.prog 26 #[sv k a v] w fun e w' => e = .returned (.tuple #[.string ⟨#[]⟩, .int .i64 1]) ∧ Below w.heap.size w w' := by
  unfold sv
  unfold scanV at hR
  have hn := fun w => neq_scan k' k a' a v' v w
  rcases hq with hq | ⟨hc, hq⟩
  · clear hn
    go_enter Tryd.func26, Tryd.ntmps26
    go_wp2_with (go_at_call 6; refine (hR _).mono ?_; rintro e w1 ⟨rfl, hb1⟩; obtain ⟨hc1, hf1, hz1⟩ := bfacts hb1)
    go_ret2
    exact ⟨rfl, chain (below_alloc _ _) (chain hb1 (below_alloc _ _))⟩
  · rw [hq] at hn
    clear hq
    go_enter Tryd.func26, Tryd.ntmps26
    go_wp2_with (go_at_call 6; refine (hR _).mono ?_; rintro e w1 ⟨rfl, hb1⟩; obtain ⟨hc1, hf1, hz1⟩ := bfacts hb1)
    go_ret2
    exact ⟨rfl, chain (below_alloc _ _) (chain hb1 (below_alloc _ _))⟩
theorem makeUnit_good (k : Int) (a : ByteArray) (v : Int) (hR : ∀ w, Calls Tryd.prog 6 #[.string a] w fun e w' => e = scanV k a v 0 ∧ Below w.heap.size w w') (w : World) :
    Calls Tryd.prog 26 #[sv k a v] w fun e w' => e = .returned (.tuple #[.string a, .int .i64 0]) ∧ Below w.heap.size w w' := by
  unfold sv
  unfold scanV at hR
  have hn := fun w => neq_scan k k a a v v w
  rw [decide_eq_true ⟨rfl, rfl, rfl⟩] at hn
  go_enter Tryd.func26, Tryd.ntmps26
  go_wp2_with (go_at_call 6; refine (hR _).mono ?_; rintro e w1 ⟨rfl, hb1⟩; obtain ⟨hc1, hf1, hz1⟩ := bfacts hb1)
  go_ret2
  exact ⟨rfl, chain (below_alloc _ _) (chain hb1 (below_alloc _ _))⟩


theorem specUnit_bad (a : ByteArray) (v : Int) (k' : Int) (a' : ByteArray) (v' c : Int) (hR : ∀ w, Calls Tryd.prog 7 #[.string a] w fun e w' => e = scanV k' a' v' c ∧ Below w.heap.size w w') (hq : (c != 0) = true ∨ ((c != 0) = false ∧ (!(decide (k' = 1 ∧ a' = a ∧ v' = v))) = true)) (w : World) :
    Calls Tryd.prog 12 #[sv 1 a v] w fun e w' => e = .returned (.tuple #[.string ⟨#[]⟩, .int .i64 1]) ∧ Below w.heap.size w w' := by
  unfold sv
  unfold scanV at hR
  have hn := fun w => neq_scan k' 1 a' a v' v w
  rcases hq with hq | ⟨hc, hq⟩
  · clear hn
    go_enter Tryd.func12, Tryd.ntmps12
    go_wp2_with (go_at_call 7; refine (hR _).mono ?_; rintro e w1 ⟨rfl, hb1⟩; obtain ⟨hc1, hf1, hz1⟩ := bfacts hb1)
    go_ret2
    exact ⟨rfl, chain (below_alloc _ _) (chain hb1 (below_alloc _ _))⟩
  · rw [hq] at hn
    clear hq
    go_enter Tryd.func12, Tryd.ntmps12
    go_wp2_with (go_at_call 7; refine (hR _).mono ?_; rintro e w1 ⟨rfl, hb1⟩; obtain ⟨hc1, hf1, hz1⟩ := bfacts hb1)
    go_ret2
    exact ⟨rfl, chain (below_alloc _ _) (chain hb1 (below_alloc _ _))⟩
theorem specUnit_good (a : ByteArray) (v : Int) (hR : ∀ w, Calls Tryd.prog 7 #[.string a] w fun e w' => e = scanV 1 a v 0 ∧ Below w.heap.size w w') (w : World) :
    Calls Tryd.prog 12 #[sv 1 a v] w fun e w' => e = .returned (.tuple #[.string a, .int .i64 0]) ∧ Below w.heap.size w w' := by
  unfold sv
  unfold scanV at hR
  have hn := fun w => neq_scan 1 1 a a v v w
  rw [decide_eq_true ⟨rfl, rfl, rfl⟩] at hn
  go_enter Tryd.func12, Tryd.ntmps12
  go_wp2_with (go_at_call 7; refine (hR _).mono ?_; rintro e w1 ⟨rfl, hb1⟩; obtain ⟨hc1, hf1, hz1⟩ := bfacts hb1)
  go_ret2
  exact ⟨rfl, chain (below_alloc _ _) (chain hb1 (below_alloc _ _))⟩

theorem implUnit_any (a : ByteArray) (v : Int) (t : ByteArray) (c : Int) (hM : ∀ w, Calls Tryd.prog 26 #[sv 1 a v] w fun e w' => e = .returned (.tuple #[.string t, .int .i64 c]) ∧ Below w.heap.size w w') (w : World) :
    Calls Tryd.prog 8 #[sv 1 a v] w fun e w' => e = .returned (.tuple #[.string t, .int .i64 c]) ∧ Below w.heap.size w w' := by
  unfold sv at *
  go_enter Tryd.func8, Tryd.ntmps8
  go_wp2_with (go_at_call 26; refine (hM _).mono ?_; rintro e w1 ⟨rfl, hb1⟩)
  go_ret2
  exact ⟨rfl, chain (below_alloc _ _) hb1⟩
theorem implOther (k : Int) (a : ByteArray) (v : Int) (h1 : (k == 1) = false) (h2 : (k == 2) = false) (h3 : (k == 3) = false) (w : World) :
    Calls Tryd.prog 8 #[sv k a v] w fun e w' => e = .returned (.tuple #[.string ⟨#[]⟩, .int .i64 1]) ∧ Below w.heap.size w w' := by
  unfold sv
  go_enter Tryd.func8, Tryd.ntmps8
  go_wp2
  go_ret2
  exact ⟨rfl, below_alloc _ _⟩

theorem specOther (k : Int) (a : ByteArray) (v : Int) (h1 : (k == 1) = false) (h2 : (k != 2) = true) (h3 : (k != 3) = true) (w : World) :
    Calls Tryd.prog 12 #[sv k a v] w fun e w' => e = .returned (.tuple #[.string ⟨#[]⟩, .int .i64 1]) ∧ Below w.heap.size w w' := by
  unfold sv
  go_enter Tryd.func12, Tryd.ntmps12
  go_wp2
  go_ret2
  exact ⟨rfl, below_alloc _ _⟩

end Go.Proofs.YtlejmjpjlbiojaaDoor
