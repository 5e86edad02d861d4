/-
  MakeScan of a code that tells a value: the specification's.
-/
import Derived.Test.YtlejmjpjlbiojaaDoorMake3
namespace Go.Proofs.YtlejmjpjlbiojaaDoor
open Go.ChangeShapes Go.WideShapes Go.ChangeAt Go.RowKit
set_option linter.unusedVariables false

theorem mkIn (n lo hi : Int) (w : World) :
    Calls Tryd.prog 29 #[.int .i64 n, .int .i64 lo, .int .i64 hi] w fun e w' => e = .returned (.bool (inB n lo hi)) ∧ w' = w := by
  rcases in_ways n lo hi with h | ⟨h, h'⟩ | ⟨h, h'⟩
  all_goals
    go_enter Tryd.func29, Tryd.ntmps29
    go_wp2
    go_ret
    exact ⟨ret_bool (by first | exact (decide_eq_false (by omega)).symm | exact (decide_eq_true (by omega)).symm | exact decide_eq_decide.mpr (by omega)), rfl⟩

theorem svBad (k : Int) (a : ByteArray) (v : Int) (hk : k = 2 ∨ k = 3) (hs : a.size ≤ maxLen) (h : ((a.size : Int) != 5) = true ∨ ((a.size : Int) = 5 ∧ allD a.data.toList = false) ∨ ((a.size : Int) = 5 ∧ allD a.data.toList = true ∧ inB v 0 99999 = false)) (w : World) :
    Calls Tryd.prog 12 #[sv k a v] w fun e w' => e = .returned (.tuple #[.string ⟨#[]⟩, .int .i64 1]) ∧ Below w.heap.size w w' := by
  unfold sv
  have hA := fun w => l02All_any a hs w
  have hN := fun w => mkIn v 0 99999 w
  rcases h with h | ⟨h, hd⟩ | ⟨h, hd, hn⟩
  · rcases hk with rfl | rfl
    all_goals
      go_enter Tryd.func12, Tryd.ntmps12
      go_wp2
      go_ret2
      exact ⟨rfl, below_alloc _ _⟩
  · rw [hd] at hA; clear hd
    rcases hk with rfl | rfl
    all_goals
      go_enter Tryd.func12, Tryd.ntmps12
      go_wp2_with (go_at_call 24; refine (hA _).mono ?_; rintro e w1 ⟨rfl, rfl⟩)
      go_ret2
      exact ⟨rfl, below_alloc _ _⟩
  · rw [hd] at hA; clear hd
    rw [hn] at hN; clear hn
    rcases hk with rfl | rfl
    all_goals
      go_enter Tryd.func12, Tryd.ntmps12
      go_wp2_with (first | (go_at_call 24; refine (hA _).mono ?_; rintro e w1 ⟨rfl, rfl⟩) | (go_at_call 29; refine (hN _).mono ?_; rintro e w1 ⟨rfl, rfl⟩))
      go_ret2
      exact ⟨rfl, below_alloc _ _⟩

theorem dec_one (x : Nat) (h : x < 10) : (decS x).size = 1 := by
  unfold decS; rw [Lib.decDigits_one h]; rfl
theorem svGood (k : Int) (c1 : UInt8) (a D : ByteArray) (v : Int) (u : Nat) (hk : (k = 2 ∧ c1 = 48) ∨ (k = 3 ∧ c1 = 49)) (hs : a.size ≤ maxLen) (ha : (a.size : Int) = 5) (hd : allD a.data.toList = true) (hn : inB v 0 99999 = true) (hu : 100000 + v = (u : Int)) (hu' : u < 200000) (hD : (decS u).extract 1 (decS u).size = D) (hd6 : (decS u).size = 6)
    (x : Nat) (hx : cd (⟨#[50, c1]⟩ ++ (a ++ D) : ByteArray).data.toList = (x : Int)) (hx9 : x < 10) (hdd : allD (⟨#[50, c1]⟩ ++ (a ++ D) : ByteArray).data.toList = true) (w : World) :
    Calls Tryd.prog 12 #[sv k a v] w fun e w' => e = .returned (.tuple #[.string (⟨#[50, c1]⟩ ++ (a ++ D) ++ decS x), .int .i64 0]) ∧ Below w.heap.size w w' := by
  unfold sv
  have hA := fun w => l02All_any a hs w
  have hN := fun w => mkIn v 0 99999 w
  rw [hd] at hA; clear hd
  have hv0 : 0 ≤ v ∧ v ≤ 99999 := of_decide_eq_true hn
  obtain ⟨hv, hv'⟩ := hv0
  rw [hn] at hN; clear hn
  have hI := fun w => digits_any u (by omega) w
  have hI2 := fun w => digits_any x (by omega) w
  have hsl := fun w => run_slice_rest' (decS u) (by omega) w
  rw [hD] at hsl
  have hD5 : D.size = 5 := by rw [← hD]; simp; omega
  have hx1 := dec_one x hx9
  have hsz : (⟨#[50, c1]⟩ : ByteArray).size = 2 := rfl
  have hM := fun w => l02Check_any (⟨#[50, c1]⟩ ++ (a ++ D)) (by simp only [ByteArray.size_append, hsz]; omega) hdd w
  rw [hx] at hM
  have ha1 := fun w => run_string_add_sum (P := Tryd.prog) w a D (by omega)
  have ha2 := fun w => run_string_add_sum (P := Tryd.prog) w ⟨#[50, c1]⟩ (a ++ D) (by simp only [ByteArray.size_append, hsz]; omega)
  have ha3 := fun w => run_string_add_sum (P := Tryd.prog) w (⟨#[50, c1]⟩ ++ (a ++ D)) (decS x) (by simp only [ByteArray.size_append, hsz]; omega)
  have hw : IntKind.i64.wrap (100000 + v) = 100000 + v := wrap_id _ (by omega) (by omega)
  clear hD hd6 hx hx9 hdd hx1 hsz hD5 hs
  generalize decS x = X at *
  generalize decS u = U at *
  rcases hk with ⟨rfl, rfl⟩ | ⟨rfl, rfl⟩
  all_goals
    generalize hp : (⟨#[50, _]⟩ : ByteArray) ++ (a ++ D) = p at *
    go_enter Tryd.func12, Tryd.ntmps12
    go_wp2_with (first | (go_at_call 24; refine (hA _).mono ?_; rintro e w1 ⟨rfl, rfl⟩) | (go_at_call 29; refine (hN _).mono ?_; rintro e w1 ⟨rfl, rfl⟩) | (go_at_call 30; refine (hI _).mono ?_; rintro e w2 ⟨rfl, hb2⟩; obtain ⟨hc2, hf2, hz2⟩ := bfacts hb2))
    have m1 : w2.cell? ⟨w.heap.size, 1, none⟩ = some (.string a) := by rw [hc2 _ _ (by simp)]; exact cell_of_row _ _ 1 _ _ _ (heap_alloc_new w _)
    have bel2 : Hid (Below w.heap.size w w2) := chain (below_alloc _ _) hb2
    clear hc2 hf2 hz2 hb2 hI
    go_quiet (fail)
    go_wp2_with fail
    go_at_call 25
    refine (hM _).mono ?_
    rintro e w3 ⟨rfl, hw3⟩
    subst hw3
    go_wp2_with fail
    go_at_call 30
    refine (hI2 _).mono ?_
    rintro e w4 ⟨rfl, hb4⟩
    go_wp2
    go_ret2
    exact ⟨rfl, chain (below_drewN bel2.out _) hb4⟩
end Go.Proofs.YtlejmjpjlbiojaaDoor
