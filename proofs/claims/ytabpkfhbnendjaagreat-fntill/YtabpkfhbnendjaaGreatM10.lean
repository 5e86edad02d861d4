/-
  Texts of this claim laid together: Scan8.
-/
import Derived.Test.YtabpkfhbnendjaaGreatM9
/-
  The specification's ReadScan, way by way.
-/
namespace Go.Proofs.YtabpkfhbnendjaaGreat
open Go.ChangeShapes Go.WideShapes Go.ChangeAt Go.RowKit
set_option linter.unusedVariables false

theorem run_slice_head (s : ByteArray) (k : Nat) (i : Int) (hk : k ≤ s.size) (hi : i = (k : Int)) (w : World) : (Instr.slice 9 (.string s) none (some (.int .i64 i)) none).run Tryz.prog w = .ok (.string (s.extract 0 k)) w := by
  subst hi
  simp [go_sem]
  omega
theorem ssLong (s : ByteArray) (h : (65536 : Int) < (s.size : Int)) (w : World) :
    Calls Tryz.prog 51 #[.string s] w fun e w' => e = scanV 0 ⟨#[]⟩ 0 2 ∧ Below w.heap.size w w' := by
  go_enter Tryz.func51, Tryz.ntmps51
  go_wp2
  refine bodyPost_ret (ret_scan rfl _ _ w.heap.size _ _ _ 2 rfl rfl (heap_alloc_new _ _)) rfl ?_
  exact ⟨rfl, below_alloc _ _⟩
theorem ssOther (s : ByteArray) (hs : (s.size : Int) ≤ 65536) (h : ((s.size : Int) != 8) = true) (h' : ((s.size : Int) != 13) = true) (w : World) :
    Calls Tryz.prog 51 #[.string s] w fun e w' => e = scanV 0 ⟨#[]⟩ 0 4 ∧ Below w.heap.size w w' := by
  go_enter Tryz.func51, Tryz.ntmps51
  go_wp2
  refine bodyPost_ret (ret_scan rfl _ _ w.heap.size _ _ _ 4 rfl rfl (heap_alloc_new _ _)) rfl ?_
  exact ⟨rfl, below_alloc _ _⟩
theorem ssSyntax (s : ByteArray) (h : (s.size : Int) = 8 ∨ (s.size : Int) = 13) (hd : allD s.data.toList = false) (w : World) :
    Calls Tryz.prog 51 #[.string s] w fun e w' => e = scanV 0 ⟨#[]⟩ 0 4 ∧ Below w.heap.size w w' := by
  have hA := fun w => l02All_any s (by unfold maxLen; omega) w
  rw [hd] at hA; clear hd
  rcases h with h | h
  all_goals
    go_enter Tryz.func51, Tryz.ntmps51
    go_wp2_with (go_at_call 50; refine (hA _).mono ?_; rintro e w1 ⟨rfl, rfl⟩)
    refine bodyPost_ret (ret_scan rfl _ _ w.heap.size _ _ _ 4 rfl rfl (heap_alloc_new _ _)) rfl ?_
    exact ⟨rfl, below_alloc _ _⟩

theorem heap_drewN (w : World) (o : Obj) (n : Nat) : ((w.alloc o).drewN n).heap[w.heap.size]? = some o := heap_alloc_new w o
theorem num_step (s : ByteArray) (k : Nat) (h7 : 7 ≤ k) (hk : k < s.size) : num ((s.data.toList.drop 7).take (k + 1 - 7)) = 10 * num ((s.data.toList.drop 7).take (k - 7)) + ((s[k].toNat : Int) - 48) := by
  have e : k + 1 - 7 = k - 7 + 1 := by omega
  rw [e, List.take_succ_eq_append_getElem (by simp; omega), num_snoc]
  have e2 : 7 + (k - 7) = k := by omega
  simp [e2]
  rfl

theorem ssSum8 (s : ByteArray) (h : (s.size : Int) = 8) (hd : allD s.data.toList = true) (x y : Int) (hx : cd (s.data.toList.take 7) = x) (hy : (s[7]'(by omega)).toNat = y) (hne : (x != y - 48) = true) (w : World) :
    Calls Tryz.prog 51 #[.string s] w fun e w' => e = scanV 0 ⟨#[]⟩ 0 15 ∧ Below w.heap.size w w' := by
  have hA := fun w => l02All_any s (by unfold maxLen; omega) w
  have hM := fun w => l02Check_any (s.extract 0 7) (by simp; omega) (by rw [Lib.extract_data]; simpa using allD_take _ 7 hd) w
  have hP : (s.extract 0 7).data.toList = s.data.toList.take 7 := by rw [Lib.extract_data]; simp
  rw [hP, hx] at hM
  have hsl := fun w => run_slice_head s 7 7 (by omega) rfl w
  have hidx := fun w => run_index_at s 7 7 (by omega) rfl w
  rw [hy] at hidx
  have hy0 : 0 ≤ y ∧ y ≤ 255 := by have := (s[7]'(by omega)).toNat_lt; omega
  obtain ⟨hy1, hy2⟩ := hy0
  rw [hd] at hA
  have HD : Hid (allD s.data.toList = true) := hd
  have hx0 := cd_range (s.data.toList.take 7)
  rw [hx] at hx0
  obtain ⟨hx1, hx2⟩ := hx0
  clear hP hx hy hd
  generalize s.extract 0 7 = P at *
  have hw7 : IntKind.i64.wrap 7 = 7 := wrap_id _ (by omega) (by omega)
  have hwy : IntKind.i64.wrap (y - 48) = y - 48 := wrap_id _ (by omega) (by omega)
  go_enter Tryz.func51, Tryz.ntmps51
  go_wp2_with (go_at_call 50; refine (hA _).mono ?_; rintro e w1 ⟨rfl, rfl⟩)
  go_quiet (first | (go_at_call 22; exact Calls.quiet_of_same (hM _)))
  go_wp2
  refine bodyPost_ret (ret_scan rfl _ _ w.heap.size _ _ _ 15 rfl rfl (heap_three _ _ _ _ _ _ _ _ _ (heap_drewN w _ _))) rfl ?_
  exact ⟨rfl, below_three (below_drewN (below_alloc _ _) _) _ (Nat.le_refl _) _ _ _⟩

theorem ssSum13 (s : ByteArray) (h : (s.size : Int) = 13) (hd : allD s.data.toList = true) (x y : Int) (hx : cd (s.data.toList.take 12) = x) (hy : (s[12]'(by omega)).toNat = y) (hne : (x != y - 48) = true) (w : World) :
    Calls Tryz.prog 51 #[.string s] w fun e w' => e = scanV 0 ⟨#[]⟩ 0 15 ∧ Below w.heap.size w w' := by
  have hA := fun w => l02All_any s (by unfold maxLen; omega) w
  have hM := fun w => l02Check_any (s.extract 0 12) (by simp; omega) (by rw [Lib.extract_data]; simpa using allD_take _ 12 hd) w
  have hP : (s.extract 0 12).data.toList = s.data.toList.take 12 := by rw [Lib.extract_data]; simp
  rw [hP, hx] at hM
  have hsl := fun w => run_slice_head s 12 12 (by omega) rfl w
  have hidx := fun w => run_index_at s 12 12 (by omega) rfl w
  rw [hy] at hidx
  have hy0 : 0 ≤ y ∧ y ≤ 255 := by have := (s[12]'(by omega)).toNat_lt; omega
  obtain ⟨hy1, hy2⟩ := hy0
  rw [hd] at hA
  have HD : Hid (allD s.data.toList = true) := hd
  have hx0 := cd_range (s.data.toList.take 12)
  rw [hx] at hx0
  obtain ⟨hx1, hx2⟩ := hx0
  clear hP hx hy hd
  generalize s.extract 0 12 = P at *
  have hw7 : IntKind.i64.wrap 12 = 12 := wrap_id _ (by omega) (by omega)
  have hwy : IntKind.i64.wrap (y - 48) = y - 48 := wrap_id _ (by omega) (by omega)
  go_enter Tryz.func51, Tryz.ntmps51
  go_wp2_with (go_at_call 50; refine (hA _).mono ?_; rintro e w1 ⟨rfl, rfl⟩)
  go_quiet (first | (go_at_call 22; exact Calls.quiet_of_same (hM _)))
  go_wp2
  refine bodyPost_ret (ret_scan rfl _ _ w.heap.size _ _ _ 15 rfl rfl (heap_three _ _ _ _ _ _ _ _ _ (heap_drewN w _ _))) rfl ?_
  exact ⟨rfl, below_three (below_drewN (below_alloc _ _) _) _ (Nat.le_refl _) _ _ _⟩

theorem ssUnit8 (s : ByteArray) (h : (s.size : Int) = 8) (hd : allD s.data.toList = true) (x y : Int) (hx : cd (s.data.toList.take 7) = x) (hy : (s[7]'(by omega)).toNat = y) (heq : (x != y - 48) = false) (w : World) :
    Calls Tryz.prog 51 #[.string s] w fun e w' => e = scanV 1 s 0 0 ∧ Below w.heap.size w w' := by
  have hA := fun w => l02All_any s (by unfold maxLen; omega) w
  have hM := fun w => l02Check_any (s.extract 0 7) (by simp; omega) (by rw [Lib.extract_data]; simpa using allD_take _ 7 hd) w
  have hP : (s.extract 0 7).data.toList = s.data.toList.take 7 := by rw [Lib.extract_data]; simp
  rw [hP, hx] at hM
  have hsl := fun w => run_slice_head s 7 7 (by omega) rfl w
  have hidx := fun w => run_index_at s 7 7 (by omega) rfl w
  rw [hy] at hidx
  have hy0 : 0 ≤ y ∧ y ≤ 255 := by have := (s[7]'(by omega)).toNat_lt; omega
  obtain ⟨hy1, hy2⟩ := hy0
  rw [hd] at hA
  have HD : Hid (allD s.data.toList = true) := hd
  have hx0 := cd_range (s.data.toList.take 7)
  rw [hx] at hx0
  obtain ⟨hx1, hx2⟩ := hx0
  clear hP hx hy hd
  generalize s.extract 0 7 = P at *
  have hw7 : IntKind.i64.wrap 7 = 7 := wrap_id _ (by omega) (by omega)
  have hwy : IntKind.i64.wrap (y - 48) = y - 48 := wrap_id _ (by omega) (by omega)
  go_enter Tryz.func51, Tryz.ntmps51
  go_wp2_with (go_at_call 50; refine (hA _).mono ?_; rintro e w1 ⟨rfl, rfl⟩)
  go_quiet (first | (go_at_call 22; exact Calls.quiet_of_same (hM _)))
  go_wp2
  refine bodyPost_ret (ret_scan rfl _ _ w.heap.size _ _ _ 0 rfl rfl (heap_three _ _ _ _ _ _ _ _ _ (heap_drewN w _ _))) rfl ?_
  exact ⟨rfl, below_three (below_drewN (below_alloc _ _) _) _ (Nat.le_refl _) _ _ _⟩

theorem ssUnit13 (s : ByteArray) (h : (s.size : Int) = 13) (hd : allD s.data.toList = true) (x y : Int) (hx : cd (s.data.toList.take 12) = x) (hy : (s[12]'(by omega)).toNat = y) (heq : (x != y - 48) = false) (c0 : Int) (hc0 : ((s[0]'(by omega)).toNat : Int) = c0) (hne0 : (c0 != 50) = true) (w : World) :
    Calls Tryz.prog 51 #[.string s] w fun e w' => e = scanV 1 s 0 0 ∧ Below w.heap.size w w' := by
  have hA := fun w => l02All_any s (by unfold maxLen; omega) w
  have hM := fun w => l02Check_any (s.extract 0 12) (by simp; omega) (by rw [Lib.extract_data]; simpa using allD_take _ 12 hd) w
  have hP : (s.extract 0 12).data.toList = s.data.toList.take 12 := by rw [Lib.extract_data]; simp
  rw [hP, hx] at hM
  have hsl := fun w => run_slice_head s 12 12 (by omega) rfl w
  have hidx := fun w => run_index_at s 12 12 (by omega) rfl w
  rw [hy] at hidx
  have hy0 : 0 ≤ y ∧ y ≤ 255 := by have := (s[12]'(by omega)).toNat_lt; omega
  obtain ⟨hy1, hy2⟩ := hy0
  have hi0 := fun w => run_index_at s 0 0 (by omega) rfl w
  rw [hc0] at hi0
  rw [hd] at hA
  have HD : Hid (allD s.data.toList = true) := hd
  have hx0 := cd_range (s.data.toList.take 12)
  rw [hx] at hx0
  obtain ⟨hx1, hx2⟩ := hx0
  clear hP hx hy hd
  generalize s.extract 0 12 = P at *
  have hw7 : IntKind.i64.wrap 12 = 12 := wrap_id _ (by omega) (by omega)
  have hwy : IntKind.i64.wrap (y - 48) = y - 48 := wrap_id _ (by omega) (by omega)
  go_enter Tryz.func51, Tryz.ntmps51
  go_wp2_with (go_at_call 50; refine (hA _).mono ?_; rintro e w1 ⟨rfl, rfl⟩)
  go_quiet (first | (go_at_call 22; exact Calls.quiet_of_same (hM _)))
  clear hc0
  go_wp2
  refine bodyPost_ret (ret_scan rfl _ _ w.heap.size _ _ _ 0 rfl rfl (heap_three _ _ _ _ _ _ _ _ _ (heap_drewN w _ _))) rfl ?_
  exact ⟨rfl, below_three (below_drewN (below_alloc _ _) _) _ (Nat.le_refl _) _ _ _⟩

theorem ssGrams (s : ByteArray) (h : (s.size : Int) = 13) (hd : allD s.data.toList = true) (x y : Int) (hx : cd (s.data.toList.take 12) = x) (hy : (s[12]'(by omega)).toNat = y) (heq : (x != y - 48) = false) (c0 c1 : Int) (hc0 : ((s[0]'(by omega)).toNat : Int) = c0) (hc1 : ((s[1]'(by omega)).toNat : Int) = c1) (hne0 : (c0 != 50) = false) (hq : (c1 == 48) = true) (w : World) :
    Calls Tryz.prog 51 #[.string s] w fun e w' => e = scanV 2 (s.extract 2 7) (num ((s.data.toList.drop 7).take 5)) 0 ∧ Below w.heap.size w w' := by
  have hA := fun w => l02All_any s (by unfold maxLen; omega) w
  have hM := fun w => l02Check_any (s.extract 0 12) (by simp; omega) (by rw [Lib.extract_data]; simpa using allD_take _ 12 hd) w
  have hP : (s.extract 0 12).data.toList = s.data.toList.take 12 := by rw [Lib.extract_data]; simp
  rw [hP, hx] at hM
  have hsl := fun w => run_slice_head s 12 12 (by omega) rfl w
  have hidx := fun w => run_index_at s 12 12 (by omega) rfl w
  rw [hy] at hidx
  have hy0 : 0 ≤ y ∧ y ≤ 255 := by have := (s[12]'(by omega)).toNat_lt; omega
  obtain ⟨hy1, hy2⟩ := hy0
  have hi0 := fun w => run_index_at s 0 0 (by omega) rfl w
  rw [hc0] at hi0
  have hi1 := fun w => run_index_at s 1 1 (by omega) rfl w
  rw [hc1] at hi1
  rw [hd] at hA
  have HD : Hid (allD s.data.toList = true) := hd
  have hx0 := cd_range (s.data.toList.take 12)
  rw [hx] at hx0
  obtain ⟨hx1, hx2⟩ := hx0
  clear hP hx hy hd
  generalize s.extract 0 12 = P at *
  have hw7 : IntKind.i64.wrap 12 = 12 := wrap_id _ (by omega) (by omega)
  have hwy : IntKind.i64.wrap (y - 48) = y - 48 := wrap_id _ (by omega) (by omega)
  go_enter Tryz.func51, Tryz.ntmps51
  go_wp2_with (go_at_call 50; refine (hA _).mono ?_; rintro e w1 ⟨rfl, rfl⟩)
  go_quiet (first | (go_at_call 22; exact Calls.quiet_of_same (hM _)))
  clear hc0 hc1
  go_wp2
  go_loop [5, 6] (fun v i => ∃ k : Nat, 7 ≤ k ∧ k ≤ 12 ∧ i = .int .i64 (k : Int) ∧ v = .int .i64 (num ((s.data.toList.drop 7).take (k - 7)))) (fun _ i => 12 - (intOf i).toNat)
  case atStart => exact ⟨7, by omega, by omega, rfl, rfl⟩
  case round =>
    obtain ⟨k, h7, h12, rfl, rfl⟩ := hrel
    by_cases hlt : k < 12
    · have hlt' : (k : Int) < 12 := by omega
      have hk : k < s.size := by omega
      have HN : Hid (num ((s.data.toList.drop 7).take (k + 1 - 7)) = 10 * num ((s.data.toList.drop 7).take (k - 7)) + ((s[k].toNat : Int) - 48)) := num_step s k h7 hk
      have hb := num_bound ((s.data.toList.drop 7).take (k - 7)).length _ rfl (allD_take _ _ (allD_drop _ 7 HD.out))
      have hb2 : num ((s.data.toList.drop 7).take (k - 7)) < 100000000 := by
        have h1 := pow_le ((s.data.toList.drop 7).take (k - 7)).length 8 (by simp; omega)
        have h2 : (10 : Int) ^ 8 = 100000000 := by decide
        omega
      have hb1 := hb.1
      have hc := (dg_iff _).mp (allD_at s k hk HD.out)
      have hik := fun w => run_index_at s k (k : Int) hk rfl w
      clear hb
      generalize (s[k].toNat : Int) = q at *
      generalize num ((s.data.toList.drop 7).take (k - 7)) = v at *
      obtain ⟨hc1', hc2'⟩ := hc
      go_wp2
      go_round
      case rel => exact ⟨k + 1, by omega, by omega, by go_num, by rw [HN.out]; first | done | go_num⟩
      case measure => simp [intOf]; omega
    · obtain rfl : k = 12 := by omega
      have e5 : (12 : Nat) - 7 = 5 := rfl
      rw [e5]
      obtain ⟨v, hv⟩ : ∃ v, num ((s.data.toList.drop 7).take 5) = v := ⟨_, rfl⟩
      have HV : Hid (num ((s.data.toList.drop 7).take 5) = v) := hv
      rw [hv]
      clear hv
      go_wp2
      refine bodyPost_ret (ret_scan rfl _ _ w.heap.size _ _ _ 0 rfl rfl (heap_three _ _ _ _ _ _ _ _ _ (heap_drewN w _ _))) rfl ?_
      exact ⟨by rw [HV.out]; rfl, below_three (below_drewN (below_alloc _ _) _) _ (Nat.le_refl _) _ _ _⟩

theorem ssPrice (s : ByteArray) (h : (s.size : Int) = 13) (hd : allD s.data.toList = true) (x y : Int) (hx : cd (s.data.toList.take 12) = x) (hy : (s[12]'(by omega)).toNat = y) (heq : (x != y - 48) = false) (c0 c1 : Int) (hc0 : ((s[0]'(by omega)).toNat : Int) = c0) (hc1 : ((s[1]'(by omega)).toNat : Int) = c1) (hne0 : (c0 != 50) = false) (hq : (c1 == 48) = false) (hq' : (c1 == 49) = true) (w : World) :
    Calls Tryz.prog 51 #[.string s] w fun e w' => e = scanV 3 (s.extract 2 7) (num ((s.data.toList.drop 7).take 5)) 0 ∧ Below w.heap.size w w' := by
  have hA := fun w => l02All_any s (by unfold maxLen; omega) w
  have hM := fun w => l02Check_any (s.extract 0 12) (by simp; omega) (by rw [Lib.extract_data]; simpa using allD_take _ 12 hd) w
  have hP : (s.extract 0 12).data.toList = s.data.toList.take 12 := by rw [Lib.extract_data]; simp
  rw [hP, hx] at hM
  have hsl := fun w => run_slice_head s 12 12 (by omega) rfl w
  have hidx := fun w => run_index_at s 12 12 (by omega) rfl w
  rw [hy] at hidx
  have hy0 : 0 ≤ y ∧ y ≤ 255 := by have := (s[12]'(by omega)).toNat_lt; omega
  obtain ⟨hy1, hy2⟩ := hy0
  have hi0 := fun w => run_index_at s 0 0 (by omega) rfl w
  rw [hc0] at hi0
  have hi1 := fun w => run_index_at s 1 1 (by omega) rfl w
  rw [hc1] at hi1
  rw [hd] at hA
  have HD : Hid (allD s.data.toList = true) := hd
  have hx0 := cd_range (s.data.toList.take 12)
  rw [hx] at hx0
  obtain ⟨hx1, hx2⟩ := hx0
  clear hP hx hy hd
  generalize s.extract 0 12 = P at *
  have hw7 : IntKind.i64.wrap 12 = 12 := wrap_id _ (by omega) (by omega)
  have hwy : IntKind.i64.wrap (y - 48) = y - 48 := wrap_id _ (by omega) (by omega)
  go_enter Tryz.func51, Tryz.ntmps51
  go_wp2_with (go_at_call 50; refine (hA _).mono ?_; rintro e w1 ⟨rfl, rfl⟩)
  go_quiet (first | (go_at_call 22; exact Calls.quiet_of_same (hM _)))
  clear hc0 hc1
  go_wp2
  go_loop [5, 6] (fun v i => ∃ k : Nat, 7 ≤ k ∧ k ≤ 12 ∧ i = .int .i64 (k : Int) ∧ v = .int .i64 (num ((s.data.toList.drop 7).take (k - 7)))) (fun _ i => 12 - (intOf i).toNat)
  case atStart => exact ⟨7, by omega, by omega, rfl, rfl⟩
  case round =>
    obtain ⟨k, h7, h12, rfl, rfl⟩ := hrel
    by_cases hlt : k < 12
    · have hlt' : (k : Int) < 12 := by omega
      have hk : k < s.size := by omega
      have HN : Hid (num ((s.data.toList.drop 7).take (k + 1 - 7)) = 10 * num ((s.data.toList.drop 7).take (k - 7)) + ((s[k].toNat : Int) - 48)) := num_step s k h7 hk
      have hb := num_bound ((s.data.toList.drop 7).take (k - 7)).length _ rfl (allD_take _ _ (allD_drop _ 7 HD.out))
      have hb2 : num ((s.data.toList.drop 7).take (k - 7)) < 100000000 := by
        have h1 := pow_le ((s.data.toList.drop 7).take (k - 7)).length 8 (by simp; omega)
        have h2 : (10 : Int) ^ 8 = 100000000 := by decide
        omega
      have hb1 := hb.1
      have hc := (dg_iff _).mp (allD_at s k hk HD.out)
      have hik := fun w => run_index_at s k (k : Int) hk rfl w
      clear hb
      generalize (s[k].toNat : Int) = q at *
      generalize num ((s.data.toList.drop 7).take (k - 7)) = v at *
      obtain ⟨hc1', hc2'⟩ := hc
      go_wp2
      go_round
      case rel => exact ⟨k + 1, by omega, by omega, by go_num, by rw [HN.out]; first | done | go_num⟩
      case measure => simp [intOf]; omega
    · obtain rfl : k = 12 := by omega
      have e5 : (12 : Nat) - 7 = 5 := rfl
      rw [e5]
      obtain ⟨v, hv⟩ : ∃ v, num ((s.data.toList.drop 7).take 5) = v := ⟨_, rfl⟩
      have HV : Hid (num ((s.data.toList.drop 7).take 5) = v) := hv
      rw [hv]
      clear hv
      go_wp2
      refine bodyPost_ret (ret_scan rfl _ _ w.heap.size _ _ _ 0 rfl rfl (heap_three _ _ _ _ _ _ _ _ _ (heap_drewN w _ _))) rfl ?_
      exact ⟨by rw [HV.out]; rfl, below_three (below_drewN (below_alloc _ _) _) _ (Nat.le_refl _) _ _ _⟩

theorem ssKind (s : ByteArray) (h : (s.size : Int) = 13) (hd : allD s.data.toList = true) (x y : Int) (hx : cd (s.data.toList.take 12) = x) (hy : (s[12]'(by omega)).toNat = y) (heq : (x != y - 48) = false) (c0 c1 : Int) (hc0 : ((s[0]'(by omega)).toNat : Int) = c0) (hc1 : ((s[1]'(by omega)).toNat : Int) = c1) (hne0 : (c0 != 50) = false) (hq : (c1 == 48) = false) (hq' : (c1 == 49) = false) (w : World) :
    Calls Tryz.prog 51 #[.string s] w fun e w' => e = scanV 0 ⟨#[]⟩ 0 13 ∧ Below w.heap.size w w' := by
  have hA := fun w => l02All_any s (by unfold maxLen; omega) w
  have hM := fun w => l02Check_any (s.extract 0 12) (by simp; omega) (by rw [Lib.extract_data]; simpa using allD_take _ 12 hd) w
  have hP : (s.extract 0 12).data.toList = s.data.toList.take 12 := by rw [Lib.extract_data]; simp
  rw [hP, hx] at hM
  have hsl := fun w => run_slice_head s 12 12 (by omega) rfl w
  have hidx := fun w => run_index_at s 12 12 (by omega) rfl w
  rw [hy] at hidx
  have hy0 : 0 ≤ y ∧ y ≤ 255 := by have := (s[12]'(by omega)).toNat_lt; omega
  obtain ⟨hy1, hy2⟩ := hy0
  have hi0 := fun w => run_index_at s 0 0 (by omega) rfl w
  rw [hc0] at hi0
  have hi1 := fun w => run_index_at s 1 1 (by omega) rfl w
  rw [hc1] at hi1
  rw [hd] at hA
  have HD : Hid (allD s.data.toList = true) := hd
  have hx0 := cd_range (s.data.toList.take 12)
  rw [hx] at hx0
  obtain ⟨hx1, hx2⟩ := hx0
  clear hP hx hy hd
  generalize s.extract 0 12 = P at *
  have hw7 : IntKind.i64.wrap 12 = 12 := wrap_id _ (by omega) (by omega)
  have hwy : IntKind.i64.wrap (y - 48) = y - 48 := wrap_id _ (by omega) (by omega)
  go_enter Tryz.func51, Tryz.ntmps51
  go_wp2_with (go_at_call 50; refine (hA _).mono ?_; rintro e w1 ⟨rfl, rfl⟩)
  go_quiet (first | (go_at_call 22; exact Calls.quiet_of_same (hM _)))
  clear hc0 hc1
  go_wp2
  go_loop [5, 6] (fun v i => ∃ k : Nat, 7 ≤ k ∧ k ≤ 12 ∧ i = .int .i64 (k : Int) ∧ v = .int .i64 (num ((s.data.toList.drop 7).take (k - 7)))) (fun _ i => 12 - (intOf i).toNat)
  case atStart => exact ⟨7, by omega, by omega, rfl, rfl⟩
  case round =>
    obtain ⟨k, h7, h12, rfl, rfl⟩ := hrel
    by_cases hlt : k < 12
    · have hlt' : (k : Int) < 12 := by omega
      have hk : k < s.size := by omega
      have HN : Hid (num ((s.data.toList.drop 7).take (k + 1 - 7)) = 10 * num ((s.data.toList.drop 7).take (k - 7)) + ((s[k].toNat : Int) - 48)) := num_step s k h7 hk
      have hb := num_bound ((s.data.toList.drop 7).take (k - 7)).length _ rfl (allD_take _ _ (allD_drop _ 7 HD.out))
      have hb2 : num ((s.data.toList.drop 7).take (k - 7)) < 100000000 := by
        have h1 := pow_le ((s.data.toList.drop 7).take (k - 7)).length 8 (by simp; omega)
        have h2 : (10 : Int) ^ 8 = 100000000 := by decide
        omega
      have hb1 := hb.1
      have hc := (dg_iff _).mp (allD_at s k hk HD.out)
      have hik := fun w => run_index_at s k (k : Int) hk rfl w
      clear hb
      generalize (s[k].toNat : Int) = q at *
      generalize num ((s.data.toList.drop 7).take (k - 7)) = v at *
      obtain ⟨hc1', hc2'⟩ := hc
      go_wp2
      go_round
      case rel => exact ⟨k + 1, by omega, by omega, by go_num, by rw [HN.out]; first | done | go_num⟩
      case measure => simp [intOf]; omega
    · obtain rfl : k = 12 := by omega
      have e5 : (12 : Nat) - 7 = 5 := rfl
      rw [e5]
      obtain ⟨v, hv⟩ : ∃ v, num ((s.data.toList.drop 7).take 5) = v := ⟨_, rfl⟩
      have HV : Hid (num ((s.data.toList.drop 7).take 5) = v) := hv
      rw [hv]
      clear hv
      go_wp2
      refine bodyPost_ret (ret_scan rfl _ _ w.heap.size _ _ _ 13 rfl rfl (heap_three _ _ _ _ _ _ _ _ _ (heap_drewN w _ _))) rfl ?_
      exact ⟨rfl, below_three (below_drewN (below_alloc _ _) _) _ (Nat.le_refl _) _ _ _⟩
end Go.Proofs.YtabpkfhbnendjaaGreat
