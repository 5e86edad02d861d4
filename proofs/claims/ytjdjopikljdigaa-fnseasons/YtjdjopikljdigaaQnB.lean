/-
  Contracts of the program's commonDivisor, Ratio.lowest, Ratio.by, of the specification's l16Common and of the laws' common.
-/
import Derived.Test.YtjdjopikljdigaaQnA
import Derived.Test.YtjdjopikljdigaaRegZ
import Derived.Test.YtjdjopikljdigaaRowG
import Derived.BigQuiet
import Derived.Deep.QuietTactic
namespace Go.Proofs.Ytjdjopikljdigaa
open Go.ChangeShapes Go.WideShapes Go.ChangeAt Go.RowKit Go.Joins Go.Deep
set_option linter.unusedVariables false

theorem gcd_next (a b : Nat) : Nat.gcd b (a % b) = Nat.gcd a b := by rw [Nat.gcd_comm, ← Nat.gcd_rec, Nat.gcd_comm]
theorem tmod_nat (a b : Nat) : Int.tmod (a : Int) (b : Int) = ((a % b : Nat) : Int) := by
  rw [Int.tmod_eq_emod_of_nonneg (by omega)]; exact (Int.natCast_emod a b).symm
theorem tdiv_nat (a b : Nat) : Int.tdiv (a : Int) (b : Int) = ((a / b : Nat) : Int) := by
  rw [Int.tdiv_eq_ediv_of_nonneg (by omega)]; exact (Int.natCast_ediv a b).symm
set_option maxHeartbeats 2000000 in
theorem commonD_any (a b : Nat) (ha : a ≤ 1000000000000000) (hb : b ≤ 1000000000000000) (w : World) :
    Calls Try.prog 62 #[.int .i64 (a : Int), .int .i64 (b : Int)] w fun e w' => e = .returned (.int .i64 (Nat.gcd a b : Int)) ∧ Below w.heap.size w w' := by
  go_enter Try.func62, Try.ntmps62
  go_wp2
  go_loopw [0, 1] (fun u v wr => ∃ x y : Nat, x ≤ 1000000000000000 ∧ y ≤ 1000000000000000 ∧ u = .int .i64 (x : Int) ∧ v = .int .i64 (y : Int) ∧ Nat.gcd x y = Nat.gcd a b ∧ Below w.heap.size w wr) (fun _ v _ => (intOf v).toNat)
  case atStart => exact ⟨a, b, ha, hb, rfl, rfl, rfl, Below.refl _ _⟩
  case round =>
    obtain ⟨x, y, hx, hy, rfl, rfl, hg, hbw⟩ := hrel
    have HG : Hid (Nat.gcd x y = Nat.gcd a b) := hg
    have HB : Hid (Below w.heap.size w wr) := hbw
    clear hg hbw
    by_cases h0 : y = 0
    · subst h0
      go_wp2
      go_ret
      exact ⟨ret_int (by rw [← HG.out, Nat.gcd_zero_right]), HB.out⟩
    · have h1 : ¬ (y : Int) = 0 := by omega
      have h2 : ((y : Int) != 0) = true := by simp [h0]
      have h3 : ((y : Int) == 0) = false := by simp [h0]
      have hm := tmod_nat x y
      have hlt : x % y < y := Nat.mod_lt _ (by omega)
      have HN : Hid (Nat.gcd y (x % y) = Nat.gcd a b) := by show _ = _; rw [gcd_next]; exact HG.out
      clear HG
      generalize x % y = z at *
      have hw : IntKind.i64.wrap (z : Int) = (z : Int) := wrap_id _ (by omega) (by omega)
      go_wp2
      go_quiet (fail)
      go_wp2
      exact ⟨⟨y, z, hy, by omega, rfl, rfl, HN.out, below_drewN HB.out _⟩, by simp [intOf]; omega⟩
set_option maxHeartbeats 2000000 in
theorem common_any (f : Nat) (a b : Nat) (ha : a ≤ 1000000000000000) (hb : b ≤ 1000000000000000) (w : World) :
    Calls Try.prog 47 #[.int .i64 (a : Int), .int .i64 (b : Int)] w fun e w' => e = .returned (.int .i64 (Nat.gcd a b : Int)) ∧ w = w' := by
  go_enter Try.func47, Try.ntmps47
  go_wp2
  go_loopw [0, 1, 5] (fun u v _ wr => ∃ x y : Nat, x ≤ 1000000000000000 ∧ y ≤ 1000000000000000 ∧ u = .int .i64 (x : Int) ∧ v = .int .i64 (y : Int) ∧ Nat.gcd x y = Nat.gcd a b ∧ w = wr) (fun _ v _ _ => (intOf v).toNat)
  case atStart => exact ⟨a, b, ha, hb, rfl, rfl, rfl, rfl⟩
  case round =>
    obtain ⟨x, y, hx, hy, rfl, rfl, hg, rfl⟩ := hrel
    have HG : Hid (Nat.gcd x y = Nat.gcd a b) := hg
    clear hg
    by_cases h0 : y = 0
    · subst h0
      go_wp2
      go_ret
      exact ⟨ret_int (by rw [← HG.out, Nat.gcd_zero_right]), by first | rfl | trivial⟩
    · have h1 : ¬ (y : Int) = 0 := by omega
      have h2 : ((y : Int) != 0) = true := by simp [h0]
      have h3 : ((y : Int) == 0) = false := by simp [h0]
      have hm := tmod_nat x y
      have hlt : x % y < y := Nat.mod_lt _ (by omega)
      have HN : Hid (Nat.gcd y (x % y) = Nat.gcd a b) := by show _ = _; rw [gcd_next]; exact HG.out
      clear HG
      generalize x % y = z at *
      have hw : IntKind.i64.wrap (z : Int) = (z : Int) := wrap_id _ (by omega) (by omega)
      go_wp2
      exact ⟨⟨y, z, hy, by omega, rfl, rfl, HN.out, by first | rfl | trivial⟩, by simp [intOf]; omega⟩
set_option maxHeartbeats 2000000 in
theorem lawCommon_any (f : Nat) (a b : Nat) (ha : a ≤ 1000000000000000) (hb : b ≤ 1000000000000000) (w : World) :
    Calls Try.prog 15 #[.int .i64 (a : Int), .int .i64 (b : Int)] w fun e w' => e = .returned (.int .i64 (Nat.gcd a b : Int)) ∧ w = w' := by
  go_enter Try.func15, Try.ntmps15
  go_wp2
  go_loopw [0, 1, 5] (fun u v _ wr => ∃ x y : Nat, x ≤ 1000000000000000 ∧ y ≤ 1000000000000000 ∧ u = .int .i64 (x : Int) ∧ v = .int .i64 (y : Int) ∧ Nat.gcd x y = Nat.gcd a b ∧ w = wr) (fun _ v _ _ => (intOf v).toNat)
  case atStart => exact ⟨a, b, ha, hb, rfl, rfl, rfl, rfl⟩
  case round =>
    obtain ⟨x, y, hx, hy, rfl, rfl, hg, rfl⟩ := hrel
    have HG : Hid (Nat.gcd x y = Nat.gcd a b) := hg
    clear hg
    by_cases h0 : y = 0
    · subst h0
      go_wp2
      go_ret
      exact ⟨ret_int (by rw [← HG.out, Nat.gcd_zero_right]), by first | rfl | trivial⟩
    · have h1 : ¬ (y : Int) = 0 := by omega
      have h2 : ((y : Int) != 0) = true := by simp [h0]
      have h3 : ((y : Int) == 0) = false := by simp [h0]
      have hm := tmod_nat x y
      have hlt : x % y < y := Nat.mod_lt _ (by omega)
      have HN : Hid (Nat.gcd y (x % y) = Nat.gcd a b) := by show _ = _; rw [gcd_next]; exact HG.out
      clear HG
      generalize x % y = z at *
      have hw : IntKind.i64.wrap (z : Int) = (z : Int) := wrap_id _ (by omega) (by omega)
      go_wp2
      exact ⟨⟨y, z, hy, by omega, rfl, rfl, HN.out, by first | rfl | trivial⟩, by simp [intOf]; omega⟩
set_option maxHeartbeats 4000000 in
theorem lowest_any (a b : Nat) (ha : a ≤ 1000000000000000) (hb : b ≤ 1000000000000000) (h0 : 1 ≤ b) (w : World) :
    Calls Try.prog 56 #[.agg #[.int .i64 (a : Int), .int .i64 (b : Int)]] w fun e w' => e = .returned (.agg #[.int .i64 (lowT a b).1, .int .i64 (lowT a b).2]) ∧ Below w.heap.size w w' := by
  have HC : Hid (∀ W, Calls Try.prog 62 #[.int .i64 (a : Int), .int .i64 (b : Int)] W fun e w' => e = .returned (.int .i64 (Nat.gcd a b : Int)) ∧ Below W.heap.size W w') := fun W => commonD_any a b ha hb W
  have hgp : 0 < Nat.gcd a b := Nat.gcd_pos_of_pos_right a h0
  have e1 : lowT (a : Int) (b : Int) = (((a / Nat.gcd a b : Nat) : Int), ((b / Nat.gcd a b : Nat) : Int)) := by unfold lowT; rw [Int.toNat_natCast, Int.toNat_natCast]
  rw [e1]
  have d1 := tdiv_nat a (Nat.gcd a b)
  have d2 := tdiv_nat b (Nat.gcd a b)
  have l1 := Nat.div_le_self a (Nat.gcd a b)
  have l2 := Nat.div_le_self b (Nat.gcd a b)
  clear e1
  generalize a / Nat.gcd a b = q1 at *
  generalize b / Nat.gcd a b = q2 at *
  generalize Nat.gcd a b = g at *
  have hg0 : ¬ (g : Int) = 0 := by omega
  have hg1 : ((g : Int) == 0) = false := by simp; omega
  have w1 : IntKind.i64.wrap (q1 : Int) = (q1 : Int) := wrap_id _ (by omega) (by omega)
  have w2 : IntKind.i64.wrap (q2 : Int) = (q2 : Int) := wrap_id _ (by omega) (by omega)
  dsimp only
  go_enter Try.func56, Try.ntmps56
  go_wp2_with fail
  (first | go_at_call 62 | skip)
  refine (HC.out _).mono ?_
  rintro e v2 ⟨rfl, hb2⟩
  have hq0 := hb2.block w.heap.size (by simp; omega)
  rw [Below.heap_alloc _ _ _ (by simp), heapNew] at hq0
  have hq1 := hb2.block (w.heap.size + 1) (by simp)
  rw [show w.heap.size + 1 = (w.alloc (Obj.cells #[.int .i64 (a : Int), .int .i64 (b : Int)] 36)).heap.size from by simp, heapNew] at hq1
  simp only [World.size_alloc] at hq1
  have HB : Hid (Below w.heap.size w v2) := chain (chain (below_alloc _ _) (below_alloc _ _)) hb2
  have HQ : Hid (∀ W, Below v2.heap.size v2 W → (W.cell? ⟨w.heap.size, 0, none⟩ = some (.int .i64 (a : Int)) ∧ W.cell? ⟨w.heap.size, 1, none⟩ = some (.int .i64 (b : Int))) ∧ W.heap[w.heap.size + 1]? = some (.cells #[.int .i64 0, .int .i64 0] 36 (0, 0))) := fun W hW => by
    have k0 := (hW.block w.heap.size (blkLt hq0)).trans hq0
    have k1 := (hW.block (w.heap.size + 1) (blkLt hq1)).trans hq1
    exact ⟨⟨blkCell k0 0 _ rfl, blkCell k0 1 _ rfl⟩, k1⟩
  clear hb2 hq0 hq1 HC
  obtain ⟨D, hDd⟩ : ∃ D, D = w.heap.size := ⟨_, rfl⟩
  have HD : Hid (w.heap.size = D) := hDd.symm
  rw [← hDd] at HQ HB ⊢
  clear hDd
  go_upto_region 2 with fail
  refine wp_region_z (S := fun W' => Below v2.heap.size v2 W') 9 (by kernel_rfl) (below_drew _) (fun hH => ?_)
  refine wpAnyZ_take (i := 0) (v := .pointer (some ⟨D, 0, none⟩)) rfl (by kernel_rfl) (by kernel_rfl) (by kernel_rfl) (by kernel_rfl) (fun _ _ _ h => h) (Or.inl ⟨by rfl, fun w hSw => by clear hSw; go_simp⟩) hH ?_
  refine wpAnyZ_take (i := 1) (v := .int .i64 (a : Int)) rfl (by kernel_rfl) (by kernel_rfl) (by kernel_rfl) (by kernel_rfl) (fun _ _ _ h => h) (Or.inl ⟨by rfl, fun w hSw => by have f0 := (HQ.out w hSw).1.1; clear hSw; go_simp⟩) hH ?_
  try simp only [Act.put, List.setIfInBounds_toArray, List.set_cons_zero, List.set_cons_succ, List.getElem_toArray, List.getElem_cons_succ, List.getElem_cons_zero]
  refine wpAnyZ_take (i := 2) (v := .int .i64 (g : Int)) rfl (by kernel_rfl) (by kernel_rfl) (by kernel_rfl) (by kernel_rfl) (fun _ _ _ h => h) (Or.inl ⟨by rfl, fun w hSw => by clear hSw; go_simp⟩) hH ?_
  try simp only [Act.put, List.setIfInBounds_toArray, List.set_cons_zero, List.set_cons_succ, List.getElem_toArray, List.getElem_cons_succ, List.getElem_cons_zero]
  refine wpAnyZ_take (i := 3) (v := .int .i64 (q1 : Int)) rfl (by kernel_rfl) (by kernel_rfl) (by kernel_rfl) (by kernel_rfl) (fun _ _ _ h => h) (Or.inl ⟨by rfl, fun w hSw => by have f0 : ¬ g = 0 := (by omega); clear hSw; go_simp⟩) hH ?_
  try simp only [Act.put, List.setIfInBounds_toArray, List.set_cons_zero, List.set_cons_succ, List.getElem_toArray, List.getElem_cons_succ, List.getElem_cons_zero]
  refine wpAnyZ_take (i := 4) (v := .pointer (some ⟨D, 1, none⟩)) rfl (by kernel_rfl) (by kernel_rfl) (by kernel_rfl) (by kernel_rfl) (fun _ _ _ h => h) (Or.inl ⟨by rfl, fun w hSw => by clear hSw; go_simp⟩) hH ?_
  try simp only [Act.put, List.setIfInBounds_toArray, List.set_cons_zero, List.set_cons_succ, List.getElem_toArray, List.getElem_cons_succ, List.getElem_cons_zero]
  refine wpAnyZ_take (i := 5) (v := .int .i64 (b : Int)) rfl (by kernel_rfl) (by kernel_rfl) (by kernel_rfl) (by kernel_rfl) (fun _ _ _ h => h) (Or.inl ⟨by rfl, fun w hSw => by have f0 := (HQ.out w hSw).1.2; clear hSw; go_simp⟩) hH ?_
  try simp only [Act.put, List.setIfInBounds_toArray, List.set_cons_zero, List.set_cons_succ, List.getElem_toArray, List.getElem_cons_succ, List.getElem_cons_zero]
  refine wpAnyZ_take (i := 6) (v := .int .i64 (g : Int)) rfl (by kernel_rfl) (by kernel_rfl) (by kernel_rfl) (by kernel_rfl) (fun _ _ _ h => h) (Or.inl ⟨by rfl, fun w hSw => by clear hSw; go_simp⟩) hH ?_
  try simp only [Act.put, List.setIfInBounds_toArray, List.set_cons_zero, List.set_cons_succ, List.getElem_toArray, List.getElem_cons_succ, List.getElem_cons_zero]
  refine wpAnyZ_take (i := 7) (v := .int .i64 (q2 : Int)) rfl (by kernel_rfl) (by kernel_rfl) (by kernel_rfl) (by kernel_rfl) (fun _ _ _ h => h) (Or.inl ⟨by rfl, fun w hSw => by have f0 : ¬ g = 0 := (by omega); clear hSw; go_simp⟩) hH ?_
  try simp only [Act.put, List.setIfInBounds_toArray, List.set_cons_zero, List.set_cons_succ, List.getElem_toArray, List.getElem_cons_succ, List.getElem_cons_zero]
  refine wpAnyZ_take (i := 8) (v := .agg #[.int .i64 (q1 : Int), .int .i64 (q2 : Int)]) rfl (by kernel_rfl) (by kernel_rfl) (by kernel_rfl) (by kernel_rfl) (fun _ _ _ h => h) (Or.inl ⟨by rfl, fun w hSw => by clear hSw; go_simp⟩) hH ?_
  try simp only [Act.put, List.setIfInBounds_toArray, List.set_cons_zero, List.set_cons_succ, List.getElem_toArray, List.getElem_cons_succ, List.getElem_cons_zero]
  refine wpAnyZ_ready (rs := [9]) (by kernel_rfl) (by simp) ?_
  refine AllReadyZ.cons rfl (fun K hK => ?_) AllReadyZ.nil
  have hbk := (HQ.out _ hH).2
  have y0 := blkCell hbk 0 _ rfl
  have y1 := blkCell hbk 1 _ rfl
  have y2 := blkFree hbk 0
  have y3 := blkFree hbk 1
  simp only [List.getElem_toArray, List.getElem_cons_zero, List.getElem_cons_succ] at y0 y1
  have z0 : v2.cell? ⟨D + 1, 0, none⟩ = some (.int .i64 0) := y0
  have z1 : v2.cell? ⟨D + 1, 1, none⟩ = some (.int .i64 0) := y1
  have z2 : v2.frozen? ⟨D + 1, 0, none⟩ = false := y2
  have z3 : v2.frozen? ⟨D + 1, 1, none⟩ = false := y3
  clear HQ hbk
  go_simp
  refine hK.out _ _ (Or.inl rfl) (fun _ => ?_)
  clear hK K
  try simp only [Act.put, List.setIfInBounds_toArray, List.set_cons_zero, List.set_cons_succ, List.getElem_toArray, List.getElem_cons_succ, List.getElem_cons_zero]
  refine wpAnyZ_done (by kernel_rfl) ?_ _
  go_wp2_with fail
  have x0 : ((v2.setCell ⟨D + 1, 0, none⟩ (.int .i64 (q1 : Int))).setCell ⟨D + 1, 1, none⟩ (.int .i64 (q2 : Int))).drew.cell? ⟨D + 1, 0, none⟩ = some (.int .i64 (q1 : Int)) := by
    show ((v2.setCell ⟨D + 1, 0, none⟩ (.int .i64 (q1 : Int))).setCell ⟨D + 1, 1, none⟩ (.int .i64 (q2 : Int))).cell? ⟨D + 1, 0, none⟩ = _
    rw [World.cell?_setCell_other _ _ _ _ (by simp)]
    exact World.cell?_setCell_same _ _ _ z0
  have x1 : ((v2.setCell ⟨D + 1, 0, none⟩ (.int .i64 (q1 : Int))).setCell ⟨D + 1, 1, none⟩ (.int .i64 (q2 : Int))).drew.cell? ⟨D + 1, 1, none⟩ = some (.int .i64 (q2 : Int)) := by
    show ((v2.setCell ⟨D + 1, 0, none⟩ (.int .i64 (q1 : Int))).setCell ⟨D + 1, 1, none⟩ (.int .i64 (q2 : Int))).cell? ⟨D + 1, 1, none⟩ = _
    exact World.cell?_setCell_same _ _ _ (by rw [World.cell?_setCell_other _ _ _ _ (by simp)]; exact z1)
  refine bodyPost_ret (v := .agg #[.int .i64 (q1 : Int), .int .i64 (q2 : Int)]) (by simp [results, Try.results56, go_sem, x0, x1]) rfl ⟨rfl, ?_⟩
  rw [HD.out]
  exact ((HB.out.setCell (by dsimp only; omega) _).setCell (by dsimp only; omega) _).drew
set_option maxHeartbeats 4000000 in
theorem by_any (a b c d : Int) (ha : 0 ≤ a ∧ a ≤ 500000000) (hb : 1 ≤ b ∧ b ≤ 5000) (hc : 1 ≤ c ∧ c ≤ 500000000) (hd : 0 ≤ d ∧ d ≤ 5000) (w : World) :
    Calls Try.prog 39 #[.agg #[.int .i64 a, .int .i64 b], .agg #[.int .i64 c, .int .i64 d]] w fun e w' => e = .returned (.agg #[.int .i64 (lowT (a * d) (b * c)).1, .int .i64 (lowT (a * d) (b * c)).2]) ∧ Below w.heap.size w w' := by
  have m1 : 0 ≤ a * d := Int.mul_nonneg ha.1 hd.1
  have m2 : a * d ≤ 500000000 * d := Int.mul_le_mul_of_nonneg_right ha.2 hd.1
  have m3 : 1 * c ≤ b * c := Int.mul_le_mul_of_nonneg_right hb.1 (by omega)
  have m4 : b * c ≤ 5000 * c := Int.mul_le_mul_of_nonneg_right hb.2 (by omega)
  obtain ⟨x, hx⟩ : ∃ x : Nat, (x : Int) = a * d := ⟨(a * d).toNat, by omega⟩
  obtain ⟨y, hy⟩ : ∃ y : Nat, (y : Int) = b * c := ⟨(b * c).toNat, by omega⟩
  have HL : Hid (∀ W, Calls Try.prog 56 #[.agg #[.int .i64 (x : Int), .int .i64 (y : Int)]] W fun e w' => e = .returned (.agg #[.int .i64 (lowT (a * d) (b * c)).1, .int .i64 (lowT (a * d) (b * c)).2]) ∧ Below W.heap.size W w') := fun W => by
    rw [← hx, ← hy]
    exact lowest_any x y (by omega) (by omega) (by omega) W
  have e1 : IntKind.i64.wrap (a * d) = (x : Int) := by rw [wrap_id _ (by omega) (by omega)]; exact hx.symm
  have e2 : IntKind.i64.wrap (b * c) = (y : Int) := by rw [wrap_id _ (by omega) (by omega)]; exact hy.symm
  generalize (lowT (a * d) (b * c)).1 = r1 at *
  generalize (lowT (a * d) (b * c)).2 = r2 at *
  clear hx hy m1 m2 m3 m4
  go_enter Try.func39, Try.ntmps39
  go_wp2_with fail
  (first | go_at_call 56 | skip)
  refine (HL.out _).mono ?_
  rintro e v2 ⟨rfl, hb2⟩
  have hq1 := hb2.block (w.heap.size + 1 + 1) (by simp)
  rw [show w.heap.size + 1 + 1 = ((w.alloc (Obj.cells #[.int .i64 a, .int .i64 b] 36)).alloc (Obj.cells #[.int .i64 c, .int .i64 d] 36)).heap.size from by simp, heapNew] at hq1
  simp only [World.size_alloc] at hq1
  have HB : Hid (Below w.heap.size w v2) := chain (chain (chain (below_alloc _ _) (below_alloc _ _)) (below_alloc _ _)) hb2
  have y0 := blkCell hq1 0 _ rfl
  have y1 := blkCell hq1 1 _ rfl
  have y2 := blkFree hq1 0
  have y3 := blkFree hq1 1
  simp only [List.getElem_toArray, List.getElem_cons_zero, List.getElem_cons_succ] at y0 y1
  clear hb2 hq1 HL
  go_wp2_with fail
  have x0 : ((v2.setCell ⟨w.heap.size + 1 + 1, 0, none⟩ (.int .i64 r1)).setCell ⟨w.heap.size + 1 + 1, 1, none⟩ (.int .i64 r2)).cell? ⟨w.heap.size + 1 + 1, 0, none⟩ = some (.int .i64 r1) := by
    rw [World.cell?_setCell_other _ _ _ _ (by simp)]
    exact World.cell?_setCell_same _ _ _ y0
  have x1 : ((v2.setCell ⟨w.heap.size + 1 + 1, 0, none⟩ (.int .i64 r1)).setCell ⟨w.heap.size + 1 + 1, 1, none⟩ (.int .i64 r2)).cell? ⟨w.heap.size + 1 + 1, 1, none⟩ = some (.int .i64 r2) := World.cell?_setCell_same _ _ _ (by rw [World.cell?_setCell_other _ _ _ _ (by simp)]; exact y1)
  refine bodyPost_ret (v := .agg #[.int .i64 r1, .int .i64 r2]) (by simp [results, Try.results39, go_sem, x0, x1]) rfl ⟨rfl, ?_⟩
  exact (HB.out.setCell (by dsimp only; omega) _).setCell (by dsimp only; omega) _
end Go.Proofs.Ytjdjopikljdigaa
