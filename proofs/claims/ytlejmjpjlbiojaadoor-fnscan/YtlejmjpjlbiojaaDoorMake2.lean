/-
  The program's makeValued.
-/
import Derived.Test.YtlejmjpjlbiojaaDoorMake1
import Derived.Test.YtlejmjpjlbiojaaDoorItoa
import Derived.Test.YtlejmjpjlbiojaaDoorValued
namespace Go.Proofs.YtlejmjpjlbiojaaDoor
open Go.ChangeShapes Go.WideShapes Go.ChangeAt Go.RowKit
set_option linter.unusedVariables false

theorem mvBad (x1 k : Int) (a : ByteArray) (v : Int) (h : ((a.size : Int) != 5) = true ∨ ((a.size : Int) = 5 ∧ allD a.data.toList = false) ∨ ((a.size : Int) = 5 ∧ allD a.data.toList = true ∧ v < 0) ∨ ((a.size : Int) = 5 ∧ allD a.data.toList = true ∧ 0 ≤ v ∧ 100000 ≤ v)) (w : World) :
    Calls Tryd.prog 27 #[.agg #[.int .u8 50, .int .u8 x1], sv k a v] w fun e w' => e = .returned (.tuple #[.string ⟨#[]⟩, .int .i64 1]) ∧ Below w.heap.size w w' := by
  unfold sv
  have hA := fun w => valuedArt_any a w
  have h5 : five a = false ∨ (five a = true ∧ v < 0) ∨ (five a = true ∧ 0 ≤ v ∧ 100000 ≤ v) := by
    rcases h with h | ⟨h, hd⟩ | ⟨h, hd, hv⟩ | ⟨h, hd, hv, hv'⟩
    · left; unfold five; rw [decide_eq_false (by simpa using h), Bool.false_and]
    · left; unfold five; rw [hd, Bool.and_false]
    · right; left; exact ⟨by unfold five; rw [decide_eq_true h, hd]; rfl, hv⟩
    · right; right; exact ⟨by unfold five; rw [decide_eq_true h, hd]; rfl, hv, hv'⟩
  clear h
  rcases h5 with h | ⟨h, hv⟩ | ⟨h, hv, hv'⟩
  all_goals
    rw [h] at hA; clear h
    go_enter Tryd.func27, Tryd.ntmps27
    go_wp2_with (go_at_call 37; refine (hA _).mono ?_; rintro e w1 ⟨rfl, hb1⟩; obtain ⟨hc1, hf1, hz1⟩ := bfacts hb1)
    go_ret2
    exact ⟨rfl, chain (chain (below_alloc _ _) (below_alloc _ _)) hb1⟩

theorem headText (W : World) (b : Nat) (c0 c1 : UInt8) (h0 : W.cell? ⟨b, 0, none⟩ = some (.int .u8 (c0.toNat : Int))) (h1 : W.cell? ⟨b, 1, none⟩ = some (.int .u8 (c1.toNat : Int))) : (convert 22 9 (.slice (some ⟨b, 0, none⟩) 2 2)).run Tryd.prog W = .ok (.string ⟨#[c0, c1]⟩) W :=
  run_convert_bytes_back (P := Tryd.prog) W 22 9 5 ⟨b, 0, none⟩ 2 [c0, c1] Tryd.underlying22 Tryd.underlying5 Tryd.underlying9 (fun j hj => by
    match j, hj with
    | 0, _ => simpa [Addr.add] using h0
    | 1, _ => simpa [Addr.add] using h1)

theorem run_slice_rest' (s : ByteArray) (h : 0 < s.size) (w : World) :
    (Instr.slice 9 (.string s) (some (.int .i64 1)) none none).run Tryd.prog w = .ok (.string (s.extract 1 s.size)) w := by
  simp [go_sem]
  omega

theorem keepM {W w1 : World} {b c : Nat} {x y z : Value} (hb : Below W.heap.size W w1) (h : W.cell? ⟨b, 0, none⟩ = some x ∧ W.cell? ⟨b, 1, none⟩ = some y ∧ b < W.heap.size ∧ W.cell? ⟨c, 1, none⟩ = some z ∧ c < W.heap.size) :
    w1.cell? ⟨b, 0, none⟩ = some x ∧ w1.cell? ⟨b, 1, none⟩ = some y ∧ b < w1.heap.size ∧ w1.cell? ⟨c, 1, none⟩ = some z ∧ c < w1.heap.size :=
  ⟨(hb.cell (p := ⟨b, 0, none⟩) h.2.2.1).trans h.1, (hb.cell (p := ⟨b, 1, none⟩) h.2.2.1).trans h.2.1, Nat.lt_of_lt_of_le h.2.2.1 hb.size, (hb.cell (p := ⟨c, 1, none⟩) h.2.2.2.2).trans h.2.2.2.1, Nat.lt_of_lt_of_le h.2.2.2.2 hb.size⟩
theorem keepM_row {W : World} {b c : Nat} {x y z : Value} (g : Nat) (hg : b ≠ g ∧ c ≠ g) (V : Array Value) (h : W.cell? ⟨b, 0, none⟩ = some x ∧ W.cell? ⟨b, 1, none⟩ = some y ∧ b < W.heap.size ∧ W.cell? ⟨c, 1, none⟩ = some z ∧ c < W.heap.size) :
    (W.setRow g V).cell? ⟨b, 0, none⟩ = some x ∧ (W.setRow g V).cell? ⟨b, 1, none⟩ = some y ∧ b < (W.setRow g V).heap.size ∧ (W.setRow g V).cell? ⟨c, 1, none⟩ = some z ∧ c < (W.setRow g V).heap.size := by
  obtain ⟨h1, h2, h3, h4, h5⟩ := h
  refine ⟨(cell_setRow_other _ _ _ _ hg.1).trans h1, (cell_setRow_other _ _ _ _ hg.1).trans h2, ?_, (cell_setRow_other _ _ _ _ hg.2).trans h4, ?_⟩
  · simpa [World.setRow] using h3
  · simpa [World.setRow] using h5
def Z13 : Array Value := #[.int .u8 0, .int .u8 0, .int .u8 0, .int .u8 0, .int .u8 0, .int .u8 0, .int .u8 0, .int .u8 0, .int .u8 0, .int .u8 0, .int .u8 0, .int .u8 0, .int .u8 0]

set_option maxHeartbeats 2000000 in
set_option maxRecDepth 20000 in
theorem mvGood (c1 : UInt8) (k : Int) (a D : ByteArray) (v : Int) (u : Nat) (L : List UInt8) (ha : (a.size : Int) = 5) (hd : allD a.data.toList = true) (hv : 0 ≤ v) (hv' : v < 100000) (hu : 100000 + v = (u : Int)) (hD : (decS u).extract 1 (decS u).size = D) (hd6 : (decS u).size = 6)
    (hL : pad (⟨#[50, c1]⟩ ++ a ++ D ++ ⟨#[48]⟩) = L) (h13 : (⟨#[50, c1]⟩ ++ a ++ D ++ ⟨#[48]⟩ : ByteArray).size = 13) (hl13 : L.length = 13) (hL12 : allD (L.take 12) = true) (w : World) (ht : Tab w) :
    Calls Tryd.prog 27 #[.agg #[.int .u8 50, .int .u8 (c1.toNat : Int)], sv k a v] w fun e w' => e = .returned (.tuple #[.string ⟨((chk L).take 13).toArray⟩, .int .i64 0]) ∧ Below w.heap.size w w' := by
  unfold sv
  have hA := fun w => valuedArt_any a w
  rw [show five a = true by unfold five; rw [decide_eq_true ha, hd]; rfl] at hA; clear hd
  have hI := fun w ht => itoa_any u (by omega) w ht
  have hsl := fun w => run_slice_rest' (decS u) (by omega) w
  rw [hD] at hsl
  have hDg := fun w => digitsOfScan_any (⟨#[50, c1]⟩ ++ a ++ D ++ ⟨#[48]⟩) (.inr h13) w
  have hWc := fun w => withCheck_any L hl13 hL12 w
  have hTx := fun w => text_of (chk L) 0 13 ((chk_length L).trans hl13) (by omega) (by omega) w
  rw [hL] at hDg
  have hsz : (⟨#[50, c1]⟩ : ByteArray).size = 2 := rfl
  have hsz1 : (⟨#[48]⟩ : ByteArray).size = 1 := rfl
  have hsum : 2 + a.size + D.size + 1 = 13 := by simpa [ByteArray.size_append, hsz, hsz1] using h13
  have ha1 := fun w => run_string_add_sum (P := Tryd.prog) w ⟨#[50, c1]⟩ a (by rw [hsz]; omega)
  have ha2 := fun w => run_string_add_sum (P := Tryd.prog) w (⟨#[50, c1]⟩ ++ a) D (by simp only [ByteArray.size_append, hsz]; omega)
  have ha3 := fun w => run_string_add_sum (P := Tryd.prog) w (⟨#[50, c1]⟩ ++ a ++ D) ⟨#[48]⟩ (by simp only [ByteArray.size_append, hsz, hsz1]; omega)
  have hcv := fun W => headText W w.heap.size 50 c1
  have HI : (Tryd.prog.info? 43).map (·.size) = some (row (chk L)).size := by rw [row_size, chk_length, hl13]; exact info13
  have HS : Hid ((row (chk L)).size = 13) := by show _ = _; rw [row_size, chk_length, hl13]
  have hall : (row (chk L)).all (·.oneCell') = true := row_one _
  have HT : Hid (⟨((chk L).drop 0 |>.take (13 - 0)).toArray⟩ = (⟨((chk L).take 13).toArray⟩ : ByteArray)) := by show _ = _; simp
  rw [HT.out] at hTx
  clear hL h13 hl13 hL12 hsz hsz1 hsum HT
  generalize ⟨#[50, c1]⟩ ++ a ++ D ++ ⟨#[48]⟩ = p at *
  generalize row (chk L) = V at *
  generalize row L = V0 at *
  generalize (⟨((chk L).take 13).toArray⟩ : ByteArray) = T at *
  generalize decS u = U at *
  have hw : IntKind.i64.wrap (100000 + v) = 100000 + v := wrap_id _ (by omega) (by omega)
  go_enter Tryd.func27, Tryd.ntmps27
  go_wp2_with (first | (go_at_call 37; refine (hA _).mono ?_; rintro e w1 ⟨rfl, hb1⟩; obtain ⟨hc1, hf1, hz1⟩ := bfacts hb1) | (go_at_call 38; refine (hI _ (ht.below (chain (chain (below_alloc _ _) (below_alloc _ _)) hb1))).mono ?_; rintro e w2 ⟨rfl, hb2⟩; obtain ⟨hc2, hf2, hz2⟩ := bfacts hb2))
  have bel2 : Below w.heap.size w w2 := chain (chain (chain (below_alloc _ _) (below_alloc _ _)) hb1) hb2
  have lt2 : w.heap.size + 1 < w2.heap.size := by have := hb1.size; have := hb2.size; simp at *; omega
  have m0 : w2.cell? ⟨w.heap.size, 0, none⟩ = some (.int .u8 50) := by rw [hc2 _ _ (by have := hb1.size; simp at this; omega), hc1 _ _ (by simp; omega)]; exact cell_of_row _ _ 0 _ _ _ (heap_alloc2_old w _ _)
  have m1 : w2.cell? ⟨w.heap.size, 1, none⟩ = some (.int .u8 (c1.toNat : Int)) := by rw [hc2 _ _ (by have := hb1.size; simp at this; omega), hc1 _ _ (by simp; omega)]; exact cell_of_row _ _ 1 _ _ _ (heap_alloc2_old w _ _)
  have m2 : w2.cell? ⟨w.heap.size + 1, 1, none⟩ = some (.string a) := by rw [hc2 _ _ (by have := hb1.size; simp at this; omega), hc1 _ _ (by simp)]; exact cell_of_row _ _ 1 _ _ _ (heap_alloc2_new w _ _)
  clear hc1 hf1 hz1 hc2 hf2 hz2 hb1 hb2 hA hI hsl ht hw
  refine wp_region_held_drew (S := fun W => W.cell? ⟨w.heap.size, 0, none⟩ = some (.int .u8 50) ∧ W.cell? ⟨w.heap.size, 1, none⟩ = some (.int .u8 (c1.toNat : Int)) ∧ w.heap.size < W.heap.size ∧ W.cell? ⟨w.heap.size + 1, 1, none⟩ = some (.string a) ∧ w.heap.size + 1 < W.heap.size) (by kernel_rfl) ⟨m0, m1, by show w.heap.size < w2.heap.size; omega, m2, lt2⟩ (fun hH => ?_)
  refine wpAnyH_take (i := 0) (v := .slice (some ⟨w.heap.size, 0, none⟩) 2 2) rfl (by kernel_rfl) (by kernel_rfl) (by kernel_rfl) (fun _ _ _ h => h) (Or.inl ⟨by rfl, fun w hSw => by obtain ⟨s0, s1, s2, s3, s4⟩ := hSw; go_simp⟩) hH ?_
  refine wpAnyH_take (i := 1) (v := .string (⟨#[50, c1]⟩ : ByteArray)) rfl (by kernel_rfl) (by kernel_rfl) (by kernel_rfl) (fun _ _ _ h => h) (Or.inl ⟨by rfl, fun w hSw => by obtain ⟨s0, s1, s2, s3, s4⟩ := hSw; have hcc := hcv w s0 s1; go_simp⟩) hH ?_
  refine wpAnyH_take (i := 2) (v := .pointer (some ⟨w.heap.size + 1, 1, none⟩)) rfl (by kernel_rfl) (by kernel_rfl) (by kernel_rfl) (fun _ _ _ h => h) (Or.inl ⟨by rfl, fun w hSw => by obtain ⟨s0, s1, s2, s3, s4⟩ := hSw; go_simp⟩) hH ?_
  refine wpAnyH_take (i := 3) (v := .string a) rfl (by kernel_rfl) (by kernel_rfl) (by kernel_rfl) (fun _ _ _ h => h) (Or.inl ⟨by rfl, fun w hSw => by obtain ⟨s0, s1, s2, s3, s4⟩ := hSw; go_simp⟩) hH ?_
  refine wpAnyH_take (i := 4) (v := .string ((⟨#[50, c1]⟩ : ByteArray) ++ a)) rfl (by kernel_rfl) (by kernel_rfl) (by kernel_rfl) (fun _ _ _ h => h) (Or.inl ⟨by rfl, fun w hSw => by obtain ⟨s0, s1, s2, s3, s4⟩ := hSw; go_simp⟩) hH ?_
  refine wpAnyH_take (i := 5) (v := .string D) rfl (by kernel_rfl) (by kernel_rfl) (by kernel_rfl) (fun _ _ _ h => h) (Or.inl ⟨by rfl, fun w hSw => by obtain ⟨s0, s1, s2, s3, s4⟩ := hSw; go_simp⟩) hH ?_
  refine wpAnyH_take (i := 6) (v := .string ((⟨#[50, c1]⟩ : ByteArray) ++ a ++ D)) rfl (by kernel_rfl) (by kernel_rfl) (by kernel_rfl) (fun _ _ _ h => h) (Or.inl ⟨by rfl, fun w hSw => by obtain ⟨s0, s1, s2, s3, s4⟩ := hSw; go_simp⟩) hH ?_
  refine wpAnyH_take (i := 7) (v := .string p) rfl (by kernel_rfl) (by kernel_rfl) (by kernel_rfl) (fun _ _ _ h => h) (Or.inl ⟨by rfl, fun w hSw => by obtain ⟨s0, s1, s2, s3, s4⟩ := hSw; go_simp⟩) hH ?_
  refine wpAnyH_ready (rs := [8, 10]) (by kernel_rfl) (by simp) ?_
  refine AllReadyH.cons rfl (fun K hK => ?_) (AllReadyH.cons rfl (fun K hK => ?_) AllReadyH.nil)
  ·
    go_simp
    go_at_call 17
    refine (hDg _).mono ?_
    rintro e w3 ⟨rfl, b3⟩
    refine hK.out _ _ (keepM b3 hH) (fun h3 => ?_)
    clear hK K
    refine wpAnyH_ready (rs := [9, 10]) (by kernel_rfl) (by simp) ?_
    refine AllReadyH.cons rfl (fun K hK => ?_) (AllReadyH.cons rfl (fun K hK => ?_) AllReadyH.nil)
    ·
      go_simp
      go_at_call 18
      refine (hWc _).mono ?_
      rintro e w4 ⟨rfl, b4⟩
      refine hK.out _ _ (keepM b4 h3) (fun h4 => ?_)
      clear hK K
      refine wpAnyH_ready (rs := [10]) (by kernel_rfl) (by simp) ?_
      refine AllReadyH.cons rfl (fun K hK => ?_) AllReadyH.nil
      go_simp
      refine hK.out _ _ (keepM (below_alloc _ _) h4) (fun h5 => ?_)
      clear hK K
      refine wpAnyH_ready (rs := [11]) (by kernel_rfl) (by simp) ?_
      refine AllReadyH.cons rfl (fun K hK => ?_) AllReadyH.nil
      have hgg := heap_alloc_new w4 (Obj.cells Z13 43)
      rw [if_pos (by rfl)]
      refine wp_store_row 43 (.tmp 7) (.tmp 36) rfl (w4.heap.size) V rfl rfl 43 _ hgg HI HS.out.symm hall ?_
      refine hK.out _ _ (keepM_row (w4.heap.size) (by have := h5; obtain ⟨_, _, q1, _, q2⟩ := this; first | omega | (simp at *; omega)) _ h5) (fun _ => ?_)
      clear hK K
      refine wpAnyH_done (by kernel_rfl) ?_ _
      try simp [Act.put]
      go_wp2_with (first | (refine wpList_load_row rfl 43 (.tmp 7) rfl (w4.heap.size) rfl 43 _ (0, 0) _ (setRow_heap _ _ _ _ _ _ hgg) Tryd.underlying43 rfl HI ?_) | (go_at_call 20; refine (hTx _).mono ?_; rintro e w9 ⟨rfl, hb9⟩))
      go_ret2
      exact ⟨rfl, chain (below_row (chain (chain (chain bel2.drew b3) b4) (below_alloc _ _)) (by have := bel2.size; have := lt2; first | omega | (simp at *; omega)) _) hb9⟩
    ·
      go_simp
      refine hK.out _ _ (keepM (below_alloc _ _) h3) (fun h4 => ?_)
      clear hK K
      refine wpAnyH_ready (rs := [9]) (by kernel_rfl) (by simp) ?_
      refine AllReadyH.cons rfl (fun K hK => ?_) AllReadyH.nil
      go_simp
      go_at_call 18
      refine (hWc _).mono ?_
      rintro e w4 ⟨rfl, b4⟩
      refine hK.out _ _ (keepM b4 h4) (fun h5 => ?_)
      clear hK K
      refine wpAnyH_ready (rs := [11]) (by kernel_rfl) (by simp) ?_
      refine AllReadyH.cons rfl (fun K hK => ?_) AllReadyH.nil
      have hgg := below_heap b4 _ (by simp) _ (heap_alloc_new w3 (Obj.cells Z13 43))
      rw [if_pos (by rfl)]
      refine wp_store_row 43 (.tmp 7) (.tmp 36) rfl (w3.heap.size) V rfl rfl 43 _ hgg HI HS.out.symm hall ?_
      refine hK.out _ _ (keepM_row (w3.heap.size) (by have := h5; obtain ⟨_, _, q1, _, q2⟩ := this; first | omega | (simp at *; omega)) _ h5) (fun _ => ?_)
      clear hK K
      refine wpAnyH_done (by kernel_rfl) ?_ _
      try simp [Act.put]
      go_wp2_with (first | (refine wpList_load_row rfl 43 (.tmp 7) rfl (w3.heap.size) rfl 43 _ (0, 0) _ (setRow_heap _ _ _ _ _ _ hgg) Tryd.underlying43 rfl HI ?_) | (go_at_call 20; refine (hTx _).mono ?_; rintro e w9 ⟨rfl, hb9⟩))
      go_ret2
      exact ⟨rfl, chain (below_row (chain (chain (chain bel2.drew b3) (below_alloc _ _)) b4) (by have := bel2.size; have := lt2; first | omega | (simp at *; omega)) _) hb9⟩
  ·
    go_simp
    refine hK.out _ _ (keepM (below_alloc _ _) hH) (fun h3 => ?_)
    clear hK K
    refine wpAnyH_ready (rs := [8]) (by kernel_rfl) (by simp) ?_
    refine AllReadyH.cons rfl (fun K hK => ?_) AllReadyH.nil
    go_simp
    go_at_call 17
    refine (hDg _).mono ?_
    rintro e w3 ⟨rfl, b3⟩
    refine hK.out _ _ (keepM b3 h3) (fun h4 => ?_)
    clear hK K
    refine wpAnyH_ready (rs := [9]) (by kernel_rfl) (by simp) ?_
    refine AllReadyH.cons rfl (fun K hK => ?_) AllReadyH.nil
    go_simp
    go_at_call 18
    refine (hWc _).mono ?_
    rintro e w4 ⟨rfl, b4⟩
    refine hK.out _ _ (keepM b4 h4) (fun h5 => ?_)
    clear hK K
    refine wpAnyH_ready (rs := [11]) (by kernel_rfl) (by simp) ?_
    refine AllReadyH.cons rfl (fun K hK => ?_) AllReadyH.nil
    have hgg := below_heap b4 _ (by have := b3.size; simp at *; omega) _ (below_heap b3 _ (by simp) _ (heap_alloc_new w2.drew (Obj.cells Z13 43)))
    rw [if_pos (by rfl)]
    refine wp_store_row 43 (.tmp 7) (.tmp 36) rfl (w2.heap.size) V rfl rfl 43 _ hgg HI HS.out.symm hall ?_
    refine hK.out _ _ (keepM_row (w2.heap.size) (by have := h5; obtain ⟨_, _, q1, _, q2⟩ := this; first | omega | (simp at *; omega)) _ h5) (fun _ => ?_)
    clear hK K
    refine wpAnyH_done (by kernel_rfl) ?_ _
    try simp [Act.put]
    go_wp2_with (first | (refine wpList_load_row rfl 43 (.tmp 7) rfl (w2.heap.size) rfl 43 _ (0, 0) _ (setRow_heap _ _ _ _ _ _ hgg) Tryd.underlying43 rfl HI ?_) | (go_at_call 20; refine (hTx _).mono ?_; rintro e w9 ⟨rfl, hb9⟩))
    go_ret2
    exact ⟨rfl, chain (below_row (chain (chain (chain bel2.drew (below_alloc _ _)) b3) b4) (by have := bel2.size; have := lt2; first | omega | (simp at *; omega)) _) hb9⟩
end Go.Proofs.YtlejmjpjlbiojaaDoor
