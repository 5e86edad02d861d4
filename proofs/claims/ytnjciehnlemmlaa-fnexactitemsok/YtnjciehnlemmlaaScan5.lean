/-
  Contracts of the program's gramsHead, priceHead and valued.
-/
import Derived.Test.YtnjciehnlemmlaaScan4
namespace Go.Proofs.Ytnjciehnlemmlaa
open Go.ChangeShapes Go.WideShapes Go.ChangeAt Go.RowKit
set_option linter.unusedVariables false

theorem gramsHead_any (w : World) :
    Calls Try.prog 32 #[] w fun e w' => e = .returned (.agg #[.int .u8 50, .int .u8 48]) ∧ Below w.heap.size w w' := by
  go_enter Try.func32, Try.ntmps32
  go_wp2
  refine bodyPost_ret (results_cell_row rfl _ _ w.heap.size 53 _ (0, 0) _ rfl (heap_alloc_new _ _) Try.underlying53 rfl info2) rfl ?_
  exact ⟨rfl, below_alloc _ _⟩
theorem priceHead_any (w : World) :
    Calls Try.prog 34 #[] w fun e w' => e = .returned (.agg #[.int .u8 50, .int .u8 49]) ∧ Below w.heap.size w w' := by
  go_enter Try.func34, Try.ntmps34
  go_wp2
  refine bodyPost_ret (results_cell_row rfl _ _ w.heap.size 53 _ (0, 0) _ rfl (heap_alloc_new _ _) Try.underlying53 rfl info2) rfl ?_
  exact ⟨rfl, below_alloc _ _⟩

theorem keepV {W w1 : World} {b c : Nat} {r : List Value} {t : TypeId} (hb : Below W.heap.size W w1) (h : W.rangeAt b 0 r ∧ b < W.heap.size ∧ (∃ x y z, W.heap[c]? = some (.cells #[x, y, z] t (0, 0))) ∧ c < W.heap.size) :
    w1.rangeAt b 0 r ∧ b < w1.heap.size ∧ (∃ x y z, w1.heap[c]? = some (.cells #[x, y, z] t (0, 0))) ∧ c < w1.heap.size := by
  obtain ⟨h1, h2, ⟨x, y, z, h3⟩, h4⟩ := h
  exact ⟨fun j v hj => (hb.cell (p := ⟨b, 0 + j, none⟩) h2).trans (h1 j v hj), Nat.lt_of_lt_of_le h2 hb.size, ⟨x, y, z, below_heap hb c h4 _ h3⟩, Nat.lt_of_lt_of_le h4 hb.size⟩
theorem range_three {W : World} {b c : Nat} {r : List Value} (h : W.rangeAt b 0 r) (hne : b ≠ c) (x y z : Value) : (((W.setCell ⟨c, 0, none⟩ x).setCell ⟨c, 1, none⟩ y).setCell ⟨c, 2, none⟩ z).rangeAt b 0 r := fun j v hj => by
  rw [World.cell?_setCell_far _ _ _ _ (Ne.symm hne), World.cell?_setCell_far _ _ _ _ (Ne.symm hne), World.cell?_setCell_far _ _ _ _ (Ne.symm hne)]
  exact h j v hj
theorem range_two (w : World) (r : List Value) (t : TypeId) (o : Obj) : ((w.alloc (.cells r.toArray t)).alloc o).rangeAt w.heap.size 0 r := fun j v hj => by
  rw [cell_of_row _ _ _ _ _ _ (heap_alloc2_old w _ _), Nat.zero_add]; simpa using hj

theorem allD_drop (l : List UInt8) (k : Nat) (h : allD l = true) : allD (l.drop k) = true := by
  unfold allD at *; rw [List.all_eq_true] at *; intro x hx; exact h x (List.mem_of_mem_drop hx)

set_option maxRecDepth 20000 in
set_option maxHeartbeats 2000000 in
theorem valued_core (r : List Value) (A B : ByteArray) (n k : Int) (V2 : Value)
    (hT1 : ∀ w, Calls Try.prog 31 #[.agg r.toArray, .int .i64 2, .int .i64 7] w fun e w' => e = .returned (.string A) ∧ Below w.heap.size w w')
    (hT2 : ∀ w, Calls Try.prog 31 #[.agg r.toArray, .int .i64 7, .int .i64 12] w fun e w' => e = .returned (.string B) ∧ Below w.heap.size w w')
    (hN : ∀ w, Calls Try.prog 38 #[.string B] w fun e w' => e = .returned (.int .i64 n) ∧ Below w.heap.size w w')
    (hH0 : ∀ w, Calls Try.prog 30 #[.agg r.toArray] w fun e w' => e = .returned V2 ∧ Below w.heap.size w w')
    (HI : (Try.prog.info? 49).map (·.size) = some r.toArray.size) (HI' : (Try.prog.info? 49).map (·.size) = some r.length) (HU : Try.prog.underlying 49 = some (.array 13 5)) (w : World) :
    Calls Try.prog 33 #[.agg r.toArray, .int .i64 k] w fun e w' => e = .returned (.agg #[.int .i64 k, .string A, .int .i64 n]) ∧ Below w.heap.size w w' := by
  go_enter Try.func33, Try.ntmps33
  go_wp2_with (first | (refine wpList_load_row rfl 49 (.tmp 2) rfl w.heap.size rfl 49 _ (0, 0) _ (heap_alloc2_old w _ _) Try.underlying49 rfl HI ?_) | (go_at_call 30; refine (hH0 _).mono ?_; rintro e w1 ⟨rfl, hb1⟩; obtain ⟨hc1, hf1, hz1⟩ := bfacts hb1))
  have g3 : w1.rangeAt w.heap.size 0 r := fun j v hj => (hb1.cell (p := ⟨w.heap.size, 0 + j, none⟩) (by simp; omega)).trans (range_two w r _ _ j v hj)
  have g0 : ∃ x y z, w1.heap[w.heap.size + 1]? = some (.cells #[x, y, z] 39 (0, 0)) := ⟨_, _, _, below_heap hb1 _ (by simp) _ (heap_alloc2_new w _ _)⟩
  have bel : Below w.heap.size w w1 := chain (chain (below_alloc w _) (below_alloc _ _)) hb1
  have lt3 : w.heap.size < w1.heap.size := by have := hb1.size; simp at this; omega
  have lt0 : w.heap.size + 1 < w1.heap.size := by have := hb1.size; simp at this; omega
  clear hc1 hf1 hz1 hb1 hH0
  have hw12 : IntKind.i64.wrap 12 = 12 := by rw [IntKind.wrap_i64]; omega
  refine wp_region_held_drew (S := fun W => W.rangeAt w.heap.size 0 r ∧ w.heap.size < W.heap.size ∧ (∃ x y z, W.heap[w.heap.size + 1]? = some (.cells #[x, y, z] 39 (0, 0))) ∧ w.heap.size + 1 < W.heap.size) (by kernel_rfl) ⟨g3, lt3, g0, lt0⟩ (fun hH => ?_)
  refine wpAnyH_take (i := 1) (v := .agg r.toArray) rfl (by kernel_rfl) (by kernel_rfl) (by kernel_rfl) (fun _ _ _ h => h) (yieldsIf_load_mid (by rfl) 49 (.tmp 2) rfl w.heap.size 0 rfl r _ (fun w h => h.1) HU rfl HI') hH ?_
  refine wpAnyH_take (i := 5) (v := .agg r.toArray) rfl (by kernel_rfl) (by kernel_rfl) (by kernel_rfl) (fun _ _ _ h => h) (yieldsIf_load_mid (by rfl) 49 (.tmp 2) rfl w.heap.size 0 rfl r _ (fun w h => h.1) HU rfl HI') hH ?_
  refine wpAnyH_take (i := 0) (v := .int .i64 k) rfl (by kernel_rfl) (by kernel_rfl) (by kernel_rfl) (fun _ _ _ h => h) (Or.inl ⟨by rfl, fun w hSw => by go_simp⟩) hH ?_
  refine wpAnyH_take (i := 2) (v := .int .i64 2) rfl (by kernel_rfl) (by kernel_rfl) (by kernel_rfl) (fun _ _ _ h => h) (Or.inl ⟨by rfl, fun w hSw => by go_simp⟩) hH ?_
  refine wpAnyH_take (i := 3) (v := .int .i64 7) rfl (by kernel_rfl) (by kernel_rfl) (by kernel_rfl) (fun _ _ _ h => h) (Or.inl ⟨by rfl, fun w hSw => by go_simp⟩) hH ?_
  refine wpAnyH_take (i := 6) (v := .int .i64 7) rfl (by kernel_rfl) (by kernel_rfl) (by kernel_rfl) (fun _ _ _ h => h) (Or.inl ⟨by rfl, fun w hSw => by go_simp⟩) hH ?_
  refine wpAnyH_take (i := 7) (v := .int .i64 7) rfl (by kernel_rfl) (by kernel_rfl) (by kernel_rfl) (fun _ _ _ h => h) (Or.inl ⟨by rfl, fun w hSw => by go_simp⟩) hH ?_
  refine wpAnyH_take (i := 8) (v := .int .i64 12) rfl (by kernel_rfl) (by kernel_rfl) (by kernel_rfl) (fun _ _ _ h => h) (Or.inl ⟨by rfl, fun w hSw => by go_simp⟩) hH ?_
  refine wpAnyH_ready (rs := [4]) (by kernel_rfl) (by simp) ?_
  refine AllReadyH.cons rfl (fun K hK => ?_) AllReadyH.nil
  go_simp
  go_at_call 31
  refine (hT1 _).mono ?_
  rintro e w4 ⟨rfl, b4⟩
  refine hK.out _ _ (keepV b4 hH) (fun h4 => ?_)
  clear hK K
  refine wpAnyH_ready (rs := [9]) (by kernel_rfl) (by simp) ?_
  refine AllReadyH.cons rfl (fun K hK => ?_) AllReadyH.nil
  go_simp
  go_at_call 31
  refine (hT2 _).mono ?_
  rintro e w5 ⟨rfl, b5⟩
  refine hK.out _ _ (keepV b5 h4) (fun h5 => ?_)
  clear hK K
  refine wpAnyH_ready (rs := [10]) (by kernel_rfl) (by simp) ?_
  refine AllReadyH.cons rfl (fun K hK => ?_) AllReadyH.nil
  go_simp
  go_at_call 38
  refine (hN _).mono ?_
  rintro e w6 ⟨rfl, b6⟩
  refine hK.out _ _ (keepV b6 h5) (fun h6 => ?_)
  clear hK K
  refine wpAnyH_take (i := 11) (v := .agg #[.int .i64 k, .string A, .int .i64 n]) rfl (by kernel_rfl) (by kernel_rfl) (by kernel_rfl) (fun _ _ _ h => h) (Or.inl ⟨by rfl, fun w hSw => by go_simp⟩) h6 ?_
  refine wpAnyH_ready (rs := [12]) (by kernel_rfl) (by simp) ?_
  refine AllReadyH.cons rfl (fun K hK => ?_) AllReadyH.nil
  obtain ⟨hr, hl, ⟨x, y, z, hx⟩, hl2⟩ := h6
  have k0 := cell_of_row _ _ 0 _ _ _ hx
  have k1 := cell_of_row _ _ 1 _ _ _ hx
  have k2 := cell_of_row _ _ 2 _ _ _ hx
  have f0 := fun j => frozen_of_row _ _ j _ _ hx
  have HX : Hid _ := hx
  clear hx
  simp at k0 k1 k2
  go_simp
  refine hK.out _ _ ⟨range_three hr (by omega) _ _ _, by simpa using hl, ⟨_, _, _, heap_three _ _ _ _ _ _ _ _ _ HX.out⟩, by simpa using hl2⟩ (fun _ => ?_)
  clear hK K
  refine wpAnyH_done (by kernel_rfl) ?_ _
  try simp [Act.put]
  go_wp2
  refine bodyPost_ret (results_cell_row rfl _ _ (w.heap.size + 1) 39 _ (0, 0) _ rfl (heap_three _ _ _ _ _ _ _ _ _ HX.out) Try.underlying39 rfl info3) rfl ?_
  exact ⟨rfl, below_three (chain (chain (chain bel.drew b4) b5) b6) _ (by omega) _ _ _⟩

theorem valued_any (l : List UInt8) (h13 : l.length = 13) (hd : allD l = true) (k : Int) (w : World) :
    Calls Try.prog 33 #[.agg (row l), .int .i64 k] w fun e w' => e = .returned (.agg #[.int .i64 k, .string ⟨((l.drop 2).take 5).toArray⟩, .int .i64 (num ((l.drop 7).take 5))]) ∧ Below w.heap.size w w' := by
  have hT1 := fun w => text_of l 2 7 h13 (by omega) (by omega) w
  have hT2 := fun w => text_of l 7 12 h13 (by omega) (by omega) w
  have hN := fun w => digitsNumber_any ⟨((l.drop 7).take 5).toArray⟩ (by simp [ByteArray.size]; omega) (by simpa using allD_take _ 5 (allD_drop l 7 hd)) w
  have hH0 := fun w => head_any l (l.getD 0 0) (l.getD 1 0) h13 (by simp [List.getD_eq_getElem?_getD, h13]) (by simp [List.getD_eq_getElem?_getD, h13]) w
  have HI : (Try.prog.info? 49).map (·.size) = some (rowL l).toArray.size := by rw [← row_list, row_size, h13]; exact info13
  have HI' : (Try.prog.info? 49).map (·.size) = some (rowL l).length := by rw [rowL_length, h13]; exact info13
  exact valued_core (rowL l) _ _ _ k _ hT1 hT2 hN hH0 HI HI' Try.underlying49 w
end Go.Proofs.Ytnjciehnlemmlaa
