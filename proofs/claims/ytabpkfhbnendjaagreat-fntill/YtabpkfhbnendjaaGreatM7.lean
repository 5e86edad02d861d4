/-
  Texts of this claim laid together: Scan4, Scan5.
-/
import Derived.Test.YtabpkfhbnendjaaGreatM6
import Derived.Laws.ResultCell
import Derived.Deep.RegionHeld3
import Derived.BigQuiet
import Derived.Deep.QuietTactic
import Derived.Deep.RegionWith
/-
  The program's ReadScan, way by way.
-/
namespace Go.Proofs.YtabpkfhbnendjaaGreat
open Go.ChangeShapes Go.WideShapes Go.ChangeAt Go.RowKit
set_option linter.unusedVariables false

def scanV (k : Int) (a : ByteArray) (v c : Int) : Ending := .returned (.tuple #[.agg #[.int .i64 k, .string a, .int .i64 v], .int .i64 c])

theorem info3 : (Tryz.prog.info? 108).map (·.size) = some 3 := by kernel_rfl
theorem ret_scan {fn : Func} (h : fn.results = #[.cell 2 108, .tmp 3]) (tmps : Array Value) (W : World) (b : Nat) (x y z : Value) (c : Int) (hp : tmps.getD 2 undef = .pointer (some ⟨b, 0, none⟩)) (h3 : tmps.getD 3 undef = .int .i64 c)
    (hg : W.heap[b]? = some (.cells #[x, y, z] 108 (0, 0))) : (results fn tmps).run Tryz.prog W = .ok (.tuple #[.agg #[x, y, z], .int .i64 c]) W := by
  rw [results_cell_tmp h, hp, h3]
  have := run_loadVar_row (P := Tryz.prog) W b 108 108 #[x, y, z] (0, 0) _ hg Tryz.underlying108 rfl info3
  simp [asAddr, Result.andThen, this]
theorem heap_three (W : World) (b : Nat) (p q r x y z : Value) (t : TypeId) (hg : W.heap[b]? = some (.cells #[p, q, r] t (0, 0))) :
    (((W.setCell ⟨b, 0, none⟩ x).setCell ⟨b, 1, none⟩ y).setCell ⟨b, 2, none⟩ z).heap[b]? = some (.cells #[x, y, z] t (0, 0)) :=
  heap_setCell_same _ _ _ _ _ _ (heap_setCell_same _ _ _ _ _ _ (heap_setCell_same _ _ _ _ _ _ hg))
theorem below_three {B : Nat} {w W : World} (h : Below B w W) (b : Nat) (hb : B ≤ b) (x y z : Value) : Below B w (((W.setCell ⟨b, 0, none⟩ x).setCell ⟨b, 1, none⟩ y).setCell ⟨b, 2, none⟩ z) := ((h.setCell hb _).setCell hb _).setCell hb _
theorem below_heap {B : Nat} {w W : World} (h : Below B w W) (b : Nat) (hb : b < B) (o : Obj) (ho : w.heap[b]? = some o) : W.heap[b]? = some o := (h.block b hb).trans ho
theorem below_new {w : World} {o : Obj} {W : World} (h : Below (w.alloc o).heap.size (w.alloc o) W) : Below w.heap.size w W := chain (below_alloc w o) h

theorem rsLong (s : ByteArray) (h : (65536 : Int) < (s.size : Int)) (w : World) :
    Calls Tryz.prog 54 #[.string s] w fun e w' => e = scanV 0 ⟨#[]⟩ 0 2 ∧ Below w.heap.size w w' := by
  go_enter Tryz.func54, Tryz.ntmps54
  go_wp2
  refine bodyPost_ret (ret_scan rfl _ _ w.heap.size _ _ _ 2 rfl rfl (heap_alloc_new _ _)) rfl ?_
  exact ⟨rfl, below_alloc _ _⟩
theorem rsOther (s : ByteArray) (hs : (s.size : Int) ≤ 65536) (h : ((s.size : Int) != 8) = true) (h' : ((s.size : Int) != 13) = true) (w : World) :
    Calls Tryz.prog 54 #[.string s] w fun e w' => e = scanV 0 ⟨#[]⟩ 0 4 ∧ Below w.heap.size w w' := by
  go_enter Tryz.func54, Tryz.ntmps54
  go_wp2
  refine bodyPost_ret (ret_scan rfl _ _ w.heap.size _ _ _ 4 rfl rfl (heap_alloc_new _ _)) rfl ?_
  exact ⟨rfl, below_alloc _ _⟩
theorem rsSyntax (s : ByteArray) (hs : (s.size : Int) ≤ 65536) (h : (s.size : Int) = 8 ∨ (s.size : Int) = 13) (hd : allD s.data.toList = false) (w : World) :
    Calls Tryz.prog 54 #[.string s] w fun e w' => e = scanV 0 ⟨#[]⟩ 0 4 ∧ Below w.heap.size w w' := by
  have hA := fun w => allDigits_any s w
  rw [hd] at hA; clear hd
  rcases h with h | h
  all_goals
    go_enter Tryz.func54, Tryz.ntmps54
    go_wp2_with (go_at_call 60; refine (hA _).mono ?_; rintro e w1 ⟨rfl, hb1⟩; obtain ⟨hc1, hf1, hz1⟩ := bfacts hb1)
    refine bodyPost_ret (ret_scan rfl _ _ w.heap.size _ _ _ 4 rfl rfl (heap_three _ _ _ _ _ _ _ _ _ (below_heap hb1 _ (by simp) _ (heap_alloc_new _ _)))) rfl ?_
    exact ⟨rfl, below_three (below_new hb1) _ (Nat.le_refl _) _ _ _⟩

theorem chk_length (l : List UInt8) : (chk l).length = l.length := by simp [chk]
theorem below_store {w1 w2 : World} (h : Below w1.heap.size w1 w2) (V : Array Value) (t : TypeId) : Below w1.heap.size w1 (w2.alloc (.cells V t)) := chain h (below_alloc _ _)

theorem keepS {W w1 : World} {b c : Nat} {r : List Value} {o' : Obj} (hb : Below W.heap.size W w1) (h : W.rangeAt b 0 r ∧ b < W.heap.size ∧ W.heap[c]? = some o' ∧ c < W.heap.size) : w1.rangeAt b 0 r ∧ b < w1.heap.size ∧ w1.heap[c]? = some o' ∧ c < w1.heap.size :=
  ⟨fun j v hj => (hb.cell (p := ⟨b, 0 + j, none⟩) h.2.1).trans (h.1 j v hj), Nat.lt_of_lt_of_le h.2.1 hb.size, below_heap hb c h.2.2.2 _ h.2.2.1, Nat.lt_of_lt_of_le h.2.2.2 hb.size⟩
theorem range_new (w : World) (r : List Value) (t : TypeId) : (w.alloc (.cells r.toArray t)).rangeAt w.heap.size 0 r := fun j v hj => by
  rw [cell_of_row _ _ _ _ _ _ (heap_alloc_new w _), Nat.zero_add]; simpa using hj

theorem list13 (r : List Value) (h : r.length = 13) : ∃ v0 v1 v2 v3 v4 v5 v6 v7 v8 v9 v10 v11 v12, r = [v0, v1, v2, v3, v4, v5, v6, v7, v8, v9, v10, v11, v12] := by
  match r, h with
  | [v0, v1, v2, v3, v4, v5, v6, v7, v8, v9, v10, v11, v12], _ => exact ⟨v0, v1, v2, v3, v4, v5, v6, v7, v8, v9, v10, v11, v12, rfl⟩

set_option maxRecDepth 20000 in
theorem rsSum (s : ByteArray) (L : List UInt8) (h : (s.size : Int) = 8 ∨ (s.size : Int) = 13) (hd : allD s.data.toList = true) (hL : pad s = L) (h13 : L.length = 13) (hL12 : allD (L.take 12) = true) (hne : decide (L = chk L) = false) (w : World) :
    Calls Tryz.prog 54 #[.string s] w fun e w' => e = scanV 0 ⟨#[]⟩ 0 15 ∧ Below w.heap.size w w' := by
  have hA := fun w => allDigits_any s w
  rw [hd] at hA; clear hd
  have hD := fun w => digitsOfScan_any s (by omega) w
  rw [hL] at hD; clear hL
  have hW := fun w => withCheck_any L h13 hL12 w
  have hq := fun w => run_neq_rows 117 13 L (chk L) Tryz.underlying117 h13 ((chk_length L).trans h13) w
  rw [hne] at hq; clear hne
  rw [row_list L] at hD hW hq
  have HI : (Tryz.prog.info? 117).map (·.size) = some (rowL L).toArray.size := by rw [← row_list, row_size, h13]; exact info13
  have HI' : (Tryz.prog.info? 117).map (·.size) = some (rowL L).length := by rw [rowL_length, h13]; exact info13
  have HU := Tryz.underlying117
  have HS : Hid ((rowL L).toArray.size = 13) := (row_size L).trans h13
  have hall : (rowL L).toArray.all (·.oneCell') = true := row_one L
  generalize row (chk L) = V' at *
  generalize rowL L = r at *
  clear h13 hL12
  rcases h with h | h
  all_goals
    go_enter Tryz.func54, Tryz.ntmps54
    go_wp2_with (first | (go_at_call 60; refine (hA _).mono ?_; rintro e w1 ⟨rfl, hb1⟩; obtain ⟨hc1, hf1, hz1⟩ := bfacts hb1) | (go_at_call 61; refine (hD _).mono ?_; rintro e w2 ⟨rfl, hb2⟩; obtain ⟨hc2, hf2, hz2⟩ := bfacts hb2) | (refine wpList_store_row rfl 117 (.tmp 4) (.tmp 25) rfl w2.heap.size r.toArray rfl rfl 117 _ (heap_alloc_new _ _) HI HS.out.symm hall ?_; rw [World.setRow_alloc_new]))
    simp only [Act.put]
    have g3 : (w2.alloc (Obj.cells r.toArray 117)).rangeAt w2.heap.size 0 r := range_new _ _ _
    have g0 : (w2.alloc (Obj.cells r.toArray 117)).heap[w.heap.size]? = some (.cells #[.int .i64 0, .string ⟨#[]⟩, .int .i64 0] 108 (0, 0)) :=
      (heap_alloc_old _ _ (by have := hb1.size; have := hb2.size; simp at *; omega)).trans (below_heap hb2 _ (by have := hb1.size; simp at *; omega) _ (below_heap hb1 _ (by simp) _ (heap_alloc_new _ _)))
    have bel := below_store (chain (below_new hb1) hb2) r.toArray 117
    have lt3 : w2.heap.size < (w2.alloc (Obj.cells r.toArray 117)).heap.size := by simp
    have lt0 : w.heap.size < (w2.alloc (Obj.cells r.toArray 117)).heap.size := by have := hb1.size; have := hb2.size; simp at *; omega
    clear hc1 hf1 hz1 hc2 hf2 hz2 hb1 hb2 hA hD
    generalize w2.alloc (Obj.cells r.toArray 117) = W3 at *
    generalize w2.heap.size = b at *
    refine wp_region_held_drew (S := fun W => W.rangeAt b 0 r ∧ b < W.heap.size ∧ W.heap[w.heap.size]? = some (.cells #[.int .i64 0, .string ⟨#[]⟩, .int .i64 0] 108 (0, 0)) ∧ w.heap.size < W.heap.size) (by kernel_rfl) ⟨g3, lt3, g0, lt0⟩ (fun hH => ?_)
    refine wpAnyH_take (i := 0) (v := .agg r.toArray) rfl (by kernel_rfl) (by kernel_rfl) (by kernel_rfl) (fun _ _ _ h => h) (yieldsIf_load_mid (by rfl) 117 (.tmp 4) rfl b 0 rfl r _ (fun w h => h.1) HU rfl HI') hH ?_
    refine wpAnyH_take (i := 1) (v := .agg r.toArray) rfl (by kernel_rfl) (by kernel_rfl) (by kernel_rfl) (fun _ _ _ h => h) (yieldsIf_load_mid (by rfl) 117 (.tmp 4) rfl b 0 rfl r _ (fun w h => h.1) HU rfl HI') hH ?_
    refine wpAnyH_ready (rs := [2]) (by kernel_rfl) (by simp) ?_
    refine AllReadyH.cons rfl (fun K hK => ?_) AllReadyH.nil
    go_simp
    go_at_call 62
    refine (hW _).mono ?_
    rintro e w4 ⟨rfl, hb4⟩
    refine hK.out _ _ (keepS hb4 hH) (fun hH4 => ?_)
    clear hK K
    refine wpAnyH_take (i := 3) (v := .bool true) rfl (by kernel_rfl) (by kernel_rfl) (by kernel_rfl) (fun _ _ _ h => h) (Or.inl ⟨by rfl, fun w hSw => by go_simp⟩) hH4 ?_
    refine wpAnyH_done (by kernel_rfl) ?_ _
    have k0 : w4.cell? ⟨w.heap.size, 0, none⟩ = some (.int .i64 0) := by rw [cell_of_row _ _ 0 _ _ _ hH4.2.2.1]; rfl
    have k1 : w4.cell? ⟨w.heap.size, 1, none⟩ = some (.string ⟨#[]⟩) := by rw [cell_of_row _ _ 1 _ _ _ hH4.2.2.1]; rfl
    have k2 : w4.cell? ⟨w.heap.size, 2, none⟩ = some (.int .i64 0) := by rw [cell_of_row _ _ 2 _ _ _ hH4.2.2.1]; rfl
    have f0 : ∀ j, w4.frozen? ⟨w.heap.size, j, none⟩ = false := fun j => frozen_of_row _ _ j _ _ hH4.2.2.1
    have HH : Hid _ := hH4.2.2.1
    have bel4 : Below w.heap.size w w4 := chain bel.drew hb4
    clear hH4 hH hb4 bel g3 g0 lt3 lt0 hW hq
    simp [Act.put]
    go_wp2
    refine bodyPost_ret (ret_scan rfl _ _ w.heap.size _ _ _ 15 rfl rfl (heap_three _ _ _ _ _ _ _ _ _ HH.out)) rfl ?_
    exact ⟨rfl, below_three bel4 _ (Nat.le_refl _) _ _ _⟩
end Go.Proofs.YtabpkfhbnendjaaGreat

/-
  Contracts of the program's gramsHead, priceHead and valued.
-/
namespace Go.Proofs.YtabpkfhbnendjaaGreat
open Go.ChangeShapes Go.WideShapes Go.ChangeAt Go.RowKit
set_option linter.unusedVariables false

theorem gramsHead_any (w : World) :
    Calls Tryz.prog 65 #[] w fun e w' => e = .returned (.agg #[.int .u8 50, .int .u8 48]) ∧ Below w.heap.size w w' := by
  go_enter Tryz.func65, Tryz.ntmps65
  go_wp2
  refine bodyPost_ret (results_cell_row rfl _ _ w.heap.size 121 _ (0, 0) _ rfl (heap_alloc_new _ _) Tryz.underlying121 rfl info2) rfl ?_
  exact ⟨rfl, below_alloc _ _⟩
theorem priceHead_any (w : World) :
    Calls Tryz.prog 67 #[] w fun e w' => e = .returned (.agg #[.int .u8 50, .int .u8 49]) ∧ Below w.heap.size w w' := by
  go_enter Tryz.func67, Tryz.ntmps67
  go_wp2
  refine bodyPost_ret (results_cell_row rfl _ _ w.heap.size 121 _ (0, 0) _ rfl (heap_alloc_new _ _) Tryz.underlying121 rfl info2) rfl ?_
  exact ⟨rfl, below_alloc _ _⟩

theorem keepV {W w1 : World} {b c : Nat} {r : List Value} {t : TypeId} (hb : Below W.heap.size W w1) (h : W.rangeAt b 0 r ∧ b < W.heap.size ∧ (∃ x y z, W.heap[c]? = some (.cells #[x, y, z] t (0, 0))) ∧ c < W.heap.size) :
    w1.rangeAt b 0 r ∧ b < w1.heap.size ∧ (∃ x y z, w1.heap[c]? = some (.cells #[x, y, z] t (0, 0))) ∧ c < w1.heap.size := by
  obtain ⟨h1, h2, ⟨x, y, z, h3⟩, h4⟩ := h
  exact ⟨fun j v hj => (hb.cell (p := ⟨b, 0 + j, none⟩) h2).trans (h1 j v hj), Nat.lt_of_lt_of_le h2 hb.size, ⟨x, y, z, below_heap hb c h4 _ h3⟩, Nat.lt_of_lt_of_le h4 hb.size⟩
theorem range_three {W : World} {b c : Nat} {r : List Value} (h : W.rangeAt b 0 r) (hne : b ≠ c) (x y z : Value) : (((W.setCell ⟨c, 0, none⟩ x).setCell ⟨c, 1, none⟩ y).setCell ⟨c, 2, none⟩ z).rangeAt b 0 r := fun j v hj => by
  rw [World.cell?_setCell_far _ _ _ _ (Ne.symm hne), World.cell?_setCell_far _ _ _ _ (Ne.symm hne), World.cell?_setCell_far _ _ _ _ (Ne.symm hne)]
  exact h j v hj
theorem range_two (w : World) (r : List Value) (t : TypeId) (o : Obj) : ((w.alloc (.cells r.toArray t)).alloc o).rangeAt w.heap.size 0 r := fun j v hj => by
  rw [cell_of_row _ _ _ _ _ _ (heap_alloc2_old w _ _), Nat.zero_add]; simpa using hj

theorem allD_drop (l : List UInt8) (k : Nat) (h : allD l = true) : allD (l.drop k) = true := by
  unfold allD at *; rw [List.all_eq_true] at *; intro x hx; exact h x (List.mem_of_mem_drop hx)

set_option maxRecDepth 20000 in
set_option maxHeartbeats 2000000 in
theorem valued_core (r : List Value) (A B : ByteArray) (n k : Int) (V2 : Value)
    (hT1 : ∀ w, Calls Tryz.prog 64 #[.agg r.toArray, .int .i64 2, .int .i64 7] w fun e w' => e = .returned (.string A) ∧ Below w.heap.size w w')
    (hT2 : ∀ w, Calls Tryz.prog 64 #[.agg r.toArray, .int .i64 7, .int .i64 12] w fun e w' => e = .returned (.string B) ∧ Below w.heap.size w w')
    (hN : ∀ w, Calls Tryz.prog 73 #[.string B] w fun e w' => e = .returned (.int .i64 n) ∧ Below w.heap.size w w')
    (hH0 : ∀ w, Calls Tryz.prog 63 #[.agg r.toArray] w fun e w' => e = .returned V2 ∧ Below w.heap.size w w')
    (HI : (Tryz.prog.info? 117).map (·.size) = some r.toArray.size) (HI' : (Tryz.prog.info? 117).map (·.size) = some r.length) (HU : Tryz.prog.underlying 117 = some (.array 13 5)) (w : World) :
    Calls Tryz.prog 66 #[.agg r.toArray, .int .i64 k] w fun e w' => e = .returned (.agg #[.int .i64 k, .string A, .int .i64 n]) ∧ Below w.heap.size w w' := by
  go_enter Tryz.func66, Tryz.ntmps66
  go_wp2_with (first | (refine wpList_load_row rfl 117 (.tmp 2) rfl w.heap.size rfl 117 _ (0, 0) _ (heap_alloc2_old w _ _) Tryz.underlying117 rfl HI ?_) | (go_at_call 63; refine (hH0 _).mono ?_; rintro e w1 ⟨rfl, hb1⟩; obtain ⟨hc1, hf1, hz1⟩ := bfacts hb1))
  have g3 : w1.rangeAt w.heap.size 0 r := fun j v hj => (hb1.cell (p := ⟨w.heap.size, 0 + j, none⟩) (by simp; omega)).trans (range_two w r _ _ j v hj)
  have g0 : ∃ x y z, w1.heap[w.heap.size + 1]? = some (.cells #[x, y, z] 108 (0, 0)) := ⟨_, _, _, below_heap hb1 _ (by simp) _ (heap_alloc2_new w _ _)⟩
  have bel : Below w.heap.size w w1 := chain (chain (below_alloc w _) (below_alloc _ _)) hb1
  have lt3 : w.heap.size < w1.heap.size := by have := hb1.size; simp at this; omega
  have lt0 : w.heap.size + 1 < w1.heap.size := by have := hb1.size; simp at this; omega
  clear hc1 hf1 hz1 hb1 hH0
  have hw12 : IntKind.i64.wrap 12 = 12 := by rw [IntKind.wrap_i64]; omega
  refine wp_region_held_drew (S := fun W => W.rangeAt w.heap.size 0 r ∧ w.heap.size < W.heap.size ∧ (∃ x y z, W.heap[w.heap.size + 1]? = some (.cells #[x, y, z] 108 (0, 0))) ∧ w.heap.size + 1 < W.heap.size) (by kernel_rfl) ⟨g3, lt3, g0, lt0⟩ (fun hH => ?_)
  refine wpAnyH_take (i := 1) (v := .agg r.toArray) rfl (by kernel_rfl) (by kernel_rfl) (by kernel_rfl) (fun _ _ _ h => h) (yieldsIf_load_mid (by rfl) 117 (.tmp 2) rfl w.heap.size 0 rfl r _ (fun w h => h.1) HU rfl HI') hH ?_
  refine wpAnyH_take (i := 5) (v := .agg r.toArray) rfl (by kernel_rfl) (by kernel_rfl) (by kernel_rfl) (fun _ _ _ h => h) (yieldsIf_load_mid (by rfl) 117 (.tmp 2) rfl w.heap.size 0 rfl r _ (fun w h => h.1) HU rfl HI') hH ?_
  refine wpAnyH_take (i := 0) (v := .int .i64 k) rfl (by kernel_rfl) (by kernel_rfl) (by kernel_rfl) (fun _ _ _ h => h) (Or.inl ⟨by rfl, fun w hSw => by go_simp⟩) hH ?_
  refine wpAnyH_take (i := 2) (v := .int .i64 2) rfl (by kernel_rfl) (by kernel_rfl) (by kernel_rfl) (fun _ _ _ h => h) (Or.inl ⟨by rfl, fun w hSw => by go_simp⟩) hH ?_
  refine wpAnyH_take (i := 3) (v := .int .i64 7) rfl (by kernel_rfl) (by kernel_rfl) (by kernel_rfl) (fun _ _ _ h => h) (Or.inl ⟨by rfl, fun w hSw => by go_simp⟩) hH ?_
  refine wpAnyH_take (i := 6) (v := .int .i64 7) rfl (by kernel_rfl) (by kernel_rfl) (by kernel_rfl) (fun _ _ _ h => h) (Or.inl ⟨by rfl, fun w hSw => by go_simp⟩) hH ?_
  refine wpAnyH_take (i := 7) (v := .int .i64 7) rfl (by kernel_rfl) (by kernel_rfl) (by kernel_rfl) (fun _ _ _ h => h) (Or.inl ⟨by rfl, fun w hSw => by go_simp⟩) hH ?_
  refine wpAnyH_take (i := 8) (v := .int .i64 12) rfl (by kernel_rfl) (by kernel_rfl) (by kernel_rfl) (fun _ _ _ h => h) (Or.inl ⟨by rfl, fun w hSw => by go_simp⟩) hH ?_
  refine wpAnyH_ready (rs := [4]) (by kernel_rfl) (by simp) ?_
  refine AllReadyH.cons rfl (fun K hK => ?_) AllReadyH.nil
  go_simp
  go_at_call 64
  refine (hT1 _).mono ?_
  rintro e w4 ⟨rfl, b4⟩
  refine hK.out _ _ (keepV b4 hH) (fun h4 => ?_)
  clear hK K
  refine wpAnyH_ready (rs := [9]) (by kernel_rfl) (by simp) ?_
  refine AllReadyH.cons rfl (fun K hK => ?_) AllReadyH.nil
  go_simp
  go_at_call 64
  refine (hT2 _).mono ?_
  rintro e w5 ⟨rfl, b5⟩
  refine hK.out _ _ (keepV b5 h4) (fun h5 => ?_)
  clear hK K
  refine wpAnyH_ready (rs := [10]) (by kernel_rfl) (by simp) ?_
  refine AllReadyH.cons rfl (fun K hK => ?_) AllReadyH.nil
  go_simp
  go_at_call 73
  refine (hN _).mono ?_
  rintro e w6 ⟨rfl, b6⟩
  refine hK.out _ _ (keepV b6 h5) (fun h6 => ?_)
  clear hK K
  refine wpAnyH_take (i := 11) (v := .agg #[.int .i64 k, .string A, .int .i64 n]) rfl (by kernel_rfl) (by kernel_rfl) (by kernel_rfl) (fun _ _ _ h => h) (Or.inl ⟨by rfl, fun w hSw => by go_simp⟩) h6 ?_
  refine wpAnyH_ready (rs := [12]) (by kernel_rfl) (by simp) ?_
  refine AllReadyH.cons rfl (fun K hK => ?_) AllReadyH.nil
  obtain ⟨hr, hl, ⟨x, y, z, hx⟩, hl2⟩ := h6
  have k0 := cell_of_row _ _ 0 _ _ _ hx
  have k1 := cell_of_row _ _ 1 _ _ _ hx
  have k2 := cell_of_row _ _ 2 _ _ _ hx
  have f0 := fun j => frozen_of_row _ _ j _ _ hx
  have HX : Hid _ := hx
  clear hx
  simp at k0 k1 k2
  go_simp
  refine hK.out _ _ ⟨range_three hr (by omega) _ _ _, by simpa using hl, ⟨_, _, _, heap_three _ _ _ _ _ _ _ _ _ HX.out⟩, by simpa using hl2⟩ (fun _ => ?_)
  clear hK K
  refine wpAnyH_done (by kernel_rfl) ?_ _
  try simp [Act.put]
  go_wp2
  refine bodyPost_ret (results_cell_row rfl _ _ (w.heap.size + 1) 108 _ (0, 0) _ rfl (heap_three _ _ _ _ _ _ _ _ _ HX.out) Tryz.underlying108 rfl info3) rfl ?_
  exact ⟨rfl, below_three (chain (chain (chain bel.drew b4) b5) b6) _ (by omega) _ _ _⟩

theorem valued_any (l : List UInt8) (h13 : l.length = 13) (hd : allD l = true) (k : Int) (w : World) :
    Calls Tryz.prog 66 #[.agg (row l), .int .i64 k] w fun e w' => e = .returned (.agg #[.int .i64 k, .string ⟨((l.drop 2).take 5).toArray⟩, .int .i64 (num ((l.drop 7).take 5))]) ∧ Below w.heap.size w w' := by
  have hT1 := fun w => text_of l 2 7 h13 (by omega) (by omega) w
  have hT2 := fun w => text_of l 7 12 h13 (by omega) (by omega) w
  have hN := fun w => digitsNumber_any ⟨((l.drop 7).take 5).toArray⟩ (by simp [ByteArray.size]; omega) (by simpa using allD_take _ 5 (allD_drop l 7 hd)) w
  have hH0 := fun w => head_any l (l.getD 0 0) (l.getD 1 0) h13 (by simp [List.getD_eq_getElem?_getD, h13]) (by simp [List.getD_eq_getElem?_getD, h13]) w
  have HI : (Tryz.prog.info? 117).map (·.size) = some (rowL l).toArray.size := by rw [← row_list, row_size, h13]; exact info13
  have HI' : (Tryz.prog.info? 117).map (·.size) = some (rowL l).length := by rw [rowL_length, h13]; exact info13
  exact valued_core (rowL l) _ _ _ k _ hT1 hT2 hN hH0 HI HI' Tryz.underlying117 w
end Go.Proofs.YtabpkfhbnendjaaGreat
