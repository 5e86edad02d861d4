/-
  The program's ReadScan, way by way.
-/
import Derived.Test.YtnjciehnlemmlaaScan3
import Derived.Laws.ResultCell
import Derived.Deep.RegionHeld3
import Derived.BigQuiet
import Derived.Deep.QuietTactic
import Derived.Deep.RegionWith
namespace Go.Proofs.Ytnjciehnlemmlaa
open Go.ChangeShapes Go.WideShapes Go.ChangeAt Go.RowKit
set_option linter.unusedVariables false

def scanV (k : Int) (a : ByteArray) (v c : Int) : Ending := .returned (.tuple #[.agg #[.int .i64 k, .string a, .int .i64 v], .int .i64 c])

theorem info3 : (Try.prog.info? 39).map (·.size) = some 3 := by kernel_rfl
theorem ret_scan {fn : Func} (h : fn.results = #[.cell 2 39, .tmp 3]) (tmps : Array Value) (W : World) (b : Nat) (x y z : Value) (c : Int) (hp : tmps.getD 2 undef = .pointer (some ⟨b, 0, none⟩)) (h3 : tmps.getD 3 undef = .int .i64 c)
    (hg : W.heap[b]? = some (.cells #[x, y, z] 39 (0, 0))) : (results fn tmps).run Try.prog W = .ok (.tuple #[.agg #[x, y, z], .int .i64 c]) W := by
  rw [results_cell_tmp h, hp, h3]
  have := run_loadVar_row (P := Try.prog) W b 39 39 #[x, y, z] (0, 0) _ hg Try.underlying39 rfl info3
  simp [asAddr, Result.andThen, this]
theorem heap_three (W : World) (b : Nat) (p q r x y z : Value) (t : TypeId) (hg : W.heap[b]? = some (.cells #[p, q, r] t (0, 0))) :
    (((W.setCell ⟨b, 0, none⟩ x).setCell ⟨b, 1, none⟩ y).setCell ⟨b, 2, none⟩ z).heap[b]? = some (.cells #[x, y, z] t (0, 0)) :=
  heap_setCell_same _ _ _ _ _ _ (heap_setCell_same _ _ _ _ _ _ (heap_setCell_same _ _ _ _ _ _ hg))
theorem below_three {B : Nat} {w W : World} (h : Below B w W) (b : Nat) (hb : B ≤ b) (x y z : Value) : Below B w (((W.setCell ⟨b, 0, none⟩ x).setCell ⟨b, 1, none⟩ y).setCell ⟨b, 2, none⟩ z) := ((h.setCell hb _).setCell hb _).setCell hb _
theorem below_heap {B : Nat} {w W : World} (h : Below B w W) (b : Nat) (hb : b < B) (o : Obj) (ho : w.heap[b]? = some o) : W.heap[b]? = some o := (h.block b hb).trans ho
theorem below_new {w : World} {o : Obj} {W : World} (h : Below (w.alloc o).heap.size (w.alloc o) W) : Below w.heap.size w W := chain (below_alloc w o) h

theorem rsLong (s : ByteArray) (h : (65536 : Int) < (s.size : Int)) (w : World) :
    Calls Try.prog 26 #[.string s] w fun e w' => e = scanV 0 ⟨#[]⟩ 0 2 ∧ Below w.heap.size w w' := by
  go_enter Try.func26, Try.ntmps26
  go_wp2
  refine bodyPost_ret (ret_scan rfl _ _ w.heap.size _ _ _ 2 rfl rfl (heap_alloc_new _ _)) rfl ?_
  exact ⟨rfl, below_alloc _ _⟩
theorem rsOther (s : ByteArray) (hs : (s.size : Int) ≤ 65536) (h : ((s.size : Int) != 8) = true) (h' : ((s.size : Int) != 13) = true) (w : World) :
    Calls Try.prog 26 #[.string s] w fun e w' => e = scanV 0 ⟨#[]⟩ 0 4 ∧ Below w.heap.size w w' := by
  go_enter Try.func26, Try.ntmps26
  go_wp2
  refine bodyPost_ret (ret_scan rfl _ _ w.heap.size _ _ _ 4 rfl rfl (heap_alloc_new _ _)) rfl ?_
  exact ⟨rfl, below_alloc _ _⟩
theorem rsSyntax (s : ByteArray) (hs : (s.size : Int) ≤ 65536) (h : (s.size : Int) = 8 ∨ (s.size : Int) = 13) (hd : allD s.data.toList = false) (w : World) :
    Calls Try.prog 26 #[.string s] w fun e w' => e = scanV 0 ⟨#[]⟩ 0 4 ∧ Below w.heap.size w w' := by
  have hA := fun w => allDigits_any s w
  rw [hd] at hA; clear hd
  rcases h with h | h
  all_goals
    go_enter Try.func26, Try.ntmps26
    go_wp2_with (go_at_call 27; refine (hA _).mono ?_; rintro e w1 ⟨rfl, hb1⟩; obtain ⟨hc1, hf1, hz1⟩ := bfacts hb1)
    refine bodyPost_ret (ret_scan rfl _ _ w.heap.size _ _ _ 4 rfl rfl (heap_three _ _ _ _ _ _ _ _ _ (below_heap hb1 _ (by simp) _ (heap_alloc_new _ _)))) rfl ?_
    exact ⟨rfl, below_three (below_new hb1) _ (Nat.le_refl _) _ _ _⟩

theorem chk_length (l : List UInt8) : (chk l).length = l.length := by simp [chk]
theorem below_store {w1 w2 : World} (h : Below w1.heap.size w1 w2) (V : Array Value) (t : TypeId) : Below w1.heap.size w1 (w2.alloc (.cells V t)) := chain h (below_alloc _ _)

theorem keepS {W w1 : World} {b c : Nat} {r : List Value} {o' : Obj} (hb : Below W.heap.size W w1) (h : W.rangeAt b 0 r ∧ b < W.heap.size ∧ W.heap[c]? = some o' ∧ c < W.heap.size) : w1.rangeAt b 0 r ∧ b < w1.heap.size ∧ w1.heap[c]? = some o' ∧ c < w1.heap.size :=
  ⟨fun j v hj => (hb.cell (p := ⟨b, 0 + j, none⟩) h.2.1).trans (h.1 j v hj), Nat.lt_of_lt_of_le h.2.1 hb.size, below_heap hb c h.2.2.2 _ h.2.2.1, Nat.lt_of_lt_of_le h.2.2.2 hb.size⟩
theorem range_new (w : World) (r : List Value) (t : TypeId) : (w.alloc (.cells r.toArray t)).rangeAt w.heap.size 0 r := fun j v hj => by
  rw [cell_of_row _ _ _ _ _ _ (heap_alloc_new w _), Nat.zero_add]; simpa using hj

theorem list13 (r : List Value) (h : r.length = 13) : ∃ v0 v1 v2 v3 v4 v5 v6 v7 v8 v9 v10 v11 v12, r = [v0, v1, v2, v3, v4, v5, v6, v7, v8, v9, v10, v11, v12] := by
  match r, h with
  | [v0, v1, v2, v3, v4, v5, v6, v7, v8, v9, v10, v11, v12], _ => exact ⟨v0, v1, v2, v3, v4, v5, v6, v7, v8, v9, v10, v11, v12, rfl⟩

set_option maxRecDepth 20000 in
theorem rsSum (s : ByteArray) (L : List UInt8) (h : (s.size : Int) = 8 ∨ (s.size : Int) = 13) (hd : allD s.data.toList = true) (hL : pad s = L) (h13 : L.length = 13) (hL12 : allD (L.take 12) = true) (hne : decide (L = chk L) = false) (w : World) :
    Calls Try.prog 26 #[.string s] w fun e w' => e = scanV 0 ⟨#[]⟩ 0 15 ∧ Below w.heap.size w w' := by
  have hA := fun w => allDigits_any s w
  rw [hd] at hA; clear hd
  have hD := fun w => digitsOfScan_any s (by omega) w
  rw [hL] at hD; clear hL
  have hW := fun w => withCheck_any L h13 hL12 w
  have hq := fun w => run_neq_rows 49 13 L (chk L) Try.underlying49 h13 ((chk_length L).trans h13) w
  rw [hne] at hq; clear hne
  rw [row_list L] at hD hW hq
  have HI : (Try.prog.info? 49).map (·.size) = some (rowL L).toArray.size := by rw [← row_list, row_size, h13]; exact info13
  have HI' : (Try.prog.info? 49).map (·.size) = some (rowL L).length := by rw [rowL_length, h13]; exact info13
  have HU := Try.underlying49
  have HS : Hid ((rowL L).toArray.size = 13) := (row_size L).trans h13
  have hall : (rowL L).toArray.all (·.oneCell') = true := row_one L
  generalize row (chk L) = V' at *
  generalize rowL L = r at *
  clear h13 hL12
  rcases h with h | h
  all_goals
    go_enter Try.func26, Try.ntmps26
    go_wp2_with (first | (go_at_call 27; refine (hA _).mono ?_; rintro e w1 ⟨rfl, hb1⟩; obtain ⟨hc1, hf1, hz1⟩ := bfacts hb1) | (go_at_call 28; refine (hD _).mono ?_; rintro e w2 ⟨rfl, hb2⟩; obtain ⟨hc2, hf2, hz2⟩ := bfacts hb2) | (refine wpList_store_row rfl 49 (.tmp 4) (.tmp 25) rfl w2.heap.size r.toArray rfl rfl 49 _ (heap_alloc_new _ _) HI HS.out.symm hall ?_; rw [World.setRow_alloc_new]))
    simp only [Act.put]
    have g3 : (w2.alloc (Obj.cells r.toArray 49)).rangeAt w2.heap.size 0 r := range_new _ _ _
    have g0 : (w2.alloc (Obj.cells r.toArray 49)).heap[w.heap.size]? = some (.cells #[.int .i64 0, .string ⟨#[]⟩, .int .i64 0] 39 (0, 0)) :=
      (heap_alloc_old _ _ (by have := hb1.size; have := hb2.size; simp at *; omega)).trans (below_heap hb2 _ (by have := hb1.size; simp at *; omega) _ (below_heap hb1 _ (by simp) _ (heap_alloc_new _ _)))
    have bel := below_store (chain (below_new hb1) hb2) r.toArray 49
    have lt3 : w2.heap.size < (w2.alloc (Obj.cells r.toArray 49)).heap.size := by simp
    have lt0 : w.heap.size < (w2.alloc (Obj.cells r.toArray 49)).heap.size := by have := hb1.size; have := hb2.size; simp at *; omega
    clear hc1 hf1 hz1 hc2 hf2 hz2 hb1 hb2 hA hD
    generalize w2.alloc (Obj.cells r.toArray 49) = W3 at *
    generalize w2.heap.size = b at *
    refine wp_region_held_drew (S := fun W => W.rangeAt b 0 r ∧ b < W.heap.size ∧ W.heap[w.heap.size]? = some (.cells #[.int .i64 0, .string ⟨#[]⟩, .int .i64 0] 39 (0, 0)) ∧ w.heap.size < W.heap.size) (by kernel_rfl) ⟨g3, lt3, g0, lt0⟩ (fun hH => ?_)
    refine wpAnyH_take (i := 0) (v := .agg r.toArray) rfl (by kernel_rfl) (by kernel_rfl) (by kernel_rfl) (fun _ _ _ h => h) (yieldsIf_load_mid (by rfl) 49 (.tmp 4) rfl b 0 rfl r _ (fun w h => h.1) HU rfl HI') hH ?_
    refine wpAnyH_take (i := 1) (v := .agg r.toArray) rfl (by kernel_rfl) (by kernel_rfl) (by kernel_rfl) (fun _ _ _ h => h) (yieldsIf_load_mid (by rfl) 49 (.tmp 4) rfl b 0 rfl r _ (fun w h => h.1) HU rfl HI') hH ?_
    refine wpAnyH_ready (rs := [2]) (by kernel_rfl) (by simp) ?_
    refine AllReadyH.cons rfl (fun K hK => ?_) AllReadyH.nil
    go_simp
    go_at_call 29
    refine (hW _).mono ?_
    rintro e w4 ⟨rfl, hb4⟩
    refine hK.out _ _ (keepS hb4 hH) (fun hH4 => ?_)
    clear hK K
    refine wpAnyH_take (i := 3) (v := .bool true) rfl (by kernel_rfl) (by kernel_rfl) (by kernel_rfl) (fun _ _ _ h => h) (Or.inl ⟨by rfl, fun w hSw => by go_simp⟩) hH4 ?_
    refine wpAnyH_done (by kernel_rfl) ?_ _
    have k0 : w4.cell? ⟨w.heap.size, 0, none⟩ = some (.int .i64 0) := by rw [cell_of_row _ _ 0 _ _ _ hH4.2.2.1]; rfl
    have k1 : w4.cell? ⟨w.heap.size, 1, none⟩ = some (.string ⟨#[]⟩) := by rw [cell_of_row _ _ 1 _ _ _ hH4.2.2.1]; rfl
    have k2 : w4.cell? ⟨w.heap.size, 2, none⟩ = some (.int .i64 0) := by rw [cell_of_row _ _ 2 _ _ _ hH4.2.2.1]; rfl
    have f0 : ∀ j, w4.frozen? ⟨w.heap.size, j, none⟩ = false := fun j => frozen_of_row _ _ j _ _ hH4.2.2.1
    have HH : Hid _ := hH4.2.2.1
    have bel4 : Below w.heap.size w w4 := chain bel.drew hb4
    clear hH4 hH hb4 bel g3 g0 lt3 lt0 hW hq
    simp [Act.put]
    go_wp2
    refine bodyPost_ret (ret_scan rfl _ _ w.heap.size _ _ _ 15 rfl rfl (heap_three _ _ _ _ _ _ _ _ _ HH.out)) rfl ?_
    exact ⟨rfl, below_three bel4 _ (Nat.le_refl _) _ _ _⟩
end Go.Proofs.Ytnjciehnlemmlaa
