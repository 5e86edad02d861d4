/-
  Texts of this claim laid together: Scan7.
-/
import Derived.Test.YtabpkfhbnendjaaGreatM8
/-
  The program's ReadScan where the code tells a price, or its second digit is another one.
-/
namespace Go.Proofs.YtabpkfhbnendjaaGreat
open Go.ChangeShapes Go.WideShapes Go.ChangeAt Go.RowKit
set_option linter.unusedVariables false

set_option maxRecDepth 20000 in
theorem rsPrice (s : ByteArray) (L : List UInt8) (h : (s.size : Int) = 13) (hd : allD s.data.toList = true) (hL : pad s = L) (h13 : L.length = 13) (hL12 : allD (L.take 12) = true) (hne : decide (L = chk L) = true) (c0 c1 : UInt8) (e0 : L[0]? = some c0) (e1 : L[1]? = some c1) (hx : ((c0.toNat : Int) != 50) = false) (T : ByteArray) (n : Int) (hVl : ∀ w, Calls Tryz.prog 66 #[.agg (rowL L).toArray, .int .i64 3] w fun e w' => e = .returned (.agg #[.int .i64 3, .string T, .int .i64 n]) ∧ Below w.heap.size w w') (hg : ∀ w, (binOp BinOp.eql 121 (.agg #[.int .u8 (c0.toNat : Int), .int .u8 (c1.toNat : Int)]) (.agg #[.int .u8 50, .int .u8 48])).run Tryz.prog w = .ok (.bool false) w) (hp : ∀ w, (binOp BinOp.eql 121 (.agg #[.int .u8 (c0.toNat : Int), .int .u8 (c1.toNat : Int)]) (.agg #[.int .u8 50, .int .u8 49])).run Tryz.prog w = .ok (.bool true) w) (w : World) :
    Calls Tryz.prog 54 #[.string s] w fun e w' => e = scanV 3 T n 0 ∧ Below w.heap.size w w' := by
  have hA := fun w => allDigits_any s w
  rw [hd] at hA; clear hd
  have hD := fun w => digitsOfScan_any s (by omega) w
  rw [hL] at hD; clear hL
  have hW := fun w => withCheck_any L h13 hL12 w
  have hq := fun w => run_neq_rows 117 13 L (chk L) Tryz.underlying117 h13 ((chk_length L).trans h13) w
  rw [hne] at hq; clear hne
  rw [row_list L] at hD hW hq
  have hHd : ∀ w, Calls Tryz.prog 63 #[.agg (rowL L).toArray] w fun e w' => e = .returned (.agg #[.int .u8 (c0.toNat : Int), .int .u8 (c1.toNat : Int)]) ∧ Below w.heap.size w w' := fun w => head_any L c0 c1 h13 e0 e1 w
  have HI : (Tryz.prog.info? 117).map (·.size) = some (rowL L).toArray.size := by rw [← row_list, row_size, h13]; exact info13
  have HI' : (Tryz.prog.info? 117).map (·.size) = some (rowL L).length := by rw [rowL_length, h13]; exact info13
  have HU := Tryz.underlying117
  have HS : Hid ((rowL L).toArray.size = 13) := (row_size L).trans h13
  have hall : (rowL L).toArray.all (·.oneCell') = true := row_one L
  generalize row (chk L) = V' at *
  generalize rowL L = r at *
  clear h13 hL12
  go_enter Tryz.func54, Tryz.ntmps54
  go_wp2_with (first | (go_at_call 60; refine (hA _).mono ?_; rintro e w1 ⟨rfl, hb1⟩; obtain ⟨hc1, hf1, hz1⟩ := bfacts hb1) | (go_at_call 61; refine (hD _).mono ?_; rintro e w2 ⟨rfl, hb2⟩; obtain ⟨hc2, hf2, hz2⟩ := bfacts hb2) | (refine wpList_store_row rfl 117 (.tmp 4) (.tmp 25) rfl w2.heap.size r.toArray rfl rfl 117 _ (heap_alloc_new _ _) HI HS.out.symm hall ?_; rw [World.setRow_alloc_new]))
  simp only [Act.put]
  have g3 : (w2.alloc (Obj.cells r.toArray 117)).rangeAt w2.heap.size 0 r := range_new _ _ _
  have g0 : (w2.alloc (Obj.cells r.toArray 117)).heap[w.heap.size]? = some (.cells #[.int .i64 0, .string ⟨#[]⟩, .int .i64 0] 108 (0, 0)) :=
    (heap_alloc_old _ _ (by have := hb1.size; have := hb2.size; simp at *; omega)).trans (below_heap hb2 _ (by have := hb1.size; simp at *; omega) _ (below_heap hb1 _ (by simp) _ (heap_alloc_new _ _)))
  have bel := below_store (chain (below_new hb1) hb2) r.toArray 117
  have lt3 : w2.heap.size < (w2.alloc (Obj.cells r.toArray 117)).heap.size := by simp
  have lt0 : w.heap.size < (w2.alloc (Obj.cells r.toArray 117)).heap.size := by have := hb1.size; have := hb2.size; simp at *; omega
  clear hc1 hf1 hz1 hc2 hf2 hz2 hb1 hb2 hA hD
  generalize w2.alloc (Obj.cells r.toArray 117) = W3 at *
  generalize w2.heap.size = b at *
  refine wp_region_held_drew (S := fun W => W.rangeAt b 0 r ∧ b < W.heap.size ∧ W.heap[w.heap.size]? = some (.cells #[.int .i64 0, .string ⟨#[]⟩, .int .i64 0] 108 (0, 0)) ∧ w.heap.size < W.heap.size) (by kernel_rfl) ⟨g3, lt3, g0, lt0⟩ (fun hH => ?_)
  refine wpAnyH_take (i := 0) (v := .agg r.toArray) rfl (by kernel_rfl) (by kernel_rfl) (by kernel_rfl) (fun _ _ _ h => h) (yieldsIf_load_mid (by rfl) 117 (.tmp 4) rfl b 0 rfl r _ (fun w h => h.1) HU rfl HI') hH ?_
  refine wpAnyH_take (i := 1) (v := .agg r.toArray) rfl (by kernel_rfl) (by kernel_rfl) (by kernel_rfl) (fun _ _ _ h => h) (yieldsIf_load_mid (by rfl) 117 (.tmp 4) rfl b 0 rfl r _ (fun w h => h.1) HU rfl HI') hH ?_
  refine wpAnyH_ready (rs := [2]) (by kernel_rfl) (by simp) ?_
  refine AllReadyH.cons rfl (fun K hK => ?_) AllReadyH.nil
  go_simp
  go_at_call 62
  refine (hW _).mono ?_
  rintro e w4 ⟨rfl, hb4⟩
  refine hK.out _ _ (keepS hb4 hH) (fun hH4 => ?_)
  clear hK K
  refine wpAnyH_take (i := 3) (v := .bool false) rfl (by kernel_rfl) (by kernel_rfl) (by kernel_rfl) (fun _ _ _ h => h) (Or.inl ⟨by rfl, fun w hSw => by go_simp⟩) hH4 ?_
  refine wpAnyH_done (by kernel_rfl) ?_ _
  have HC4 : Hid (∀ j v, r[j]? = some v → w4.cell? ((⟨b, 0, none⟩ : Addr).add j) = some v) := range_add hH4.1
  have H4 : Hid _ := hH4
  have bel4 : Below w.heap.size w w4 := chain bel.drew hb4
  clear hH4 hH hb4 bel g3 g0 lt3 lt0 hW hq
  simp [Act.put]
  go_wp2_with (first | (refine wpList_load_part rfl 117 (.tmp 4) rfl _ rfl r _ ?_ HU rfl HI' ?_; exact HC4.out) | (go_at_call 63; refine (hHd _).mono ?_; rintro e w5 ⟨rfl, hb5⟩; obtain ⟨hc5, hf5, hz5⟩ := bfacts hb5))
  have L6 : Hid (Lies b w.heap.size w5.heap.size r (c0.toNat : Int) (c1.toNat : Int) (w5.alloc (Obj.cells #[.int .u8 (c0.toNat : Int), .int .u8 (c1.toNat : Int)] 121))) :=
    ⟨keepS (chain hb5 (below_alloc w5 _)) H4.out, cell_of_row _ _ 0 _ _ _ (heap_alloc_new w5 _), cell_of_row _ _ 1 _ _ _ (heap_alloc_new w5 _), by simp⟩
  have bel6 : Hid (Below w.heap.size w (w5.alloc (Obj.cells #[.int .u8 (c0.toNat : Int), .int .u8 (c1.toNat : Int)] 121))) := chain (chain bel4 hb5) (below_alloc w5 _)
  clear hc5 hf5 hz5 hb5 bel4 HC4 H4 hHd
  generalize w5.alloc (Obj.cells #[.int .u8 (c0.toNat : Int), .int .u8 (c1.toNat : Int)] 121) = W6 at *
  generalize w5.heap.size = d at *
  generalize (c0.toNat : Int) = x0 at *
  generalize (c1.toNat : Int) = x1 at *
  go_region_held3 (fun W => (W.rangeAt b 0 r ∧ b < W.heap.size ∧ W.heap[w.heap.size]? = some (.cells #[.int .i64 0, .string ⟨#[]⟩, .int .i64 0] 108 (0, 0)) ∧ w.heap.size < W.heap.size) ∧ W.cell? ⟨d, 0, none⟩ = some (.int .u8 x0) ∧ W.cell? ⟨d, 1, none⟩ = some (.int .u8 x1) ∧ d < W.heap.size) (first | exact L6.out | exact Lies.below (by assumption) (by assumption)) (first | (go_at_call 65; refine (gramsHead_any _).mono ?_; rintro e w7 ⟨rfl, hb7⟩))
  have L7 : Hid (Lies b w.heap.size d r x0 x1 w7) := Lies.below hb7 L6.out
  have bel7 : Hid (Below w.heap.size w w7) := chain bel6.out.drew hb7
  clear L6 bel6 hb7
  go_wp2_with fail
  go_region_held3 (fun W => (W.rangeAt b 0 r ∧ b < W.heap.size ∧ W.heap[w.heap.size]? = some (.cells #[.int .i64 0, .string ⟨#[]⟩, .int .i64 0] 108 (0, 0)) ∧ w.heap.size < W.heap.size) ∧ W.cell? ⟨d, 0, none⟩ = some (.int .u8 x0) ∧ W.cell? ⟨d, 1, none⟩ = some (.int .u8 x1) ∧ d < W.heap.size) (first | exact L7.out | exact Lies.below (by assumption) (by assumption)) (first | (go_at_call 67; refine (priceHead_any _).mono ?_; rintro e w9 ⟨rfl, hb9⟩))
  have L9 : Hid (Lies b w.heap.size d r x0 x1 w9) := Lies.below hb9 L7.out
  have bel9 : Hid (Below w.heap.size w w9) := chain bel7.out.drew hb9
  clear L7 bel7 hb9
  go_wp2_with (first | (refine wpList_load_part rfl 117 (.tmp 4) rfl _ rfl r _ ?_ HU rfl HI' ?_; exact range_add L9.out.1.1) | (go_at_call 66; refine (hVl _).mono ?_; rintro e w8 ⟨rfl, hb8⟩; have K8 := (keepS hb8 L9.out.1).2.2.1; obtain ⟨k0, k1, k2, f0⟩ := kc K8; have HH : Hid _ := K8; have bel8 : Hid (Below w.heap.size w w8) := chain bel9.out hb8; clear K8 hb8))
  refine bodyPost_ret (ret_scan rfl _ _ w.heap.size _ _ _ 0 rfl rfl (heap_three _ _ _ _ _ _ _ _ _ HH.out)) rfl ?_
  exact ⟨rfl, below_three bel8.out _ (Nat.le_refl _) _ _ _⟩

set_option maxRecDepth 20000 in
theorem rsKind (s : ByteArray) (L : List UInt8) (h : (s.size : Int) = 13) (hd : allD s.data.toList = true) (hL : pad s = L) (h13 : L.length = 13) (hL12 : allD (L.take 12) = true) (hne : decide (L = chk L) = true) (c0 c1 : UInt8) (e0 : L[0]? = some c0) (e1 : L[1]? = some c1) (hx : ((c0.toNat : Int) != 50) = false) (hg : ∀ w, (binOp BinOp.eql 121 (.agg #[.int .u8 (c0.toNat : Int), .int .u8 (c1.toNat : Int)]) (.agg #[.int .u8 50, .int .u8 48])).run Tryz.prog w = .ok (.bool false) w) (hp : ∀ w, (binOp BinOp.eql 121 (.agg #[.int .u8 (c0.toNat : Int), .int .u8 (c1.toNat : Int)]) (.agg #[.int .u8 50, .int .u8 49])).run Tryz.prog w = .ok (.bool false) w) (w : World) :
    Calls Tryz.prog 54 #[.string s] w fun e w' => e = scanV 0 ⟨#[]⟩ 0 13 ∧ Below w.heap.size w w' := by
  have hA := fun w => allDigits_any s w
  rw [hd] at hA; clear hd
  have hD := fun w => digitsOfScan_any s (by omega) w
  rw [hL] at hD; clear hL
  have hW := fun w => withCheck_any L h13 hL12 w
  have hq := fun w => run_neq_rows 117 13 L (chk L) Tryz.underlying117 h13 ((chk_length L).trans h13) w
  rw [hne] at hq; clear hne
  rw [row_list L] at hD hW hq
  have hHd : ∀ w, Calls Tryz.prog 63 #[.agg (rowL L).toArray] w fun e w' => e = .returned (.agg #[.int .u8 (c0.toNat : Int), .int .u8 (c1.toNat : Int)]) ∧ Below w.heap.size w w' := fun w => head_any L c0 c1 h13 e0 e1 w
  have HI : (Tryz.prog.info? 117).map (·.size) = some (rowL L).toArray.size := by rw [← row_list, row_size, h13]; exact info13
  have HI' : (Tryz.prog.info? 117).map (·.size) = some (rowL L).length := by rw [rowL_length, h13]; exact info13
  have HU := Tryz.underlying117
  have HS : Hid ((rowL L).toArray.size = 13) := (row_size L).trans h13
  have hall : (rowL L).toArray.all (·.oneCell') = true := row_one L
  generalize row (chk L) = V' at *
  generalize rowL L = r at *
  clear h13 hL12
  go_enter Tryz.func54, Tryz.ntmps54
  go_wp2_with (first | (go_at_call 60; refine (hA _).mono ?_; rintro e w1 ⟨rfl, hb1⟩; obtain ⟨hc1, hf1, hz1⟩ := bfacts hb1) | (go_at_call 61; refine (hD _).mono ?_; rintro e w2 ⟨rfl, hb2⟩; obtain ⟨hc2, hf2, hz2⟩ := bfacts hb2) | (refine wpList_store_row rfl 117 (.tmp 4) (.tmp 25) rfl w2.heap.size r.toArray rfl rfl 117 _ (heap_alloc_new _ _) HI HS.out.symm hall ?_; rw [World.setRow_alloc_new]))
  simp only [Act.put]
  have g3 : (w2.alloc (Obj.cells r.toArray 117)).rangeAt w2.heap.size 0 r := range_new _ _ _
  have g0 : (w2.alloc (Obj.cells r.toArray 117)).heap[w.heap.size]? = some (.cells #[.int .i64 0, .string ⟨#[]⟩, .int .i64 0] 108 (0, 0)) :=
    (heap_alloc_old _ _ (by have := hb1.size; have := hb2.size; simp at *; omega)).trans (below_heap hb2 _ (by have := hb1.size; simp at *; omega) _ (below_heap hb1 _ (by simp) _ (heap_alloc_new _ _)))
  have bel := below_store (chain (below_new hb1) hb2) r.toArray 117
  have lt3 : w2.heap.size < (w2.alloc (Obj.cells r.toArray 117)).heap.size := by simp
  have lt0 : w.heap.size < (w2.alloc (Obj.cells r.toArray 117)).heap.size := by have := hb1.size; have := hb2.size; simp at *; omega
  clear hc1 hf1 hz1 hc2 hf2 hz2 hb1 hb2 hA hD
  generalize w2.alloc (Obj.cells r.toArray 117) = W3 at *
  generalize w2.heap.size = b at *
  refine wp_region_held_drew (S := fun W => W.rangeAt b 0 r ∧ b < W.heap.size ∧ W.heap[w.heap.size]? = some (.cells #[.int .i64 0, .string ⟨#[]⟩, .int .i64 0] 108 (0, 0)) ∧ w.heap.size < W.heap.size) (by kernel_rfl) ⟨g3, lt3, g0, lt0⟩ (fun hH => ?_)
  refine wpAnyH_take (i := 0) (v := .agg r.toArray) rfl (by kernel_rfl) (by kernel_rfl) (by kernel_rfl) (fun _ _ _ h => h) (yieldsIf_load_mid (by rfl) 117 (.tmp 4) rfl b 0 rfl r _ (fun w h => h.1) HU rfl HI') hH ?_
  refine wpAnyH_take (i := 1) (v := .agg r.toArray) rfl (by kernel_rfl) (by kernel_rfl) (by kernel_rfl) (fun _ _ _ h => h) (yieldsIf_load_mid (by rfl) 117 (.tmp 4) rfl b 0 rfl r _ (fun w h => h.1) HU rfl HI') hH ?_
  refine wpAnyH_ready (rs := [2]) (by kernel_rfl) (by simp) ?_
  refine AllReadyH.cons rfl (fun K hK => ?_) AllReadyH.nil
  go_simp
  go_at_call 62
  refine (hW _).mono ?_
  rintro e w4 ⟨rfl, hb4⟩
  refine hK.out _ _ (keepS hb4 hH) (fun hH4 => ?_)
  clear hK K
  refine wpAnyH_take (i := 3) (v := .bool false) rfl (by kernel_rfl) (by kernel_rfl) (by kernel_rfl) (fun _ _ _ h => h) (Or.inl ⟨by rfl, fun w hSw => by go_simp⟩) hH4 ?_
  refine wpAnyH_done (by kernel_rfl) ?_ _
  have HC4 : Hid (∀ j v, r[j]? = some v → w4.cell? ((⟨b, 0, none⟩ : Addr).add j) = some v) := range_add hH4.1
  have H4 : Hid _ := hH4
  have bel4 : Below w.heap.size w w4 := chain bel.drew hb4
  clear hH4 hH hb4 bel g3 g0 lt3 lt0 hW hq
  simp [Act.put]
  go_wp2_with (first | (refine wpList_load_part rfl 117 (.tmp 4) rfl _ rfl r _ ?_ HU rfl HI' ?_; exact HC4.out) | (go_at_call 63; refine (hHd _).mono ?_; rintro e w5 ⟨rfl, hb5⟩; obtain ⟨hc5, hf5, hz5⟩ := bfacts hb5))
  have L6 : Hid (Lies b w.heap.size w5.heap.size r (c0.toNat : Int) (c1.toNat : Int) (w5.alloc (Obj.cells #[.int .u8 (c0.toNat : Int), .int .u8 (c1.toNat : Int)] 121))) :=
    ⟨keepS (chain hb5 (below_alloc w5 _)) H4.out, cell_of_row _ _ 0 _ _ _ (heap_alloc_new w5 _), cell_of_row _ _ 1 _ _ _ (heap_alloc_new w5 _), by simp⟩
  have bel6 : Hid (Below w.heap.size w (w5.alloc (Obj.cells #[.int .u8 (c0.toNat : Int), .int .u8 (c1.toNat : Int)] 121))) := chain (chain bel4 hb5) (below_alloc w5 _)
  clear hc5 hf5 hz5 hb5 bel4 HC4 H4 hHd
  generalize w5.alloc (Obj.cells #[.int .u8 (c0.toNat : Int), .int .u8 (c1.toNat : Int)] 121) = W6 at *
  generalize w5.heap.size = d at *
  generalize (c0.toNat : Int) = x0 at *
  generalize (c1.toNat : Int) = x1 at *
  go_region_held3 (fun W => (W.rangeAt b 0 r ∧ b < W.heap.size ∧ W.heap[w.heap.size]? = some (.cells #[.int .i64 0, .string ⟨#[]⟩, .int .i64 0] 108 (0, 0)) ∧ w.heap.size < W.heap.size) ∧ W.cell? ⟨d, 0, none⟩ = some (.int .u8 x0) ∧ W.cell? ⟨d, 1, none⟩ = some (.int .u8 x1) ∧ d < W.heap.size) (first | exact L6.out | exact Lies.below (by assumption) (by assumption)) (first | (go_at_call 65; refine (gramsHead_any _).mono ?_; rintro e w7 ⟨rfl, hb7⟩))
  have L7 : Hid (Lies b w.heap.size d r x0 x1 w7) := Lies.below hb7 L6.out
  have bel7 : Hid (Below w.heap.size w w7) := chain bel6.out.drew hb7
  clear L6 bel6 hb7
  go_wp2_with fail
  go_region_held3 (fun W => (W.rangeAt b 0 r ∧ b < W.heap.size ∧ W.heap[w.heap.size]? = some (.cells #[.int .i64 0, .string ⟨#[]⟩, .int .i64 0] 108 (0, 0)) ∧ w.heap.size < W.heap.size) ∧ W.cell? ⟨d, 0, none⟩ = some (.int .u8 x0) ∧ W.cell? ⟨d, 1, none⟩ = some (.int .u8 x1) ∧ d < W.heap.size) (first | exact L7.out | exact Lies.below (by assumption) (by assumption)) (first | (go_at_call 67; refine (priceHead_any _).mono ?_; rintro e w9 ⟨rfl, hb9⟩))
  have L9 : Hid (Lies b w.heap.size d r x0 x1 w9) := Lies.below hb9 L7.out
  have bel9 : Hid (Below w.heap.size w w9) := chain bel7.out.drew hb9
  clear L7 bel7 hb9
  obtain ⟨k0, k1, k2, f0⟩ := kc L9.out.1.2.2.1
  go_wp2
  refine bodyPost_ret (ret_scan rfl _ _ w.heap.size _ _ _ 13 rfl rfl (heap_three _ _ _ _ _ _ _ _ _ L9.out.1.2.2.1)) rfl ?_
  exact ⟨rfl, below_three bel9.out _ (Nat.le_refl _) _ _ _⟩
end Go.Proofs.YtabpkfhbnendjaaGreat
