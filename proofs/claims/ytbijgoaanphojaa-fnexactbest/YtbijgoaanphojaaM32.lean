/-
  Texts of this claim laid together: BsE, BsF, MkP.
-/
import Derived.Test.YtbijgoaanphojaaM28
import Derived.Test.YtbijgoaanphojaaM29
import Derived.Test.YtbijgoaanphojaaM31
import Derived.Test.YtbijgoaanphojaaM20
/-
  The specification's uses, where the first unit is none of the deal's.
-/
namespace Go.Proofs.Ytbijgoaanphojaa
open Go.ChangeShapes Go.WideShapes Go.ChangeAt Go.RowKit Go.Deep
set_option linter.unusedVariables false

set_option maxHeartbeats 4000000 in
theorem uses_no (sb : Nat) (us : List RUn) (ua : Option Addr) (uc : Nat) (ds : List CDl) (da : Option Addr) (dc mb : Nat) (k x mask : Nat) (hk : k < ds.length) (hx : x < us.length) (hq : ∀ r ∈ ds, DlOK r) (w : World) (hS : SvIs w sb ua us.length uc da ds.length dc mb) (hr : ReadsUn w.heap.size w ua us) (ks : ReadsDl w.heap.size w da ds) (hf : fitU us (ds.getD k zDl) x = false) :
    Calls Try.prog 39 #[.pointer (some ⟨sb, 0, none⟩), .int .i64 (k : Int), .int .i64 (x : Int), .int .i64 (mask : Int)] w fun e w' => ∃ g cp, e = .returned (.slice g 0 cp) ∧ OutS w (.slice g 0 cp) [] [] w' := by
  rcases hr with h | ⟨ub, uo, rfl, hB, hi⟩
  · rw [h] at hx; simp at hx
  rcases ks with h | ⟨b, o, rfl, hB2, hi2⟩
  · rw [h] at hk; simp at hk
  obtain ⟨dh, dcp, k0, k1, k2⟩ := hi2 k hk
  obtain ⟨d0, d1, d2, d3, d4, d5⟩ := k0
  have x0 : w.cell? ⟨sb, 0, none⟩ = some (.slice (some ⟨ub, uo, none⟩) us.length uc) := blkCell hS 0 _ rfl
  have x1 : w.cell? ⟨sb, 1, none⟩ = some (.slice (some ⟨b, o, none⟩) ds.length dc) := blkCell hS 1 _ rfl
  have u0 := (hi x hx).1
  have hx' : (x : Int) < (us.length : Int) := by omega
  have hk' : (k : Int) < (ds.length : Int) := by omega
  have hdk : DlOK (ds.getD k zDl) := getDl hq hk
  unfold fitU at hf
  generalize (us.getD x zUn).art = art at *
  generalize ds.getD k zDl = d at *
  obtain ⟨W1, hW1⟩ : ∃ W1, W1 = w.alloc (Obj.cells #[.string d.nm, .int .i64 d.kd, .slice dh d.arts.length dcp, .int .i64 d.nd, .int .i64 d.vl, .bool d.on] 39) := ⟨_, rfl⟩
  have HW1 : Hid (W1 = w.alloc (Obj.cells #[.string d.nm, .int .i64 d.kd, .slice dh d.arts.length dcp, .int .i64 d.nd, .int .i64 d.vl, .bool d.on] 39)) := hW1
  have hb1 : Below w.heap.size w W1 := by rw [hW1]; exact below_alloc _ _
  have hn1 : W1.heap[w.heap.size]? = some (.cells #[.string d.nm, .int .i64 d.kd, .slice dh d.arts.length dcp, .int .i64 d.nd, .int .i64 d.vl, .bool d.on] 39 (0, 0)) := by rw [hW1]; exact heapNew _ _
  have HB1 : Hid (Below w.heap.size w W1) := hb1
  have HQ : Hid (∀ W', Below W1.heap.size W1 W' → W'.cell? ⟨w.heap.size, 2, none⟩ = some (.slice dh d.arts.length dcp) ∧ W'.cell? ⟨sb, 0, none⟩ = some (.slice (some ⟨ub, uo, none⟩) us.length uc) ∧ W'.cell? ⟨ub, uo + x * 2, none⟩ = some (.string art) ∧ Calls Try.prog 57 #[.slice dh d.arts.length dcp, .string art] W' fun e w' => e = .returned (.bool (hasB d.arts art)) ∧ w' = W') := fun W' hW => by
    have hb := chain hb1 hW
    refine ⟨blkCell ((hW.block _ (blkLt hn1)).trans hn1) 2 _ rfl, (hb.cell (p := ⟨sb, 0, none⟩) (blkLt hS)).trans x0, (hb.cell (p := ⟨ub, uo + x * 2, none⟩) hB).trans u0, ?_⟩
    exact has_any dh dcp d.arts (Nat.le_trans hdk.2.1 (by omega)) art W' ((k2.below hb).mono hb.size)
  rw [hf] at HQ
  clear hi hi2 k1 k2 hS hb1 hn1 hW1 hdk hf
  go_enter Try.func39, Try.ntmps39
  go_wp2_with fail
  rw [← HW1.out]
  clear HW1 d0 d1 d2 d3 d4 d5 x0 x1 u0
  refine wp_region_held_drew (S := fun W' => Below W1.heap.size W1 W') (by kernel_rfl) (below_drew _) (fun hH => ?_)
  refine wpAnyH_take (i := 0) (v := .pointer (some ⟨w.heap.size, 2, none⟩)) rfl (by kernel_rfl) (by kernel_rfl) (by kernel_rfl) (fun _ _ _ h => h) (Or.inl ⟨by rfl, fun w hSw => by go_simp⟩) hH ?_
  refine wpAnyH_take (i := 1) (v := .slice dh d.arts.length dcp) rfl (by kernel_rfl) (by kernel_rfl) (by kernel_rfl) (fun _ _ _ h => h) (Or.inl ⟨by rfl, fun w hSw => by have f0 := (HQ.out _ hSw).1; go_simp⟩) hH ?_
  try simp only [Act.put, List.setIfInBounds_toArray, List.set_cons_zero, List.set_cons_succ, List.getElem_toArray, List.getElem_cons_succ, List.getElem_cons_zero]
  refine wpAnyH_take (i := 2) (v := .pointer (some ⟨sb, 0, none⟩)) rfl (by kernel_rfl) (by kernel_rfl) (by kernel_rfl) (fun _ _ _ h => h) (Or.inl ⟨by rfl, fun w hSw => by go_simp⟩) hH ?_
  try simp only [Act.put, List.setIfInBounds_toArray, List.set_cons_zero, List.set_cons_succ, List.getElem_toArray, List.getElem_cons_succ, List.getElem_cons_zero]
  refine wpAnyH_take (i := 3) (v := .pointer (some ⟨sb, 0, none⟩)) rfl (by kernel_rfl) (by kernel_rfl) (by kernel_rfl) (fun _ _ _ h => h) (Or.inl ⟨by rfl, fun w hSw => by go_simp⟩) hH ?_
  try simp only [Act.put, List.setIfInBounds_toArray, List.set_cons_zero, List.set_cons_succ, List.getElem_toArray, List.getElem_cons_succ, List.getElem_cons_zero]
  refine wpAnyH_take (i := 4) (v := .pointer (some ⟨sb, 0, none⟩)) rfl (by kernel_rfl) (by kernel_rfl) (by kernel_rfl) (fun _ _ _ h => h) (Or.inl ⟨by rfl, fun w hSw => by go_simp⟩) hH ?_
  try simp only [Act.put, List.setIfInBounds_toArray, List.set_cons_zero, List.set_cons_succ, List.getElem_toArray, List.getElem_cons_succ, List.getElem_cons_zero]
  refine wpAnyH_take (i := 5) (v := .slice (some ⟨ub, uo, none⟩) us.length uc) rfl (by kernel_rfl) (by kernel_rfl) (by kernel_rfl) (fun _ _ _ h => h) (Or.inl ⟨by rfl, fun w hSw => by have f0 := (HQ.out _ hSw).2.1; go_simp⟩) hH ?_
  try simp only [Act.put, List.setIfInBounds_toArray, List.set_cons_zero, List.set_cons_succ, List.getElem_toArray, List.getElem_cons_succ, List.getElem_cons_zero]
  refine wpAnyH_take (i := 6) (v := .int .i64 (x : Int)) rfl (by kernel_rfl) (by kernel_rfl) (by kernel_rfl) (fun _ _ _ h => h) (Or.inl ⟨by rfl, fun w hSw => by go_simp⟩) hH ?_
  try simp only [Act.put, List.setIfInBounds_toArray, List.set_cons_zero, List.set_cons_succ, List.getElem_toArray, List.getElem_cons_succ, List.getElem_cons_zero]
  refine wpAnyH_take (i := 7) (v := .pointer (some ⟨ub, uo + x * 2, none⟩)) rfl (by kernel_rfl) (by kernel_rfl) (by kernel_rfl) (fun _ _ _ h => h) (Or.inl ⟨by rfl, fun w hSw => by go_simp⟩) hH ?_
  try simp only [Act.put, List.setIfInBounds_toArray, List.set_cons_zero, List.set_cons_succ, List.getElem_toArray, List.getElem_cons_succ, List.getElem_cons_zero]
  refine wpAnyH_take (i := 8) (v := .pointer (some ⟨ub, uo + x * 2, none⟩)) rfl (by kernel_rfl) (by kernel_rfl) (by kernel_rfl) (fun _ _ _ h => h) (Or.inl ⟨by rfl, fun w hSw => by go_simp⟩) hH ?_
  try simp only [Act.put, List.setIfInBounds_toArray, List.set_cons_zero, List.set_cons_succ, List.getElem_toArray, List.getElem_cons_succ, List.getElem_cons_zero]
  refine wpAnyH_take (i := 9) (v := .string art) rfl (by kernel_rfl) (by kernel_rfl) (by kernel_rfl) (fun _ _ _ h => h) (Or.inl ⟨by rfl, fun w hSw => by have f0 := (HQ.out _ hSw).2.2.1; go_simp⟩) hH ?_
  try simp only [Act.put, List.setIfInBounds_toArray, List.set_cons_zero, List.set_cons_succ, List.getElem_toArray, List.getElem_cons_succ, List.getElem_cons_zero]
  refine wpAnyH_ready (rs := [10]) (by kernel_rfl) (by simp) ?_
  refine AllReadyH.cons rfl (fun K hK => ?_) AllReadyH.nil
  go_simp
  go_at_call 57
  refine (HQ.out _ hH).2.2.2.mono ?_
  rintro e w2 ⟨rfl, rfl⟩
  refine hK.out _ _ hH (fun _ => ?_)
  clear hK K
  try simp only [Act.put, List.setIfInBounds_toArray, List.set_cons_zero, List.set_cons_succ, List.getElem_toArray, List.getElem_cons_succ, List.getElem_cons_zero]
  refine wpAnyH_take (i := 11) (v := .bool true) rfl (by kernel_rfl) (by kernel_rfl) (by kernel_rfl) (fun _ _ _ h => h) (Or.inl ⟨by rfl, fun w hSw => by go_simp⟩) hH ?_
  try simp only [Act.put, List.setIfInBounds_toArray, List.set_cons_zero, List.set_cons_succ, List.getElem_toArray, List.getElem_cons_succ, List.getElem_cons_zero]
  refine wpAnyH_done (by kernel_rfl) ?_ _
  have HEn : Hid (∀ W2, W2 = W1.drew.alloc (Obj.cells #[] 34) → OutS w (.slice (some ⟨W1.heap.size, 0, none⟩) 0 0) [] [] W2) := fun W2 e => by
    have hb : Below w.heap.size w W2 := by rw [e]; exact chain HB1.out (chain (below_drew _) (below_alloc _ _))
    exact ⟨⟨rfl, .inr ⟨W1.heap.size, 0, #[], rfl, HB1.out.size, by rw [e]; exact heapNew W1.drew _, Nat.le_refl _, by unfold maxLen; omega, rfl, rfl⟩⟩, ⟨rfl, fun i hi => (by simp at hi)⟩, hb, hb.size⟩
  clear hH HQ
  go_wp2
  go_ret
  exact ⟨_, _, rfl, HEn.out _ rfl⟩
end Go.Proofs.Ytbijgoaanphojaa

/-
  The units that the specification's uses keeps.
-/
namespace Go.Proofs.Ytbijgoaanphojaa
open Go.ChangeShapes Go.WideShapes Go.ChangeAt Go.RowKit Go.Deep
set_option linter.unusedVariables false

/-- The units behind x that a mask leaves and a deal wants, of the first j. -/
def freeX (us : List RUn) (d : CDl) (x mask j : Nat) : List Nat := (List.range j).filter fun i => decide (x < i) && ! mask.testBit i && fitU us d i
theorem freeX_start (us : List RUn) (d : CDl) (x mask : Nat) : freeX us d x mask (x + 1) = [] := List.filter_eq_nil_iff.2 (fun i hi => by
  have := List.mem_range.1 hi
  have h : ¬ x < i := by omega
  simp [h])
theorem freeX_skip {us : List RUn} {d : CDl} {x mask j : Nat} (h : (decide (x < j) && ! mask.testBit j && fitU us d j) = false) : freeX us d x mask (j + 1) = freeX us d x mask j := by
  unfold freeX
  rw [List.range_succ, List.filter_append]
  simp [List.filter, h]
theorem freeX_take {us : List RUn} {d : CDl} {x mask j : Nat} (h : (decide (x < j) && ! mask.testBit j && fitU us d j) = true) : freeX us d x mask (j + 1) = freeX us d x mask j ++ [j] := by
  unfold freeX
  rw [List.range_succ, List.filter_append]
  simp [List.filter, h]
end Go.Proofs.Ytbijgoaanphojaa

/-
  Rows of their own whose cells are turned into marks, one by one; nothing of the program is in it.
-/
namespace Go.Proofs.Ytbijgoaanphojaa
open Go.ChangeShapes Go.WideShapes Go.ChangeAt Go.RowKit Go.Deep
set_option linter.unusedVariables false

/-- m marks from k on. -/
def mkV (k m : Nat) : List Value := (List.range m).map fun (j : Nat) => Value.int .i64 ((k : Int) + (j : Int))
/-- Cells of which the first m are marks. -/
def mkC (k m : Nat) (xs : List Value) : List Value := (List.range xs.length).map fun (j : Nat) => if j < m then Value.int .i64 ((k : Int) + (j : Int)) else (xs[j]?).getD undef
theorem mkC_length (k m : Nat) (xs : List Value) : (mkC k m xs).length = xs.length := by simp [mkC]
theorem mkC_get (k m : Nat) (xs : List Value) (j : Nat) (h : j < xs.length) : (mkC k m xs)[j]? = some (if j < m then Value.int .i64 ((k : Int) + (j : Int)) else (xs[j]?).getD undef) := by simp [mkC, h]
theorem mkV_get (k m j : Nat) (h : j < m) : (mkV k m)[j]? = some (Value.int .i64 ((k : Int) + (j : Int))) := by simp [mkV, h]
theorem mkV_length (k m : Nat) : (mkV k m).length = m := by simp [mkV]
theorem mkC_zero (k : Nat) (xs : List Value) : mkC k 0 xs = xs := by
  apply List.ext_getElem?
  intro j
  by_cases h : j < xs.length
  · rw [mkC_get k 0 xs j h]; simp [h]
  · rw [List.getElem?_eq_none (by rw [mkC_length]; omega), List.getElem?_eq_none (by omega)]
theorem mkC_all (k : Nat) (xs : List Value) : mkC k xs.length xs = mkV k xs.length := by
  apply List.ext_getElem?
  intro j
  by_cases h : j < xs.length
  · rw [mkC_get k _ xs j h, mkV_get k _ j h, if_pos h]
  · rw [List.getElem?_eq_none (by rw [mkC_length]; omega), List.getElem?_eq_none (by rw [mkV_length]; omega)]
theorem mkC_set (k m : Nat) (xs : List Value) (h : m < xs.length) : (mkC k m xs).set m (.int .i64 ((k : Int) + (m : Int))) = mkC k (m + 1) xs := by
  apply List.ext_getElem?
  intro j
  by_cases hj : j < xs.length
  · rw [mkC_get k _ xs j hj, List.getElem?_set]
    by_cases e : m = j
    · subst e
      rw [if_pos rfl, if_pos (by rw [mkC_length]; exact h), if_pos (by omega)]
    · rw [if_neg e, mkC_get k m xs j hj]
      by_cases e2 : j < m
      · rw [if_pos e2, if_pos (by omega)]
      · rw [if_neg e2, if_neg (by omega)]
  · rw [List.getElem?_eq_none (by rw [List.length_set, mkC_length]; omega), List.getElem?_eq_none (by rw [mkC_length]; omega)]
/-- Of a row of its own one cell has turned. -/
theorem rowPut {W : World} {B g c n k : Nat} {e : TypeId} {xs : List Value} (h : W.ownsRow B e k (.slice (some ⟨g, 0, none⟩) n c) n xs) (j : Nat) (hj : j < n * k) (u : Value) : (W.setCell ⟨g, j, none⟩ u).ownsRow B e k (.slice (some ⟨g, 0, none⟩) n c) n (xs.set j u) := by
  obtain ⟨h1, h2⟩ := h
  refine ⟨by rw [List.length_set]; exact h1, ?_⟩
  rcases h2 with ⟨q, _⟩ | ⟨g', cap, cur, q, hB, hg, hc, hm, hs, ht⟩
  · simp at q
  · simp at q
    obtain ⟨rfl, rfl⟩ := q
    refine .inr ⟨g, c, cur.setIfInBounds j u, rfl, hB, heap_setCell_same _ _ _ _ _ _ hg, hc, hm, by simpa using hs, ?_⟩
    rw [Array.toList_setIfInBounds, List.take_set, ht]
theorem rowMark {W : World} {B g c n k k0 m : Nat} {e : TypeId} {v : Value} {xs : List Value} (h : W.ownsRow B e k v n (mkC k0 m xs)) (hv : v = .slice (some ⟨g, 0, none⟩) n c) (o : Nat) (ho : o = m ∧ m < n * k) (x : Int) (hx : x = (k0 : Int) + (m : Int)) : (W.setCell ⟨g, o, none⟩ (.int .i64 x)).ownsRow B e k v n (mkC k0 (o + 1) xs) := by
  obtain ⟨rfl, hm⟩ := ho
  subst hv hx
  have hl : xs.length = n * k := by have := h.1; rwa [mkC_length] at this
  have := rowPut h o hm (.int .i64 ((k0 : Int) + (o : Int)))
  rwa [mkC_set k0 o xs (by omega)] at this
theorem rowMarked {W : World} {B g c n k k0 : Nat} {e : TypeId} {v : Value} (h : W.ownsRow B e k v n (mkV k0 (n * k))) (hv : v = .slice (some ⟨g, 0, none⟩) n c) (o : Nat) (ho : o < n * k) (x : Int) (hx : x = (k0 : Int) + (o : Int)) : W.cell? ⟨g, o, none⟩ = some (.int .i64 x) := by
  subst hv hx
  rw [h.cellAt o ho, mkV_get k0 _ o ho]
theorem ownsRow_some {W : World} {B g c n k : Nat} {e : TypeId} {xs : List Value} (h : W.ownsRow B e k (.slice (some ⟨g, 0, none⟩) n c) n xs) (j : Nat) (hj : j < n * k) : ∃ u, W.cell? ⟨g, j, none⟩ = some u := by
  have h1 := h.1
  exact ⟨xs[j]'(by omega), by rw [h.cellAt j hj]; simp [show j < xs.length by omega]⟩
end Go.Proofs.Ytbijgoaanphojaa
