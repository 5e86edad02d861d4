/-
  Texts of this claim laid together: TlH, TlI.
-/
import Derived.Test.YtabpkfhbnendjaaGreatM17
/-
  Rows of lines; the program's takeOut.
-/
namespace Go.Proofs.YtabpkfhbnendjaaGreat
open Go.ChangeShapes Go.WideShapes Go.ChangeAt Go.RowKit Go.Deep
set_option linter.unusedVariables false

def lnC (l : RLi) : List Value := [.int .i64 l.it, .int .i64 l.ct, .int .i64 l.am, .int .i64 l.dp]
def lnCells (ls : List RLi) : List Value := ls.flatMap lnC
theorem lnCells_length : ∀ ls : List RLi, (lnCells ls).length = ls.length * 4
  | [] => rfl
  | l :: r => by unfold lnCells; rw [List.flatMap_cons, List.length_append, List.length_cons]; have := lnCells_length r; unfold lnCells at this; rw [this]; show 4 + _ = _; omega
theorem lnCells_append (a b : List RLi) : lnCells (a ++ b) = lnCells a ++ lnCells b := by simp [lnCells]
theorem lnCells_one (ls : List RLi) : ∀ u ∈ lnCells ls, u.oneCell' = true := by
  intro u hu
  obtain ⟨l, _, hl⟩ := List.mem_flatMap.1 hu
  unfold lnC at hl
  simp at hl
  rcases hl with rfl | rfl | rfl | rfl <;> rfl
theorem lnCells_take : ∀ (M : List RLi) (k : Nat), lnCells (M.take k) = (lnCells M).take (k * 4)
  | [], k => by simp [lnCells]
  | t :: r, 0 => by simp [lnCells]
  | t :: r, k + 1 => by
    have := lnCells_take r k
    unfold lnCells at this ⊢
    rw [List.take_succ_cons, List.flatMap_cons, List.flatMap_cons, this, show (k + 1) * 4 = k * 4 + 1 + 1 + 1 + 1 by omega]
    rfl
theorem lnCells_drop : ∀ (M : List RLi) (k : Nat), lnCells (M.drop k) = (lnCells M).drop (k * 4)
  | [], k => by simp [lnCells]
  | t :: r, 0 => by simp
  | t :: r, k + 1 => by
    have := lnCells_drop r k
    unfold lnCells at this ⊢
    rw [List.drop_succ_cons, List.flatMap_cons, this, show (k + 1) * 4 = k * 4 + 1 + 1 + 1 + 1 by omega]
    rfl
theorem lnCells_at (ls : List RLi) (i c : Nat) (hi : i < ls.length) (hc : c < 4) : (lnCells ls)[i * 4 + c]? = (lnC (ls.getD i zLi))[c]? := by
  induction ls generalizing i with
  | nil => simp at hi
  | cons l r ih =>
    unfold lnCells
    rw [List.flatMap_cons]
    cases i with
    | zero => rw [Nat.zero_mul, Nat.zero_add, List.getElem?_append_left (by show c < 4; exact hc)]; rfl
    | succ i =>
      have h4 : (lnC l).length = 4 := rfl
      rw [List.getElem?_append_right (by rw [h4]; omega), h4, show (i + 1) * 4 + c - 4 = i * 4 + c by omega]
      have := ih i (by simpa using hi)
      unfold lnCells at this
      rw [this]; rfl
theorem rowLn_reads {w : World} {B : Nat} {g : Option Addr} {cp : Nat} {ls : List RLi} (h : w.ownsRow B 82 4 (.slice g ls.length cp) ls.length (lnCells ls)) : ls.length ≤ cp ∧ ReadsLi w.heap.size w g ls := by
  have h' := h
  rcases h.2 with ⟨e1, e2⟩ | ⟨g', cap, cur, e1, hB, hg, hl, r⟩
  · have e0 : ls.length = 0 := by simpa using e2
    exact ⟨by omega, .inl (List.length_eq_zero_iff.1 e0)⟩
  · simp only [Value.slice.injEq] at e1
    obtain ⟨rfl, _, rfl⟩ := e1
    refine ⟨hl, .inr ⟨g', 0, rfl, blkLt hg, fun i hi => ?_⟩⟩
    have c : ∀ j, j < 4 → ∀ v, (lnC (ls.getD i zLi))[j]? = some v → w.cell? ⟨g', i * 4 + j, none⟩ = some v := fun j hj v hv => by
      rw [h'.cellAt (i * 4 + j) (by omega), lnCells_at ls i j hi hj]; exact hv
    rw [Nat.zero_add]
    exact ⟨c 0 (by omega) _ rfl, c 1 (by omega) _ rfl, c 2 (by omega) _ rfl, c 3 (by omega) _ rfl⟩
theorem row_of {w w' : World} {B : Nat} {e : TypeId} {k : Nat} {v : Value} {n : Nat} {xs : List Value} (h : w.ownsRow B e k v n xs) (hb : ∀ q, v.ownBlock = some q → w'.heap[q]? = w.heap[q]?) : w'.ownsRow B e k v n xs := by
  obtain ⟨h1, h2⟩ := h
  refine ⟨h1, ?_⟩
  rcases h2 with h2 | ⟨g, cap, cur, rfl, hB, hg, r⟩
  · exact .inl h2
  · exact .inr ⟨g, cap, cur, rfl, hB, (hb g rfl).trans hg, r⟩
theorem row_lt {w : World} {B : Nat} {e : TypeId} {k : Nat} {v : Value} {n : Nat} {xs : List Value} (h : w.ownsRow B e k v n xs) (q : Nat) (hq : v.ownBlock = some q) : B ≤ q ∧ q < w.heap.size := h.lt q hq
theorem row_slice {w : World} {B : Nat} {e : TypeId} {k : Nat} {v : Value} {n : Nat} {xs : List Value} (h : w.ownsRow B e k v n xs) : ∃ g cp, v = .slice g n cp := by
  rcases h.2 with ⟨rfl, rfl⟩ | ⟨g, cap, cur, rfl, _⟩
  · exact ⟨_, _, rfl⟩
  · exact ⟨_, _, rfl⟩
set_option maxHeartbeats 4000000 in
set_option maxRecDepth 4000 in
theorem takeOut_any (B rb g cap i : Nat) (V : Array Value) (t : TypeId) (ls : List RLi) (hi : i < ls.length) (hl : ls.length ≤ 100000) (hne : g ≠ rb) (w : World) (hb : w.heap[rb]? = some (.cells V t (0, 0))) (h0 : V[0]? = some (.slice (some ⟨g, 0, none⟩) ls.length cap)) (hr : w.ownsRow B 82 4 (.slice (some ⟨g, 0, none⟩) ls.length cap) ls.length (lnCells ls)) :
    Calls Tryz.prog 45 #[.pointer (some ⟨rb, 0, none⟩), .int .i64 (i : Int)] w fun e w' => e = .returned (.agg #[.int .i64 (ls.getD i zLi).it, .int .i64 (ls.getD i zLi).ct, .int .i64 (ls.getD i zLi).am, .int .i64 (ls.getD i zLi).dp]) ∧ Fr (fun k => k = rb ∨ k = g) w w' ∧ w'.heap[rb]? = some (.cells (V.setIfInBounds 0 (.slice (some ⟨g, 0, none⟩) (ls.length - 1) cap)) t (0, 0)) ∧ w'.ownsRow B 82 4 (.slice (some ⟨g, 0, none⟩) (ls.length - 1) cap) (ls.length - 1) (lnCells (ls.take i ++ ls.drop (i + 1))) := by
  have hgl := row_lt hr g rfl
  obtain ⟨hcp, hrd⟩ := rowLn_reads hr
  rcases hrd with h | ⟨b1, o1, e1, _, hat⟩
  · rw [h] at hi; simp at hi
  simp only [Option.some.injEq, Addr.mk.injEq] at e1
  obtain ⟨rfl, rfl, _⟩ := e1
  obtain ⟨c0, c1, c2, c3⟩ := hat i hi
  rw [Nat.zero_add] at c0 c1 c2 c3
  have HD : Hid (∀ W, W.heap[g]? = w.heap[g]? → Calls Tryz.prog 56 #[.slice (some ⟨g, 0, none⟩) ls.length cap, .int .i64 (i : Int), .int .i64 ((i : Int) + 1)] W fun e w' => e = .returned (.slice (some ⟨g, 0, none⟩) (ls.length - 1) cap) ∧ Fr (fun k => k = g) W w' ∧ w'.ownsRow B 82 4 (.slice (some ⟨g, 0, none⟩) (ls.length - 1) cap) (ls.length - 1) (lnCells (ls.take i ++ ls.drop (i + 1)))) := fun W hW => by
    have := lnDelete_any B g cap ls.length i (lnCells ls) hi (lnCells_one ls) W (row_of hr (fun q hq => by cases hq; exact hW)) (by omega)
    rwa [← lnCells_take, ← lnCells_drop, ← lnCells_append] at this
  have y0 := blkCell hb 0 _ h0
  have z0 := blkFree hb 0
  have hlt := blkLt hb
  have HB : Hid (w.heap[rb]? = some (.cells V t (0, 0))) := hb
  have hi' : (i : Int) < (ls.length : Int) := by omega
  have hw : IntKind.i64.wrap ((i : Int) + 1) = (i : Int) + 1 := wrap_id _ (by omega) (by omega)
  have hg' : g < w.heap.size := hgl.2
  have hV0 := h0
  clear hb h0 hr hat hgl
  generalize ls.getD i zLi = q at *
  obtain ⟨q0, q1, q2, q3⟩ := q
  dsimp only at c0 c1 c2 c3 ⊢
  go_enter Tryz.func45, Tryz.ntmps45
  go_wp2_with fail
  (first | go_at_call 56 | skip)
  have hfr2 : Below w.heap.size w ((w.alloc (Obj.cells #[.int .i64 0, .int .i64 0, .int .i64 0, .int .i64 0] 82)).alloc (Obj.cells #[.int .i64 q0, .int .i64 q1, .int .i64 q2, .int .i64 q3] 82)) := chain (below_alloc _ _) (below_alloc _ _)
  have hr2 : ((w.alloc (Obj.cells #[.int .i64 0, .int .i64 0, .int .i64 0, .int .i64 0] 82)).alloc (Obj.cells #[.int .i64 q0, .int .i64 q1, .int .i64 q2, .int .i64 q3] 82)).heap[w.heap.size]? = some (.cells #[.int .i64 0, .int .i64 0, .int .i64 0, .int .i64 0] 82 (0, 0)) := (Below.heap_alloc _ _ _ (by simp)).trans (heapNew _ _)
  have hl2 : ((w.alloc (Obj.cells #[.int .i64 0, .int .i64 0, .int .i64 0, .int .i64 0] 82)).alloc (Obj.cells #[.int .i64 q0, .int .i64 q1, .int .i64 q2, .int .i64 q3] 82)).heap[w.heap.size + 1]? = some (.cells #[.int .i64 q0, .int .i64 q1, .int .i64 q2, .int .i64 q3] 82 (0, 0)) := by
    have := heapNew (w.alloc (Obj.cells #[.int .i64 0, .int .i64 0, .int .i64 0, .int .i64 0] 82)) (Obj.cells #[.int .i64 q0, .int .i64 q1, .int .i64 q2, .int .i64 q3] 82)
    rwa [show (w.alloc (Obj.cells #[.int .i64 0, .int .i64 0, .int .i64 0, .int .i64 0] 82)).heap.size = w.heap.size + 1 by simp] at this
  generalize ((w.alloc (Obj.cells #[.int .i64 0, .int .i64 0, .int .i64 0, .int .i64 0] 82)).alloc (Obj.cells #[.int .i64 q0, .int .i64 q1, .int .i64 q2, .int .i64 q3] 82)) = W2 at *
  refine (HD.out W2 (hfr2.block g hg')).mono ?_
  rintro e w3 ⟨rfl, fr3, own3⟩
  have hr3 := (fr3.block _ (blkLt hr2) (by show ¬ w.heap.size = g; omega)).trans hr2
  have hl3 := (fr3.block _ (blkLt hl2) (by show ¬ w.heap.size + 1 = g; omega)).trans hl2
  have hb3 : w3.heap[rb]? = some (.cells V t (0, 0)) := (fr3.block rb (Nat.lt_of_lt_of_le hlt hfr2.size) (fun e => hne e.symm)).trans ((hfr2.block rb hlt).trans HB.out)
  have HK : Hid (w3.heap[w.heap.size]? = some (.cells #[.int .i64 0, .int .i64 0, .int .i64 0, .int .i64 0] 82 (0, 0)) ∧ w3.heap[rb]? = some (.cells V t (0, 0)) ∧ Fr (fun k => k = rb ∨ k = g) w w3 ∧ w3.ownsRow B 82 4 (.slice (some ⟨g, 0, none⟩) (ls.length - 1) cap) (ls.length - 1) (lnCells (ls.take i ++ ls.drop (i + 1)))) := ⟨hr3, hb3, (Fr.of hfr2).trans (fr3.mono (fun k hk => .inr hk)), own3⟩
  have a0 := blkCell hl3 0 _ rfl
  have a1 := blkCell hl3 1 _ rfl
  have a2 := blkCell hl3 2 _ rfl
  have a3 := blkCell hl3 3 _ rfl
  have d0 := blkCell hr3 0 _ rfl
  have d1 := blkCell hr3 1 _ rfl
  have d2 := blkCell hr3 2 _ rfl
  have d3 := blkCell hr3 3 _ rfl
  have f0 := blkFree hr3 0
  have f1 := blkFree hr3 1
  have f2 := blkFree hr3 2
  have f3 := blkFree hr3 3
  have r0 := blkCell hb3 0 _ hV0
  have rf := blkFree hb3 0
  have l1 := blkLt hr3
  have l2 := blkLt hl3
  have l3 := blkLt hb3
  have hx1 : ¬ rb = w.heap.size := by omega
  have hx2 : ¬ rb = w.heap.size + 1 := by omega
  clear hr3 hl3 hb3 fr3 own3 hr2 hl2 hfr2 y0 z0 c0 c1 c2 c3
  go_wp2
  have hq := fin4 (W := (w3.setCell ⟨rb, 0, none⟩ (.slice (some ⟨g, 0, none⟩) (ls.length - 1) cap))) (b := w.heap.size) ((Below.heap_setCell _ _ _ _ (by show w.heap.size ≠ rb; omega)).trans HK.out.1) (.int .i64 q0) (.int .i64 q1) (.int .i64 q2) (.int .i64 q3)
  have hv : (((((w3.setCell ⟨rb, 0, none⟩ (.slice (some ⟨g, 0, none⟩) (ls.length - 1) cap)).setCell ⟨w.heap.size, 0, none⟩ (.int .i64 q0)).setCell ⟨w.heap.size, 1, none⟩ (.int .i64 q1)).setCell ⟨w.heap.size, 2, none⟩ (.int .i64 q2)).setCell ⟨w.heap.size, 3, none⟩ (.int .i64 q3)).heap[rb]? = some (.cells (V.setIfInBounds 0 (.slice (some ⟨g, 0, none⟩) (ls.length - 1) cap)) t (0, 0)) := by
    rw [Below.heap_setCell _ _ _ _ hx1, Below.heap_setCell _ _ _ _ hx1, Below.heap_setCell _ _ _ _ hx1, Below.heap_setCell _ _ _ _ hx1]
    exact heap_setCell_same _ _ 0 _ _ _ HK.out.2.1
  have hfr : Fr (fun k => k = rb ∨ k = g) w (((((w3.setCell ⟨rb, 0, none⟩ (.slice (some ⟨g, 0, none⟩) (ls.length - 1) cap)).setCell ⟨w.heap.size, 0, none⟩ (.int .i64 q0)).setCell ⟨w.heap.size, 1, none⟩ (.int .i64 q1)).setCell ⟨w.heap.size, 2, none⟩ (.int .i64 q2)).setCell ⟨w.heap.size, 3, none⟩ (.int .i64 q3)) := ((((HK.out.2.2.1.set (b := rb) (.inl rfl) _ _).setNew (Nat.le_refl _) _ _).setNew (Nat.le_refl _) _ _).setNew (Nat.le_refl _) _ _).setNew (Nat.le_refl _) _ _
  have hown : (((((w3.setCell ⟨rb, 0, none⟩ (.slice (some ⟨g, 0, none⟩) (ls.length - 1) cap)).setCell ⟨w.heap.size, 0, none⟩ (.int .i64 q0)).setCell ⟨w.heap.size, 1, none⟩ (.int .i64 q1)).setCell ⟨w.heap.size, 2, none⟩ (.int .i64 q2)).setCell ⟨w.heap.size, 3, none⟩ (.int .i64 q3)).ownsRow B 82 4 (.slice (some ⟨g, 0, none⟩) (ls.length - 1) cap) (ls.length - 1) (lnCells (ls.take i ++ ls.drop (i + 1))) := row_of HK.out.2.2.2 (fun q hq => by
    cases hq
    have hg2 : ¬ g = w.heap.size := by omega
    rw [Below.heap_setCell _ _ _ _ hg2, Below.heap_setCell _ _ _ _ hg2, Below.heap_setCell _ _ _ _ hg2, Below.heap_setCell _ _ _ _ hg2, Below.heap_setCell _ _ _ _ hne])
  generalize (((((w3.setCell ⟨rb, 0, none⟩ (.slice (some ⟨g, 0, none⟩) (ls.length - 1) cap)).setCell ⟨w.heap.size, 0, none⟩ (.int .i64 q0)).setCell ⟨w.heap.size, 1, none⟩ (.int .i64 q1)).setCell ⟨w.heap.size, 2, none⟩ (.int .i64 q2)).setCell ⟨w.heap.size, 3, none⟩ (.int .i64 q3)) = W5 at *
  have p0 := blkCell hq 0 _ rfl
  have p1 := blkCell hq 1 _ rfl
  have p2 := blkCell hq 2 _ rfl
  have p3 := blkCell hq 3 _ rfl
  exact bodyPost_ret (v := .agg #[.int .i64 q0, .int .i64 q1, .int .i64 q2, .int .i64 q3]) (by simp [results, Tryz.results45, go_sem, p0, p1, p2, p3]) rfl ⟨rfl, hfr, hv, hown⟩
end Go.Proofs.YtabpkfhbnendjaaGreat

/-
  The register in memory; what classes and deposits have behind a sale.
-/
namespace Go.Proofs.YtabpkfhbnendjaaGreat
open Go.ChangeShapes Go.WideShapes Go.ChangeAt Go.RowKit Go.Deep
set_option linter.unusedVariables false

/-- The cells of a register. -/
def regC (lv : Value) (sh : Int) (iv kv : Value) (sl tk dp : Int) (cs : List Int) : Array Value := ([lv, .int .i64 sh, iv, kv, .int .i64 sl, .int .i64 tk, .int .i64 dp] ++ cs.map (Value.int .i64)).toArray
theorem regC_cl (lv : Value) (sh : Int) (iv kv : Value) (sl tk dp : Int) (cs : List Int) (j : Nat) (h : j < cs.length) : (regC lv sh iv kv sl tk dp cs)[7 + j]? = some (.int .i64 (cs.getD j 0)) := by
  unfold regC
  rw [List.getElem?_toArray, List.getElem?_append_right (by simp)]
  simp [List.getD_eq_getElem?_getD, h]
theorem regC_set0 (lv : Value) (sh : Int) (iv kv : Value) (sl tk dp : Int) (cs : List Int) (v : Value) : (regC lv sh iv kv sl tk dp cs).setIfInBounds 0 v = regC v sh iv kv sl tk dp cs := by simp [regC]
theorem regC_set1 (lv : Value) (sh : Int) (iv kv : Value) (sl tk dp : Int) (cs : List Int) (x : Int) : (regC lv sh iv kv sl tk dp cs).setIfInBounds 1 (.int .i64 x) = regC lv x iv kv sl tk dp cs := by simp [regC]
theorem regC_set3 (lv : Value) (sh : Int) (iv kv : Value) (sl tk dp : Int) (cs : List Int) (v : Value) : (regC lv sh iv kv sl tk dp cs).setIfInBounds 3 v = regC lv sh iv v sl tk dp cs := by simp [regC]
theorem regC_set4 (lv : Value) (sh : Int) (iv kv : Value) (sl tk dp : Int) (cs : List Int) (x : Int) : (regC lv sh iv kv sl tk dp cs).setIfInBounds 4 (.int .i64 x) = regC lv sh iv kv x tk dp cs := by simp [regC]
theorem regC_set5 (lv : Value) (sh : Int) (iv kv : Value) (sl tk dp : Int) (cs : List Int) (x : Int) : (regC lv sh iv kv sl tk dp cs).setIfInBounds 5 (.int .i64 x) = regC lv sh iv kv sl x dp cs := by simp [regC]
theorem regC_set6 (lv : Value) (sh : Int) (iv kv : Value) (sl tk dp : Int) (cs : List Int) (x : Int) : (regC lv sh iv kv sl tk dp cs).setIfInBounds 6 (.int .i64 x) = regC lv sh iv kv sl tk x cs := by simp [regC]
theorem regC_set7 (lv : Value) (sh : Int) (iv kv : Value) (sl tk dp : Int) (cs : List Int) (j : Nat) (x : Int) : (regC lv sh iv kv sl tk dp cs).setIfInBounds (7 + j) (.int .i64 x) = regC lv sh iv kv sl tk dp (cs.set j x) := by
  unfold regC
  rw [List.setIfInBounds_toArray, List.set_append_right _ _ (by simp)]
  simp [List.map_set]
/-- Block rb is a register. -/
def RegIs (W : World) (rb : Nat) (lv : Value) (sh : Int) (iv kv : Value) (sl tk dp : Int) (cs : List Int) : Prop := W.heap[rb]? = some (.cells (regC lv sh iv kv sl tk dp cs) 51 (0, 0))
theorem RegIs.cells {W : World} {rb : Nat} {lv : Value} {sh : Int} {iv kv : Value} {sl tk dp : Int} {cs : List Int} (h : RegIs W rb lv sh iv kv sl tk dp cs) :
    W.cell? ⟨rb, 0, none⟩ = some lv ∧ W.cell? ⟨rb, 1, none⟩ = some (.int .i64 sh) ∧ W.cell? ⟨rb, 2, none⟩ = some iv ∧ W.cell? ⟨rb, 3, none⟩ = some kv ∧ W.cell? ⟨rb, 4, none⟩ = some (.int .i64 sl) ∧ W.cell? ⟨rb, 5, none⟩ = some (.int .i64 tk) ∧ W.cell? ⟨rb, 6, none⟩ = some (.int .i64 dp) :=
  ⟨blkCell h 0 _ rfl, blkCell h 1 _ rfl, blkCell h 2 _ rfl, blkCell h 3 _ rfl, blkCell h 4 _ rfl, blkCell h 5 _ rfl, blkCell h 6 _ rfl⟩
theorem RegIs.class {W : World} {rb : Nat} {lv : Value} {sh : Int} {iv kv : Value} {sl tk dp : Int} {cs : List Int} (h : RegIs W rb lv sh iv kv sl tk dp cs) (j : Nat) (hj : j < cs.length) : W.cell? ⟨rb, 7 + j, none⟩ = some (.int .i64 (cs.getD j 0)) := blkCell h _ _ (regC_cl _ _ _ _ _ _ _ _ j hj)
theorem RegIs.free {W : World} {rb : Nat} {lv : Value} {sh : Int} {iv kv : Value} {sl tk dp : Int} {cs : List Int} (h : RegIs W rb lv sh iv kv sl tk dp cs) (j : Nat) : W.frozen? ⟨rb, j, none⟩ = false := blkFree h j
theorem RegIs.lt {W : World} {rb : Nat} {lv : Value} {sh : Int} {iv kv : Value} {sl tk dp : Int} {cs : List Int} (h : RegIs W rb lv sh iv kv sl tk dp cs) : rb < W.heap.size := blkLt h
theorem RegIs.later {W W' : World} {rb : Nat} {lv : Value} {sh : Int} {iv kv : Value} {sl tk dp : Int} {cs : List Int} (h : RegIs W rb lv sh iv kv sl tk dp cs) (hb : Below W.heap.size W W') : RegIs W' rb lv sh iv kv sl tk dp cs := (hb.block rb h.lt).trans h
theorem RegIs.set0 {W : World} {rb : Nat} {lv : Value} {sh : Int} {iv kv : Value} {sl tk dp : Int} {cs : List Int} (h : RegIs W rb lv sh iv kv sl tk dp cs) (v : Value) : RegIs (W.setCell ⟨rb, 0, none⟩ v) rb v sh iv kv sl tk dp cs := by
  have := heap_setCell_same W rb 0 _ _ v h; rwa [regC_set0] at this
theorem RegIs.set1 {W : World} {rb : Nat} {lv : Value} {sh : Int} {iv kv : Value} {sl tk dp : Int} {cs : List Int} (h : RegIs W rb lv sh iv kv sl tk dp cs) (x : Int) : RegIs (W.setCell ⟨rb, 1, none⟩ (.int .i64 x)) rb lv x iv kv sl tk dp cs := by
  have := heap_setCell_same W rb 1 _ _ (.int .i64 x) h; rwa [regC_set1] at this
theorem RegIs.set3 {W : World} {rb : Nat} {lv : Value} {sh : Int} {iv kv : Value} {sl tk dp : Int} {cs : List Int} (h : RegIs W rb lv sh iv kv sl tk dp cs) (v : Value) : RegIs (W.setCell ⟨rb, 3, none⟩ v) rb lv sh iv v sl tk dp cs := by
  have := heap_setCell_same W rb 3 _ _ v h; rwa [regC_set3] at this
theorem RegIs.set4 {W : World} {rb : Nat} {lv : Value} {sh : Int} {iv kv : Value} {sl tk dp : Int} {cs : List Int} (h : RegIs W rb lv sh iv kv sl tk dp cs) (x : Int) : RegIs (W.setCell ⟨rb, 4, none⟩ (.int .i64 x)) rb lv sh iv kv x tk dp cs := by
  have := heap_setCell_same W rb 4 _ _ (.int .i64 x) h; rwa [regC_set4] at this
theorem RegIs.set5 {W : World} {rb : Nat} {lv : Value} {sh : Int} {iv kv : Value} {sl tk dp : Int} {cs : List Int} (h : RegIs W rb lv sh iv kv sl tk dp cs) (x : Int) : RegIs (W.setCell ⟨rb, 5, none⟩ (.int .i64 x)) rb lv sh iv kv sl x dp cs := by
  have := heap_setCell_same W rb 5 _ _ (.int .i64 x) h; rwa [regC_set5] at this
theorem RegIs.set6 {W : World} {rb : Nat} {lv : Value} {sh : Int} {iv kv : Value} {sl tk dp : Int} {cs : List Int} (h : RegIs W rb lv sh iv kv sl tk dp cs) (x : Int) : RegIs (W.setCell ⟨rb, 6, none⟩ (.int .i64 x)) rb lv sh iv kv sl tk x cs := by
  have := heap_setCell_same W rb 6 _ _ (.int .i64 x) h; rwa [regC_set6] at this
theorem RegIs.set7 {W : World} {rb : Nat} {lv : Value} {sh : Int} {iv kv : Value} {sl tk dp : Int} {cs : List Int} (h : RegIs W rb lv sh iv kv sl tk dp cs) (j : Nat) (x : Int) : RegIs (W.setCell ⟨rb, 7 + j, none⟩ (.int .i64 x)) rb lv sh iv kv sl tk dp (cs.set j x) := by
  have := heap_setCell_same W rb (7 + j) _ _ (.int .i64 x) h; rwa [regC_set7] at this
/-- The class of a line's item, from 0 on. -/
def clN (its : List RIt) (l : RLi) : Nat := ((its.getD l.it.toNat zIt).cl - 1).toNat
def addCl (its : List RIt) (cs : List Int) (l : RLi) : List Int := cs.set (clN its l) (cs.getD (clN its l) 0 + l.am)
def clsM (its : List RIt) (cs : List Int) (ls : List RLi) : List Int := ls.foldl (addCl its) cs
def depM (dp : Int) (ls : List RLi) : Int := ls.foldl (fun d l => d + l.dp) dp
theorem clsM_next (its : List RIt) (cs : List Int) (ls : List RLi) (k : Nat) (h : k < ls.length) : clsM its cs (ls.take (k + 1)) = addCl its (clsM its cs (ls.take k)) (ls.getD k zLi) := by
  have e : ls.getD k zLi = ls[k] := by simp [List.getD_eq_getElem?_getD, h]
  unfold clsM
  rw [List.take_succ_eq_append_getElem h, List.foldl_append, e]; rfl
theorem depM_next (dp : Int) (ls : List RLi) (k : Nat) (h : k < ls.length) : depM dp (ls.take (k + 1)) = depM dp (ls.take k) + (ls.getD k zLi).dp := by
  have e : ls.getD k zLi = ls[k] := by simp [List.getD_eq_getElem?_getD, h]
  unfold depM
  rw [List.take_succ_eq_append_getElem h, List.foldl_append, e]; rfl
def CsB (cs : List Int) (M : Int) : Prop := cs.length = 9 ∧ ∀ c ∈ cs, 0 ≤ c ∧ c ≤ M
theorem CsB.get {cs : List Int} {M : Int} (h : CsB cs M) (j : Nat) (hj : j < 9) : 0 ≤ cs.getD j 0 ∧ cs.getD j 0 ≤ M := by
  have hl : j < cs.length := by rw [h.1]; exact hj
  have e : cs.getD j 0 = cs[j] := by simp [List.getD_eq_getElem?_getD, hl]
  rw [e]; exact h.2 _ (List.getElem_mem hl)
theorem CsB.add {its : List RIt} {cs : List Int} {M : Int} (h : CsB cs M) (l : RLi) (hl : LiN l) (hj : clN its l < 9) : CsB (addCl its cs l) (M + 1000000000) := by
  have hg := h.get _ hj
  obtain ⟨n1, n2, n3, n4⟩ := hl
  refine ⟨by unfold addCl; rw [List.length_set]; exact h.1, fun c hc => ?_⟩
  unfold addCl at hc
  rcases List.mem_or_eq_of_mem_set hc with q | q
  · have := h.2 c q; omega
  · rw [q]; omega
/-- A line of one of the items. -/
def LiI (its : List RIt) (l : RLi) : Prop := LiN l ∧ 0 ≤ l.it ∧ l.it < (its.length : Int)
theorem clN_lt {its : List RIt} (hok : ∀ r ∈ its, ItN r) {l : RLi} (h : LiI its l) : clN its l < 9 ∧ ((clN its l : Nat) : Int) = (its.getD l.it.toNat zIt).cl - 1 := by
  have hl : l.it.toNat < its.length := by have := h.2; omega
  obtain ⟨_, _, ⟨k1, k2⟩, _⟩ := getIt hok hl
  unfold clN
  omega
theorem clsM_B {its : List RIt} (hok : ∀ r ∈ its, ItN r) {cs : List Int} {M : Int} (h : CsB cs M) (ls : List RLi) (hl : ∀ l ∈ ls, LiI its l) : ∀ k, k ≤ ls.length → CsB (clsM its cs (ls.take k)) (M + 1000000000 * (k : Int))
  | 0, _ => by simpa [clsM] using h
  | k + 1, hk => by
    have ih := clsM_B hok h ls hl k (by omega)
    rw [clsM_next its cs ls k (by omega)]
    have hq := getLi hl (show k < ls.length by omega)
    have := ih.add (its := its) _ hq.1 (clN_lt hok hq).1
    rwa [show M + 1000000000 * ((k : Nat) : Int) + 1000000000 = M + 1000000000 * ((k + 1 : Nat) : Int) by push_cast; omega] at this
theorem depM_B {ls : List RLi} (hl : ∀ l ∈ ls, LiN l) (dp : Int) : ∀ k, k ≤ ls.length → dp ≤ depM dp (ls.take k) ∧ depM dp (ls.take k) ≤ dp + 1000000000 * (k : Int)
  | 0, _ => by simp [depM]
  | k + 1, hk => by
    have ih := depM_B hl dp k (by omega)
    rw [depM_next dp ls k (by omega)]
    obtain ⟨n1, n2, n3, n4⟩ := getLi hl (show k < ls.length by omega)
    push_cast
    omega
end Go.Proofs.YtabpkfhbnendjaaGreat
