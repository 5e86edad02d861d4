/-
  slices.Index and slices.Delete over keys; the program's leave.
-/
import Derived.Test.YtlfcaijhlgldnaaKmI
import Derived.Test.YtlfcaijhlgldnaaKmJ
import Derived.Lib.SliceRun
import Derived.Deep.RegionLaw
namespace Go.Proofs.Ytlfcaijhlgldnaa
open Go.ChangeShapes Go.WideShapes Go.ChangeAt Go.RowKit Go.Deep
set_option linter.unusedVariables false

def setL (cur : Array Value) : Nat → List Value → Array Value
  | _, [] => cur
  | o, v :: vs => setL (cur.setIfInBounds o v) (o + 1) vs
theorem setL_size : ∀ (vs : List Value) (cur : Array Value) (o : Nat), (setL cur o vs).size = cur.size
  | [], _, _ => rfl
  | v :: vs, cur, o => by rw [setL, setL_size vs]; simp
theorem setL_list : ∀ (cur : Array Value) (o : Nat) (vs : List Value), o + vs.length ≤ cur.size → (setL cur o vs).toList = cur.toList.take o ++ vs ++ cur.toList.drop (o + vs.length)
  | cur, o, [], h => by simp [setL]
  | cur, o, v :: vs, h => by
    rw [List.length_cons] at h
    rw [setL, setL_list (cur.setIfInBounds o v) (o + 1) vs (by simp; omega)]
    have hl : o < cur.toList.length := by rw [Array.length_toList]; omega
    rw [Array.toList_setIfInBounds, List.take_set, List.drop_set]
    rw [if_pos (by omega), List.take_succ_eq_append_getElem hl, List.set_append_right _ _ (by rw [List.length_take]; omega)]
    rw [List.length_take, Nat.min_eq_left (by omega), Nat.sub_self]
    simp [List.length_cons]
    congr 1
    omega
theorem heap_setCells (g : Nat) : ∀ (vs : List Value) (o : Nat) (w : World) (cur : Array Value) (t : TypeId), w.heap[g]? = some (.cells cur t (0, 0)) → (w.setCells g o vs).heap[g]? = some (.cells (setL cur o vs) t (0, 0))
  | [], _, _, _, _, h => h
  | v :: vs, o, w, cur, t, h => heap_setCells g vs (o + 1) (w.setCell ⟨g, o, none⟩ v) _ t (heap_setCell_same w g o cur t v h)
theorem Fr.setCells {X : Nat → Prop} {w : World} {b : Nat} (hb : X b) : ∀ (vs : List Value) (o : Nat) {w' : World}, Fr X w w' → Fr X w (w'.setCells b o vs)
  | [], _, _, h => h
  | v :: vs, o, _, h => Fr.setCells hb vs (o + 1) (h.set hb o v)
theorem clear_one {P : Program} (w : World) (t e ty : TypeId) (zs : Array Value) (ht : P.underlying t = some (.slice e)) (hv : ∀ w, (zeroValue e).run P w = .ok (.agg zs) w) (b o c : Nat) (hz : 0 < zs.size) (h1 : zs.all (·.oneCell') = true)
    (hc : ∀ j, j < zs.size → (w.cell? ⟨b, o + j, none⟩).isSome = true) (hf : ∀ j, j < zs.size → w.frozen? ⟨b, o + j, none⟩ = false) :
    (Builtin.clear_ #[t] ty #[.slice (some ⟨b, o, none⟩) 1 c]).run P w = .ok (.tuple #[]) (w.setCells b o zs.toList) := by
  have hzc : (Builtin.zeroCells (Value.agg zs).cells 1).toList = zs.toList := by
    have e : (Value.agg zs).cells = zs := rfl
    rw [e]
    simp [Builtin.zeroCells]
    apply List.ext_getElem
    · simp
    · intro i h1 h2
      have hi : i < zs.size := by simpa using h2
      simp [Nat.mod_eq_of_lt hi, hi]
  have hst := run_storeCells_cells (P := P) b o zs.toList 0 w (by simpa using hc) (by simpa using hf) (fun v hv' => by
    rw [Array.all_eq_true_iff_forall_mem] at h1
    exact h1 v (by simpa using hv'))
  simp only [Nat.add_zero] at hst
  simp [Builtin.clear_, run_underlying ht, hv, hzc, hst]
theorem lkZero (w : World) : (zeroValue 82).run Try.prog w = .ok (.agg #[.string ⟨#[]⟩, .int .i64 0]) w := by kernel_rfl
set_option maxHeartbeats 4000000 in
set_option maxRecDepth 8000 in
/-- slices.Delete of one element, in place. -/
theorem kyDelete_any (B g cap n i : Nat) (xs : List Value) (hi : i < n) (hone : ∀ u ∈ xs, u.oneCell' = true) (w : World) (h : w.ownsRow B 82 2 (.slice (some ⟨g, 0, none⟩) n cap) n xs) (hn : n ≤ 100000000) :
    Calls Try.prog 74 #[.slice (some ⟨g, 0, none⟩) n cap, .int .i64 (i : Int), .int .i64 ((i : Int) + 1)] w fun e w' => e = .returned (.slice (some ⟨g, 0, none⟩) (n - 1) cap) ∧ Fr (fun k => k = g) w w' ∧ w'.ownsRow B 82 2 (.slice (some ⟨g, 0, none⟩) (n - 1) cap) (n - 1) (xs.take (i * 2) ++ xs.drop ((i + 1) * 2)) := by
  obtain ⟨i0, hi0, hzz⟩ := Option.map_eq_some_iff.1 lkInfo
  simp only [Prod.mk.injEq] at hzz
  obtain ⟨hj0, hj1, hj2⟩ := hzz
  obtain ⟨hlen, hf⟩ := h
  obtain ⟨hB, cur, hg, hc, hm, hcs, htk⟩ : B ≤ g ∧ ∃ cur, w.heap[g]? = some (.cells cur 82 (0, 0)) ∧ n ≤ cap ∧ cap ≤ maxLen ∧ cur.size = cap * 2 ∧ cur.toList.take (n * 2) = xs := by
    rcases hf with ⟨q, _⟩ | ⟨g', cap', cur, q, h1, h2, h3, h4, h5, h6⟩
    · simp at q
    · simp only [Value.slice.injEq, Option.some.injEq, Addr.mk.injEq] at q
      obtain ⟨⟨rfl, _⟩, _, rfl⟩ := q
      exact ⟨h1, cur, h2, h3, h4, h5, h6⟩
  clear hf
  unfold maxLen at hm
  obtain ⟨news, hnews⟩ : ∃ news, news = xs.drop ((i + 1) * 2) := ⟨_, rfl⟩
  have hnl : news.length = (n - (i + 1)) * 2 := by rw [hnews, List.length_drop, hlen]; omega
  have hcl : cur.toList.length = cap * 2 := by rw [Array.length_toList]; exact hcs
  have hcell : ∀ (W : World), W.heap[g]? = w.heap[g]? → ∀ j u, xs[j]? = some u → W.cell? ⟨g, j, none⟩ = some u := fun W hW j u hu => by
    refine blkCell (hW.trans hg) j u ?_
    rw [← htk] at hu
    have hj := (List.getElem?_eq_some_iff.1 hu).1
    rw [List.length_take] at hj
    rw [List.getElem?_take_of_lt (by omega)] at hu
    rw [← Array.getElem?_toList]; exact hu
  have hfree : ∀ j, w.drew.frozen? ⟨g, j, none⟩ = false := fun j => blkFree (W := w.drew) hg j
  have hsome : ∀ j, j < n * 2 → (w.drew.cell? ⟨g, j, none⟩).isSome = true := fun j hj => by
    have hx : j < xs.length := by rw [hlen]; exact hj
    rw [hcell w.drew rfl j xs[j] (List.getElem?_eq_getElem hx)]; rfl
  obtain ⟨o8, ho8⟩ : ∃ o8 : Nat, o8 = if cap = i + 1 then 0 else (i + 1) * 2 := ⟨_, rfl⟩
  have hof : (if cap = i + 1 then (some (⟨g, 0, none⟩ : Addr)) else some ⟨g, (i + 1) * 2, none⟩) = some ⟨g, o8, none⟩ := by rw [ho8]; split <;> rfl
  have S1 : Hid (∀ t u, news[t]? = some u → w.drew.cell? ((⟨g, o8, none⟩ : Addr).add t) = some u) := fun t u hu => by
    have ht := (List.getElem?_eq_some_iff.1 hu).1
    rw [Go.WideShapes.add_plain]
    rw [hnl] at ht
    rw [hnews, List.getElem?_drop] at hu
    rw [ho8, if_neg (by omega)]
    exact hcell w.drew rfl _ u hu
  have S2 : Hid (∀ u ∈ news, u.oneCell' = true) := fun u hu => hone u (by rw [hnews] at hu; exact List.mem_of_mem_drop hu)
  have S3 : Hid (∀ t, t < news.length → (w.drew.cell? ⟨g, 0 + i * 2 + t, none⟩).isSome = true ∧ w.drew.frozen? ⟨g, 0 + i * 2 + t, none⟩ = false) := fun t ht => by
    rw [hnl] at ht
    exact ⟨hsome _ (by omega), hfree _⟩
  have S4 : Hid (news.length = (n - (i + 1)) * 2) := hnl
  obtain ⟨W1, hW1⟩ : ∃ W1, W1 = w.drew.setCells g (0 + i * 2) news := ⟨_, rfl⟩
  have hg1 : W1.heap[g]? = some (.cells (setL cur (i * 2) news) 82 (0, 0)) := by rw [hW1, Nat.zero_add]; exact heap_setCells g news (i * 2) w.drew cur _ hg
  have hF1 : Fr (fun k => k = g) w W1 := by rw [hW1]; exact Fr.setCells (X := fun k => k = g) (b := g) rfl news _ (Fr.of (below_drew w))
  have hs1 : (setL cur (i * 2) news).size = cap * 2 := by rw [setL_size]; exact hcs
  have hclr : ∀ ty c, (Builtin.clear_ #[55] ty #[.slice (some ⟨g, (n - 1) * 2, none⟩) 1 c]).run Try.prog W1 = .ok (.tuple #[]) (W1.setCells g ((n - 1) * 2) [.string ⟨#[]⟩, .int .i64 0]) := fun ty c =>
    clear_one W1 55 82 ty #[.string ⟨#[]⟩, .int .i64 0] Try.underlying55 lkZero g _ c (by decide) (by simp [Value.oneCell']) (fun j hj => by
      have hj' : j < 2 := hj
      have hx : (n - 1) * 2 + j < (setL cur (i * 2) news).size := by rw [hs1]; omega
      rw [blkCell hg1 _ _ (Array.getElem?_eq_getElem hx)]; rfl) (fun j hj => blkFree hg1 _)
  have HR : Hid (Fr (fun k => k = g) w (W1.setCells g ((n - 1) * 2) [.string ⟨#[]⟩, .int .i64 0]) ∧ (W1.setCells g ((n - 1) * 2) [.string ⟨#[]⟩, .int .i64 0]).ownsRow B 82 2 (.slice (some ⟨g, 0, none⟩) (n - 1) cap) (n - 1) (xs.take (i * 2) ++ xs.drop ((i + 1) * 2))) := by
    refine ⟨Fr.setCells (X := fun k => k = g) (b := g) rfl _ _ hF1, ?_, .inr ⟨g, cap, _, rfl, hB, heap_setCells g [.string ⟨#[]⟩, .int .i64 0] ((n - 1) * 2) W1 _ _ hg1, by omega, by unfold maxLen; omega, by rw [setL_size]; exact hs1, ?_⟩⟩
    · rw [← hnews, List.length_append, List.length_take, hnl, hlen]; omega
    · rw [setL_list _ _ _ (by rw [hs1]; simp; omega), setL_list _ _ _ (by rw [hnl, hcs]; omega)]
      have e1 : cur.toList.take (i * 2) = xs.take (i * 2) := by rw [← htk, List.take_take]; congr 1; omega
      rw [e1, ← hnews]
      have e2 : (xs.take (i * 2) ++ news).length = (n - 1) * 2 := by rw [List.length_append, List.length_take, hnl, hlen]; omega
      generalize xs.take (i * 2) ++ news = X at *
      rw [List.take_left' e2, List.append_assoc, List.take_left' e2]
  have hW : Hid (W1 = w.drew.setCells g (0 + i * 2) news) := hW1
  have hi1 : i + 1 ≤ n := by omega
  have hic : i ≤ cap := by omega
  have hne : ((i : Int) == (i : Int) + 1) = false := by simp; omega
  have hn1 : i + (n - (i + 1)) = n - 1 := by omega
  have hq1 : (i : Int) + 1 ≤ (n : Int) := by omega
  have hq2 : (0 : Int) ≤ (i : Int) + 1 := by omega
  have hq3 : ¬ ((i : Int) + 1 < 0) := by omega
  have hq4 : (i : Int) ≤ (i : Int) + 1 := by omega
  have hnc : n ≤ cap := hc
  have hn0 : n - (n - 1) = 1 := by omega
  have hn2 : n - 1 ≤ n := by omega
  have hn3 : n - 1 ≤ cap := by omega
  have hn4 : ¬ cap = n - 1 := by omega
  clear hg1 hF1 hs1 hW1 hcell hfree hsome hnews hnl hcl hlen hcs htk hg ho8
  go_enter Try.func74, Try.ntmps74
  go_wp2_with fail
  go_region_law (refine step_append_room rfl (.tmp 22) (.tmp 25) 55 rfl 82 i0 2 Try.underlying55 hi0 hj1 g 0 i cap (by simp [Act.eval, Act.put]) ⟨g, o8, none⟩ (n - (i + 1)) (cap - (i + 1)) news (by simp [Act.eval, Act.put]) S4.out S1.out S2.out (by omega) S3.out ?_; rw [← hW.out])
  go_wp2
  go_ret
  exact ⟨rfl, HR.out⟩
theorem lkPart0 (u v : Value) (w : World) : (part 9 #[u, v] 0).run Try.prog w = .ok u w := by kernel_rfl
theorem lkPart1 (u v : Value) (w : World) : (part 3 #[u, v] 1).run Try.prog w = .ok v w := by kernel_rfl
theorem eqKey (a b : ByteArray) (x y : Int) (w : World) : (binOp .eql 82 (.agg #[.string a, .int .i64 x]) (.agg #[.string b, .int .i64 y])).run Try.prog w = .ok (.bool ((a.toList == b.toList) && (x == y))) w := by
  rw [run_eql_struct, show (10000 : Nat) = 9998 + 1 + 1 from rfl, run_equalIn_struct w (9998 + 1) 82 _ _ (by kernel_rfl) (by kernel_rfl)]
  simp only [Program.fieldsOf, Try.underlying82]
  simp only [Op.eqFields]
  simp [lkPart0, lkPart1, run_equalIn_string w 9998 9 a b Try.underlying9, run_equalIn_int w 9998 3 .i64 .i64 x y Try.underlying3, Result.andThen]
  by_cases h1 : a.toList = b.toList <;> by_cases h2 : x = y <;> simp [h1, h2]
set_option maxHeartbeats 4000000 in
theorem kyIndex_any {B g c : Nat} (L : List RSl) (hl : L.length ≤ 1000) (hd : Dst L) {i : Nat} (hi : i < L.length) (w : World) (hr : w.ownsRow B 82 2 (.slice (some ⟨g, 0, none⟩) L.length c) L.length (kyCells L)) :
    Calls Try.prog 73 #[.slice (some ⟨g, 0, none⟩) L.length c, .agg #[.string (gl L i).ar, .int .i64 (gl L i).lt]] w fun e w' => e = .returned (.int .i64 (i : Int)) ∧ Below w.heap.size w w' := by
  have HK : Hid (∀ W, Below w.heap.size w W → ∀ k, k < L.length → W.cell? ⟨g, k * 2, none⟩ = some (.string (gl L k).ar) ∧ W.cell? ⟨g, k * 2 + 1, none⟩ = some (.int .i64 (gl L k).lt)) := fun W hW k hk => row_ky (row_of hr (fun q hq => hW.block q (row_lt hr q hq).2)) hk
  have HE : Hid (∀ k, k < L.length → ∀ W, (binOp .eql 82 (.agg #[.string (gl L i).ar, .int .i64 (gl L i).lt]) (.agg #[.string (gl L k).ar, .int .i64 (gl L k).lt])).run Try.prog W = .ok (.bool (decide (k = i))) W) := fun k hk W => by
    rw [eqKey]
    congr 2
    rw [bytesEq, Bool.eq_iff_iff, Bool.and_eq_true, decide_eq_true_iff, decide_eq_true_iff, beq_iff_eq]
    exact ⟨fun q => (hd i k hi hk q.1 q.2).symm, fun q => by rw [q]; exact ⟨rfl, rfl⟩⟩
  obtain ⟨⟨a0, a1, a2, a3, a4⟩, hir⟩ : ∃ r, gl L i = r := ⟨_, rfl⟩
  rw [hir] at HE ⊢
  dsimp only at HE ⊢
  obtain ⟨W1, hW1⟩ : ∃ W1, W1 = w.alloc (Obj.cells #[.string a0, .int .i64 a1] 82) := ⟨_, rfl⟩
  have H1 : Hid (Below w.heap.size w W1 ∧ W1.heap[w.heap.size]? = some (.cells #[.string a0, .int .i64 a1] 82 (0, 0))) := by rw [hW1]; exact ⟨below_alloc _ _, heapNew _ _⟩
  clear hr hd hir
  go_enter Try.func73, Try.ntmps73
  go_wp2
  rw [← hW1]
  clear hW1
  go_loopw [5, 8] (fun _ x wr => ∃ k : Nat, k ≤ i ∧ x = .int .i64 (k : Int) ∧ Below w.heap.size w wr ∧ wr.heap[w.heap.size]? = some (.cells #[.string a0, .int .i64 a1] 82 (0, 0))) (fun _ x _ => L.length - (intOf x).toNat)
  case atStart => exact ⟨0, Nat.zero_le _, rfl, H1.out⟩
  case round =>
    obtain ⟨k, hk, rfl, hb, hz⟩ := hrel
    have HS : Hid (Below w.heap.size w wr ∧ wr.heap[w.heap.size]? = some (.cells #[.string a0, .int .i64 a1] 82 (0, 0))) := ⟨hb, hz⟩
    clear hb hz H1
    have hlt : k < L.length := by omega
    have hlt' : (k : Int) < (L.length : Int) := by omega
    have HQ : Hid (∀ W, Below wr.heap.size wr W → Below w.heap.size w W ∧ W.heap[w.heap.size]? = some (.cells #[.string a0, .int .i64 a1] 82 (0, 0)) ∧ W.cell? ⟨g, k * 2, none⟩ = some (.string (gl L k).ar) ∧ W.cell? ⟨g, k * 2 + 1, none⟩ = some (.int .i64 (gl L k).lt)) := fun W hW => ⟨chain HS.out.1 hW, (hW.block _ (blkLt HS.out.2)).trans HS.out.2, HK.out W (chain HS.out.1 hW) k hlt⟩
    have HEk : Hid (∀ W, (binOp .eql 82 (.agg #[.string a0, .int .i64 a1]) (.agg #[.string (gl L k).ar, .int .i64 (gl L k).lt])).run Try.prog W = .ok (.bool (decide (k = i))) W) := HE.out k hlt
    generalize gl L k = r at *
    obtain ⟨b0, b1, b2, b3, b4⟩ := r
    dsimp only at HQ HEk
    clear HE HK
    go_wp2_with fail
    refine wp_region_held_drew (S := fun W => Below wr.heap.size wr W) (by kernel_rfl) (below_drew _) (fun hH => ?_)
    refine wpAnyH_take (i := 0) (v := .agg #[.string a0, .int .i64 a1]) rfl (by kernel_rfl) (by kernel_rfl) (by kernel_rfl) (fun _ _ _ h => h) (Or.inl ⟨by rfl, fun w hSw => by have f0 := blkCell (HQ.out w hSw).2.1 0 _ rfl; have f1 := blkCell (HQ.out w hSw).2.1 1 _ rfl; go_simp⟩) hH ?_
    refine wpAnyH_take (i := 1) (v := .slice (some ⟨g, 0, none⟩) L.length c) rfl (by kernel_rfl) (by kernel_rfl) (by kernel_rfl) (fun _ _ _ h => h) (Or.inl ⟨by rfl, fun w hSw => by go_simp⟩) hH ?_
    try simp only [Act.put, List.setIfInBounds_toArray, List.set_cons_zero, List.set_cons_succ, List.getElem_toArray, List.getElem_cons_succ, List.getElem_cons_zero]
    refine wpAnyH_take (i := 2) (v := .int .i64 (k : Int)) rfl (by kernel_rfl) (by kernel_rfl) (by kernel_rfl) (fun _ _ _ h => h) (Or.inl ⟨by rfl, fun w hSw => by go_simp⟩) hH ?_
    try simp only [Act.put, List.setIfInBounds_toArray, List.set_cons_zero, List.set_cons_succ, List.getElem_toArray, List.getElem_cons_succ, List.getElem_cons_zero]
    refine wpAnyH_take (i := 3) (v := .pointer (some ⟨g, k * 2, none⟩)) rfl (by kernel_rfl) (by kernel_rfl) (by kernel_rfl) (fun _ _ _ h => h) (Or.inl ⟨by rfl, fun w hSw => by go_simp⟩) hH ?_
    try simp only [Act.put, List.setIfInBounds_toArray, List.set_cons_zero, List.set_cons_succ, List.getElem_toArray, List.getElem_cons_succ, List.getElem_cons_zero]
    refine wpAnyH_take (i := 4) (v := .agg #[.string b0, .int .i64 b1]) rfl (by kernel_rfl) (by kernel_rfl) (by kernel_rfl) (fun _ _ _ h => h) (Or.inl ⟨by rfl, fun w hSw => by have f0 := (HQ.out w hSw).2.2.1; have f1 := (HQ.out w hSw).2.2.2; go_simp⟩) hH ?_
    try simp only [Act.put, List.setIfInBounds_toArray, List.set_cons_zero, List.set_cons_succ, List.getElem_toArray, List.getElem_cons_succ, List.getElem_cons_zero]
    have hways : (a0.toList = b0.toList ∧ a1 = b1 ∧ k = i) ∨ (¬ a0.toList = b0.toList ∧ k ≠ i) ∨ (a0.toList = b0.toList ∧ ¬ a1 = b1 ∧ k ≠ i) := by
      have h0 := HEk.out w
      rw [eqKey] at h0
      have hb : ((a0.toList == b0.toList) && (a1 == b1)) = decide (k = i) := congrArg (fun r => match r with | Result.ok (.bool b) _ => b | _ => false) h0
      by_cases q1 : a0.toList = b0.toList
      · rw [beq_iff_eq.2 q1, Bool.true_and] at hb
        by_cases q2 : a1 = b1
        · rw [beq_iff_eq.2 q2] at hb
          exact .inl ⟨q1, q2, of_decide_eq_true hb.symm⟩
        · rw [beq_eq_false_iff_ne.2 q2] at hb
          exact .inr (.inr ⟨q1, q2, of_decide_eq_false hb.symm⟩)
      · rw [beq_eq_false_iff_ne.2 q1, Bool.false_and] at hb
        exact .inr (.inl ⟨q1, of_decide_eq_false hb.symm⟩)
    clear HEk
    rcases hways with ⟨f1, f2, hki⟩ | ⟨f1, hki⟩ | ⟨f1, f2, hki⟩
    · have HT : Hid (a0.toList = b0.toList ∧ a1 = b1) := ⟨f1, f2⟩
      have hI : Hid (k = i) := hki
      clear f1 f2 hki
      refine wpAnyH_take (i := 5) (v := .bool true) rfl (by kernel_rfl) (by kernel_rfl) (by kernel_rfl) (fun _ _ _ h => h) (Or.inl ⟨by rfl, fun w hSw => by have f0 := HT.out.1; have f1 := HT.out.2; go_simp⟩) hH ?_
      try simp only [Act.put, List.setIfInBounds_toArray, List.set_cons_zero, List.set_cons_succ, List.getElem_toArray, List.getElem_cons_succ, List.getElem_cons_zero]
      refine wpAnyH_done (by kernel_rfl) ?_ _
      have HF : Hid (Below w.heap.size w wr.drew) := (HQ.out _ hH).1
      clear hH HQ HT HS
      generalize wr.drew = W3 at *
      go_wp2
      go_ret
      exact ⟨ret_int (by have := hI.out; omega), HF.out⟩
    · have HT : Hid (¬ a0.toList = b0.toList) := f1
      clear f1
      refine wpAnyH_take (i := 5) (v := .bool false) rfl (by kernel_rfl) (by kernel_rfl) (by kernel_rfl) (fun _ _ _ h => h) (Or.inl ⟨by rfl, fun w hSw => by have f0 := HT.out; go_simp⟩) hH ?_
      try simp only [Act.put, List.setIfInBounds_toArray, List.set_cons_zero, List.set_cons_succ, List.getElem_toArray, List.getElem_cons_succ, List.getElem_cons_zero]
      refine wpAnyH_done (by kernel_rfl) ?_ _
      have HF : Hid (Below w.heap.size w wr.drew ∧ wr.drew.heap[w.heap.size]? = some (.cells #[.string a0, .int .i64 a1] 82 (0, 0))) := ⟨(HQ.out _ hH).1, (HQ.out _ hH).2.1⟩
      clear hH HQ HT HS
      generalize wr.drew = W3 at *
      go_wp2
      exact ⟨⟨k + 1, by omega, by go_num, HF.out⟩, by simp [intOf]; omega⟩
    · have HT : Hid (a0.toList = b0.toList ∧ ¬ a1 = b1) := ⟨f1, f2⟩
      clear f1 f2
      refine wpAnyH_take (i := 5) (v := .bool false) rfl (by kernel_rfl) (by kernel_rfl) (by kernel_rfl) (fun _ _ _ h => h) (Or.inl ⟨by rfl, fun w hSw => by have f0 := HT.out.1; have f1 := HT.out.2; go_simp⟩) hH ?_
      try simp only [Act.put, List.setIfInBounds_toArray, List.set_cons_zero, List.set_cons_succ, List.getElem_toArray, List.getElem_cons_succ, List.getElem_cons_zero]
      refine wpAnyH_done (by kernel_rfl) ?_ _
      have HF : Hid (Below w.heap.size w wr.drew ∧ wr.drew.heap[w.heap.size]? = some (.cells #[.string a0, .int .i64 a1] 82 (0, 0))) := ⟨(HQ.out _ hH).1, (HQ.out _ hH).2.1⟩
      clear hH HQ HT HS
      generalize wr.drew = W3 at *
      go_wp2
      exact ⟨⟨k + 1, by omega, by go_num, HF.out⟩, by simp [intOf]; omega⟩
theorem leaveRow {B rb mb ub g oc : Nat} {σ : StS} {W4 W5 W6 w7 : World} {i : Nat} (hi : i < σ.L.length) (h : Rn B rb mb ub σ (.slice (some ⟨g, 0, none⟩) σ.L.length oc) W4) (hm : LotsIs W5 mb (σ.L.take i ++ σ.L.drop (i + 1))) (hf5 : Fr (fun k => k = mb) W4 W5) (hb6 : Below W5.heap.size W5 W6) (hf7 : Fr (fun k => k = g) W6 w7)
    (ho : w7.ownsRow B 82 2 (.slice (some ⟨g, 0, none⟩) (σ.L.length - 1) oc) (σ.L.length - 1) (kyCells (σ.L.take i ++ σ.L.drop (i + 1)))) :
    Rn B rb mb ub { σ with L := σ.L.take i ++ σ.L.drop (i + 1) } (.slice (some ⟨g, 0, none⟩) (σ.L.length - 1) oc) (w7.setCell ⟨rb, 7, none⟩ (.slice (some ⟨g, 0, none⟩) (σ.L.length - 1) oc)) ∧ Fr (RnX rb mb ub (.slice (some ⟨g, 0, none⟩) σ.L.length oc)) W4 (w7.setCell ⟨rb, 7, none⟩ (.slice (some ⟨g, 0, none⟩) (σ.L.length - 1) oc)) ∧ w7.cell? ⟨rb, 7, none⟩ = some (.slice (some ⟨g, 0, none⟩) σ.L.length oc) ∧ w7.frozen? ⟨rb, 7, none⟩ = false := by
  have d := h.dis
  obtain ⟨n, u, hu⟩ := h.uni
  have hrl := blkLt h.blk
  have s5 := hf5.size
  have s6 := hb6.size
  have s7 := hf7.size
  have ng : g ≠ rb := fun e => d.ro (by rw [← e]; rfl)
  have nm : g ≠ mb := fun e => d.mo (by rw [← e]; rfl)
  have nu : g ≠ ub := fun e => d.uo (by rw [← e]; rfl)
  have erb : w7.heap[rb]? = W4.heap[rb]? := ((hf7.block rb (by omega) (Ne.symm ng)).trans (hb6.block rb (by omega))).trans (hf5.block rb hrl d.rm)
  have emb : w7.heap[mb]? = W5.heap[mb]? := (hf7.block mb (by have := hm.lt; omega) (Ne.symm nm)).trans (hb6.block mb hm.lt)
  have eub : w7.heap[ub]? = W4.heap[ub]? := ((hf7.block ub (by have := hu.lt; omega) (Ne.symm nu)).trans (hb6.block ub (by have := hu.lt; omega))).trans (hf5.block ub hu.lt (Ne.symm d.mu))
  have hblk := erb.trans h.blk
  have hfr : Fr (RnX rb mb ub (.slice (some ⟨g, 0, none⟩) σ.L.length oc)) W4 w7 := ((hf5.mono (Y := RnX rb mb ub (.slice (some ⟨g, 0, none⟩) σ.L.length oc)) (fun k hk => .inr (.inl hk))).trans (Fr.of hb6)).trans (hf7.mono (fun k hk => .inr (.inr (.inr (by rw [hk]; rfl)))))
  refine ⟨⟨heap_setCell_same _ _ _ _ _ _ hblk, ?_, hm.block ((Below.heap_setCell _ _ _ _ (Ne.symm d.rm)).trans emb), ⟨n, u, hu.block ((Below.heap_setCell _ _ _ _ (Ne.symm d.ru)).trans eub)⟩, h.ne, h.low⟩, hfr.set (b := rb) (.inl rfl) _ _, blkCell hblk 7 _ rfl, blkFree hblk 7⟩
  show World.ownsRow _ B 82 2 _ (σ.L.take i ++ σ.L.drop (i + 1)).length (kyCells (σ.L.take i ++ σ.L.drop (i + 1)))
  rw [cut_len hi]
  refine row_of (w := w7) ho (fun q hq => Below.heap_setCell _ _ _ _ ?_)
  have hq2 : g = q := by simpa [Value.ownBlock] using hq
  rw [← hq2]; exact ng
/-- What leave leaves. -/
def LvP (B rb mb ub g oc : Nat) (σ : StS) (L' : List RSl) (n : Nat) (w : World) (e : Ending) (w' : World) : Prop := e = .returned (.tuple #[]) ∧ Fr (RnX rb mb ub (.slice (some ⟨g, 0, none⟩) n oc)) w w' ∧ Rn B rb mb ub { σ with L := L' } (.slice (some ⟨g, 0, none⟩) L'.length oc) w'
set_option maxHeartbeats 8000000 in
theorem leave_any {B rb mb ub g oc : Nat} {σ : StS} {w : World} (h : Rn B rb mb ub σ (.slice (some ⟨g, 0, none⟩) σ.L.length oc) w) (hlen : σ.L.length ≤ 60) (hN : ∀ r ∈ σ.L, SlN r) (hd : Dst σ.L) {i : Nat} (hi : i < σ.L.length) (n : Int) :
    Calls Try.prog 68 #[.pointer (some ⟨rb, 0, none⟩), .agg #[.string (gl σ.L i).ar, .int .i64 (gl σ.L i).lt], .int .i64 n] w (LvP B rb mb ub g oc σ (lv σ.L i n) σ.L.length w) := by
  have HKey : Hid (KeyOK (gl σ.L i).ar (gl σ.L i).lt) := (getN hN hi).key
  have HD : Hid (Dst σ.L) := hd
  have HN : Hid (∀ r ∈ σ.L, SlN r) := hN
  obtain ⟨⟨a0, a1, a2, a3, a4⟩, hir⟩ : ∃ r, gl σ.L i = r := ⟨_, rfl⟩
  have HIr : Hid (gl σ.L i = ⟨a0, a1, a2, a3, a4⟩) := hir
  rw [hir]
  dsimp only
  clear hir
  obtain ⟨W1, hW1⟩ : ∃ W1, W1 = w.alloc (Obj.cells #[.string a0, .int .i64 a1] 82) := ⟨_, rfl⟩
  have H1 : Hid (Below w.heap.size w W1 ∧ W1.heap[w.heap.size]? = some (.cells #[.string a0, .int .i64 a1] 82 (0, 0))) := by rw [hW1]; exact ⟨below_alloc _ _, heapNew _ _⟩
  have HR : Hid (∀ W, Below W1.heap.size W1 W → Rn B rb mb ub σ (.slice (some ⟨g, 0, none⟩) σ.L.length oc) W ∧ Below w.heap.size w W ∧ W.heap[w.heap.size]? = some (.cells #[.string a0, .int .i64 a1] 82 (0, 0))) := fun W hW => ⟨h.later (chain H1.out.1 hW), chain H1.out.1 hW, (hW.block _ (blkLt H1.out.2)).trans H1.out.2⟩
  have HX : Hid (¬ RnX rb mb ub (.slice (some ⟨g, 0, none⟩) σ.L.length oc) w.heap.size) := fun e => by have := h.lt _ e; omega
  have t1 := na_lvT
  have t2 := me_lvT
  have t3 := cf_lv
  clear h hN hd H1
  by_cases hn : 0 < n
  · have e1 : lv σ.L i n = σ.L.set i { gl σ.L i with nu := n } := if_pos hn
    have HL : Hid (lv σ.L i n = σ.L.set i ⟨a0, a1, n, a3, a4⟩) := by show _ = _; rw [e1, HIr.out]
    clear e1
    rw [HL.out]
    have HG : Hid (∀ W, Below W1.heap.size W1 W → (Instr.lookup 54 (.map (some mb)) (.agg #[.string a0, .int .i64 a1]) false).run Try.prog W = .ok (.iface (lotT a4) (.agg #[.string a0, .int .i64 a1, .int .i64 a2, .int .i64 a3, .bool a4])) W) := fun W hW => (HR.out W hW).1.get HN.out hi HIr.out
    go_enter Try.func68, Try.ntmps68
    go_wp2_with fail
    rw [← hW1]
    clear hW1
    refine wp_region_z (S := fun W => Below W1.heap.size W1 W) 13 (by kernel_rfl) (below_drew _) (fun hH => ?_)
    refine wpAnyZ_take (i := 0) (v := .pointer (some ⟨rb, 0, none⟩)) rfl (by kernel_rfl) (by kernel_rfl) (by kernel_rfl) (by kernel_rfl) (fun _ _ _ h => h) (Or.inl ⟨by rfl, fun w hSw => by go_simp⟩) hH ?_
    refine wpAnyZ_take (i := 1) (v := .pointer (some ⟨rb, 0, none⟩)) rfl (by kernel_rfl) (by kernel_rfl) (by kernel_rfl) (by kernel_rfl) (fun _ _ _ h => h) (Or.inl ⟨by rfl, fun w hSw => by go_simp⟩) hH ?_
    try simp only [Act.put, List.setIfInBounds_toArray, List.set_cons_zero, List.set_cons_succ, List.getElem_toArray, List.getElem_cons_succ, List.getElem_cons_zero]
    refine wpAnyZ_take (i := 2) (v := .pointer (some ⟨rb, 6, none⟩)) rfl (by kernel_rfl) (by kernel_rfl) (by kernel_rfl) (by kernel_rfl) (fun _ _ _ h => h) (Or.inl ⟨by rfl, fun w hSw => by go_simp⟩) hH ?_
    try simp only [Act.put, List.setIfInBounds_toArray, List.set_cons_zero, List.set_cons_succ, List.getElem_toArray, List.getElem_cons_succ, List.getElem_cons_zero]
    refine wpAnyZ_take (i := 3) (v := .map (some mb)) rfl (by kernel_rfl) (by kernel_rfl) (by kernel_rfl) (by kernel_rfl) (fun _ _ _ h => h) (Or.inl ⟨by rfl, fun w hSw => by have f0 := (HR.out w hSw).1.at.c6; go_simp⟩) hH ?_
    try simp only [Act.put, List.setIfInBounds_toArray, List.set_cons_zero, List.set_cons_succ, List.getElem_toArray, List.getElem_cons_succ, List.getElem_cons_zero]
    refine wpAnyZ_take (i := 4) (v := .agg #[.string a0, .int .i64 a1]) rfl (by kernel_rfl) (by kernel_rfl) (by kernel_rfl) (by kernel_rfl) (fun _ _ _ h => h) (Or.inl ⟨by rfl, fun w hSw => by have f0 := blkCell (HR.out w hSw).2.2 0 _ rfl; have f1 := blkCell (HR.out w hSw).2.2 1 _ rfl; go_simp⟩) hH ?_
    try simp only [Act.put, List.setIfInBounds_toArray, List.set_cons_zero, List.set_cons_succ, List.getElem_toArray, List.getElem_cons_succ, List.getElem_cons_zero]
    refine wpAnyZ_take (i := 5) (v := .pointer (some ⟨rb, 0, none⟩)) rfl (by kernel_rfl) (by kernel_rfl) (by kernel_rfl) (by kernel_rfl) (fun _ _ _ h => h) (Or.inl ⟨by rfl, fun w hSw => by go_simp⟩) hH ?_
    try simp only [Act.put, List.setIfInBounds_toArray, List.set_cons_zero, List.set_cons_succ, List.getElem_toArray, List.getElem_cons_succ, List.getElem_cons_zero]
    refine wpAnyZ_take (i := 6) (v := .pointer (some ⟨rb, 0, none⟩)) rfl (by kernel_rfl) (by kernel_rfl) (by kernel_rfl) (by kernel_rfl) (fun _ _ _ h => h) (Or.inl ⟨by rfl, fun w hSw => by go_simp⟩) hH ?_
    try simp only [Act.put, List.setIfInBounds_toArray, List.set_cons_zero, List.set_cons_succ, List.getElem_toArray, List.getElem_cons_succ, List.getElem_cons_zero]
    refine wpAnyZ_take (i := 7) (v := .pointer (some ⟨rb, 6, none⟩)) rfl (by kernel_rfl) (by kernel_rfl) (by kernel_rfl) (by kernel_rfl) (fun _ _ _ h => h) (Or.inl ⟨by rfl, fun w hSw => by go_simp⟩) hH ?_
    try simp only [Act.put, List.setIfInBounds_toArray, List.set_cons_zero, List.set_cons_succ, List.getElem_toArray, List.getElem_cons_succ, List.getElem_cons_zero]
    refine wpAnyZ_take (i := 8) (v := .map (some mb)) rfl (by kernel_rfl) (by kernel_rfl) (by kernel_rfl) (by kernel_rfl) (fun _ _ _ h => h) (Or.inl ⟨by rfl, fun w hSw => by have f0 := (HR.out w hSw).1.at.c6; go_simp⟩) hH ?_
    try simp only [Act.put, List.setIfInBounds_toArray, List.set_cons_zero, List.set_cons_succ, List.getElem_toArray, List.getElem_cons_succ, List.getElem_cons_zero]
    refine wpAnyZ_take (i := 9) (v := .agg #[.string a0, .int .i64 a1]) rfl (by kernel_rfl) (by kernel_rfl) (by kernel_rfl) (by kernel_rfl) (fun _ _ _ h => h) (Or.inl ⟨by rfl, fun w hSw => by have f0 := blkCell (HR.out w hSw).2.2 0 _ rfl; have f1 := blkCell (HR.out w hSw).2.2 1 _ rfl; go_simp⟩) hH ?_
    try simp only [Act.put, List.setIfInBounds_toArray, List.set_cons_zero, List.set_cons_succ, List.getElem_toArray, List.getElem_cons_succ, List.getElem_cons_zero]
    refine wpAnyZ_take (i := 10) (v := .iface (lotT a4) (.agg #[.string a0, .int .i64 a1, .int .i64 a2, .int .i64 a3, .bool a4])) rfl (by kernel_rfl) (by kernel_rfl) (by kernel_rfl) (by kernel_rfl) (fun _ _ _ h => h) (Or.inl ⟨by rfl, fun w hSw => by have f0 := HG.out w hSw; go_simp⟩) hH ?_
    try simp only [Act.put, List.setIfInBounds_toArray, List.set_cons_zero, List.set_cons_succ, List.getElem_toArray, List.getElem_cons_succ, List.getElem_cons_zero]
    refine wpAnyZ_take (i := 11) (v := .int .i64 n) rfl (by kernel_rfl) (by kernel_rfl) (by kernel_rfl) (by kernel_rfl) (fun _ _ _ h => h) (Or.inl ⟨by rfl, fun w hSw => by go_simp⟩) hH ?_
    try simp only [Act.put, List.setIfInBounds_toArray, List.set_cons_zero, List.set_cons_succ, List.getElem_toArray, List.getElem_cons_succ, List.getElem_cons_zero]
    refine wpAnyZ_ready (rs := [12]) (by kernel_rfl) (by simp) ?_
    refine AllReadyZ.cons rfl (fun K hK => ?_) AllReadyZ.nil
    go_simp
    refine (leaving_any a0 a1 a2 a3 a4 n _).mono ?_
    rintro e w5 ⟨rfl, hb5⟩
    have h5 := chain hH hb5
    refine hK.out _ _ (Or.inr h5) (fun _ => ?_)
    clear hK K
    try simp only [Act.put, List.setIfInBounds_toArray, List.set_cons_zero, List.set_cons_succ, List.getElem_toArray, List.getElem_cons_succ, List.getElem_cons_zero]
    clear hb5 hH
    have hput := LotsIs.put (HR.out w5 h5).1.map HD.out (by omega) hi HKey.out (r := ⟨a0, a1, n, a3, a4⟩) (by rw [HIr.out]) (by rw [HIr.out])
    rw [HIr.out] at hput
    obtain ⟨w6, hrun, hm6, hg6⟩ := hput
    have hrun' : (Instr.mapUpdate 54 (.map (some mb)) (.agg #[.string a0, .int .i64 a1]) (.iface (lotT a4) (.agg #[.string a0, .int .i64 a1, .int .i64 n, .int .i64 a3, .bool a4]))).run Try.prog w5 = .ok () w6 := hrun
    have hf6 : Fr (fun k => k = mb) w5 w6 := (fr_grown hg6).mono (fun k hk => by simpa using hk.symm)
    have HEnd : Hid (Fr (RnX rb mb ub (.slice (some ⟨g, 0, none⟩) σ.L.length oc)) w w6 ∧ Rn B rb mb ub { σ with L := σ.L.set i ⟨a0, a1, n, a3, a4⟩ } (.slice (some ⟨g, 0, none⟩) (σ.L.set i ⟨a0, a1, n, a3, a4⟩).length oc) w6) := by
      obtain ⟨k1, k2, _⟩ := HR.out w5 h5
      refine ⟨(Fr.of k2).trans (hf6.mono (fun k hk => .inr (.inl hk))), ?_⟩
      rw [List.length_set]
      exact k1.turned hf6 hm6 (by rw [List.length_set]) (kyCells_set _ _ hi _ (by rw [HIr.out]) (by rw [HIr.out]))
    clear hrun hm6 hg6 hf6 HR HG HN HD HKey HIr h5
    refine wpAnyZ_ready (rs := [13]) (by kernel_rfl) (by simp) ?_
    refine AllReadyZ.cons rfl (fun K hK => ?_) AllReadyZ.nil
    go_simp
    refine hK.out _ _ (Or.inl rfl) (fun _ => ?_)
    clear hK K
    try simp only [Act.put, List.setIfInBounds_toArray, List.set_cons_zero, List.set_cons_succ, List.getElem_toArray, List.getElem_cons_succ, List.getElem_cons_zero]
    refine wpAnyZ_done (by kernel_rfl) ?_ _
    clear hrun' t1 t2 t3
    go_wp2
    go_end0
    exact ⟨rfl, HEnd.out⟩
  · have e1 : lv σ.L i n = σ.L.take i ++ σ.L.drop (i + 1) := if_neg hn
    rw [e1]
    clear e1 t1 t2 t3
    go_enter Try.func68, Try.ntmps68
    go_wp2_with fail
    rw [← hW1]
    clear hW1
    have hdel := LotsIs.del' (W := W1.drew) ((HR.out W1 (Below.refl _ _)).1.map.block rfl) HD.out hi HKey.out
    rw [HIr.out] at hdel
    dsimp only at hdel
    refine wp_region_z (S := fun W => W = W1.drew) 5 (by kernel_rfl) rfl (fun hH => ?_)
    have HQ : Hid (∀ W : World, W = W1.drew → RnC rb mb ub σ (.slice (some ⟨g, 0, none⟩) σ.L.length oc) W ∧ W.heap[w.heap.size]? = some (.cells #[.string a0, .int .i64 a1] 82 (0, 0))) := fun W hW => by
      subst hW
      obtain ⟨k1, _, k3⟩ := HR.out W1.drew (below_drew _)
      exact ⟨k1.at, k3⟩
    obtain ⟨w3, hrun3, hm3, hg3⟩ := hdel
    have HF3 : Hid (Fr (fun k => k = mb) W1 w3 ∧ LotsIs w3 mb (σ.L.take i ++ σ.L.drop (i + 1))) := ⟨(Fr.of (below_drew W1)).trans ((fr_grown hg3).mono (fun k hk => by simpa using hk.symm)), hm3⟩
    clear hm3 hg3
    generalize W1.drew = Wd at *
    refine wpAnyZ_take (i := 0) (v := .pointer (some ⟨rb, 0, none⟩)) rfl (by kernel_rfl) (by kernel_rfl) (by kernel_rfl) (by kernel_rfl) (fun _ _ _ h => h) (Or.inl ⟨by rfl, fun w hSw => by clear hSw; go_simp⟩) hH ?_
    refine wpAnyZ_take (i := 1) (v := .pointer (some ⟨rb, 0, none⟩)) rfl (by kernel_rfl) (by kernel_rfl) (by kernel_rfl) (by kernel_rfl) (fun _ _ _ h => h) (Or.inl ⟨by rfl, fun w hSw => by clear hSw; go_simp⟩) hH ?_
    try simp only [Act.put, List.setIfInBounds_toArray, List.set_cons_zero, List.set_cons_succ, List.getElem_toArray, List.getElem_cons_succ, List.getElem_cons_zero]
    refine wpAnyZ_take (i := 2) (v := .pointer (some ⟨rb, 6, none⟩)) rfl (by kernel_rfl) (by kernel_rfl) (by kernel_rfl) (by kernel_rfl) (fun _ _ _ h => h) (Or.inl ⟨by rfl, fun w hSw => by clear hSw; go_simp⟩) hH ?_
    try simp only [Act.put, List.setIfInBounds_toArray, List.set_cons_zero, List.set_cons_succ, List.getElem_toArray, List.getElem_cons_succ, List.getElem_cons_zero]
    refine wpAnyZ_take (i := 3) (v := .map (some mb)) rfl (by kernel_rfl) (by kernel_rfl) (by kernel_rfl) (by kernel_rfl) (fun _ _ _ h => h) (Or.inl ⟨by rfl, fun w hSw => by have f0 := (HQ.out w hSw).1.c6; clear hSw; go_simp⟩) hH ?_
    try simp only [Act.put, List.setIfInBounds_toArray, List.set_cons_zero, List.set_cons_succ, List.getElem_toArray, List.getElem_cons_succ, List.getElem_cons_zero]
    refine wpAnyZ_take (i := 4) (v := .agg #[.string a0, .int .i64 a1]) rfl (by kernel_rfl) (by kernel_rfl) (by kernel_rfl) (by kernel_rfl) (fun _ _ _ h => h) (Or.inl ⟨by rfl, fun w hSw => by have f0 := blkCell (HQ.out w hSw).2 0 _ rfl; have f1 := blkCell (HQ.out w hSw).2 1 _ rfl; clear hSw; go_simp⟩) hH ?_
    try simp only [Act.put, List.setIfInBounds_toArray, List.set_cons_zero, List.set_cons_succ, List.getElem_toArray, List.getElem_cons_succ, List.getElem_cons_zero]
    refine wpAnyZ_ready (rs := [5]) (by kernel_rfl) (by simp) ?_
    refine AllReadyZ.cons rfl (fun K hK => ?_) AllReadyZ.nil
    go_simp
    refine hK.out _ _ (Or.inl rfl) (fun _ => ?_)
    clear hK K
    try simp only [Act.put, List.setIfInBounds_toArray, List.set_cons_zero, List.set_cons_succ, List.getElem_toArray, List.getElem_cons_succ, List.getElem_cons_zero]
    refine wpAnyZ_done (by kernel_rfl) ?_ _
    clear hrun3 hH HQ
    have HR1 : Hid (Rn B rb mb ub σ (.slice (some ⟨g, 0, none⟩) σ.L.length oc) W1 ∧ Below w.heap.size w W1 ∧ W1.heap[w.heap.size]? = some (.cells #[.string a0, .int .i64 a1] 82 (0, 0))) := HR.out W1 (Below.refl _ _)
    clear HR
    have HO3 : Hid (w3.ownsRow B 82 2 (.slice (some ⟨g, 0, none⟩) σ.L.length oc) σ.L.length (kyCells σ.L) ∧ w3.heap[w.heap.size]? = some (.cells #[.string a0, .int .i64 a1] 82 (0, 0)) ∧ w3.heap[rb]? = some (.cells (runV σ mb ub (.slice (some ⟨g, 0, none⟩) σ.L.length oc)) 58 (0, 0))) := by
      have d := HR1.out.1.dis
      exact ⟨row_of HR1.out.1.ord (fun q hq => HF3.out.1.block q (row_lt HR1.out.1.ord q hq).2 (fun e => d.mo (by rw [hq, e]))), (HF3.out.1.block _ (blkLt HR1.out.2.2) (fun e => HX.out (.inr (.inl e)))).trans HR1.out.2.2, (HF3.out.1.block rb (blkLt HR1.out.1.blk) d.rm).trans HR1.out.1.blk⟩
    have HIx : Hid (∀ W, Below w3.heap.size w3 W → Calls Try.prog 73 #[.slice (some ⟨g, 0, none⟩) σ.L.length oc, .agg #[.string a0, .int .i64 a1]] W fun e w' => e = .returned (.int .i64 (i : Int)) ∧ Below W.heap.size W w') := fun W hW => by
      have := kyIndex_any (B := B) (g := g) (c := oc) σ.L (by omega) HD.out hi W (row_of HO3.out.1 (fun q hq => hW.block q (row_lt HO3.out.1 q hq).2))
      rw [HIr.out] at this
      exact this
    have HQ : Hid (∀ W, Below w3.heap.size w3 W → W.cell? ⟨rb, 7, none⟩ = some (.slice (some ⟨g, 0, none⟩) σ.L.length oc) ∧ W.heap[w.heap.size]? = some (.cells #[.string a0, .int .i64 a1] 82 (0, 0))) := fun W hW => ⟨blkCell ((hW.block rb (blkLt HO3.out.2.2)).trans HO3.out.2.2) 7 _ rfl, (hW.block _ (blkLt HO3.out.2.1)).trans HO3.out.2.1⟩
    go_wp2_with fail
    refine wp_region_held_drew (S := fun W => Below w3.heap.size w3 W) (by kernel_rfl) (below_drew _) (fun hH => ?_)
    refine wpAnyH_take (i := 0) (v := .pointer (some ⟨rb, 0, none⟩)) rfl (by kernel_rfl) (by kernel_rfl) (by kernel_rfl) (fun _ _ _ h => h) (Or.inl ⟨by rfl, fun w hSw => by go_simp⟩) hH ?_
    refine wpAnyH_take (i := 1) (v := .pointer (some ⟨rb, 0, none⟩)) rfl (by kernel_rfl) (by kernel_rfl) (by kernel_rfl) (fun _ _ _ h => h) (Or.inl ⟨by rfl, fun w hSw => by go_simp⟩) hH ?_
    try simp only [Act.put, List.setIfInBounds_toArray, List.set_cons_zero, List.set_cons_succ, List.getElem_toArray, List.getElem_cons_succ, List.getElem_cons_zero]
    refine wpAnyH_take (i := 2) (v := .pointer (some ⟨rb, 7, none⟩)) rfl (by kernel_rfl) (by kernel_rfl) (by kernel_rfl) (fun _ _ _ h => h) (Or.inl ⟨by rfl, fun w hSw => by go_simp⟩) hH ?_
    try simp only [Act.put, List.setIfInBounds_toArray, List.set_cons_zero, List.set_cons_succ, List.getElem_toArray, List.getElem_cons_succ, List.getElem_cons_zero]
    refine wpAnyH_take (i := 3) (v := .slice (some ⟨g, 0, none⟩) σ.L.length oc) rfl (by kernel_rfl) (by kernel_rfl) (by kernel_rfl) (fun _ _ _ h => h) (Or.inl ⟨by rfl, fun w hSw => by have f0 := (HQ.out w hSw).1; go_simp⟩) hH ?_
    try simp only [Act.put, List.setIfInBounds_toArray, List.set_cons_zero, List.set_cons_succ, List.getElem_toArray, List.getElem_cons_succ, List.getElem_cons_zero]
    refine wpAnyH_take (i := 4) (v := .agg #[.string a0, .int .i64 a1]) rfl (by kernel_rfl) (by kernel_rfl) (by kernel_rfl) (fun _ _ _ h => h) (Or.inl ⟨by rfl, fun w hSw => by have f0 := blkCell (HQ.out w hSw).2 0 _ rfl; have f1 := blkCell (HQ.out w hSw).2 1 _ rfl; go_simp⟩) hH ?_
    try simp only [Act.put, List.setIfInBounds_toArray, List.set_cons_zero, List.set_cons_succ, List.getElem_toArray, List.getElem_cons_succ, List.getElem_cons_zero]
    refine wpAnyH_ready (rs := [5]) (by kernel_rfl) (by simp) ?_
    refine AllReadyH.cons rfl (fun K hK => ?_) AllReadyH.nil
    go_simp
    go_at_call 73
    refine (HIx.out _ hH).mono ?_
    rintro e w6 ⟨rfl, hb6⟩
    have h6 := chain hH hb6
    refine hK.out _ _ h6 (fun _ => ?_)
    clear hK K
    try simp only [Act.put, List.setIfInBounds_toArray, List.set_cons_zero, List.set_cons_succ, List.getElem_toArray, List.getElem_cons_succ, List.getElem_cons_zero]
    refine wpAnyH_take (i := 6) (v := .int .i64 (i : Int)) rfl (by kernel_rfl) (by kernel_rfl) (by kernel_rfl) (fun _ _ _ h => h) (Or.inl ⟨by rfl, fun w hSw => by go_simp⟩) h6 ?_
    try simp only [Act.put, List.setIfInBounds_toArray, List.set_cons_zero, List.set_cons_succ, List.getElem_toArray, List.getElem_cons_succ, List.getElem_cons_zero]
    refine wpAnyH_done (by kernel_rfl) ?_ _
    have H6 : Hid (Below w3.heap.size w3 w6) := h6
    have y7 := (HQ.out _ h6).1
    have HDl := kyDelete_any B g oc σ.L.length i (kyCells σ.L) hi (ky_one σ.L) w6 (row_of HO3.out.1 (fun q hq => h6.block q (row_lt HO3.out.1 q hq).2)) (by omega)
    rw [kyCells_take σ.L i (by omega), kyCells_drop σ.L (i + 1) (by omega), ← kyCells_append] at HDl
    have HDl2 : Hid (Calls Try.prog 74 #[.slice (some ⟨g, 0, none⟩) σ.L.length oc, .int .i64 (i : Int), .int .i64 ((i : Int) + 1)] w6 fun e w' => e = .returned (.slice (some ⟨g, 0, none⟩) (σ.L.length - 1) oc) ∧ Fr (fun k => k = g) w6 w' ∧ w'.ownsRow B 82 2 (.slice (some ⟨g, 0, none⟩) (σ.L.length - 1) oc) (σ.L.length - 1) (kyCells (σ.L.take i ++ σ.L.drop (i + 1)))) := HDl
    clear HDl h6 hb6 hH HQ HIx
    go_wp2_with fail
    (first | go_at_call 74 | skip)
    refine HDl2.out.mono ?_
    rintro e w7 ⟨rfl, hf7, ho7⟩
    obtain ⟨k1, k2, k3, k4⟩ := leaveRow hi HR1.out.1 HF3.out.2 HF3.out.1 H6.out hf7 ho7
    have HEnd : Hid (Fr (RnX rb mb ub (.slice (some ⟨g, 0, none⟩) σ.L.length oc)) w (w7.setCell ⟨rb, 7, none⟩ (.slice (some ⟨g, 0, none⟩) (σ.L.length - 1) oc)) ∧ Rn B rb mb ub { σ with L := σ.L.take i ++ σ.L.drop (i + 1) } (.slice (some ⟨g, 0, none⟩) (σ.L.take i ++ σ.L.drop (i + 1)).length oc) (w7.setCell ⟨rb, 7, none⟩ (.slice (some ⟨g, 0, none⟩) (σ.L.length - 1) oc))) := ⟨(Fr.of HR1.out.2.1).trans k2, by rw [cut_len hi]; exact k1⟩
    clear hf7 ho7 k1 k2 HDl2 HR1 HF3 HO3 H6 y7
    go_wp2
    go_end0
    exact ⟨rfl, HEnd.out⟩
end Go.Proofs.Ytlfcaijhlgldnaa
