/-
  Texts of this claim laid together: TlF, TlG.
-/
import Derived.Test.YtabpkfhbnendjaaGreatM16
import Derived.Lib.SliceRun
import Derived.Deep.RegionLaw
/-
  Worlds in which some blocks alone have turned; the program's handOver.
-/
namespace Go.Proofs.YtabpkfhbnendjaaGreat
open Go.ChangeShapes Go.WideShapes Go.ChangeAt Go.RowKit Go.Deep
set_option linter.unusedVariables false

/-- Of the blocks that were there those of X alone may have turned. -/
structure Fr (X : Nat → Prop) (w w' : World) : Prop where
  os : w'.os = w.os
  tape : w'.tape = w.tape
  output : w'.output = w.output
  size : w.heap.size ≤ w'.heap.size
  block : ∀ k, k < w.heap.size → ¬ X k → w'.heap[k]? = w.heap[k]?
theorem Fr.refl (X : Nat → Prop) (w : World) : Fr X w w := ⟨rfl, rfl, rfl, Nat.le_refl _, fun _ _ _ => rfl⟩
theorem Fr.trans {X : Nat → Prop} {a b c : World} (h : Fr X a b) (k : Fr X b c) : Fr X a c :=
  ⟨k.os.trans h.os, k.tape.trans h.tape, k.output.trans h.output, Nat.le_trans h.size k.size, fun i hi hx => (k.block i (Nat.lt_of_lt_of_le hi h.size) hx).trans (h.block i hi hx)⟩
theorem Fr.of {X : Nat → Prop} {w w' : World} (h : Below w.heap.size w w') : Fr X w w' := ⟨h.os, h.tape, h.output, h.size, fun k hk _ => h.block k hk⟩
theorem Fr.below {X : Nat → Prop} {B : Nat} {w0 w w' : World} (hb : Below B w0 w) (h : Fr X w w') (hB : B ≤ w.heap.size) (hX : ∀ k, X k → B ≤ k) : Below B w0 w' :=
  hb.trans ⟨h.os, h.tape, h.output, h.size, fun k hk => h.block k (Nat.lt_of_lt_of_le hk hB) (fun hx => by have := hX k hx; omega)⟩
theorem Fr.set {X : Nat → Prop} {w w' : World} (h : Fr X w w') {b : Nat} (hb : X b) (o : Nat) (v : Value) : Fr X w (w'.setCell ⟨b, o, none⟩ v) := by
  have k : Below 0 w' (w'.setCell ⟨b, o, none⟩ v) := (Below.refl 0 w').setCell (Nat.zero_le _) _
  exact ⟨k.os.trans h.os, k.tape.trans h.tape, k.output.trans h.output, Nat.le_trans h.size k.size, fun q hq hx => (Below.heap_setCell _ _ _ _ (fun e => hx (by have e' : q = b := e; rw [e']; exact hb))).trans (h.block q hq hx)⟩
theorem Fr.setNew {X : Nat → Prop} {w w' : World} (h : Fr X w w') {b : Nat} (hb : w.heap.size ≤ b) (o : Nat) (v : Value) : Fr X w (w'.setCell ⟨b, o, none⟩ v) := by
  have k : Below 0 w' (w'.setCell ⟨b, o, none⟩ v) := (Below.refl 0 w').setCell (Nat.zero_le _) _
  exact ⟨k.os.trans h.os, k.tape.trans h.tape, k.output.trans h.output, Nat.le_trans h.size k.size, fun q hq hx => (Below.heap_setCell _ _ _ _ (by show q ≠ b; omega)).trans (h.block q hq hx)⟩
theorem Fr.alloc {X : Nat → Prop} {w w' : World} (h : Fr X w w') (o : Obj) : Fr X w (w'.alloc o) := h.trans (Fr.of (below_alloc _ _))
theorem Fr.mono {X Y : Nat → Prop} {w w' : World} (h : Fr X w w') (hx : ∀ k, X k → Y k) : Fr Y w w' := ⟨h.os, h.tape, h.output, h.size, fun k hk hy => h.block k hk (fun q => hy (hx k q))⟩
theorem Fr.drop {X : Nat → Prop} {b : Nat} {w v w' : World} (hb : Below w.heap.size w v) (h : Fr (fun k => X k ∨ w.heap.size ≤ k) v w') : Fr X w w' :=
  ⟨h.os.trans hb.os, h.tape.trans hb.tape, h.output.trans hb.output, Nat.le_trans hb.size h.size, fun k hk hx => (h.block k (Nat.lt_of_lt_of_le hk hb.size) (fun q => by rcases q with q | q; exact hx q; omega)).trans (hb.block k hk)⟩
set_option maxHeartbeats 2000000 in
theorem handOver_any (b : Nat) (V : Array Value) (t : TypeId) (lv : Value) (sh : Int) (w : World) (hb : w.heap[b]? = some (.cells V t (0, 0))) (h0 : V[0]? = some lv) (h1 : V[1]? = some (.int .i64 sh)) (a : Option Addr) (n c : Nat) (hlv : lv = .slice a n c) :
    Calls Tryz.prog 46 #[.pointer (some ⟨b, 0, none⟩)] w fun e w' => e = .returned (.agg #[lv, .int .i64 sh]) ∧ Fr (fun k => k = b) w w' ∧ w'.heap[b]? = some (.cells ((V.setIfInBounds 0 (.slice none 0 0)).setIfInBounds 1 (.int .i64 0)) t (0, 0)) := by
  subst hlv
  have y0 := blkCell hb 0 _ h0
  have y1 := blkCell hb 1 _ h1
  have z0 := blkFree hb 0
  have z1 := blkFree hb 1
  have hlt := blkLt hb
  have HB : Hid (w.heap[b]? = some (.cells V t (0, 0))) := hb
  clear hb h0 h1
  go_enter Tryz.func46, Tryz.ntmps46
  go_wp2
  refine bodyPost_ret (v := .agg #[.slice a n c, .int .i64 sh]) (by simp [results, Tryz.results46, go_sem]) rfl ⟨rfl, ((((Fr.refl (fun k => k = b) w).set (b := b) rfl _ _).set (b := b) rfl _ _).alloc _).alloc _, ?_⟩
  have e := heap_setCell_same _ _ 1 _ _ (.int .i64 0) (heap_setCell_same _ _ 0 _ _ (.slice none 0 0) HB.out)
  have e2 := (Below.heap_alloc _ (Obj.cells #[.slice a n c, .int .i64 sh] 30) _ (blkLt e)).trans e
  exact (Below.heap_alloc _ _ _ (blkLt e2)).trans e2
end Go.Proofs.YtabpkfhbnendjaaGreat

/-
  slices.Delete of one element of a row of lines and of a row of baskets.
-/
namespace Go.Proofs.YtabpkfhbnendjaaGreat
open Go.ChangeShapes Go.WideShapes Go.ChangeAt Go.RowKit Go.Deep
set_option linter.unusedVariables false

def setL (cur : Array Value) : Nat → List Value → Array Value
  | _, [] => cur
  | o, v :: vs => setL (cur.setIfInBounds o v) (o + 1) vs
theorem setL_size : ∀ (vs : List Value) (cur : Array Value) (o : Nat), (setL cur o vs).size = cur.size
  | [], _, _ => rfl
  | v :: vs, cur, o => by rw [setL, setL_size vs]; simp
theorem setL_list : ∀ (cur : Array Value) (o : Nat) (vs : List Value), o + vs.length ≤ cur.size → (setL cur o vs).toList = cur.toList.take o ++ vs ++ cur.toList.drop (o + vs.length)
  | cur, o, [], h => by simp [setL]
  | cur, o, v :: vs, h => by
    rw [List.length_cons] at h
    rw [setL, setL_list (cur.setIfInBounds o v) (o + 1) vs (by simp; omega)]
    have hl : o < cur.toList.length := by rw [Array.length_toList]; omega
    rw [Array.toList_setIfInBounds, List.take_set, List.drop_set]
    rw [if_pos (by omega), List.take_succ_eq_append_getElem hl, List.set_append_right _ _ (by rw [List.length_take]; omega)]
    rw [List.length_take, Nat.min_eq_left (by omega), Nat.sub_self]
    simp [List.length_cons]
    congr 1
    omega
theorem heap_setCells (g : Nat) : ∀ (vs : List Value) (o : Nat) (w : World) (cur : Array Value) (t : TypeId), w.heap[g]? = some (.cells cur t (0, 0)) → (w.setCells g o vs).heap[g]? = some (.cells (setL cur o vs) t (0, 0))
  | [], _, _, _, _, h => h
  | v :: vs, o, w, cur, t, h => heap_setCells g vs (o + 1) (w.setCell ⟨g, o, none⟩ v) _ t (heap_setCell_same w g o cur t v h)
theorem Fr.setCells {X : Nat → Prop} {w : World} {b : Nat} (hb : X b) : ∀ (vs : List Value) (o : Nat) {w' : World}, Fr X w w' → Fr X w (w'.setCells b o vs)
  | [], _, _, h => h
  | v :: vs, o, _, h => Fr.setCells hb vs (o + 1) (h.set hb o v)
theorem clear_one {P : Program} (w : World) (t e ty : TypeId) (zs : Array Value) (ht : P.underlying t = some (.slice e)) (hv : ∀ w, (zeroValue e).run P w = .ok (.agg zs) w) (b o c : Nat) (hz : 0 < zs.size) (h1 : zs.all (·.oneCell') = true)
    (hc : ∀ j, j < zs.size → (w.cell? ⟨b, o + j, none⟩).isSome = true) (hf : ∀ j, j < zs.size → w.frozen? ⟨b, o + j, none⟩ = false) :
    (Builtin.clear_ #[t] ty #[.slice (some ⟨b, o, none⟩) 1 c]).run P w = .ok (.tuple #[]) (w.setCells b o zs.toList) := by
  have hzc : (Builtin.zeroCells (Value.agg zs).cells 1).toList = zs.toList := by
    have e : (Value.agg zs).cells = zs := rfl
    rw [e]
    simp [Builtin.zeroCells]
    apply List.ext_getElem
    · simp
    · intro i h1 h2
      have hi : i < zs.size := by simpa using h2
      simp [Nat.mod_eq_of_lt hi, hi]
  have hst := run_storeCells_cells (P := P) b o zs.toList 0 w (by simpa using hc) (by simpa using hf) (fun v hv' => by
    rw [Array.all_eq_true_iff_forall_mem] at h1
    exact h1 v (by simpa using hv'))
  simp only [Nat.add_zero] at hst
  simp [Builtin.clear_, run_underlying ht, hv, hzc, hst]
theorem lnInfo : (Tryz.prog.info? 82).map (fun i => (i.zero, i.size, i.bytes)) = some (some (.agg #[.int .i64 0, .int .i64 0, .int .i64 0, .int .i64 0]), 4, 32) := by kernel_rfl
theorem lnZero (w : World) : (zeroValue 82).run Tryz.prog w = .ok (.agg #[.int .i64 0, .int .i64 0, .int .i64 0, .int .i64 0]) w := by kernel_rfl
set_option maxHeartbeats 4000000 in
set_option maxRecDepth 8000 in
/-- slices.Delete of one element, in place. -/
theorem lnDelete_any (B g cap n i : Nat) (xs : List Value) (hi : i < n) (hone : ∀ u ∈ xs, u.oneCell' = true) (w : World) (h : w.ownsRow B 82 4 (.slice (some ⟨g, 0, none⟩) n cap) n xs) (hn : n ≤ 100000000) :
    Calls Tryz.prog 56 #[.slice (some ⟨g, 0, none⟩) n cap, .int .i64 (i : Int), .int .i64 ((i : Int) + 1)] w fun e w' => e = .returned (.slice (some ⟨g, 0, none⟩) (n - 1) cap) ∧ Fr (fun k => k = g) w w' ∧ w'.ownsRow B 82 4 (.slice (some ⟨g, 0, none⟩) (n - 1) cap) (n - 1) (xs.take (i * 4) ++ xs.drop ((i + 1) * 4)) := by
  obtain ⟨i0, hi0, hzz⟩ := Option.map_eq_some_iff.1 lnInfo
  simp only [Prod.mk.injEq] at hzz
  obtain ⟨hj0, hj1, hj2⟩ := hzz
  obtain ⟨hlen, hf⟩ := h
  obtain ⟨hB, cur, hg, hc, hm, hcs, htk⟩ : B ≤ g ∧ ∃ cur, w.heap[g]? = some (.cells cur 82 (0, 0)) ∧ n ≤ cap ∧ cap ≤ maxLen ∧ cur.size = cap * 4 ∧ cur.toList.take (n * 4) = xs := by
    rcases hf with ⟨q, _⟩ | ⟨g', cap', cur, q, h1, h2, h3, h4, h5, h6⟩
    · simp at q
    · simp only [Value.slice.injEq, Option.some.injEq, Addr.mk.injEq] at q
      obtain ⟨⟨rfl, _⟩, _, rfl⟩ := q
      exact ⟨h1, cur, h2, h3, h4, h5, h6⟩
  clear hf
  unfold maxLen at hm
  obtain ⟨news, hnews⟩ : ∃ news, news = xs.drop ((i + 1) * 4) := ⟨_, rfl⟩
  have hnl : news.length = (n - (i + 1)) * 4 := by rw [hnews, List.length_drop, hlen]; omega
  have hcl : cur.toList.length = cap * 4 := by rw [Array.length_toList]; exact hcs
  have hcell : ∀ (W : World), W.heap[g]? = w.heap[g]? → ∀ j u, xs[j]? = some u → W.cell? ⟨g, j, none⟩ = some u := fun W hW j u hu => by
    refine blkCell (hW.trans hg) j u ?_
    rw [← htk] at hu
    have hj := (List.getElem?_eq_some_iff.1 hu).1
    rw [List.length_take] at hj
    rw [List.getElem?_take_of_lt (by omega)] at hu
    rw [← Array.getElem?_toList]; exact hu
  have hfree : ∀ j, w.drew.frozen? ⟨g, j, none⟩ = false := fun j => blkFree (W := w.drew) hg j
  have hsome : ∀ j, j < n * 4 → (w.drew.cell? ⟨g, j, none⟩).isSome = true := fun j hj => by
    have hx : j < xs.length := by rw [hlen]; exact hj
    rw [hcell w.drew rfl j xs[j] (List.getElem?_eq_getElem hx)]; rfl
  obtain ⟨o8, ho8⟩ : ∃ o8 : Nat, o8 = if cap = i + 1 then 0 else (i + 1) * 4 := ⟨_, rfl⟩
  have hof : (if cap = i + 1 then (some (⟨g, 0, none⟩ : Addr)) else some ⟨g, (i + 1) * 4, none⟩) = some ⟨g, o8, none⟩ := by rw [ho8]; split <;> rfl
  have S1 : Hid (∀ t u, news[t]? = some u → w.drew.cell? ((⟨g, o8, none⟩ : Addr).add t) = some u) := fun t u hu => by
    have ht := (List.getElem?_eq_some_iff.1 hu).1
    rw [Go.WideShapes.add_plain]
    rw [hnl] at ht
    rw [hnews, List.getElem?_drop] at hu
    rw [ho8, if_neg (by omega)]
    exact hcell w.drew rfl _ u hu
  have S2 : Hid (∀ u ∈ news, u.oneCell' = true) := fun u hu => hone u (by rw [hnews] at hu; exact List.mem_of_mem_drop hu)
  have S3 : Hid (∀ t, t < news.length → (w.drew.cell? ⟨g, 0 + i * 4 + t, none⟩).isSome = true ∧ w.drew.frozen? ⟨g, 0 + i * 4 + t, none⟩ = false) := fun t ht => by
    rw [hnl] at ht
    exact ⟨hsome _ (by omega), hfree _⟩
  have S4 : Hid (news.length = (n - (i + 1)) * 4) := hnl
  obtain ⟨W1, hW1⟩ : ∃ W1, W1 = w.drew.setCells g (0 + i * 4) news := ⟨_, rfl⟩
  have hg1 : W1.heap[g]? = some (.cells (setL cur (i * 4) news) 82 (0, 0)) := by rw [hW1, Nat.zero_add]; exact heap_setCells g news (i * 4) w.drew cur _ hg
  have hF1 : Fr (fun k => k = g) w W1 := by rw [hW1]; exact Fr.setCells (X := fun k => k = g) (b := g) rfl news _ (Fr.of (below_drew w))
  have hs1 : (setL cur (i * 4) news).size = cap * 4 := by rw [setL_size]; exact hcs
  have hclr : ∀ ty c, (Builtin.clear_ #[28] ty #[.slice (some ⟨g, (n - 1) * 4, none⟩) 1 c]).run Tryz.prog W1 = .ok (.tuple #[]) (W1.setCells g ((n - 1) * 4) [.int .i64 0, .int .i64 0, .int .i64 0, .int .i64 0]) := fun ty c =>
    clear_one W1 28 82 ty #[.int .i64 0, .int .i64 0, .int .i64 0, .int .i64 0] Tryz.underlying28 lnZero g _ c (by decide) (by simp [Value.oneCell']) (fun j hj => by
      have hj' : j < 4 := hj
      have hx : (n - 1) * 4 + j < (setL cur (i * 4) news).size := by rw [hs1]; omega
      rw [blkCell hg1 _ _ (Array.getElem?_eq_getElem hx)]; rfl) (fun j hj => blkFree hg1 _)
  have HR : Hid (Fr (fun k => k = g) w (W1.setCells g ((n - 1) * 4) [.int .i64 0, .int .i64 0, .int .i64 0, .int .i64 0]) ∧ (W1.setCells g ((n - 1) * 4) [.int .i64 0, .int .i64 0, .int .i64 0, .int .i64 0]).ownsRow B 82 4 (.slice (some ⟨g, 0, none⟩) (n - 1) cap) (n - 1) (xs.take (i * 4) ++ xs.drop ((i + 1) * 4))) := by
    refine ⟨Fr.setCells (X := fun k => k = g) (b := g) rfl _ _ hF1, ?_, .inr ⟨g, cap, _, rfl, hB, heap_setCells g [.int .i64 0, .int .i64 0, .int .i64 0, .int .i64 0] ((n - 1) * 4) W1 _ _ hg1, by omega, by unfold maxLen; omega, by rw [setL_size]; exact hs1, ?_⟩⟩
    · rw [← hnews, List.length_append, List.length_take, hnl, hlen]; omega
    · rw [setL_list _ _ _ (by rw [hs1]; simp; omega), setL_list _ _ _ (by rw [hnl, hcs]; omega)]
      have e1 : cur.toList.take (i * 4) = xs.take (i * 4) := by rw [← htk, List.take_take]; congr 1; omega
      rw [e1, ← hnews]
      have e2 : (xs.take (i * 4) ++ news).length = (n - 1) * 4 := by rw [List.length_append, List.length_take, hnl, hlen]; omega
      generalize xs.take (i * 4) ++ news = X at *
      rw [List.take_left' e2, List.append_assoc, List.take_left' e2]
  have hW : Hid (W1 = w.drew.setCells g (0 + i * 4) news) := hW1
  have hi1 : i + 1 ≤ n := by omega
  have hic : i ≤ cap := by omega
  have hne : ((i : Int) == (i : Int) + 1) = false := by simp; omega
  have hn1 : i + (n - (i + 1)) = n - 1 := by omega
  have hq1 : (i : Int) + 1 ≤ (n : Int) := by omega
  have hq2 : (0 : Int) ≤ (i : Int) + 1 := by omega
  have hq3 : ¬ ((i : Int) + 1 < 0) := by omega
  have hq4 : (i : Int) ≤ (i : Int) + 1 := by omega
  have hnc : n ≤ cap := hc
  have hn0 : n - (n - 1) = 1 := by omega
  have hn2 : n - 1 ≤ n := by omega
  have hn3 : n - 1 ≤ cap := by omega
  have hn4 : ¬ cap = n - 1 := by omega
  clear hg1 hF1 hs1 hW1 hcell hfree hsome hnews hnl hcl hlen hcs htk hg ho8
  go_enter Tryz.func56, Tryz.ntmps56
  go_wp2_with fail
  go_region_law (refine step_append_room rfl (.tmp 22) (.tmp 25) 28 rfl 82 i0 4 Tryz.underlying28 hi0 hj1 g 0 i cap (by simp [Act.eval, Act.put]) ⟨g, o8, none⟩ (n - (i + 1)) (cap - (i + 1)) news (by simp [Act.eval, Act.put]) S4.out S1.out S2.out (by omega) S3.out ?_; rw [← hW.out])
  go_wp2
  go_ret
  exact ⟨rfl, HR.out⟩
theorem bkInfo : (Tryz.prog.info? 30).map (fun i => (i.zero, i.size, i.bytes)) = some (some (.agg #[.slice none 0 0, .int .i64 0]), 2, 32) := by kernel_rfl
theorem bkZero (w : World) : (zeroValue 30).run Tryz.prog w = .ok (.agg #[.slice none 0 0, .int .i64 0]) w := by kernel_rfl
set_option maxHeartbeats 4000000 in
set_option maxRecDepth 8000 in
/-- slices.Delete of one element, in place. -/
theorem bkDelete_any (B g cap n i : Nat) (xs : List Value) (hi : i < n) (hone : ∀ u ∈ xs, u.oneCell' = true) (w : World) (h : w.ownsRow B 30 2 (.slice (some ⟨g, 0, none⟩) n cap) n xs) (hn : n ≤ 100000000) :
    Calls Tryz.prog 47 #[.slice (some ⟨g, 0, none⟩) n cap, .int .i64 (i : Int), .int .i64 ((i : Int) + 1)] w fun e w' => e = .returned (.slice (some ⟨g, 0, none⟩) (n - 1) cap) ∧ Fr (fun k => k = g) w w' ∧ w'.ownsRow B 30 2 (.slice (some ⟨g, 0, none⟩) (n - 1) cap) (n - 1) (xs.take (i * 2) ++ xs.drop ((i + 1) * 2)) := by
  obtain ⟨i0, hi0, hzz⟩ := Option.map_eq_some_iff.1 bkInfo
  simp only [Prod.mk.injEq] at hzz
  obtain ⟨hj0, hj1, hj2⟩ := hzz
  obtain ⟨hlen, hf⟩ := h
  obtain ⟨hB, cur, hg, hc, hm, hcs, htk⟩ : B ≤ g ∧ ∃ cur, w.heap[g]? = some (.cells cur 30 (0, 0)) ∧ n ≤ cap ∧ cap ≤ maxLen ∧ cur.size = cap * 2 ∧ cur.toList.take (n * 2) = xs := by
    rcases hf with ⟨q, _⟩ | ⟨g', cap', cur, q, h1, h2, h3, h4, h5, h6⟩
    · simp at q
    · simp only [Value.slice.injEq, Option.some.injEq, Addr.mk.injEq] at q
      obtain ⟨⟨rfl, _⟩, _, rfl⟩ := q
      exact ⟨h1, cur, h2, h3, h4, h5, h6⟩
  clear hf
  unfold maxLen at hm
  obtain ⟨news, hnews⟩ : ∃ news, news = xs.drop ((i + 1) * 2) := ⟨_, rfl⟩
  have hnl : news.length = (n - (i + 1)) * 2 := by rw [hnews, List.length_drop, hlen]; omega
  have hcl : cur.toList.length = cap * 2 := by rw [Array.length_toList]; exact hcs
  have hcell : ∀ (W : World), W.heap[g]? = w.heap[g]? → ∀ j u, xs[j]? = some u → W.cell? ⟨g, j, none⟩ = some u := fun W hW j u hu => by
    refine blkCell (hW.trans hg) j u ?_
    rw [← htk] at hu
    have hj := (List.getElem?_eq_some_iff.1 hu).1
    rw [List.length_take] at hj
    rw [List.getElem?_take_of_lt (by omega)] at hu
    rw [← Array.getElem?_toList]; exact hu
  have hfree : ∀ j, w.drew.frozen? ⟨g, j, none⟩ = false := fun j => blkFree (W := w.drew) hg j
  have hsome : ∀ j, j < n * 2 → (w.drew.cell? ⟨g, j, none⟩).isSome = true := fun j hj => by
    have hx : j < xs.length := by rw [hlen]; exact hj
    rw [hcell w.drew rfl j xs[j] (List.getElem?_eq_getElem hx)]; rfl
  obtain ⟨o8, ho8⟩ : ∃ o8 : Nat, o8 = if cap = i + 1 then 0 else (i + 1) * 2 := ⟨_, rfl⟩
  have hof : (if cap = i + 1 then (some (⟨g, 0, none⟩ : Addr)) else some ⟨g, (i + 1) * 2, none⟩) = some ⟨g, o8, none⟩ := by rw [ho8]; split <;> rfl
  have S1 : Hid (∀ t u, news[t]? = some u → w.drew.cell? ((⟨g, o8, none⟩ : Addr).add t) = some u) := fun t u hu => by
    have ht := (List.getElem?_eq_some_iff.1 hu).1
    rw [Go.WideShapes.add_plain]
    rw [hnl] at ht
    rw [hnews, List.getElem?_drop] at hu
    rw [ho8, if_neg (by omega)]
    exact hcell w.drew rfl _ u hu
  have S2 : Hid (∀ u ∈ news, u.oneCell' = true) := fun u hu => hone u (by rw [hnews] at hu; exact List.mem_of_mem_drop hu)
  have S3 : Hid (∀ t, t < news.length → (w.drew.cell? ⟨g, 0 + i * 2 + t, none⟩).isSome = true ∧ w.drew.frozen? ⟨g, 0 + i * 2 + t, none⟩ = false) := fun t ht => by
    rw [hnl] at ht
    exact ⟨hsome _ (by omega), hfree _⟩
  have S4 : Hid (news.length = (n - (i + 1)) * 2) := hnl
  obtain ⟨W1, hW1⟩ : ∃ W1, W1 = w.drew.setCells g (0 + i * 2) news := ⟨_, rfl⟩
  have hg1 : W1.heap[g]? = some (.cells (setL cur (i * 2) news) 30 (0, 0)) := by rw [hW1, Nat.zero_add]; exact heap_setCells g news (i * 2) w.drew cur _ hg
  have hF1 : Fr (fun k => k = g) w W1 := by rw [hW1]; exact Fr.setCells (X := fun k => k = g) (b := g) rfl news _ (Fr.of (below_drew w))
  have hs1 : (setL cur (i * 2) news).size = cap * 2 := by rw [setL_size]; exact hcs
  have hclr : ∀ ty c, (Builtin.clear_ #[31] ty #[.slice (some ⟨g, (n - 1) * 2, none⟩) 1 c]).run Tryz.prog W1 = .ok (.tuple #[]) (W1.setCells g ((n - 1) * 2) [.slice none 0 0, .int .i64 0]) := fun ty c =>
    clear_one W1 31 30 ty #[.slice none 0 0, .int .i64 0] Tryz.underlying31 bkZero g _ c (by decide) (by simp [Value.oneCell']) (fun j hj => by
      have hj' : j < 2 := hj
      have hx : (n - 1) * 2 + j < (setL cur (i * 2) news).size := by rw [hs1]; omega
      rw [blkCell hg1 _ _ (Array.getElem?_eq_getElem hx)]; rfl) (fun j hj => blkFree hg1 _)
  have HR : Hid (Fr (fun k => k = g) w (W1.setCells g ((n - 1) * 2) [.slice none 0 0, .int .i64 0]) ∧ (W1.setCells g ((n - 1) * 2) [.slice none 0 0, .int .i64 0]).ownsRow B 30 2 (.slice (some ⟨g, 0, none⟩) (n - 1) cap) (n - 1) (xs.take (i * 2) ++ xs.drop ((i + 1) * 2))) := by
    refine ⟨Fr.setCells (X := fun k => k = g) (b := g) rfl _ _ hF1, ?_, .inr ⟨g, cap, _, rfl, hB, heap_setCells g [.slice none 0 0, .int .i64 0] ((n - 1) * 2) W1 _ _ hg1, by omega, by unfold maxLen; omega, by rw [setL_size]; exact hs1, ?_⟩⟩
    · rw [← hnews, List.length_append, List.length_take, hnl, hlen]; omega
    · rw [setL_list _ _ _ (by rw [hs1]; simp; omega), setL_list _ _ _ (by rw [hnl, hcs]; omega)]
      have e1 : cur.toList.take (i * 2) = xs.take (i * 2) := by rw [← htk, List.take_take]; congr 1; omega
      rw [e1, ← hnews]
      have e2 : (xs.take (i * 2) ++ news).length = (n - 1) * 2 := by rw [List.length_append, List.length_take, hnl, hlen]; omega
      generalize xs.take (i * 2) ++ news = X at *
      rw [List.take_left' e2, List.append_assoc, List.take_left' e2]
  have hW : Hid (W1 = w.drew.setCells g (0 + i * 2) news) := hW1
  have hi1 : i + 1 ≤ n := by omega
  have hic : i ≤ cap := by omega
  have hne : ((i : Int) == (i : Int) + 1) = false := by simp; omega
  have hn1 : i + (n - (i + 1)) = n - 1 := by omega
  have hq1 : (i : Int) + 1 ≤ (n : Int) := by omega
  have hq2 : (0 : Int) ≤ (i : Int) + 1 := by omega
  have hq3 : ¬ ((i : Int) + 1 < 0) := by omega
  have hq4 : (i : Int) ≤ (i : Int) + 1 := by omega
  have hnc : n ≤ cap := hc
  have hn0 : n - (n - 1) = 1 := by omega
  have hn2 : n - 1 ≤ n := by omega
  have hn3 : n - 1 ≤ cap := by omega
  have hn4 : ¬ cap = n - 1 := by omega
  clear hg1 hF1 hs1 hW1 hcell hfree hsome hnews hnl hcl hlen hcs htk hg ho8
  go_enter Tryz.func47, Tryz.ntmps47
  go_wp2_with fail
  go_region_law (refine step_append_room rfl (.tmp 22) (.tmp 25) 31 rfl 30 i0 2 Tryz.underlying31 hi0 hj1 g 0 i cap (by simp [Act.eval, Act.put]) ⟨g, o8, none⟩ (n - (i + 1)) (cap - (i + 1)) news (by simp [Act.eval, Act.put]) S4.out S1.out S2.out (by omega) S3.out ?_; rw [← hW.out])
  go_wp2
  go_ret
  exact ⟨rfl, HR.out⟩
end Go.Proofs.YtabpkfhbnendjaaGreat
