/-
  Texts of this claim laid together: SpA.
-/
import Derived.Test.YtabpkfhbnendjaaGreatM36
/-
  The specification's run of a till in memory, and what acts leave of it.
-/
namespace Go.Proofs.YtabpkfhbnendjaaGreat
open Go.ChangeShapes Go.WideShapes Go.ChangeAt Go.RowKit Go.Deep
set_option linter.unusedVariables false

def SpIs (W : World) (rb : Nat) (iv lv : Value) (sh : Int) (kv : Value) (sl tk dp : Int) (cv : Value) : Prop := W.heap[rb]? = some (.cells #[iv, lv, .int .i64 sh, kv, .int .i64 sl, .int .i64 tk, .int .i64 dp, cv] 56 (0, 0))
theorem SpIs.cells {W : World} {rb : Nat} {iv lv : Value} {sh : Int} {kv : Value} {sl tk dp : Int} {cv : Value} (h : SpIs W rb iv lv sh kv sl tk dp cv) :
    W.cell? ⟨rb, 0, none⟩ = some iv ∧ W.cell? ⟨rb, 1, none⟩ = some lv ∧ W.cell? ⟨rb, 2, none⟩ = some (.int .i64 sh) ∧ W.cell? ⟨rb, 3, none⟩ = some kv ∧ W.cell? ⟨rb, 4, none⟩ = some (.int .i64 sl) ∧ W.cell? ⟨rb, 5, none⟩ = some (.int .i64 tk) ∧ W.cell? ⟨rb, 6, none⟩ = some (.int .i64 dp) ∧ W.cell? ⟨rb, 7, none⟩ = some cv :=
  ⟨blkCell h 0 _ rfl, blkCell h 1 _ rfl, blkCell h 2 _ rfl, blkCell h 3 _ rfl, blkCell h 4 _ rfl, blkCell h 5 _ rfl, blkCell h 6 _ rfl, blkCell h 7 _ rfl⟩
theorem SpIs.free {W : World} {rb : Nat} {iv lv : Value} {sh : Int} {kv : Value} {sl tk dp : Int} {cv : Value} (h : SpIs W rb iv lv sh kv sl tk dp cv) (j : Nat) : W.frozen? ⟨rb, j, none⟩ = false := blkFree h j
theorem SpIs.lt {W : World} {rb : Nat} {iv lv : Value} {sh : Int} {kv : Value} {sl tk dp : Int} {cv : Value} (h : SpIs W rb iv lv sh kv sl tk dp cv) : rb < W.heap.size := blkLt h
theorem SpIs.later {W W' : World} {rb : Nat} {iv lv : Value} {sh : Int} {kv : Value} {sl tk dp : Int} {cv : Value} (h : SpIs W rb iv lv sh kv sl tk dp cv) (hb : Below W.heap.size W W') : SpIs W' rb iv lv sh kv sl tk dp cv := (hb.block rb h.lt).trans h
theorem SpIs.set1 {W : World} {rb : Nat} {iv lv : Value} {sh : Int} {kv : Value} {sl tk dp : Int} {cv : Value} (h : SpIs W rb iv lv sh kv sl tk dp cv) (v : Value) : SpIs (W.setCell ⟨rb, 1, none⟩ (v)) rb iv v sh kv sl tk dp cv := by
  have e := heap_setCell_same W rb 1 _ _ (v) h
  simp only [List.setIfInBounds_toArray, List.set_cons_zero, List.set_cons_succ] at e
  exact e
theorem SpIs.set2 {W : World} {rb : Nat} {iv lv : Value} {sh : Int} {kv : Value} {sl tk dp : Int} {cv : Value} (h : SpIs W rb iv lv sh kv sl tk dp cv) (v : Int) : SpIs (W.setCell ⟨rb, 2, none⟩ (.int .i64 v)) rb iv lv v kv sl tk dp cv := by
  have e := heap_setCell_same W rb 2 _ _ (.int .i64 v) h
  simp only [List.setIfInBounds_toArray, List.set_cons_zero, List.set_cons_succ] at e
  exact e
theorem SpIs.set3 {W : World} {rb : Nat} {iv lv : Value} {sh : Int} {kv : Value} {sl tk dp : Int} {cv : Value} (h : SpIs W rb iv lv sh kv sl tk dp cv) (v : Value) : SpIs (W.setCell ⟨rb, 3, none⟩ (v)) rb iv lv sh v sl tk dp cv := by
  have e := heap_setCell_same W rb 3 _ _ (v) h
  simp only [List.setIfInBounds_toArray, List.set_cons_zero, List.set_cons_succ] at e
  exact e
theorem SpIs.set4 {W : World} {rb : Nat} {iv lv : Value} {sh : Int} {kv : Value} {sl tk dp : Int} {cv : Value} (h : SpIs W rb iv lv sh kv sl tk dp cv) (v : Int) : SpIs (W.setCell ⟨rb, 4, none⟩ (.int .i64 v)) rb iv lv sh kv v tk dp cv := by
  have e := heap_setCell_same W rb 4 _ _ (.int .i64 v) h
  simp only [List.setIfInBounds_toArray, List.set_cons_zero, List.set_cons_succ] at e
  exact e
theorem SpIs.set5 {W : World} {rb : Nat} {iv lv : Value} {sh : Int} {kv : Value} {sl tk dp : Int} {cv : Value} (h : SpIs W rb iv lv sh kv sl tk dp cv) (v : Int) : SpIs (W.setCell ⟨rb, 5, none⟩ (.int .i64 v)) rb iv lv sh kv sl v dp cv := by
  have e := heap_setCell_same W rb 5 _ _ (.int .i64 v) h
  simp only [List.setIfInBounds_toArray, List.set_cons_zero, List.set_cons_succ] at e
  exact e
theorem SpIs.set6 {W : World} {rb : Nat} {iv lv : Value} {sh : Int} {kv : Value} {sl tk dp : Int} {cv : Value} (h : SpIs W rb iv lv sh kv sl tk dp cv) (v : Int) : SpIs (W.setCell ⟨rb, 6, none⟩ (.int .i64 v)) rb iv lv sh kv sl tk v cv := by
  have e := heap_setCell_same W rb 6 _ _ (.int .i64 v) h
  simp only [List.setIfInBounds_toArray, List.set_cons_zero, List.set_cons_succ] at e
  exact e
structure Sg (B rb : Nat) (iv lv : Value) (ls : List RLi) (sh : Int) (kv : Value) (ks : List Kb) (sl tk dp : Int) (cv : Value) (cs : List Int) (W : World) : Prop where
  reg : SpIs W rb iv lv sh kv sl tk dp cv
  lrow : W.ownsRow B 82 4 lv ls.length (lnCells ls)
  krow : W.ownsRow B 30 2 kv ks.length (ks.flatMap kbC)
  rows : ∀ k ∈ ks, W.ownsRow B 82 4 k.v k.ls.length (lnCells k.ls)
  dist : (some rb :: kv.ownBlock :: lv.ownBlock :: ks.map (·.v.ownBlock)).Pairwise Far
  low : B ≤ rb
  crow : W.ownsRow B 3 1 cv cs.length (cs.map (Value.int .i64))
theorem Sg.cnot {B rb : Nat} {iv lv : Value} {ls : List RLi} {sh : Int} {kv : Value} {ks : List Kb} {sl tk dp : Int} {cv : Value} {cs : List Int} {W : World} (h : Sg B rb iv lv ls sh kv ks sl tk dp cv cs W) {q : Nat} (hq : cv.ownBlock = some q) : q ≠ rb ∧ lv.ownBlock ≠ some q ∧ kv.ownBlock ≠ some q := by
  obtain ⟨cur, hc⟩ := row_type h.crow hq
  refine ⟨fun e => ?_, fun e => ?_, fun e => ?_⟩
  · have := h.reg
    unfold SpIs at this
    rw [← e, hc] at this
    simp at this
  · obtain ⟨cur', hc'⟩ := row_type h.lrow e
    rw [hc] at hc'
    simp at hc'
  · obtain ⟨cur', hc'⟩ := row_type h.krow e
    rw [hc] at hc'
    simp at hc'
theorem Sg.later {B rb : Nat} {iv lv : Value} {ls : List RLi} {sh : Int} {kv : Value} {ks : List Kb} {sl tk dp : Int} {cv : Value} {cs : List Int} {W W' : World} (h : Sg B rb iv lv ls sh kv ks sl tk dp cv cs W) (hb : Below W.heap.size W W') : Sg B rb iv lv ls sh kv ks sl tk dp cv cs W' :=
  ⟨h.reg.later hb, row_of h.lrow (fun q hq => hb.block q (row_lt h.lrow q hq).2), row_of h.krow (fun q hq => hb.block q (row_lt h.krow q hq).2), fun k hk => row_of (h.rows k hk) (fun q hq => hb.block q (row_lt (h.rows k hk) q hq).2), h.dist, h.low, row_of h.crow (fun q hq => hb.block q (row_lt h.crow q hq).2)⟩
theorem Sg.far {B rb : Nat} {iv lv : Value} {ls : List RLi} {sh : Int} {kv : Value} {ks : List Kb} {sl tk dp : Int} {cv : Value} {cs : List Int} {W : World} (h : Sg B rb iv lv ls sh kv ks sl tk dp cv cs W) : lv.ownBlock ≠ some rb ∧ kv.ownBlock ≠ some rb ∧ (∀ k ∈ ks, k.v.ownBlock ≠ some rb) ∧ Far kv.ownBlock lv.ownBlock ∧ (∀ k ∈ ks, Far kv.ownBlock k.v.ownBlock) ∧ (∀ k ∈ ks, Far lv.ownBlock k.v.ownBlock) ∧ (ks.map (·.v.ownBlock)).Pairwise Far := by
  obtain ⟨h1, h2⟩ := List.pairwise_cons.1 h.dist
  obtain ⟨h3, h4⟩ := List.pairwise_cons.1 h2
  obtain ⟨h5, h6⟩ := List.pairwise_cons.1 h4
  refine ⟨h1 _ (by simp) rb rfl, h1 _ (by simp) rb rfl, fun k hk => h1 _ (by simp; exact .inr (.inr ⟨k, hk, rfl⟩)) rb rfl, h3 _ (by simp), fun k hk => h3 _ (by simp; exact .inr ⟨k, hk, rfl⟩), fun k hk => h5 _ (by simp; exact ⟨k, hk, rfl⟩), h6⟩
theorem Sg.cells {B rb : Nat} {iv lv : Value} {ls : List RLi} {sh : Int} {kv : Value} {ks : List Kb} {sl tk dp : Int} {cv : Value} {cs : List Int} {W W' : World} {sh' sl' tk' dp' : Int} (h : Sg B rb iv lv ls sh kv ks sl tk dp cv cs W) (hf : Fr (fun k => k = rb) W W') (hr : SpIs W' rb iv lv sh' kv sl' tk' dp' cv) : Sg B rb iv lv ls sh' kv ks sl' tk' dp' cv cs W' := by
  obtain ⟨f1, f2, f3, _⟩ := h.far
  exact ⟨hr, row_of h.lrow (fun q hq => hf.block q (row_lt h.lrow q hq).2 (fun e => f1 (by rw [hq, e]))), row_of h.krow (fun q hq => hf.block q (row_lt h.krow q hq).2 (fun e => f2 (by rw [hq, e]))), fun k hk => row_of (h.rows k hk) (fun q hq => hf.block q (row_lt (h.rows k hk) q hq).2 (fun e => f3 k hk (by rw [hq, e]))), h.dist, h.low, row_of h.crow (fun q hq => hf.block q (row_lt h.crow q hq).2 (h.cnot hq).1)⟩
theorem Sg.blank {B rb : Nat} {iv lv : Value} {ls : List RLi} {sh : Int} {kv : Value} {ks : List Kb} {sl tk dp : Int} {cv : Value} {cs : List Int} {W W' : World} {sh' sl' tk' dp' : Int} (h : Sg B rb iv lv ls sh kv ks sl tk dp cv cs W) (hf : Fr (fun k => k = rb) W W') (hr : SpIs W' rb iv (.slice none 0 0) sh' kv sl' tk' dp' cv) : Sg B rb iv (.slice none 0 0) [] sh' kv ks sl' tk' dp' cv cs W' := by
  obtain ⟨f1, f2, f3, f4, f5, f6, f7⟩ := h.far
  exact ⟨hr, World.ownsRow_nil _ _ _ _, row_of h.krow (fun q hq => hf.block q (row_lt h.krow q hq).2 (fun e => f2 (by rw [hq, e]))), fun k hk => row_of (h.rows k hk) (fun q hq => hf.block q (row_lt (h.rows k hk) q hq).2 (fun e => f3 k hk (by rw [hq, e]))), dist_mk (by simp [Value.ownBlock]) f2 (by intro k hk; obtain ⟨x, hx, rfl⟩ := List.mem_map.1 hk; exact f3 x hx) (far_none' _) (by intro k hk; obtain ⟨x, hx, rfl⟩ := List.mem_map.1 hk; exact f5 x hx) (fun k _ => far_none _) f7, h.low, row_of h.crow (fun q hq => hf.block q (row_lt h.crow q hq).2 (h.cnot hq).1)⟩
theorem Sg.now {B rb : Nat} {iv lv : Value} {ls : List RLi} {sh : Int} {kv : Value} {ks : List Kb} {sl tk dp : Int} {cv : Value} {cs : List Int} {W W' : World} {lv' : Value} {ls' : List RLi} (h : Sg B rb iv lv ls sh kv ks sl tk dp cv cs W) (hf : Fr (fun k => k = rb ∨ lv.ownBlock = some k) W W') (hr : SpIs W' rb iv lv' sh kv sl tk dp cv) (hl : W'.ownsRow B 82 4 lv' ls'.length (lnCells ls')) (hv : lv'.ownBlock = lv.ownBlock ∨ ∃ q, lv'.ownBlock = some q ∧ W.heap.size ≤ q) : Sg B rb iv lv' ls' sh kv ks sl tk dp cv cs W' := by
  obtain ⟨f1, f2, f3, f4, f5, f6, f7⟩ := h.far
  have bk : ∀ p, kv.ownBlock = some p → p < W.heap.size := fun p hp => (row_lt h.krow p hp).2
  have bs : ∀ k ∈ ks, ∀ p, k.v.ownBlock = some p → p < W.heap.size := fun k hk p hp => (row_lt (h.rows k hk) p hp).2
  refine ⟨hr, hl, row_of h.krow (fun q hq => hf.block q (bk q hq) ?_), fun k hk => row_of (h.rows k hk) (fun q hq => hf.block q (bs k hk q hq) ?_), ?_, h.low, row_of h.crow (fun q hq => hf.block q (row_lt h.crow q hq).2 (by rintro (e | e); exact (h.cnot hq).1 e; exact (h.cnot hq).2.1 e))⟩
  · rintro (e | e)
    · exact f2 (by rw [hq, e])
    · exact f4 q hq e
  · rintro (e | e)
    · exact f3 k hk (by rw [hq, e])
    · exact f6 k hk q e hq
  · rcases hv with e | ⟨q, e, hq⟩
    · rw [e]; exact h.dist
    · rw [e]
      exact dist_mk (by simp; have := h.reg.lt; omega) f2 (by intro k hk; obtain ⟨x, hx, rfl⟩ := List.mem_map.1 hk; exact f3 x hx) (far_new bk hq) (by intro k hk; obtain ⟨x, hx, rfl⟩ := List.mem_map.1 hk; exact f5 x hx) (by intro k hk; obtain ⟨x, hx, rfl⟩ := List.mem_map.1 hk; exact far_new' (bs x hx) hq) f7
theorem Sg.susp {B rb : Nat} {iv lv : Value} {ls : List RLi} {sh : Int} {kv : Value} {ks : List Kb} {sl tk dp : Int} {cv : Value} {cs : List Int} {W W' : World} {kv' : Value} (h : Sg B rb iv lv ls sh kv ks sl tk dp cv cs W) (hf : Fr (fun k => k = rb ∨ kv.ownBlock = some k) W W') (hr : SpIs W' rb iv (.slice none 0 0) 0 kv' sl tk dp cv) (hk' : W'.ownsRow B 30 2 kv' (ks.length + 1) (ks.flatMap kbC ++ kbC ⟨lv, ls, sh⟩)) (hv : kv'.ownBlock = kv.ownBlock ∨ ∃ q, kv'.ownBlock = some q ∧ W.heap.size ≤ q) : Sg B rb iv (.slice none 0 0) [] 0 kv' (ks ++ [Kb.mk lv ls sh]) sl tk dp cv cs W' := by
  obtain ⟨f1, f2, f3, f4, f5, f6, f7⟩ := h.far
  have bl : ∀ p, lv.ownBlock = some p → p < W.heap.size := fun p hp => (row_lt h.lrow p hp).2
  have bs : ∀ k ∈ ks, ∀ p, k.v.ownBlock = some p → p < W.heap.size := fun k hk p hp => (row_lt (h.rows k hk) p hp).2
  have hrows : ∀ k ∈ ks ++ [Kb.mk lv ls sh], W'.ownsRow B 82 4 k.v k.ls.length (lnCells k.ls) := fun k hk => by
    rcases List.mem_append.1 hk with hk | hk
    · refine row_of (h.rows k hk) (fun q hq => hf.block q (bs k hk q hq) ?_)
      rintro (e | e)
      · exact f3 k hk (by rw [hq, e])
      · exact f5 k hk q e hq
    · rw [List.mem_singleton.1 hk]
      refine row_of h.lrow (fun q hq => hf.block q (bl q hq) ?_)
      rintro (e | e)
      · exact f1 (by rw [hq, e])
      · exact f4 q e hq
  refine ⟨hr, World.ownsRow_nil _ _ _ _, ?_, hrows, ?_, h.low, row_of h.crow (fun q hq => hf.block q (row_lt h.crow q hq).2 (by rintro (e | e); exact (h.cnot hq).1 e; exact (h.cnot hq).2.2 e))⟩
  · rw [List.length_append, List.flatMap_append]; simpa using hk'
  · have p1 : ((ks ++ [Kb.mk lv ls sh]).map (·.v.ownBlock)).Pairwise Far := by
      rw [List.map_append, List.pairwise_append]
      refine ⟨f7, by simp, fun a ha b hb => ?_⟩
      obtain ⟨x, hx, rfl⟩ := List.mem_map.1 ha
      simp at hb
      subst hb
      exact fun q hq e => f6 x hx q e hq
    have p2 : ∀ a ∈ (ks ++ [Kb.mk lv ls sh]).map (·.v.ownBlock), a ≠ some rb := fun a ha => by
      obtain ⟨x, hx, rfl⟩ := List.mem_map.1 ha
      rcases List.mem_append.1 hx with hx | hx
      · exact f3 x hx
      · rw [List.mem_singleton.1 hx]; exact f1
    have p3 : ∀ a ∈ (ks ++ [Kb.mk lv ls sh]).map (·.v.ownBlock), Far kv.ownBlock a := fun a ha => by
      obtain ⟨x, hx, rfl⟩ := List.mem_map.1 ha
      rcases List.mem_append.1 hx with hx | hx
      · exact f5 x hx
      · rw [List.mem_singleton.1 hx]; exact f4
    have p4 : ∀ a ∈ (ks ++ [Kb.mk lv ls sh]).map (·.v.ownBlock), ∀ p, a = some p → p < W.heap.size := fun a ha p hp => by
      obtain ⟨x, hx, rfl⟩ := List.mem_map.1 ha
      rcases List.mem_append.1 hx with hx | hx
      · exact bs x hx p hp
      · rw [List.mem_singleton.1 hx] at hp; exact bl p hp
    rcases hv with e | ⟨q, e, hq⟩
    · rw [e]; exact dist_mk (by simp [Value.ownBlock]) f2 p2 (far_none' _) p3 (fun _ _ => far_none _) p1
    · rw [e]; exact dist_mk (by simp [Value.ownBlock]) (by simp; have := h.reg.lt; omega) p2 (far_none' _) (fun a ha => far_new' (p4 a ha) hq) (fun _ _ => far_none _) p1
theorem Sg.resume {B rb : Nat} {iv lv : Value} {ls : List RLi} {sh : Int} {kv : Value} {ks : List Kb} {sl tk dp : Int} {cv : Value} {cs : List Int} {W W' : World} {kv' : Value} {i : Nat} (hi : i < ks.length) (h : Sg B rb iv lv ls sh kv ks sl tk dp cv cs W) (hf : Fr (fun k => k = rb ∨ kv.ownBlock = some k) W W') (hr : SpIs W' rb iv (ks.getD i zKb).v (ks.getD i zKb).sh kv' sl tk dp cv) (hk' : W'.ownsRow B 30 2 kv' (ks.take i ++ ks.drop (i + 1)).length ((ks.take i ++ ks.drop (i + 1)).flatMap kbC)) (hv : kv'.ownBlock = kv.ownBlock ∨ ∃ q, kv'.ownBlock = some q ∧ W.heap.size ≤ q) : Sg B rb iv (ks.getD i zKb).v (ks.getD i zKb).ls (ks.getD i zKb).sh kv' (ks.take i ++ ks.drop (i + 1)) sl tk dp cv cs W' := by
  obtain ⟨f1, f2, f3, f4, f5, f6, f7⟩ := h.far
  have hrow : ∀ k ∈ ks, W'.ownsRow B 82 4 k.v k.ls.length (lnCells k.ls) := fun k hk => by
    refine row_of (h.rows k hk) (fun q hq => hf.block q (row_lt (h.rows k hk) q hq).2 ?_)
    rintro (e | e)
    · exact f3 k hk (by rw [hq, e])
    · exact f5 k hk q e hq
  have hsub : ∀ k ∈ ks.take i ++ ks.drop (i + 1), k ∈ ks := fun k hk => by
    rcases List.mem_append.1 hk with hk | hk
    · exact List.mem_of_mem_take hk
    · exact List.mem_of_mem_drop hk
  have hex : ks = ks.take i ++ ks.getD i zKb :: ks.drop (i + 1) := by
    have e : ks.getD i zKb = ks[i] := by simp [List.getD_eq_getElem?_getD, hi]
    rw [e, List.getElem_cons_drop hi, List.take_append_drop]
  have hsym : ∀ a b : Option Nat, Far a b → Far b a := fun a b hab q hq e => hab q e hq
  have hp := f7
  rw [hex, List.map_append, List.map_cons, List.pairwise_append] at hp
  obtain ⟨p1, p2, p3⟩ := hp
  obtain ⟨p4, p5⟩ := List.pairwise_cons.1 p2
  refine ⟨hr, getKb hrow hi, hk', fun k hk => hrow k (hsub k hk), ?_, h.low, row_of h.crow (fun q hq => hf.block q (row_lt h.crow q hq).2 (by rintro (e | e); exact (h.cnot hq).1 e; exact (h.cnot hq).2.2 e))⟩
  have bs : ∀ k ∈ ks, ∀ p, k.v.ownBlock = some p → p < W.heap.size := fun k hk p hp => (row_lt (h.rows k hk) p hp).2
  have g1 : kv'.ownBlock ≠ some rb := by
    rcases hv with e | ⟨q, e, hq⟩
    · rw [e]; exact f2
    · rw [e]; simp; have := h.reg.lt; omega
  have g2 : ∀ k ∈ ks, Far kv'.ownBlock k.v.ownBlock := fun k hk => by
    rcases hv with e | ⟨q, e, hq⟩
    · rw [e]; exact f5 k hk
    · rw [e]; exact far_new' (bs k hk) hq
  refine dist_mk (getKb f3 hi) g1 (fun a ha => ?_) (getKb g2 hi) (fun a ha => ?_) (fun a ha => ?_) ?_
  · obtain ⟨x, hx, rfl⟩ := List.mem_map.1 ha; exact f3 x (hsub x hx)
  · obtain ⟨x, hx, rfl⟩ := List.mem_map.1 ha; exact g2 x (hsub x hx)
  · rw [List.map_append] at ha
    rcases List.mem_append.1 ha with ha | ha
    · exact hsym _ _ (p3 a ha _ List.mem_cons_self)
    · exact p4 a ha
  · rw [List.map_append, List.pairwise_append]
    exact ⟨p1, p5, fun a ha b hb => p3 a ha b (List.mem_cons_of_mem _ hb)⟩
end Go.Proofs.YtabpkfhbnendjaaGreat
