/-
  Texts of this claim laid together: SpG.
-/
import Derived.Test.YtabpkfhbnendjaaGreatM42
/-
  The specification's act where a line is voided.
-/
namespace Go.Proofs.YtabpkfhbnendjaaGreat
open Go.ChangeShapes Go.WideShapes Go.ChangeAt Go.RowKit Go.Deep
set_option linter.unusedVariables false

theorem ownEmptyLn (w : World) (B : Nat) (h : B ≤ w.heap.size) : (w.alloc (Obj.cells #[] 82)).ownsRow B 82 4 (.slice (some ⟨w.heap.size, 0, none⟩) ([] : List RLi).length 0) ([] : List RLi).length (lnCells []) :=
  ⟨rfl, .inr ⟨w.heap.size, 0, #[], rfl, h, heapNew w _, Nat.le_refl _, by unfold maxLen; omega, rfl, rfl⟩⟩
set_option maxHeartbeats 8000000 in
set_option maxRecDepth 8000 in
theorem actS_void (B rb : Nat) (iv : Value) (la : Option Addr) (lc : Nat) (ls : List RLi) (hl50 : ls.length ≤ 50) (sh : Int) (kv : Value) (ks : List Kb) (sl tk dp : Int) (cv : Value) (cs : List Int) (kd : Int) (tx : ByteArray) (n : Int) (w : World) (hg : Sg B rb iv (.slice la ls.length lc) ls sh kv ks sl tk dp cv cs w) (m : Nat) (hk : kd = 2) (hn : n = (m : Int)) (hm : m < ls.length) (hN : ∀ l ∈ ls, LiN l) (hB : B ≤ w.heap.size) :
    Calls Tryz.prog 16 #[.pointer (some ⟨rb, 0, none⟩), .agg #[.int .i64 kd, .string tx, .int .i64 n]] w fun e w' => e = .returned (.tuple #[.int .i64 ((ls.getD m zLi).am + (ls.getD m zLi).dp), .int .i64 0]) ∧ Fr (RgX rb (.slice la ls.length lc) kv) w w' ∧ ∃ lv', Sg B rb iv lv' (ls.take m ++ ls.drop (m + 1)) sh kv ks sl tk dp cv cs w' := by
  subst hn
  obtain ⟨g0, cp0, hgv⟩ := row_some hg.lrow (by omega)
  injection hgv with hla0 _ hcp0
  subst hla0
  subst hcp0
  have hli : LiN (ls.getD m zLi) := getLi hN hm
  have HE : Hid (∀ W, Sg B rb iv (.slice (some ⟨g0, 0, none⟩) ls.length lc) ls sh kv ks sl tk dp cv cs W → W.cell? ⟨g0, m * 4 + 0, none⟩ = (lnC (ls.getD m zLi))[0]? ∧ W.cell? ⟨g0, m * 4 + 1, none⟩ = (lnC (ls.getD m zLi))[1]? ∧ W.cell? ⟨g0, m * 4 + 2, none⟩ = (lnC (ls.getD m zLi))[2]? ∧ W.cell? ⟨g0, m * 4 + 3, none⟩ = (lnC (ls.getD m zLi))[3]?) := fun W h => by
    refine ⟨?_, ?_, ?_, ?_⟩ <;> rw [h.lrow.cellAt _ (by omega), lnCells_at _ _ _ hm (by omega)]
  generalize ls.getD m zLi = q at *
  obtain ⟨q0, q1, q2, q3⟩ := q
  have hwq : IntKind.i64.wrap (q2 + q3) = q2 + q3 := wrap_id _ (by have := hli; unfold LiN at this; dsimp only at this; omega) (by have := hli; unfold LiN at this; dsimp only at this; omega)
  have hlow := hg.low
  have hlt := hg.reg.lt
  obtain ⟨j0, hj, hzy⟩ := Option.map_eq_some_iff.1 lnInfo
  simp only [Prod.mk.injEq] at hzy
  obtain ⟨hj0, hj1, hj2⟩ := hzy
  have hx1 : ¬ (ls.length : Int) ≤ (m : Int) := by omega
  have hk1 : (kd == 1) = false := by simp; omega
  have hk2 : (kd == 2) = true := by simp; omega
  have hk3 : (kd == 3) = false := by simp; omega
  have hk4 : (kd == 4) = false := by simp; omega
  have hk5 : (kd == 5) = false := by simp; omega
  have hk6 : (kd == 6) = false := by simp; omega
  clear hk
  have hla : Below w.heap.size w (w.alloc (Obj.cells #[.int .i64 kd, .string tx, .int .i64 (m : Int)] 42)) := below_alloc _ _
  have HZ : Hid (∀ W, Below (w.alloc (Obj.cells #[.int .i64 kd, .string tx, .int .i64 (m : Int)] 42)).heap.size (w.alloc (Obj.cells #[.int .i64 kd, .string tx, .int .i64 (m : Int)] 42)) W → W.heap[w.heap.size]? = some (.cells #[.int .i64 kd, .string tx, .int .i64 (m : Int)] 42 (0, 0)) ∧ Below w.heap.size w W ∧ Sg B rb iv (.slice (some ⟨g0, 0, none⟩) ls.length lc) ls sh kv ks sl tk dp cv cs W) := fun W hW =>
    ⟨(hW.block _ (by simp)).trans (heapNew _ _), chain (below_alloc _ _) hW, hg.later (chain (below_alloc _ _) hW)⟩
  have r1 := (HZ.out _ (Below.refl _ _)).2.2.reg.cells.2.1
  have a0 := blkCell (HZ.out _ (Below.refl _ _)).1 0 _ rfl
  have a2 := blkCell (HZ.out _ (Below.refl _ _)).1 2 _ rfl
  have e0 := HE.out _ (HZ.out _ (Below.refl _ _)).2.2
  obtain ⟨e0, e1, e2, e3⟩ := e0
  dsimp only [lnC, List.getElem?_cons_zero, List.getElem?_cons_succ, Nat.add_zero] at e0 e1 e2 e3
  clear hla
  go_enter Tryz.func16, Tryz.ntmps16
  go_wp2_with fail
  clear r1 a0 a2 e0 e1 e2 e3
  have HD : Hid (Below w.heap.size w (((w.alloc (Obj.cells #[.int .i64 kd, .string tx, .int .i64 (m : Int)] 42)).alloc (Obj.cells #[.int .i64 q0, .int .i64 q1, .int .i64 q2, .int .i64 q3] 82))).drew ∧ Sg B rb iv (.slice (some ⟨g0, 0, none⟩) ls.length lc) ls sh kv ks sl tk dp cv cs (((w.alloc (Obj.cells #[.int .i64 kd, .string tx, .int .i64 (m : Int)] 42)).alloc (Obj.cells #[.int .i64 q0, .int .i64 q1, .int .i64 q2, .int .i64 q3] 82))).drew ∧ (((w.alloc (Obj.cells #[.int .i64 kd, .string tx, .int .i64 (m : Int)] 42)).alloc (Obj.cells #[.int .i64 q0, .int .i64 q1, .int .i64 q2, .int .i64 q3] 82))).drew.heap.size = w.heap.size + 2 ∧ ((((w.alloc (Obj.cells #[.int .i64 kd, .string tx, .int .i64 (m : Int)] 42)).alloc (Obj.cells #[.int .i64 q0, .int .i64 q1, .int .i64 q2, .int .i64 q3] 82))).drew.heap[w.heap.size]? = some (.cells #[.int .i64 kd, .string tx, .int .i64 (m : Int)] 42 (0, 0)) ∧ (((w.alloc (Obj.cells #[.int .i64 kd, .string tx, .int .i64 (m : Int)] 42)).alloc (Obj.cells #[.int .i64 q0, .int .i64 q1, .int .i64 q2, .int .i64 q3] 82))).drew.heap[w.heap.size + 1]? = some (.cells #[.int .i64 q0, .int .i64 q1, .int .i64 q2, .int .i64 q3] 82 (0, 0)))) := by
    have hq : Below w.heap.size w (((w.alloc (Obj.cells #[.int .i64 kd, .string tx, .int .i64 (m : Int)] 42)).alloc (Obj.cells #[.int .i64 q0, .int .i64 q1, .int .i64 q2, .int .i64 q3] 82))).drew := chain (below_alloc _ _) (chain (below_alloc _ _) (below_drew _))
    refine ⟨hq, hg.later hq, by simp [World.drew], ?_, ?_⟩
    · exact (Below.heap_alloc _ _ _ (by simp)).trans (heapNew w _)
    · have := heapNew (w.alloc (Obj.cells #[.int .i64 kd, .string tx, .int .i64 (m : Int)] 42)) (Obj.cells #[.int .i64 q0, .int .i64 q1, .int .i64 q2, .int .i64 q3] 82)
      rw [show (w.alloc (Obj.cells #[.int .i64 kd, .string tx, .int .i64 (m : Int)] 42)).heap.size = w.heap.size + 1 by simp] at this
      exact this
  refine wp_region_held_drew (S := fun W => W.heap[w.heap.size]? = some (.cells #[.int .i64 kd, .string tx, .int .i64 (m : Int)] 42 (0, 0)) ∧ W.heap[w.heap.size + 1]? = some (.cells #[.int .i64 q0, .int .i64 q1, .int .i64 q2, .int .i64 q3] 82 (0, 0))) (by kernel_rfl) HD.out.2.2.2 (fun hH => ?_)
  clear HZ hg
  generalize (((w.alloc (Obj.cells #[.int .i64 kd, .string tx, .int .i64 (m : Int)] 42)).alloc (Obj.cells #[.int .i64 q0, .int .i64 q1, .int .i64 q2, .int .i64 q3] 82))).drew = Wd at *
  obtain ⟨o8, ho8⟩ : ∃ o8 : Nat, o8 = if lc = m + 1 then 0 else (m + 1) * 4 := ⟨_, rfl⟩
  have hof : (if lc = m + 1 then (some (⟨g0, 0, none⟩ : Addr)) else some ⟨g0, (m + 1) * 4, none⟩) = some ⟨g0, o8, none⟩ := by rw [ho8]; split <;> rfl
  have HT1 : Hid ((ls.take m).length = m) := by show _ = _; rw [List.length_take]; omega
  have HT2 : Hid ((ls.drop (m + 1)).length = ls.length - (m + 1)) := by show _ = _; rw [List.length_drop]
  have hcap : ls.length ≤ lc := (rowLn_reads HD.out.2.1.lrow).1
  have HLi : Hid (∀ W, Below Wd.heap.size Wd W → LnLies W g0 0 (ls.take m) ∧ LnLies W g0 o8 (ls.drop (m + 1))) := fun W hW => by
    have hrow := (HD.out.2.1.later hW).lrow
    have h1 := LnLies_of hrow 0 m 0 (.inl rfl)
    have h2 := LnLies_of hrow (m + 1) (ls.length - (m + 1)) o8 (by
      rw [ho8]
      split
      · right
        rw [List.drop_eq_nil_of_le (by omega)]; simp
      · exact .inl rfl)
    rw [List.drop_zero] at h1
    rw [List.take_of_length_le (by rw [List.length_drop]; omega)] at h2
    exact ⟨h1, h2⟩
  clear ho8
  have hwi : IntKind.i64.wrap ((m : Int) + 1) = (m : Int) + 1 := wrap_id _ (by omega) (by omega)
  have hm1 : m + 1 ≤ ls.length := by omega
  have hmc : m ≤ lc := by omega
  have hi2' : (m : Int) + 1 ≤ (ls.length : Int) := by omega
  have hi3' : (0 : Int) ≤ (m : Int) + 1 := by omega
  have hi4' : ¬ ((m : Int) + 1 < 0) := by omega
  refine wpAnyH_take (i := 0) (v := .pointer (some ⟨rb, 0, none⟩)) rfl (by kernel_rfl) (by kernel_rfl) (by kernel_rfl) (fun _ _ _ h => h) (Or.inl ⟨by rfl, fun w hSw => by go_simp⟩) hH ?_
  refine wpAnyH_take (i := 2) (v := (.slice (some ⟨g0, 0, none⟩) ls.length lc)) rfl (by kernel_rfl) (by kernel_rfl) (by kernel_rfl) (fun _ _ _ h => h) (Or.inl ⟨by rfl, fun w hSw => by go_simp⟩) hH ?_
  try simp only [Act.put, List.setIfInBounds_toArray, List.set_cons_zero, List.set_cons_succ, List.getElem_toArray, List.getElem_cons_succ, List.getElem_cons_zero]
  refine wpAnyH_take (i := 3) (v := .pointer (some ⟨w.heap.size, 2, none⟩)) rfl (by kernel_rfl) (by kernel_rfl) (by kernel_rfl) (fun _ _ _ h => h) (Or.inl ⟨by rfl, fun w hSw => by go_simp⟩) hH ?_
  try simp only [Act.put, List.setIfInBounds_toArray, List.set_cons_zero, List.set_cons_succ, List.getElem_toArray, List.getElem_cons_succ, List.getElem_cons_zero]
  refine wpAnyH_take (i := 4) (v := .int .i64 (m : Int)) rfl (by kernel_rfl) (by kernel_rfl) (by kernel_rfl) (fun _ _ _ h => h) (Or.inl ⟨by rfl, fun w hSw => by have f0 := blkCell hSw.1 2 _ rfl; go_simp⟩) hH ?_
  try simp only [Act.put, List.setIfInBounds_toArray, List.set_cons_zero, List.set_cons_succ, List.getElem_toArray, List.getElem_cons_succ, List.getElem_cons_zero]
  refine wpAnyH_take (i := 5) (v := .slice (some ⟨g0, 0, none⟩) m lc) rfl (by kernel_rfl) (by kernel_rfl) (by kernel_rfl) (fun _ _ _ h => h) (Or.inl ⟨by rfl, fun w hSw => by go_simp⟩) hH ?_
  try simp only [Act.put, List.setIfInBounds_toArray, List.set_cons_zero, List.set_cons_succ, List.getElem_toArray, List.getElem_cons_succ, List.getElem_cons_zero]
  refine wpAnyH_take (i := 7) (v := (.slice (some ⟨g0, 0, none⟩) ls.length lc)) rfl (by kernel_rfl) (by kernel_rfl) (by kernel_rfl) (fun _ _ _ h => h) (Or.inl ⟨by rfl, fun w hSw => by go_simp⟩) hH ?_
  try simp only [Act.put, List.setIfInBounds_toArray, List.set_cons_zero, List.set_cons_succ, List.getElem_toArray, List.getElem_cons_succ, List.getElem_cons_zero]
  refine wpAnyH_take (i := 8) (v := .pointer (some ⟨w.heap.size, 2, none⟩)) rfl (by kernel_rfl) (by kernel_rfl) (by kernel_rfl) (fun _ _ _ h => h) (Or.inl ⟨by rfl, fun w hSw => by go_simp⟩) hH ?_
  try simp only [Act.put, List.setIfInBounds_toArray, List.set_cons_zero, List.set_cons_succ, List.getElem_toArray, List.getElem_cons_succ, List.getElem_cons_zero]
  refine wpAnyH_take (i := 9) (v := .int .i64 (m : Int)) rfl (by kernel_rfl) (by kernel_rfl) (by kernel_rfl) (fun _ _ _ h => h) (Or.inl ⟨by rfl, fun w hSw => by have f0 := blkCell hSw.1 2 _ rfl; go_simp⟩) hH ?_
  try simp only [Act.put, List.setIfInBounds_toArray, List.set_cons_zero, List.set_cons_succ, List.getElem_toArray, List.getElem_cons_succ, List.getElem_cons_zero]
  refine wpAnyH_take (i := 10) (v := .int .i64 ((m : Int) + 1)) rfl (by kernel_rfl) (by kernel_rfl) (by kernel_rfl) (fun _ _ _ h => h) (Or.inl ⟨by rfl, fun w hSw => by go_simp⟩) hH ?_
  try simp only [Act.put, List.setIfInBounds_toArray, List.set_cons_zero, List.set_cons_succ, List.getElem_toArray, List.getElem_cons_succ, List.getElem_cons_zero]
  refine wpAnyH_take (i := 11) (v := .slice (some ⟨g0, o8, none⟩) (ls.length - (m + 1)) (lc - (m + 1))) rfl (by kernel_rfl) (by kernel_rfl) (by kernel_rfl) (fun _ _ _ h => h) (Or.inl ⟨by rfl, fun w hSw => by go_simp⟩) hH ?_
  try simp only [Act.put, List.setIfInBounds_toArray, List.set_cons_zero, List.set_cons_succ, List.getElem_toArray, List.getElem_cons_succ, List.getElem_cons_zero]
  refine wpAnyH_ready (rs := [1]) (by kernel_rfl) (by simp) ?_
  refine AllReadyH.cons rfl (fun K hK => ?_) AllReadyH.nil
  go_simp
  have HS : Hid (∀ W, Below Wd.heap.size Wd W → W.heap[w.heap.size]? = some (.cells #[.int .i64 kd, .string tx, .int .i64 (m : Int)] 42 (0, 0)) ∧ W.heap[w.heap.size + 1]? = some (.cells #[.int .i64 q0, .int .i64 q1, .int .i64 q2, .int .i64 q3] 82 (0, 0))) := fun W hW => ⟨(hW.block _ (by have := HD.out.2.2.1; omega)).trans HD.out.2.2.2.1, (hW.block _ (by have := HD.out.2.2.1; omega)).trans HD.out.2.2.2.2⟩
  have hb0 : Below Wd.heap.size Wd (Wd.alloc (Obj.cells #[] 82)) := below_alloc _ _
  have hS0 := HS.out _ hb0
  have hBd : B ≤ Wd.heap.size := by have := HD.out.2.2.1; omega
  have own0 := ownEmptyLn Wd B hBd
  refine hK.out _ _ hS0 (fun _ => ?_)
  clear hK K
  try simp only [Act.put, List.setIfInBounds_toArray, List.set_cons_zero, List.set_cons_succ, List.getElem_toArray, List.getElem_cons_succ, List.getElem_cons_zero]
  refine wpAnyH_ready (rs := [6]) (by kernel_rfl) (by simp) ?_
  refine AllReadyH.cons rfl (fun K hK => ?_) AllReadyH.nil
  refine step_LnO rfl _ _ rfl B Wd.heap.size 0 [] rfl own0 g0 0 lc (ls.take m) (by rw [HT1.out]; simp; omega) (by rw [HT1.out]; rfl) (HLi.out _ hb0).1 (by simp; omega) ?_
  intro g1 c1 u1 own1 grow1 hat1 glt1
  rw [List.nil_append] at own1 ⊢
  have hb1 : Below Wd.heap.size Wd u1 := hb0.grown grow1 (by simp) (fun q hq => by cases hq; exact Nat.le_refl _)
  have hg1 : Wd.heap.size ≤ g1 := by
    rcases hat1 with q | q
    · omega
    · simp at q; omega
  have hS1 := HS.out _ hb1
  clear grow1 hat1 glt1 own0 hS0
  refine hK.out _ _ hS1 (fun _ => ?_)
  clear hK K
  try simp only [Act.put, List.setIfInBounds_toArray, List.set_cons_zero, List.set_cons_succ, List.getElem_toArray, List.getElem_cons_succ, List.getElem_cons_zero]
  refine wpAnyH_ready (rs := [12]) (by kernel_rfl) (by simp) ?_
  refine AllReadyH.cons rfl (fun K hK => ?_) AllReadyH.nil
  refine step_LnO rfl _ _ rfl B g1 c1 (ls.take m) rfl own1 g0 o8 (lc - (m + 1)) (ls.drop (m + 1)) (by rw [HT1.out, HT2.out]; omega) (by rw [HT2.out]; rfl) (HLi.out _ hb1).2 (Nat.le_trans hBd hb1.size) ?_
  intro g2 c2 u2 own2 grow2 hat2 glt2
  have hb2 : Below Wd.heap.size Wd u2 := hb1.grown grow2 hb1.size (fun q hq => by cases hq; exact hg1)
  have hg2 : Wd.heap.size ≤ g2 := by
    have := hb1.size
    rcases hat2 with q | q <;> omega
  have hS2 := HS.out _ hb2
  have hr2 := (HD.out.2.1.later hb2).reg
  have z1 := hr2.cells.2.1
  have zf := hr2.free 1
  have hrw : rb < w.heap.size := hlt
  have hS3 : (u2.setCell ⟨rb, 1, none⟩ (.slice (some ⟨g2, 0, none⟩) (ls.take m ++ ls.drop (m + 1)).length c2)).heap[w.heap.size]? = some (.cells #[.int .i64 kd, .string tx, .int .i64 (m : Int)] 42 (0, 0)) ∧ (u2.setCell ⟨rb, 1, none⟩ (.slice (some ⟨g2, 0, none⟩) (ls.take m ++ ls.drop (m + 1)).length c2)).heap[w.heap.size + 1]? = some (.cells #[.int .i64 q0, .int .i64 q1, .int .i64 q2, .int .i64 q3] 82 (0, 0)) := ⟨(Below.heap_setCell _ _ _ _ (by show w.heap.size ≠ rb; omega)).trans hS2.1, (Below.heap_setCell _ _ _ _ (by show w.heap.size + 1 ≠ rb; omega)).trans hS2.2⟩
  have HFi : Hid (Fr (RgX rb (.slice (some ⟨g0, 0, none⟩) ls.length lc) kv) w (u2.setCell ⟨rb, 1, none⟩ (.slice (some ⟨g2, 0, none⟩) (ls.take m ++ ls.drop (m + 1)).length c2)) ∧ Sg B rb iv (.slice (some ⟨g2, 0, none⟩) (ls.take m ++ ls.drop (m + 1)).length c2) (ls.take m ++ ls.drop (m + 1)) sh kv ks sl tk dp cv cs (u2.setCell ⟨rb, 1, none⟩ (.slice (some ⟨g2, 0, none⟩) (ls.take m ++ ls.drop (m + 1)).length c2))) := by
    have hsz := HD.out.2.2.1
    refine ⟨((Fr.of HD.out.1).trans (Fr.of hb2)).set (b := rb) (.inl rfl) _ _, ?_⟩
    refine HD.out.2.1.now ((Fr.of hb2).set (b := rb) (.inl rfl) _ _) (hr2.set1 _) (row_of own2 (fun q hq => Below.heap_setCell _ _ _ _ (by cases hq; show g2 ≠ rb; omega))) (.inr ⟨g2, rfl, hg2⟩)
  clear own2 grow2 hat2 glt2 own1 hS1
  generalize hL2 : ls.take m ++ ls.drop (m + 1) = L2 at *
  have HL2 : Hid (ls.take m ++ ls.drop (m + 1) = L2) := hL2
  clear hL2
  refine hK.out _ _ hS2 (fun _ => ?_)
  clear hK K
  try simp only [Act.put, List.setIfInBounds_toArray, List.set_cons_zero, List.set_cons_succ, List.getElem_toArray, List.getElem_cons_succ, List.getElem_cons_zero]
  refine wpAnyH_take (i := 13) (v := .pointer (some ⟨rb, 0, none⟩)) rfl (by kernel_rfl) (by kernel_rfl) (by kernel_rfl) (fun _ _ _ h => h) (Or.inl ⟨by rfl, fun w hSw => by go_simp⟩) hS2 ?_
  try simp only [Act.put, List.setIfInBounds_toArray, List.set_cons_zero, List.set_cons_succ, List.getElem_toArray, List.getElem_cons_succ, List.getElem_cons_zero]
  refine wpAnyH_take (i := 14) (v := .pointer (some ⟨rb, 1, none⟩)) rfl (by kernel_rfl) (by kernel_rfl) (by kernel_rfl) (fun _ _ _ h => h) (Or.inl ⟨by rfl, fun w hSw => by go_simp⟩) hS2 ?_
  try simp only [Act.put, List.setIfInBounds_toArray, List.set_cons_zero, List.set_cons_succ, List.getElem_toArray, List.getElem_cons_succ, List.getElem_cons_zero]
  refine wpAnyH_take (i := 15) (v := .pointer (some ⟨rb, 1, none⟩)) rfl (by kernel_rfl) (by kernel_rfl) (by kernel_rfl) (fun _ _ _ h => h) (Or.inl ⟨by rfl, fun w hSw => by go_simp⟩) hS2 ?_
  try simp only [Act.put, List.setIfInBounds_toArray, List.set_cons_zero, List.set_cons_succ, List.getElem_toArray, List.getElem_cons_succ, List.getElem_cons_zero]
  refine wpAnyH_take (i := 16) (v := .pointer (some ⟨rb, 1, none⟩)) rfl (by kernel_rfl) (by kernel_rfl) (by kernel_rfl) (fun _ _ _ h => h) (Or.inl ⟨by rfl, fun w hSw => by go_simp⟩) hS2 ?_
  try simp only [Act.put, List.setIfInBounds_toArray, List.set_cons_zero, List.set_cons_succ, List.getElem_toArray, List.getElem_cons_succ, List.getElem_cons_zero]
  refine wpAnyH_ready (rs := [17]) (by kernel_rfl) (by simp) ?_
  refine AllReadyH.cons rfl (fun K hK => ?_) AllReadyH.nil
  go_simp
  refine hK.out _ _ hS3 (fun _ => ?_)
  clear hK K
  try simp only [Act.put, List.setIfInBounds_toArray, List.set_cons_zero, List.set_cons_succ, List.getElem_toArray, List.getElem_cons_succ, List.getElem_cons_zero]
  refine wpAnyH_done (by kernel_rfl) ?_ _
  try simp
  have f2 := blkCell hS3.2 2 _ rfl
  have f3 := blkCell hS3.2 3 _ rfl
  clear z1 zf hS2 hS3 hr2
  go_wp2
  go_ret2
  have e := HL2.out
  subst e
  exact ⟨rfl, HFi.out.1, _, HFi.out.2⟩
end Go.Proofs.YtabpkfhbnendjaaGreat
