/-
  Texts of this claim laid together: SpG, RegZ.
-/
import Derived.Test.YthcahmjgfjeckaaGreatM39
import Derived.Test.YthcahmjgfjeckaaGreatM1
import Derived.Deep.RegionHeld
/-
  The specification's act where a line is voided.
-/
namespace Go.Proofs.YthcahmjgfjeckaaGreat
open Go.ChangeShapes Go.WideShapes Go.ChangeAt Go.RowKit Go.Deep
set_option linter.unusedVariables false

theorem ownEmptyLn (w : World) (B : Nat) (h : B ≤ w.heap.size) : (w.alloc (Obj.cells #[] 85)).ownsRow B 85 4 (.slice (some ⟨w.heap.size, 0, none⟩) ([] : List RLi).length 0) ([] : List RLi).length (lnCells []) :=
  ⟨rfl, .inr ⟨w.heap.size, 0, #[], rfl, h, heapNew w _, Nat.le_refl _, by unfold maxLen; omega, rfl, rfl⟩⟩
set_option maxHeartbeats 8000000 in
set_option maxRecDepth 8000 in
theorem actS_void (B rb : Nat) (iv : Value) (la : Option Addr) (lc : Nat) (ls : List RLi) (hl50 : ls.length ≤ 50) (sh : Int) (kv : Value) (ks : List Kb) (sl tk dp : Int) (cv : Value) (cs : List Int) (kd : Int) (tx : ByteArray) (n : Int) (w : World) (hg : Sg B rb iv (.slice la ls.length lc) ls sh kv ks sl tk dp cv cs w) (m : Nat) (hk : kd = 2) (hn : n = (m : Int)) (hm : m < ls.length) (hN : ∀ l ∈ ls, LiN l) (hB : B ≤ w.heap.size) :
    Calls Tryz.prog 23 #[.pointer (some ⟨rb, 0, none⟩), .agg #[.int .i64 kd, .string tx, .int .i64 n]] w fun e w' => e = .returned (.tuple #[.int .i64 ((ls.getD m zLi).am + (ls.getD m zLi).dp), .int .i64 0]) ∧ Fr (RgX rb (.slice la ls.length lc) kv) w w' ∧ ∃ lv', Sg B rb iv lv' (ls.take m ++ ls.drop (m + 1)) sh kv ks sl tk dp cv cs w' := by
  subst hn
  obtain ⟨g0, cp0, hgv⟩ := row_some hg.lrow (by omega)
  injection hgv with hla0 _ hcp0
  subst hla0
  subst hcp0
  have hli : LiN (ls.getD m zLi) := getLi hN hm
  have HE : Hid (∀ W, Sg B rb iv (.slice (some ⟨g0, 0, none⟩) ls.length lc) ls sh kv ks sl tk dp cv cs W → W.cell? ⟨g0, m * 4 + 0, none⟩ = (lnC (ls.getD m zLi))[0]? ∧ W.cell? ⟨g0, m * 4 + 1, none⟩ = (lnC (ls.getD m zLi))[1]? ∧ W.cell? ⟨g0, m * 4 + 2, none⟩ = (lnC (ls.getD m zLi))[2]? ∧ W.cell? ⟨g0, m * 4 + 3, none⟩ = (lnC (ls.getD m zLi))[3]?) := fun W h => by
    refine ⟨?_, ?_, ?_, ?_⟩ <;> rw [h.lrow.cellAt _ (by omega), lnCells_at _ _ _ hm (by omega)]
  generalize ls.getD m zLi = q at *
  obtain ⟨q0, q1, q2, q3⟩ := q
  have hwq : IntKind.i64.wrap (q2 + q3) = q2 + q3 := wrap_id _ (by have := hli; unfold LiN at this; dsimp only at this; omega) (by have := hli; unfold LiN at this; dsimp only at this; omega)
  have hlow := hg.low
  have hlt := hg.reg.lt
  obtain ⟨j0, hj, hzy⟩ := Option.map_eq_some_iff.1 lnInfo
  simp only [Prod.mk.injEq] at hzy
  obtain ⟨hj0, hj1, hj2⟩ := hzy
  have hx1 : ¬ (ls.length : Int) ≤ (m : Int) := by omega
  have hk1 : (kd == 1) = false := by simp; omega
  have hk2 : (kd == 2) = true := by simp; omega
  have hk3 : (kd == 3) = false := by simp; omega
  have hk4 : (kd == 4) = false := by simp; omega
  have hk5 : (kd == 5) = false := by simp; omega
  have hk6 : (kd == 6) = false := by simp; omega
  clear hk
  have hla : Below w.heap.size w (w.alloc (Obj.cells #[.int .i64 kd, .string tx, .int .i64 (m : Int)] 61)) := below_alloc _ _
  have HZ : Hid (∀ W, Below (w.alloc (Obj.cells #[.int .i64 kd, .string tx, .int .i64 (m : Int)] 61)).heap.size (w.alloc (Obj.cells #[.int .i64 kd, .string tx, .int .i64 (m : Int)] 61)) W → W.heap[w.heap.size]? = some (.cells #[.int .i64 kd, .string tx, .int .i64 (m : Int)] 61 (0, 0)) ∧ Below w.heap.size w W ∧ Sg B rb iv (.slice (some ⟨g0, 0, none⟩) ls.length lc) ls sh kv ks sl tk dp cv cs W) := fun W hW =>
    ⟨(hW.block _ (by simp)).trans (heapNew _ _), chain (below_alloc _ _) hW, hg.later (chain (below_alloc _ _) hW)⟩
  have r1 := (HZ.out _ (Below.refl _ _)).2.2.reg.cells.2.1
  have a0 := blkCell (HZ.out _ (Below.refl _ _)).1 0 _ rfl
  have a2 := blkCell (HZ.out _ (Below.refl _ _)).1 2 _ rfl
  have e0 := HE.out _ (HZ.out _ (Below.refl _ _)).2.2
  obtain ⟨e0, e1, e2, e3⟩ := e0
  dsimp only [lnC, List.getElem?_cons_zero, List.getElem?_cons_succ, Nat.add_zero] at e0 e1 e2 e3
  clear hla
  go_enter Tryz.func23, Tryz.ntmps23
  go_wp2_with fail
  clear r1 a0 a2 e0 e1 e2 e3
  have HD : Hid (Below w.heap.size w (((w.alloc (Obj.cells #[.int .i64 kd, .string tx, .int .i64 (m : Int)] 61)).alloc (Obj.cells #[.int .i64 q0, .int .i64 q1, .int .i64 q2, .int .i64 q3] 85))).drew ∧ Sg B rb iv (.slice (some ⟨g0, 0, none⟩) ls.length lc) ls sh kv ks sl tk dp cv cs (((w.alloc (Obj.cells #[.int .i64 kd, .string tx, .int .i64 (m : Int)] 61)).alloc (Obj.cells #[.int .i64 q0, .int .i64 q1, .int .i64 q2, .int .i64 q3] 85))).drew ∧ (((w.alloc (Obj.cells #[.int .i64 kd, .string tx, .int .i64 (m : Int)] 61)).alloc (Obj.cells #[.int .i64 q0, .int .i64 q1, .int .i64 q2, .int .i64 q3] 85))).drew.heap.size = w.heap.size + 2 ∧ ((((w.alloc (Obj.cells #[.int .i64 kd, .string tx, .int .i64 (m : Int)] 61)).alloc (Obj.cells #[.int .i64 q0, .int .i64 q1, .int .i64 q2, .int .i64 q3] 85))).drew.heap[w.heap.size]? = some (.cells #[.int .i64 kd, .string tx, .int .i64 (m : Int)] 61 (0, 0)) ∧ (((w.alloc (Obj.cells #[.int .i64 kd, .string tx, .int .i64 (m : Int)] 61)).alloc (Obj.cells #[.int .i64 q0, .int .i64 q1, .int .i64 q2, .int .i64 q3] 85))).drew.heap[w.heap.size + 1]? = some (.cells #[.int .i64 q0, .int .i64 q1, .int .i64 q2, .int .i64 q3] 85 (0, 0)))) := by
    have hq : Below w.heap.size w (((w.alloc (Obj.cells #[.int .i64 kd, .string tx, .int .i64 (m : Int)] 61)).alloc (Obj.cells #[.int .i64 q0, .int .i64 q1, .int .i64 q2, .int .i64 q3] 85))).drew := chain (below_alloc _ _) (chain (below_alloc _ _) (below_drew _))
    refine ⟨hq, hg.later hq, by simp [World.drew], ?_, ?_⟩
    · exact (Below.heap_alloc _ _ _ (by simp)).trans (heapNew w _)
    · have := heapNew (w.alloc (Obj.cells #[.int .i64 kd, .string tx, .int .i64 (m : Int)] 61)) (Obj.cells #[.int .i64 q0, .int .i64 q1, .int .i64 q2, .int .i64 q3] 85)
      rw [show (w.alloc (Obj.cells #[.int .i64 kd, .string tx, .int .i64 (m : Int)] 61)).heap.size = w.heap.size + 1 by simp] at this
      exact this
  refine wp_region_held_drew (S := fun W => W.heap[w.heap.size]? = some (.cells #[.int .i64 kd, .string tx, .int .i64 (m : Int)] 61 (0, 0)) ∧ W.heap[w.heap.size + 1]? = some (.cells #[.int .i64 q0, .int .i64 q1, .int .i64 q2, .int .i64 q3] 85 (0, 0))) (by kernel_rfl) HD.out.2.2.2 (fun hH => ?_)
  clear HZ hg
  generalize (((w.alloc (Obj.cells #[.int .i64 kd, .string tx, .int .i64 (m : Int)] 61)).alloc (Obj.cells #[.int .i64 q0, .int .i64 q1, .int .i64 q2, .int .i64 q3] 85))).drew = Wd at *
  obtain ⟨o8, ho8⟩ : ∃ o8 : Nat, o8 = if lc = m + 1 then 0 else (m + 1) * 4 := ⟨_, rfl⟩
  have hof : (if lc = m + 1 then (some (⟨g0, 0, none⟩ : Addr)) else some ⟨g0, (m + 1) * 4, none⟩) = some ⟨g0, o8, none⟩ := by rw [ho8]; split <;> rfl
  have HT1 : Hid ((ls.take m).length = m) := by show _ = _; rw [List.length_take]; omega
  have HT2 : Hid ((ls.drop (m + 1)).length = ls.length - (m + 1)) := by show _ = _; rw [List.length_drop]
  have hcap : ls.length ≤ lc := (rowLn_reads HD.out.2.1.lrow).1
  have HLi : Hid (∀ W, Below Wd.heap.size Wd W → LnLies W g0 0 (ls.take m) ∧ LnLies W g0 o8 (ls.drop (m + 1))) := fun W hW => by
    have hrow := (HD.out.2.1.later hW).lrow
    have h1 := LnLies_of hrow 0 m 0 (.inl rfl)
    have h2 := LnLies_of hrow (m + 1) (ls.length - (m + 1)) o8 (by
      rw [ho8]
      split
      · right
        rw [List.drop_eq_nil_of_le (by omega)]; simp
      · exact .inl rfl)
    rw [List.drop_zero] at h1
    rw [List.take_of_length_le (by rw [List.length_drop]; omega)] at h2
    exact ⟨h1, h2⟩
  clear ho8
  have hwi : IntKind.i64.wrap ((m : Int) + 1) = (m : Int) + 1 := wrap_id _ (by omega) (by omega)
  have hm1 : m + 1 ≤ ls.length := by omega
  have hmc : m ≤ lc := by omega
  have hi2' : (m : Int) + 1 ≤ (ls.length : Int) := by omega
  have hi3' : (0 : Int) ≤ (m : Int) + 1 := by omega
  have hi4' : ¬ ((m : Int) + 1 < 0) := by omega
  refine wpAnyH_take (i := 0) (v := .pointer (some ⟨rb, 0, none⟩)) rfl (by kernel_rfl) (by kernel_rfl) (by kernel_rfl) (fun _ _ _ h => h) (Or.inl ⟨by rfl, fun w hSw => by go_simp⟩) hH ?_
  refine wpAnyH_take (i := 2) (v := (.slice (some ⟨g0, 0, none⟩) ls.length lc)) rfl (by kernel_rfl) (by kernel_rfl) (by kernel_rfl) (fun _ _ _ h => h) (Or.inl ⟨by rfl, fun w hSw => by go_simp⟩) hH ?_
  try simp only [Act.put, List.setIfInBounds_toArray, List.set_cons_zero, List.set_cons_succ, List.getElem_toArray, List.getElem_cons_succ, List.getElem_cons_zero]
  refine wpAnyH_take (i := 3) (v := .pointer (some ⟨w.heap.size, 2, none⟩)) rfl (by kernel_rfl) (by kernel_rfl) (by kernel_rfl) (fun _ _ _ h => h) (Or.inl ⟨by rfl, fun w hSw => by go_simp⟩) hH ?_
  try simp only [Act.put, List.setIfInBounds_toArray, List.set_cons_zero, List.set_cons_succ, List.getElem_toArray, List.getElem_cons_succ, List.getElem_cons_zero]
  refine wpAnyH_take (i := 4) (v := .int .i64 (m : Int)) rfl (by kernel_rfl) (by kernel_rfl) (by kernel_rfl) (fun _ _ _ h => h) (Or.inl ⟨by rfl, fun w hSw => by have f0 := blkCell hSw.1 2 _ rfl; go_simp⟩) hH ?_
  try simp only [Act.put, List.setIfInBounds_toArray, List.set_cons_zero, List.set_cons_succ, List.getElem_toArray, List.getElem_cons_succ, List.getElem_cons_zero]
  refine wpAnyH_take (i := 5) (v := .slice (some ⟨g0, 0, none⟩) m lc) rfl (by kernel_rfl) (by kernel_rfl) (by kernel_rfl) (fun _ _ _ h => h) (Or.inl ⟨by rfl, fun w hSw => by go_simp⟩) hH ?_
  try simp only [Act.put, List.setIfInBounds_toArray, List.set_cons_zero, List.set_cons_succ, List.getElem_toArray, List.getElem_cons_succ, List.getElem_cons_zero]
  refine wpAnyH_take (i := 7) (v := (.slice (some ⟨g0, 0, none⟩) ls.length lc)) rfl (by kernel_rfl) (by kernel_rfl) (by kernel_rfl) (fun _ _ _ h => h) (Or.inl ⟨by rfl, fun w hSw => by go_simp⟩) hH ?_
  try simp only [Act.put, List.setIfInBounds_toArray, List.set_cons_zero, List.set_cons_succ, List.getElem_toArray, List.getElem_cons_succ, List.getElem_cons_zero]
  refine wpAnyH_take (i := 8) (v := .pointer (some ⟨w.heap.size, 2, none⟩)) rfl (by kernel_rfl) (by kernel_rfl) (by kernel_rfl) (fun _ _ _ h => h) (Or.inl ⟨by rfl, fun w hSw => by go_simp⟩) hH ?_
  try simp only [Act.put, List.setIfInBounds_toArray, List.set_cons_zero, List.set_cons_succ, List.getElem_toArray, List.getElem_cons_succ, List.getElem_cons_zero]
  refine wpAnyH_take (i := 9) (v := .int .i64 (m : Int)) rfl (by kernel_rfl) (by kernel_rfl) (by kernel_rfl) (fun _ _ _ h => h) (Or.inl ⟨by rfl, fun w hSw => by have f0 := blkCell hSw.1 2 _ rfl; go_simp⟩) hH ?_
  try simp only [Act.put, List.setIfInBounds_toArray, List.set_cons_zero, List.set_cons_succ, List.getElem_toArray, List.getElem_cons_succ, List.getElem_cons_zero]
  refine wpAnyH_take (i := 10) (v := .int .i64 ((m : Int) + 1)) rfl (by kernel_rfl) (by kernel_rfl) (by kernel_rfl) (fun _ _ _ h => h) (Or.inl ⟨by rfl, fun w hSw => by go_simp⟩) hH ?_
  try simp only [Act.put, List.setIfInBounds_toArray, List.set_cons_zero, List.set_cons_succ, List.getElem_toArray, List.getElem_cons_succ, List.getElem_cons_zero]
  refine wpAnyH_take (i := 11) (v := .slice (some ⟨g0, o8, none⟩) (ls.length - (m + 1)) (lc - (m + 1))) rfl (by kernel_rfl) (by kernel_rfl) (by kernel_rfl) (fun _ _ _ h => h) (Or.inl ⟨by rfl, fun w hSw => by go_simp⟩) hH ?_
  try simp only [Act.put, List.setIfInBounds_toArray, List.set_cons_zero, List.set_cons_succ, List.getElem_toArray, List.getElem_cons_succ, List.getElem_cons_zero]
  refine wpAnyH_ready (rs := [1]) (by kernel_rfl) (by simp) ?_
  refine AllReadyH.cons rfl (fun K hK => ?_) AllReadyH.nil
  go_simp
  have HS : Hid (∀ W, Below Wd.heap.size Wd W → W.heap[w.heap.size]? = some (.cells #[.int .i64 kd, .string tx, .int .i64 (m : Int)] 61 (0, 0)) ∧ W.heap[w.heap.size + 1]? = some (.cells #[.int .i64 q0, .int .i64 q1, .int .i64 q2, .int .i64 q3] 85 (0, 0))) := fun W hW => ⟨(hW.block _ (by have := HD.out.2.2.1; omega)).trans HD.out.2.2.2.1, (hW.block _ (by have := HD.out.2.2.1; omega)).trans HD.out.2.2.2.2⟩
  have hb0 : Below Wd.heap.size Wd (Wd.alloc (Obj.cells #[] 85)) := below_alloc _ _
  have hS0 := HS.out _ hb0
  have hBd : B ≤ Wd.heap.size := by have := HD.out.2.2.1; omega
  have own0 := ownEmptyLn Wd B hBd
  refine hK.out _ _ hS0 (fun _ => ?_)
  clear hK K
  try simp only [Act.put, List.setIfInBounds_toArray, List.set_cons_zero, List.set_cons_succ, List.getElem_toArray, List.getElem_cons_succ, List.getElem_cons_zero]
  refine wpAnyH_ready (rs := [6]) (by kernel_rfl) (by simp) ?_
  refine AllReadyH.cons rfl (fun K hK => ?_) AllReadyH.nil
  refine step_LnO rfl _ _ rfl B Wd.heap.size 0 [] rfl own0 g0 0 lc (ls.take m) (by rw [HT1.out]; simp; omega) (by rw [HT1.out]; rfl) (HLi.out _ hb0).1 (by simp; omega) ?_
  intro g1 c1 u1 own1 grow1 hat1 glt1
  rw [List.nil_append] at own1 ⊢
  have hb1 : Below Wd.heap.size Wd u1 := hb0.grown grow1 (by simp) (fun q hq => by cases hq; exact Nat.le_refl _)
  have hg1 : Wd.heap.size ≤ g1 := by
    rcases hat1 with q | q
    · omega
    · simp at q; omega
  have hS1 := HS.out _ hb1
  clear grow1 hat1 glt1 own0 hS0
  refine hK.out _ _ hS1 (fun _ => ?_)
  clear hK K
  try simp only [Act.put, List.setIfInBounds_toArray, List.set_cons_zero, List.set_cons_succ, List.getElem_toArray, List.getElem_cons_succ, List.getElem_cons_zero]
  refine wpAnyH_ready (rs := [12]) (by kernel_rfl) (by simp) ?_
  refine AllReadyH.cons rfl (fun K hK => ?_) AllReadyH.nil
  refine step_LnO rfl _ _ rfl B g1 c1 (ls.take m) rfl own1 g0 o8 (lc - (m + 1)) (ls.drop (m + 1)) (by rw [HT1.out, HT2.out]; omega) (by rw [HT2.out]; rfl) (HLi.out _ hb1).2 (Nat.le_trans hBd hb1.size) ?_
  intro g2 c2 u2 own2 grow2 hat2 glt2
  have hb2 : Below Wd.heap.size Wd u2 := hb1.grown grow2 hb1.size (fun q hq => by cases hq; exact hg1)
  have hg2 : Wd.heap.size ≤ g2 := by
    have := hb1.size
    rcases hat2 with q | q <;> omega
  have hS2 := HS.out _ hb2
  have hr2 := (HD.out.2.1.later hb2).reg
  have z1 := hr2.cells.2.1
  have zf := hr2.free 1
  have hrw : rb < w.heap.size := hlt
  have hS3 : (u2.setCell ⟨rb, 1, none⟩ (.slice (some ⟨g2, 0, none⟩) (ls.take m ++ ls.drop (m + 1)).length c2)).heap[w.heap.size]? = some (.cells #[.int .i64 kd, .string tx, .int .i64 (m : Int)] 61 (0, 0)) ∧ (u2.setCell ⟨rb, 1, none⟩ (.slice (some ⟨g2, 0, none⟩) (ls.take m ++ ls.drop (m + 1)).length c2)).heap[w.heap.size + 1]? = some (.cells #[.int .i64 q0, .int .i64 q1, .int .i64 q2, .int .i64 q3] 85 (0, 0)) := ⟨(Below.heap_setCell _ _ _ _ (by show w.heap.size ≠ rb; omega)).trans hS2.1, (Below.heap_setCell _ _ _ _ (by show w.heap.size + 1 ≠ rb; omega)).trans hS2.2⟩
  have HFi : Hid (Fr (RgX rb (.slice (some ⟨g0, 0, none⟩) ls.length lc) kv) w (u2.setCell ⟨rb, 1, none⟩ (.slice (some ⟨g2, 0, none⟩) (ls.take m ++ ls.drop (m + 1)).length c2)) ∧ Sg B rb iv (.slice (some ⟨g2, 0, none⟩) (ls.take m ++ ls.drop (m + 1)).length c2) (ls.take m ++ ls.drop (m + 1)) sh kv ks sl tk dp cv cs (u2.setCell ⟨rb, 1, none⟩ (.slice (some ⟨g2, 0, none⟩) (ls.take m ++ ls.drop (m + 1)).length c2))) := by
    have hsz := HD.out.2.2.1
    refine ⟨((Fr.of HD.out.1).trans (Fr.of hb2)).set (b := rb) (.inl rfl) _ _, ?_⟩
    refine HD.out.2.1.now ((Fr.of hb2).set (b := rb) (.inl rfl) _ _) (hr2.set1 _) (row_of own2 (fun q hq => Below.heap_setCell _ _ _ _ (by cases hq; show g2 ≠ rb; omega))) (.inr ⟨g2, rfl, hg2⟩)
  clear own2 grow2 hat2 glt2 own1 hS1
  generalize hL2 : ls.take m ++ ls.drop (m + 1) = L2 at *
  have HL2 : Hid (ls.take m ++ ls.drop (m + 1) = L2) := hL2
  clear hL2
  refine hK.out _ _ hS2 (fun _ => ?_)
  clear hK K
  try simp only [Act.put, List.setIfInBounds_toArray, List.set_cons_zero, List.set_cons_succ, List.getElem_toArray, List.getElem_cons_succ, List.getElem_cons_zero]
  refine wpAnyH_take (i := 13) (v := .pointer (some ⟨rb, 0, none⟩)) rfl (by kernel_rfl) (by kernel_rfl) (by kernel_rfl) (fun _ _ _ h => h) (Or.inl ⟨by rfl, fun w hSw => by go_simp⟩) hS2 ?_
  try simp only [Act.put, List.setIfInBounds_toArray, List.set_cons_zero, List.set_cons_succ, List.getElem_toArray, List.getElem_cons_succ, List.getElem_cons_zero]
  refine wpAnyH_take (i := 14) (v := .pointer (some ⟨rb, 1, none⟩)) rfl (by kernel_rfl) (by kernel_rfl) (by kernel_rfl) (fun _ _ _ h => h) (Or.inl ⟨by rfl, fun w hSw => by go_simp⟩) hS2 ?_
  try simp only [Act.put, List.setIfInBounds_toArray, List.set_cons_zero, List.set_cons_succ, List.getElem_toArray, List.getElem_cons_succ, List.getElem_cons_zero]
  refine wpAnyH_take (i := 15) (v := .pointer (some ⟨rb, 1, none⟩)) rfl (by kernel_rfl) (by kernel_rfl) (by kernel_rfl) (fun _ _ _ h => h) (Or.inl ⟨by rfl, fun w hSw => by go_simp⟩) hS2 ?_
  try simp only [Act.put, List.setIfInBounds_toArray, List.set_cons_zero, List.set_cons_succ, List.getElem_toArray, List.getElem_cons_succ, List.getElem_cons_zero]
  refine wpAnyH_take (i := 16) (v := .pointer (some ⟨rb, 1, none⟩)) rfl (by kernel_rfl) (by kernel_rfl) (by kernel_rfl) (fun _ _ _ h => h) (Or.inl ⟨by rfl, fun w hSw => by go_simp⟩) hS2 ?_
  try simp only [Act.put, List.setIfInBounds_toArray, List.set_cons_zero, List.set_cons_succ, List.getElem_toArray, List.getElem_cons_succ, List.getElem_cons_zero]
  refine wpAnyH_ready (rs := [17]) (by kernel_rfl) (by simp) ?_
  refine AllReadyH.cons rfl (fun K hK => ?_) AllReadyH.nil
  go_simp
  refine hK.out _ _ hS3 (fun _ => ?_)
  clear hK K
  try simp only [Act.put, List.setIfInBounds_toArray, List.set_cons_zero, List.set_cons_succ, List.getElem_toArray, List.getElem_cons_succ, List.getElem_cons_zero]
  refine wpAnyH_done (by kernel_rfl) ?_ _
  try simp
  have f2 := blkCell hS3.2 2 _ rfl
  have f3 := blkCell hS3.2 3 _ rfl
  clear z1 zf hS2 hS3 hr2
  go_wp2
  go_ret2
  have e := HL2.out
  subst e
  exact ⟨rfl, HFi.out.1, _, HFi.out.2⟩
end Go.Proofs.YthcahmjgfjeckaaGreat

/-
  A region that draws its order and whose last operation turns what its loads read: the condition on the world need not hold behind that one operation. Nothing of the program is in it.
-/
namespace Go.Proofs.YthcahmjgfjeckaaGreat
open Go.ChangeShapes Go.WideShapes Go.ChangeAt Go.RowKit Go.Deep
set_option linter.unusedVariables false

section
variable {P : Program} {ops : Array Oper} {Q : Exit → Act → World → Prop} {md : Region.Mode} {S : World → Prop} {z : Nat}

/-- Whatever order is picked from here on, and S holds behind every operation that is carried out, number z aside. -/
def wpAnyZ (P : Program) (md : Region.Mode) (ops : Array Oper) (Q : Exit → Act → World → Prop) (S : World → Prop) (z : Nat) : Nat → Array Bool → Act → World → Prop
  | 0, listed, a, w => Region.ready md ops listed = [] ∧ Q .normal a w
  | fuel + 1, listed, a, w =>
    (Region.ready md ops listed = [] → Q .normal a w) ∧
    ∀ i ∈ Region.ready md ops listed, wpOp P ops Q i (fun a' w' => (i = z ∨ S w') ∧ wpAnyZ P md ops Q S z fuel (listed.setIfInBounds i true) a' w') a w
theorem wpAny_of_z : ∀ (fuel : Nat) (listed : Array Bool) (a : Act) (w : World), wpAnyZ P md ops Q S z fuel listed a w → wpAny P md ops Q fuel listed a w
  | 0, _, _, _, h => h
  | fuel + 1, _, _, _, h => ⟨h.1, fun i hi => wpOp_mono (fun a' w' h' => wpAny_of_z fuel _ a' w' h'.2) (h.2 i hi)⟩
/-- Operations each of which waits for i or for another of them; z is among them; none has come up. -/
def waitB (md : Region.Mode) (ops : Array Oper) (listed : Array Bool) (i z : Nat) (path : List Nat) : Bool :=
  path.contains z && path.all fun x => (listed.getD x true == false) && match ops[x]? with
    | some ox => ox.after.any fun e => Region.binds md e && (e.on == i || path.contains e.on)
    | none => false
/-- All that wait for i. -/
def ups (md : Region.Mode) (ops : Array Oper) (i : Nat) : Nat → List Nat
  | 0 => []
  | n + 1 => let prev := ups md ops i n; (List.range ops.size).filter fun x => match ops[x]? with
    | some ox => ox.after.any fun e => Region.binds md e && (e.on == i || prev.contains e.on)
    | none => false
theorem wait_spec {listed : Array Bool} {i : Nat} {path : List Nat} (h : waitB md ops listed i z path = true) :
    z ∈ path ∧ ∀ x ∈ path, listed.getD x true = false ∧ ∃ ox, ops[x]? = some ox ∧ ∃ e ∈ ox.after, Region.binds md e = true ∧ (e.on = i ∨ e.on ∈ path) := by
  unfold waitB at h
  rw [Bool.and_eq_true] at h
  refine ⟨by simpa using h.1, fun x hx => ?_⟩
  have h2 := List.all_eq_true.1 h.2 x hx
  rw [Bool.and_eq_true] at h2
  refine ⟨by simpa using h2.1, ?_⟩
  cases ho : ops[x]? with
  | none => rw [ho] at h2; simp at h2
  | some ox =>
    rw [ho] at h2
    obtain ⟨e, he, hp⟩ := Array.any_eq_true'.1 h2.2
    rw [Bool.and_eq_true, Bool.or_eq_true] at hp
    exact ⟨ox, rfl, e, he, hp.1, by simpa using hp.2⟩
theorem wpAnyZ_first {i : Nat} {oi : Oper} {v : Value} (hi : ops[i]? = some oi) (hsel : ∀ (j : Nat) (o : Oper) cs b, ops[j]? = some o → o.op ≠ .select cs b)
    (hQ : ∀ c a w, Q (.panic c) (a.put oi.dst v) w → Q (.panic c) a w) (path : List Nat) (hz : z ∈ path)
    (hp : ∀ x ∈ path, ∃ ox, ops[x]? = some ox ∧ ∃ e ∈ ox.after, Region.binds md e = true ∧ (e.on = i ∨ e.on ∈ path)) :
    ∀ (fuel : Nat) (listed : Array Bool) (a : Act) (w : World), (∀ x ∈ path, listed.getD x true = false) →
      (∀ j oj, ops[j]? = some oj → j ≠ i → listed.getD j true = false → (∀ e ∈ oj.after, Region.binds md e = true → e.on ≠ i) → oi.apart ops oj = true) →
      i ∈ Region.ready md ops listed → YieldsIf P ops S oi v a → S w →
      wpAnyZ P md ops Q S z fuel (listed.setIfInBounds i true) (a.put oi.dst v) w → wpAnyZ P md ops Q S z (fuel + 1) listed a w := by
  intro fuel
  induction fuel with
  | zero =>
    intro listed a w _ _ hr hy hS H
    refine ⟨fun h => (by rw [h] at hr; cases hr), fun j hj => ?_⟩
    by_cases hji : j = i
    · subst hji; exact hy.wpOp hi hS ⟨.inr hS, H⟩
    · have := ready_mono hj hji
      rw [H.1] at this
      cases this
  | succ fuel ih =>
    intro listed a w hun hfree hr hy hS H
    refine ⟨fun h => (by rw [h] at hr; cases hr), fun j hj => ?_⟩
    by_cases hji : j = i
    · subst hji; exact hy.wpOp hi hS ⟨.inr hS, H⟩
    · have h1 := H.2 j (ready_mono hj hji)
      obtain ⟨hjun, oj, hoj, hall⟩ := mem_ready.1 hj
      have hni : listed.getD i false ≠ true := fun h1 => by
        have h0 := (mem_ready.1 hr).1
        rcases Nat.lt_or_ge i listed.size with h' | h'
        · simp [h'] at h0 h1; rw [h0] at h1; cases h1
        · simp [Array.getElem?_eq_none h'] at h1
      have hnot : ∀ e ∈ oj.after, Region.binds md e = true → e.on ≠ i := fun e he hb heq => by
        have h1 := hall e he hb
        rw [heq] at h1
        exact hni h1
      have hjp : j ∉ path := fun hjp => by
        obtain ⟨ox, hox, e, he, hb, hon⟩ := hp j hjp
        rw [hoj] at hox
        injection hox with hox
        subst hox
        have h1 := hall e he hb
        rcases hon with hon | hon
        · rw [hon] at h1; exact hni h1
        · have h0 := hun _ hon
          rcases Nat.lt_or_ge e.on listed.size with h' | h'
          · simp [h'] at h0 h1; rw [h0] at h1; cases h1
          · simp [Array.getElem?_eq_none h'] at h1
      have hjz : j ≠ z := fun e => hjp (e ▸ hz)
      have h2 := wpOp_putIf hoj (hfree j oj hoj hji hjun hnot) (fun cs b => hsel i oi cs b hi) (fun cs b => hsel j oj cs b hoj) hQ hy h1
      have hfree' : ∀ k ok, ops[k]? = some ok → k ≠ i → (listed.setIfInBounds j true).getD k true = false →
          (∀ e ∈ ok.after, Region.binds md e = true → e.on ≠ i) → oi.apart ops ok = true := fun k ok hk hki hun hno => by
        refine hfree k ok hk hki ?_ hno
        by_cases hjk : j = k
        · subst hjk; exact hjun
        · rw [getD_set_ne true hjk] at hun; exact hun
      refine wpOp_mono (fun a' w' h3 => ?_) h2
      have hS' : S w' := by
        rcases h3.2.1 with e | h
        · exact absurd e hjz
        · exact h
      refine ⟨.inr hS', ih (listed.setIfInBounds j true) a' w' (fun x hx => ?_) hfree' (ready_mono hr (Ne.symm hji)) h3.1 hS' ?_⟩
      · rw [getD_set_ne true (fun e => hjp (by rw [e]; exact hx))]; exact hun x hx
      · rw [Array.setIfInBounds_comm _ _ hji]
        exact h3.2.2
theorem wpAnyZ_take {i : Nat} {oi : Oper} {v : Value} {fuel : Nat} {listed : Array Bool} {a : Act} {w : World} (hi : ops[i]? = some oi)
    (hs : Region.noSelect ops = true) (hf : Region.free md ops listed i = true) (hr : (Region.ready md ops listed).contains i = true)
    (hp : waitB md ops listed i z (ups md ops i ops.size) = true)
    (hQ : ∀ c a w, Q (.panic c) (a.put oi.dst v) w → Q (.panic c) a w) (hy : YieldsIf P ops S oi v a) (hS : S w)
    (h : wpAnyZ P md ops Q S z fuel (listed.setIfInBounds i true) (a.put oi.dst v) w) : wpAnyZ P md ops Q S z (fuel + 1) listed a w :=
  wpAnyZ_first hi (Region.noSelect_spec hs) hQ _ (wait_spec hp).1 (fun x hx => ((wait_spec hp).2 x hx).2) fuel listed a w (fun x hx => ((wait_spec hp).2 x hx).1) (Region.free_spec hi hf) (by simpa using hr) hy hS h
def AllReadyZ (P : Program) (md : Region.Mode) (ops : Array Oper) (Q : Exit → Act → World → Prop) (S : World → Prop) (z : Nat) (fuel : Nat) (listed : Array Bool) (a : Act) (w : World) (rs : List Nat) : Prop :=
  ∀ i ∈ rs, wpOp P ops Q i (fun a' w' => (i = z ∨ S w') ∧ wpAnyZ P md ops Q S z fuel (listed.setIfInBounds i true) a' w') a w
theorem AllReadyZ.nil {fuel : Nat} {listed : Array Bool} {a : Act} {w : World} : AllReadyZ P md ops Q S z fuel listed a w [] := fun _ h => by cases h
theorem AllReadyZ.cons {fuel : Nat} {listed : Array Bool} {a : Act} {w : World} {i : Nat} {o : Oper} {rs : List Nat} (ho : ops[i]? = some o)
    (h : ∀ K' : Act → World → Prop, Shut (∀ a w, (i = z ∨ S w) → ((i = z ∨ S w) → wpAnyZ P md ops Q S z fuel (listed.setIfInBounds i true) a w) → K' a w) → if Region.wanted o (yielded ops a.tmps) = true then Oper.wp P o a w K' Q else K' (a.put o.dst undef) w)
    (hs : AllReadyZ P md ops Q S z fuel listed a w rs) : AllReadyZ P md ops Q S z fuel listed a w (i :: rs) := fun j hj => by
  rcases List.mem_cons.1 hj with rfl | hj
  · exact wpOp_step ho (fun K' hK => h K' (fun a w hS hW => hK a w ⟨hS, hW hS⟩))
  · exact hs j hj
theorem wpAnyZ_ready {rs : List Nat} {fuel : Nat} {listed : Array Bool} {a : Act} {w : World} (hr : Region.ready md ops listed = rs) (hne : rs ≠ [])
    (h : AllReadyZ P md ops Q S z fuel listed a w rs) : wpAnyZ P md ops Q S z (fuel + 1) listed a w := ⟨fun h0 => absurd (hr ▸ h0) hne, hr ▸ h⟩
theorem wpAnyZ_done {listed : Array Bool} {a : Act} {w : World} (hr : Region.ready md ops listed = []) (h : Q .normal a w) :
    ∀ fuel, wpAnyZ P md ops Q S z fuel listed a w
  | 0 => ⟨hr, h⟩
  | _ + 1 => ⟨fun _ => h, by rw [hr]; simp⟩
theorem wp_region_z {id : Nat} {a : Act} {w : World} (z : Nat) (hm : P.follows .mixedOrders = true) (hS : S w.drew)
    (h : S w.drew → wpAnyZ P .any ops Q S z ops.size (Array.replicate ops.size false) a w.drew) : (Code.region id ops true).wp P Q a w :=
  wp_region_any hm (wpAny_of_z _ _ _ _ (h hS))
end
end Go.Proofs.YthcahmjgfjeckaaGreat
