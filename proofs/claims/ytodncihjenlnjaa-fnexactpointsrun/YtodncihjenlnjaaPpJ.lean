/-
  earn of the program.
-/
import Derived.Test.YtodncihjenlnjaaPpI
namespace Go.Proofs.Ytodncihjenlnjaa
open Go.ChangeShapes Go.WideShapes Go.ChangeAt Go.RowKit Go.Deep
set_option linter.unusedVariables false

theorem erEnd {B rb mb n : Nat} {nm : Int} {σ : PSt} {la : Option Addr} {lc : Nat} {fv : Int → Option Value} {nu un : Int} {w W6 w9 : World} (hb : Below w.heap.size w W6)
    (hp : PgIs w rb σ.day σ.sp σ.ex (.slice la σ.L.length lc) nm (.map (some mb))) (hr : w.ownsRow B 67 2 (.slice la σ.L.length lc) σ.L.length (loCells σ.L)) (hm : MapV zSl w mb n fv) (ht : TkOk B w (.slice la σ.L.length lc) σ.T fv)
    {ga : Option Addr} {gc : Nat} (ho : w9.ownsRow B 67 2 (.slice ga (σ.L.length + 1) gc) (σ.L.length + 1) (loCells σ.L ++ [.int .i64 nu, .int .i64 un])) (hg : W6.grownBy w9 (Value.ownBlock (.slice la σ.L.length lc)))
    (hat : ∀ q, Value.ownBlock (.slice ga (σ.L.length + 1) gc) = some q → Value.ownBlock (.slice la σ.L.length lc) = some q ∨ w.heap.size ≤ q) :
    PgIs w9 rb σ.day σ.sp σ.ex (.slice la σ.L.length lc) nm (.map (some mb)) ∧ PgF B rb mb w (w9.setCell ⟨rb, 3, none⟩ (.slice ga (σ.L.length + 1) gc)) ∧ PgM B rb mb n nm { σ with L := σ.L ++ [⟨nu, un⟩] } (w9.setCell ⟨rb, 3, none⟩ (.slice ga (σ.L.length + 1) gc)) := by
  have hgf := fr_grown hg
  have hsz := hb.size
  have e9 : ∀ q, q < w.heap.size → Value.ownBlock (.slice la σ.L.length lc) ≠ some q → w9.heap[q]? = w.heap[q]? := fun q h1 h2 => (hgf.block q (by omega) h2).trans (hb.block q h1)
  have pg9 : PgIs w9 rb σ.day σ.sp σ.ex (.slice la σ.L.length lc) nm (.map (some mb)) := hp.of (e9 rb hp.lt (fun e => (tk_ne hp hm hr e).1 rfl))
  have map9 : MapV zSl w9 mb n fv := hm.block (e9 mb hm.lt (fun e => (tk_ne hp hm hr e).2.1 rfl))
  have hk : ∀ q, q ≠ rb → (w9.setCell ⟨rb, 3, none⟩ (.slice ga (σ.L.length + 1) gc)).heap[q]? = w9.heap[q]? := fun q hq => Below.heap_setCell _ _ _ _ hq
  refine ⟨pg9, ?_, _, fv, pg9.set3 _, ?_, map9.block (hk mb (rb_ne hp hm)), ht.of (fun c K v hK b q hq hne => ?_)⟩
  · refine Fr.mono (X := fun q => q = rb ∨ Value.ownBlock (.slice la σ.L.length lc) = some q) ((((Fr.of hb).trans (hgf.mono (fun q hq => .inr hq)))).set (b := rb) (.inl rfl) _ _) (fun q hq => ?_)
    rcases hq with r | r
    · exact .inl r
    · exact .inr (.inr ⟨(row_lt hr q r).1, row_type hr r⟩)
  · dsimp only
    rw [List.length_append, loCells_append]
    exact row_of ho (fun q hq => hk q (tk_ne pg9 map9 ho hq).1)
  · have hn := tk_ne hp hm b hq
    refine ⟨(hk q hn.1).trans (e9 q hn.2.2 hne), fun he => ?_⟩
    rcases hat q he with r | r
    · exact hne r
    · omega
set_option maxHeartbeats 8000000 in
theorem earn_any (B rb mb n : Nat) (nm : Int) (σ : PSt) (j : Nat) (hj : j ≤ 1000) (hok : PsOk j σ) (kd nu un : Int) (w : World) (hBw : B ≤ w.heap.size) (hM : PgM B rb mb n nm σ w) :
    Calls Try.prog 30 #[.pointer (some ⟨rb, 0, none⟩), .agg #[.int .i64 kd, .int .i64 nu, .int .i64 un]] w fun e w' => e = .returned (.int .i64 (stEarn nu un σ).1) ∧ PgF B rb mb w w' ∧ ∃ n', n' ≤ n + 1 ∧ PgM B rb mb n' nm (stEarn nu un σ).2 w' := by
  have HM0 : Hid (PgM B rb mb n nm σ w) := hM
  have HSe : Hid (stEarn nu un σ = if ¬ (1 ≤ nu ∧ nu ≤ 1000000) ∨ ¬ (σ.day ≤ un ∧ un ≤ 100000) then (5, σ) else if σ.L.length = 100 then (14, σ) else (0, { σ with L := σ.L ++ [⟨nu, un⟩] })) := rfl
  obtain ⟨lv, fv, hg, hr, hmv, htk⟩ := hM
  have hll := hok.len
  obtain ⟨la, lc, rfl⟩ := row_slice hr
  obtain ⟨i0, hi, hzz⟩ := Option.map_eq_some_iff.1 loInfo
  simp only [Prod.mk.injEq] at hzz
  obtain ⟨hi0, hi1, hi2⟩ := hzz
  have HG : Hid (PgIs w rb σ.day σ.sp σ.ex (.slice la σ.L.length lc) nm (.map (some mb)) ∧ w.ownsRow B 67 2 (.slice la σ.L.length lc) σ.L.length (loCells σ.L) ∧ MapV zSl w mb n fv ∧ TkOk B w (.slice la σ.L.length lc) σ.T fv) := ⟨hg, hr, hmv, htk⟩
  have hrl := hg.lt
  obtain ⟨W2, hW2⟩ : ∃ W2, W2 = (w.alloc (Obj.cells #[.int .i64 kd, .int .i64 nu, .int .i64 un] 46)).alloc (Obj.cells #[.int .i64 1, .int .i64 1000000] 73) := ⟨_, rfl⟩
  have hz2 : W2.heap.size = w.heap.size + 2 := by rw [hW2]; simp
  have HW2 : Hid (Below w.heap.size w W2 ∧ W2.heap[w.heap.size]? = some (.cells #[.int .i64 kd, .int .i64 nu, .int .i64 un] 46 (0, 0)) ∧ W2.heap[w.heap.size + 1]? = some (.cells #[.int .i64 1, .int .i64 1000000] 73 (0, 0))) := by
    subst hW2
    refine ⟨chain (below_alloc _ _) (below_alloc _ _), ((below_alloc _ _).block _ (by simp)).trans (heapNew _ _), ?_⟩
    have := heapNew (w.alloc (Obj.cells #[.int .i64 kd, .int .i64 nu, .int .i64 un] 46)) (Obj.cells #[.int .i64 1, .int .i64 1000000] 73)
    simpa using this
  have HQ : Hid (∀ W : World, Below W2.heap.size W2 W → W.cell? ⟨w.heap.size, 1, none⟩ = some (.int .i64 nu) ∧ W.cell? ⟨w.heap.size, 2, none⟩ = some (.int .i64 un) ∧ W.cell? ⟨w.heap.size + 1, 0, none⟩ = some (.int .i64 1) ∧ W.cell? ⟨w.heap.size + 1, 1, none⟩ = some (.int .i64 1000000) ∧ PgIs W rb σ.day σ.sp σ.ex (.slice la σ.L.length lc) nm (.map (some mb)) ∧ Below w.heap.size w W) := fun W hW => by
    have h0 := chain HW2.out.1 hW
    have b0 := (hW.block _ (by omega)).trans HW2.out.2.1
    have b1 := (hW.block _ (by omega)).trans HW2.out.2.2
    exact ⟨blkCell b0 1 _ rfl, blkCell b0 2 _ rfl, blkCell b1 0 _ rfl, blkCell b1 1 _ rfl, HG.out.1.later h0, h0⟩
  clear hg hr hmv htk
  go_enter Try.func30, Try.ntmps30
  go_wp2_with fail
  rw [← hW2]
  clear hW2
  -- the range
  refine wp_region_held_drew (S := fun W => Below W2.heap.size W2 W) (by kernel_rfl) (below_drew _) (fun hH => ?_)
  refine wpAnyH_take (i := 0) (v := .agg #[.int .i64 1, .int .i64 1000000]) rfl (by kernel_rfl) (by kernel_rfl) (by kernel_rfl) (fun _ _ _ h => h) (Or.inl ⟨by rfl, fun w hSw => by have f0 := (HQ.out w hSw).2.2.1; have f1 := (HQ.out w hSw).2.2.2.1; go_simp⟩) hH ?_
  refine wpAnyH_take (i := 1) (v := .pointer (some ⟨w.heap.size, 1, none⟩)) rfl (by kernel_rfl) (by kernel_rfl) (by kernel_rfl) (fun _ _ _ h => h) (Or.inl ⟨by rfl, fun w hSw => by go_simp⟩) hH ?_
  try simp only [Act.put, List.setIfInBounds_toArray, List.set_cons_zero, List.set_cons_succ, List.getElem_toArray, List.getElem_cons_succ, List.getElem_cons_zero]
  refine wpAnyH_take (i := 2) (v := .int .i64 nu) rfl (by kernel_rfl) (by kernel_rfl) (by kernel_rfl) (fun _ _ _ h => h) (Or.inl ⟨by rfl, fun w hSw => by have f0 := (HQ.out w hSw).1; go_simp⟩) hH ?_
  try simp only [Act.put, List.setIfInBounds_toArray, List.set_cons_zero, List.set_cons_succ, List.getElem_toArray, List.getElem_cons_succ, List.getElem_cons_zero]
  refine wpAnyH_ready (rs := [3]) (by kernel_rfl) (by simp) ?_
  refine AllReadyH.cons rfl (fun K hK => ?_) AllReadyH.nil
  go_simp
  go_at_call 35
  refine (spanP_any 1 1000000 nu _).mono ?_
  rintro e w3 ⟨rfl, hb3⟩
  have hw3 := chain hH hb3
  refine hK.out _ _ hw3 (fun _ => ?_)
  clear hK K
  try simp only [Act.put, List.setIfInBounds_toArray, List.set_cons_zero, List.set_cons_succ, List.getElem_toArray, List.getElem_cons_succ, List.getElem_cons_zero]
  by_cases hA : 1 ≤ nu ∧ nu ≤ 1000000
  · rw [decide_eq_true hA]
    refine wpAnyH_take (i := 4) (v := .bool false) rfl (by kernel_rfl) (by kernel_rfl) (by kernel_rfl) (fun _ _ _ h => h) (Or.inl ⟨by rfl, fun w hSw => by go_simp⟩) hw3 ?_
    try simp only [Act.put, List.setIfInBounds_toArray, List.set_cons_zero, List.set_cons_succ, List.getElem_toArray, List.getElem_cons_succ, List.getElem_cons_zero]
    refine wpAnyH_take (i := 5) (v := .bool false) rfl (by kernel_rfl) (by kernel_rfl) (by kernel_rfl) (fun _ _ _ h => h) (Or.inl ⟨by rfl, fun w hSw => by go_simp⟩) hw3 ?_
    try simp only [Act.put, List.setIfInBounds_toArray, List.set_cons_zero, List.set_cons_succ, List.getElem_toArray, List.getElem_cons_succ, List.getElem_cons_zero]
    refine wpAnyH_take (i := 6) (v := .pointer (some ⟨rb, 0, none⟩)) rfl (by kernel_rfl) (by kernel_rfl) (by kernel_rfl) (fun _ _ _ h => h) (Or.inl ⟨by rfl, fun w hSw => by go_simp⟩) hw3 ?_
    try simp only [Act.put, List.setIfInBounds_toArray, List.set_cons_zero, List.set_cons_succ, List.getElem_toArray, List.getElem_cons_succ, List.getElem_cons_zero]
    refine wpAnyH_take (i := 8) (v := .pointer (some ⟨w.heap.size, 2, none⟩)) rfl (by kernel_rfl) (by kernel_rfl) (by kernel_rfl) (fun _ _ _ h => h) (Or.inl ⟨by rfl, fun w hSw => by go_simp⟩) hw3 ?_
    try simp only [Act.put, List.setIfInBounds_toArray, List.set_cons_zero, List.set_cons_succ, List.getElem_toArray, List.getElem_cons_succ, List.getElem_cons_zero]
    refine wpAnyH_take (i := 9) (v := .int .i64 un) rfl (by kernel_rfl) (by kernel_rfl) (by kernel_rfl) (fun _ _ _ h => h) (Or.inl ⟨by rfl, fun w hSw => by have f0 := (HQ.out w hSw).2.1; go_simp⟩) hw3 ?_
    try simp only [Act.put, List.setIfInBounds_toArray, List.set_cons_zero, List.set_cons_succ, List.getElem_toArray, List.getElem_cons_succ, List.getElem_cons_zero]
    refine wpAnyH_ready (rs := [7]) (by kernel_rfl) (by simp) ?_
    refine AllReadyH.cons rfl (fun K hK => ?_) AllReadyH.nil
    go_simp
    go_at_call 36
    refine (ahead_any rb _ _ _ _ _ _ _ (HQ.out _ hw3).2.2.2.2.1).mono ?_
    rintro e w4 ⟨rfl, hb4⟩
    have hw4 := chain hw3 hb4
    refine hK.out _ _ hw4 (fun _ => ?_)
    clear hK K
    try simp only [Act.put, List.setIfInBounds_toArray, List.set_cons_zero, List.set_cons_succ, List.getElem_toArray, List.getElem_cons_succ, List.getElem_cons_zero]
    refine wpAnyH_ready (rs := [10]) (by kernel_rfl) (by simp) ?_
    refine AllReadyH.cons rfl (fun K hK => ?_) AllReadyH.nil
    go_simp
    go_at_call 35
    refine (spanP_any σ.day 100000 un _).mono ?_
    rintro e w5 ⟨rfl, hb5⟩
    have hw5 := chain hw4 hb5
    refine hK.out _ _ hw5 (fun _ => ?_)
    clear hK K
    try simp only [Act.put, List.setIfInBounds_toArray, List.set_cons_zero, List.set_cons_succ, List.getElem_toArray, List.getElem_cons_succ, List.getElem_cons_zero]
    by_cases hU : σ.day ≤ un ∧ un ≤ 100000
    · rw [decide_eq_true hU]
      refine wpAnyH_take (i := 11) (v := .bool false) rfl (by kernel_rfl) (by kernel_rfl) (by kernel_rfl) (fun _ _ _ h => h) (Or.inl ⟨by rfl, fun w hSw => by go_simp⟩) hw5 ?_
      try simp only [Act.put, List.setIfInBounds_toArray, List.set_cons_zero, List.set_cons_succ, List.getElem_toArray, List.getElem_cons_succ, List.getElem_cons_zero]
      refine wpAnyH_take (i := 12) (v := .bool false) rfl (by kernel_rfl) (by kernel_rfl) (by kernel_rfl) (fun _ _ _ h => h) (Or.inl ⟨by rfl, fun w hSw => by go_simp⟩) hw5 ?_
      try simp only [Act.put, List.setIfInBounds_toArray, List.set_cons_zero, List.set_cons_succ, List.getElem_toArray, List.getElem_cons_succ, List.getElem_cons_zero]
      refine wpAnyH_done (by kernel_rfl) ?_ _
      have H5 : Hid (Below W2.heap.size W2 w5) := hw5
      have x3 := (HQ.out _ hw5).2.2.2.2.1.cells.2.2.2.1
      clear hw5 hb5 hw4 hb4 hw3 hb3 hH
      by_cases hF : σ.L.length = 100
      · have hFb : ((σ.L.length : Int) == 100) = true := by rw [beq_iff_eq]; omega
        have HSe2 : Hid (stEarn nu un σ = (14, σ)) := by show _ = _; rw [HSe.out, if_neg (by omega), if_pos hF]
        have HEn : Hid (Below w.heap.size w w5) := (HQ.out _ H5.out).2.2.2.2.2
        clear HSe HQ hF
        go_wp2
        go_ret
        rw [HSe2.out]
        exact ⟨rfl, PgF.of HEn.out, n, by omega, HM0.out.later HEn.out⟩
      · have hFb : ((σ.L.length : Int) == 100) = false := by rw [beq_eq_false_iff_ne]; omega
        have HSe2 : Hid (stEarn nu un σ = (0, { σ with L := σ.L ++ [⟨nu, un⟩] })) := by show _ = _; rw [HSe.out, if_neg (by omega), if_neg hF]
        clear HSe
        go_wp2_with fail
        -- the lot
        have hp5 := HQ.out w5 H5.out
        have HG5 : Hid (PgIs w5 rb σ.day σ.sp σ.ex (.slice la σ.L.length lc) nm (.map (some mb)) ∧ w5.ownsRow B 67 2 (.slice la σ.L.length lc) σ.L.length (loCells σ.L) ∧ MapV zSl w5 mb n fv ∧ TkOk B w5 (.slice la σ.L.length lc) σ.T fv ∧ Below w.heap.size w w5 ∧ w.heap.size + 2 ≤ w5.heap.size) := by
          have hb := hp5.2.2.2.2.2
          exact ⟨hp5.2.2.2.2.1, row_of HG.out.2.1 (fun q hq => hb.block q (row_lt HG.out.2.1 q hq).2), HG.out.2.2.1.block (hb.block mb HG.out.2.2.1.lt), HG.out.2.2.2.of (fun c K v hK b q hq hne => ⟨hb.block q (row_lt b q hq).2, hne⟩), hb, by have := H5.out.size; omega⟩
        have HQ6 : Hid (∀ W : World, Fr (fun q => Value.ownBlock (.slice la σ.L.length lc) = some q) w5 W → W.cell? ⟨w.heap.size, 1, none⟩ = some (.int .i64 nu) ∧ W.cell? ⟨w.heap.size, 2, none⟩ = some (.int .i64 un) ∧ W.cell? ⟨rb, 3, none⟩ = some (.slice la σ.L.length lc) ∧ W.frozen? ⟨rb, 3, none⟩ = false) := fun W hW => by
          have e0 := hW.block w.heap.size (by have := HG5.out.2.2.2.2.2; omega) (fun e => by have := row_lt HG.out.2.1 _ e; omega)
          have e1 := hW.block rb HG5.out.1.lt (fun e => (tk_ne HG5.out.1 HG5.out.2.2.1 HG5.out.2.1 e).1 rfl)
          have b0 := e0.trans ((H5.out.block _ (by omega)).trans HW2.out.2.1)
          exact ⟨blkCell b0 1 _ rfl, blkCell b0 2 _ rfl, (HG5.out.1.of e1).cells.2.2.2.1, (HG5.out.1.of e1).free 3⟩
        clear hp5 x3
        refine wp_region_z (S := fun W => Fr (fun q => Value.ownBlock (.slice la σ.L.length lc) = some q) w5 W) 16 (by kernel_rfl) (Fr.of (below_drew _)) (fun hH => ?_)
        refine wpAnyZ_take (i := 0) (v := .pointer (some ⟨rb, 0, none⟩)) rfl (by kernel_rfl) (by kernel_rfl) (by kernel_rfl) (by kernel_rfl) (fun _ _ _ h => h) (Or.inl ⟨by rfl, fun w hSw => by go_simp⟩) hH ?_
        refine wpAnyZ_take (i := 1) (v := .pointer (some ⟨rb, 0, none⟩)) rfl (by kernel_rfl) (by kernel_rfl) (by kernel_rfl) (by kernel_rfl) (fun _ _ _ h => h) (Or.inl ⟨by rfl, fun w hSw => by go_simp⟩) hH ?_
        try simp only [Act.put, List.setIfInBounds_toArray, List.set_cons_zero, List.set_cons_succ, List.getElem_toArray, List.getElem_cons_succ, List.getElem_cons_zero]
        refine wpAnyZ_take (i := 2) (v := .pointer (some ⟨rb, 0, none⟩)) rfl (by kernel_rfl) (by kernel_rfl) (by kernel_rfl) (by kernel_rfl) (fun _ _ _ h => h) (Or.inl ⟨by rfl, fun w hSw => by go_simp⟩) hH ?_
        try simp only [Act.put, List.setIfInBounds_toArray, List.set_cons_zero, List.set_cons_succ, List.getElem_toArray, List.getElem_cons_succ, List.getElem_cons_zero]
        refine wpAnyZ_take (i := 3) (v := .pointer (some ⟨rb, 0, none⟩)) rfl (by kernel_rfl) (by kernel_rfl) (by kernel_rfl) (by kernel_rfl) (fun _ _ _ h => h) (Or.inl ⟨by rfl, fun w hSw => by go_simp⟩) hH ?_
        try simp only [Act.put, List.setIfInBounds_toArray, List.set_cons_zero, List.set_cons_succ, List.getElem_toArray, List.getElem_cons_succ, List.getElem_cons_zero]
        refine wpAnyZ_take (i := 4) (v := .pointer (some ⟨rb, 3, none⟩)) rfl (by kernel_rfl) (by kernel_rfl) (by kernel_rfl) (by kernel_rfl) (fun _ _ _ h => h) (Or.inl ⟨by rfl, fun w hSw => by go_simp⟩) hH ?_
        try simp only [Act.put, List.setIfInBounds_toArray, List.set_cons_zero, List.set_cons_succ, List.getElem_toArray, List.getElem_cons_succ, List.getElem_cons_zero]
        refine wpAnyZ_take (i := 5) (v := .slice la σ.L.length lc) rfl (by kernel_rfl) (by kernel_rfl) (by kernel_rfl) (by kernel_rfl) (fun _ _ _ h => h) (Or.inl ⟨by rfl, fun w hSw => by have f0 := (HQ6.out w hSw).2.2.1; go_simp⟩) hH ?_
        try simp only [Act.put, List.setIfInBounds_toArray, List.set_cons_zero, List.set_cons_succ, List.getElem_toArray, List.getElem_cons_succ, List.getElem_cons_zero]
        refine wpAnyZ_take (i := 6) (v := .pointer (some ⟨w.heap.size, 1, none⟩)) rfl (by kernel_rfl) (by kernel_rfl) (by kernel_rfl) (by kernel_rfl) (fun _ _ _ h => h) (Or.inl ⟨by rfl, fun w hSw => by go_simp⟩) hH ?_
        try simp only [Act.put, List.setIfInBounds_toArray, List.set_cons_zero, List.set_cons_succ, List.getElem_toArray, List.getElem_cons_succ, List.getElem_cons_zero]
        refine wpAnyZ_take (i := 7) (v := .int .i64 nu) rfl (by kernel_rfl) (by kernel_rfl) (by kernel_rfl) (by kernel_rfl) (fun _ _ _ h => h) (Or.inl ⟨by rfl, fun w hSw => by have f0 := (HQ6.out w hSw).1; go_simp⟩) hH ?_
        try simp only [Act.put, List.setIfInBounds_toArray, List.set_cons_zero, List.set_cons_succ, List.getElem_toArray, List.getElem_cons_succ, List.getElem_cons_zero]
        refine wpAnyZ_take (i := 8) (v := .pointer (some ⟨w.heap.size, 2, none⟩)) rfl (by kernel_rfl) (by kernel_rfl) (by kernel_rfl) (by kernel_rfl) (fun _ _ _ h => h) (Or.inl ⟨by rfl, fun w hSw => by go_simp⟩) hH ?_
        try simp only [Act.put, List.setIfInBounds_toArray, List.set_cons_zero, List.set_cons_succ, List.getElem_toArray, List.getElem_cons_succ, List.getElem_cons_zero]
        refine wpAnyZ_take (i := 9) (v := .int .i64 un) rfl (by kernel_rfl) (by kernel_rfl) (by kernel_rfl) (by kernel_rfl) (fun _ _ _ h => h) (Or.inl ⟨by rfl, fun w hSw => by have f0 := (HQ6.out w hSw).2.1; go_simp⟩) hH ?_
        try simp only [Act.put, List.setIfInBounds_toArray, List.set_cons_zero, List.set_cons_succ, List.getElem_toArray, List.getElem_cons_succ, List.getElem_cons_zero]
        refine wpAnyZ_take (i := 10) (v := .agg #[.int .i64 nu, .int .i64 un]) rfl (by kernel_rfl) (by kernel_rfl) (by kernel_rfl) (by kernel_rfl) (fun _ _ _ h => h) (Or.inl ⟨by rfl, fun w hSw => by go_simp⟩) hH ?_
        try simp only [Act.put, List.setIfInBounds_toArray, List.set_cons_zero, List.set_cons_succ, List.getElem_toArray, List.getElem_cons_succ, List.getElem_cons_zero]
        refine wpAnyZ_ready (rs := [11]) (by kernel_rfl) (by simp) ?_
        refine AllReadyZ.cons rfl (fun K hK => ?_) AllReadyZ.nil
        go_simp
        have h11 : Below w5.heap.size w5 (w5.alloc (Obj.cells #[.int .i64 nu, .int .i64 un] 67)).drew := chain (below_alloc _ _) (below_drew _)
        have hb11 : (w5.alloc (Obj.cells #[.int .i64 nu, .int .i64 un] 67)).drew.heap[w5.heap.size]? = some (.cells #[.int .i64 nu, .int .i64 un] 67 (0, 0)) := heapNew w5 _
        have hF11 : Fr (fun q => Value.ownBlock (.slice la σ.L.length lc) = some q) w5 (w5.alloc (Obj.cells #[.int .i64 nu, .int .i64 un] 67)).drew := Fr.of h11
        refine hK.out _ _ (Or.inr hF11) (fun _ => ?_)
        clear hK K
        try simp only [Act.put, List.setIfInBounds_toArray, List.set_cons_zero, List.set_cons_succ, List.getElem_toArray, List.getElem_cons_succ, List.getElem_cons_zero]
        generalize (w5.alloc (Obj.cells #[.int .i64 nu, .int .i64 un] 67)).drew = W6 at *
        have HR6 : Hid (W6.ownsRow B 67 2 (.slice la σ.L.length lc) σ.L.length (loCells σ.L) ∧ B ≤ W6.heap.size ∧ Below w.heap.size w W6) := ⟨row_of HG5.out.2.1 (fun q hq => h11.block q (row_lt HG5.out.2.1 q hq).2), by have := h11.size; have := HG5.out.2.2.2.2.2; omega, chain HG5.out.2.2.2.2.1 h11⟩
        refine wpAnyZ_ready (rs := [12]) (by kernel_rfl) (by simp) ?_
        refine AllReadyZ.cons rfl (fun K hK => ?_) AllReadyZ.nil
        refine step_append_lies _ rfl (.tmp 32) (.tmp 38) 25 rfl B 67 i0 (.agg #[.int .i64 0, .int .i64 0]) 2 16 Try.underlying25 hi hi0 hi1 hi2 rfl (by decide) (.slice la σ.L.length lc) _ _ (by simp [Act.eval]) HR6.out.1 ⟨w5.heap.size, 0, none⟩ 1 1 [.int .i64 nu, .int .i64 un] (by simp [Act.eval]) rfl (World.news_of_block hb11) (by simp [Value.oneCell']) (by omega) (by unfold maxLen; omega) (by omega) HR6.out.2.1 _ rfl (fun g1 cp1 w9 hown hgrow hat hglt => ?_)
        have hS9 : Fr (fun q => Value.ownBlock (.slice la σ.L.length lc) = some q) w5 w9 := hF11.trans (fr_grown hgrow)
        have her := erEnd (n := n) (nm := nm) HR6.out.2.2 HG.out.1 HG.out.2.1 HG.out.2.2.1 HG.out.2.2.2 hown hgrow (fun q hq => by
          have hq2 : g1 = q := by simpa [Value.ownBlock] using hq
          subst hq2
          rcases hat with r | r
          · exact .inl r
          · exact .inr (by have := HR6.out.2.2.size; omega))
        have HEr : Hid (PgF B rb mb w (w9.setCell ⟨rb, 3, none⟩ (.slice (some ⟨g1, 0, none⟩) (σ.L.length + 1) cp1)) ∧ PgM B rb mb n nm { σ with L := σ.L ++ [⟨nu, un⟩] } (w9.setCell ⟨rb, 3, none⟩ (.slice (some ⟨g1, 0, none⟩) (σ.L.length + 1) cp1))) := her.2
        clear her hown hgrow hat hglt hb11 h11
        refine hK.out _ _ (Or.inr hS9) (fun _ => ?_)
        clear hK K
        try simp only [Act.put, List.setIfInBounds_toArray, List.set_cons_zero, List.set_cons_succ, List.getElem_toArray, List.getElem_cons_succ, List.getElem_cons_zero]
        refine wpAnyZ_take (i := 13) (v := .pointer (some ⟨rb, 0, none⟩)) rfl (by kernel_rfl) (by kernel_rfl) (by kernel_rfl) (by kernel_rfl) (fun _ _ _ h => h) (Or.inl ⟨by rfl, fun w hSw => by go_simp⟩) hS9 ?_
        try simp only [Act.put, List.setIfInBounds_toArray, List.set_cons_zero, List.set_cons_succ, List.getElem_toArray, List.getElem_cons_succ, List.getElem_cons_zero]
        refine wpAnyZ_take (i := 14) (v := .pointer (some ⟨rb, 0, none⟩)) rfl (by kernel_rfl) (by kernel_rfl) (by kernel_rfl) (by kernel_rfl) (fun _ _ _ h => h) (Or.inl ⟨by rfl, fun w hSw => by go_simp⟩) hS9 ?_
        try simp only [Act.put, List.setIfInBounds_toArray, List.set_cons_zero, List.set_cons_succ, List.getElem_toArray, List.getElem_cons_succ, List.getElem_cons_zero]
        refine wpAnyZ_take (i := 15) (v := .pointer (some ⟨rb, 3, none⟩)) rfl (by kernel_rfl) (by kernel_rfl) (by kernel_rfl) (by kernel_rfl) (fun _ _ _ h => h) (Or.inl ⟨by rfl, fun w hSw => by go_simp⟩) hS9 ?_
        try simp only [Act.put, List.setIfInBounds_toArray, List.set_cons_zero, List.set_cons_succ, List.getElem_toArray, List.getElem_cons_succ, List.getElem_cons_zero]
        refine wpAnyZ_ready (rs := [16]) (by kernel_rfl) (by simp) ?_
        refine AllReadyZ.cons rfl (fun K hK => ?_) AllReadyZ.nil
        obtain ⟨y0, y1, y2, y3⟩ := HQ6.out w9 hS9
        go_simp
        refine hK.out _ _ (Or.inl rfl) (fun _ => ?_)
        clear hK K
        try simp only [Act.put, List.setIfInBounds_toArray, List.set_cons_zero, List.set_cons_succ, List.getElem_toArray, List.getElem_cons_succ, List.getElem_cons_zero]
        refine wpAnyZ_done (by kernel_rfl) ?_ _
        clear y0 y1 y2 y3 HQ6 hS9 hF11 hH
        generalize w9.setCell ⟨rb, 3, none⟩ (.slice (some ⟨g1, 0, none⟩) (σ.L.length + 1) cp1) = W9 at *
        go_wp2
        go_ret
        rw [HSe2.out]
        exact ⟨rfl, HEr.out.1, n, by omega, HEr.out.2⟩
    · rw [decide_eq_false hU]
      refine wpAnyH_take (i := 11) (v := .bool true) rfl (by kernel_rfl) (by kernel_rfl) (by kernel_rfl) (fun _ _ _ h => h) (Or.inl ⟨by rfl, fun w hSw => by go_simp⟩) hw5 ?_
      try simp only [Act.put, List.setIfInBounds_toArray, List.set_cons_zero, List.set_cons_succ, List.getElem_toArray, List.getElem_cons_succ, List.getElem_cons_zero]
      refine wpAnyH_take (i := 12) (v := .bool true) rfl (by kernel_rfl) (by kernel_rfl) (by kernel_rfl) (fun _ _ _ h => h) (Or.inl ⟨by rfl, fun w hSw => by go_simp⟩) hw5 ?_
      try simp only [Act.put, List.setIfInBounds_toArray, List.set_cons_zero, List.set_cons_succ, List.getElem_toArray, List.getElem_cons_succ, List.getElem_cons_zero]
      refine wpAnyH_done (by kernel_rfl) ?_ _
      have HSe2 : Hid (stEarn nu un σ = (5, σ)) := by show _ = _; rw [HSe.out, if_pos (.inr hU)]
      have HEn : Hid (Below w.heap.size w w5) := (HQ.out _ hw5).2.2.2.2.2
      clear hw5 hb5 hw4 hb4 hw3 hb3 hH HSe HQ
      go_wp2
      go_ret
      rw [HSe2.out]
      exact ⟨rfl, PgF.of HEn.out, n, by omega, HM0.out.later HEn.out⟩
  · rw [decide_eq_false hA]
    refine wpAnyH_take (i := 4) (v := .bool true) rfl (by kernel_rfl) (by kernel_rfl) (by kernel_rfl) (fun _ _ _ h => h) (Or.inl ⟨by rfl, fun w hSw => by go_simp⟩) hw3 ?_
    try simp only [Act.put, List.setIfInBounds_toArray, List.set_cons_zero, List.set_cons_succ, List.getElem_toArray, List.getElem_cons_succ, List.getElem_cons_zero]
    refine wpAnyH_take (i := 5) (v := .bool true) rfl (by kernel_rfl) (by kernel_rfl) (by kernel_rfl) (fun _ _ _ h => h) (Or.inl ⟨by rfl, fun w hSw => by go_simp⟩) hw3 ?_
    try simp only [Act.put, List.setIfInBounds_toArray, List.set_cons_zero, List.set_cons_succ, List.getElem_toArray, List.getElem_cons_succ, List.getElem_cons_zero]
    refine wpAnyH_take (i := 6) (v := undef) rfl (by kernel_rfl) (by kernel_rfl) (by kernel_rfl) (fun _ _ _ h => h) (Or.inr ⟨by rfl, rfl⟩) hw3 ?_
    try simp only [Act.put, List.setIfInBounds_toArray, List.set_cons_zero, List.set_cons_succ, List.getElem_toArray, List.getElem_cons_succ, List.getElem_cons_zero]
    refine wpAnyH_take (i := 7) (v := undef) rfl (by kernel_rfl) (by kernel_rfl) (by kernel_rfl) (fun _ _ _ h => h) (Or.inr ⟨by rfl, rfl⟩) hw3 ?_
    try simp only [Act.put, List.setIfInBounds_toArray, List.set_cons_zero, List.set_cons_succ, List.getElem_toArray, List.getElem_cons_succ, List.getElem_cons_zero]
    refine wpAnyH_take (i := 8) (v := undef) rfl (by kernel_rfl) (by kernel_rfl) (by kernel_rfl) (fun _ _ _ h => h) (Or.inr ⟨by rfl, rfl⟩) hw3 ?_
    try simp only [Act.put, List.setIfInBounds_toArray, List.set_cons_zero, List.set_cons_succ, List.getElem_toArray, List.getElem_cons_succ, List.getElem_cons_zero]
    refine wpAnyH_take (i := 9) (v := undef) rfl (by kernel_rfl) (by kernel_rfl) (by kernel_rfl) (fun _ _ _ h => h) (Or.inr ⟨by rfl, rfl⟩) hw3 ?_
    try simp only [Act.put, List.setIfInBounds_toArray, List.set_cons_zero, List.set_cons_succ, List.getElem_toArray, List.getElem_cons_succ, List.getElem_cons_zero]
    refine wpAnyH_take (i := 10) (v := undef) rfl (by kernel_rfl) (by kernel_rfl) (by kernel_rfl) (fun _ _ _ h => h) (Or.inr ⟨by rfl, rfl⟩) hw3 ?_
    try simp only [Act.put, List.setIfInBounds_toArray, List.set_cons_zero, List.set_cons_succ, List.getElem_toArray, List.getElem_cons_succ, List.getElem_cons_zero]
    refine wpAnyH_take (i := 11) (v := undef) rfl (by kernel_rfl) (by kernel_rfl) (by kernel_rfl) (fun _ _ _ h => h) (Or.inr ⟨by rfl, rfl⟩) hw3 ?_
    try simp only [Act.put, List.setIfInBounds_toArray, List.set_cons_zero, List.set_cons_succ, List.getElem_toArray, List.getElem_cons_succ, List.getElem_cons_zero]
    refine wpAnyH_take (i := 12) (v := .bool true) rfl (by kernel_rfl) (by kernel_rfl) (by kernel_rfl) (fun _ _ _ h => h) (Or.inl ⟨by rfl, fun w hSw => by go_simp⟩) hw3 ?_
    try simp only [Act.put, List.setIfInBounds_toArray, List.set_cons_zero, List.set_cons_succ, List.getElem_toArray, List.getElem_cons_succ, List.getElem_cons_zero]
    refine wpAnyH_done (by kernel_rfl) ?_ _
    have HSe2 : Hid (stEarn nu un σ = (5, σ)) := by show _ = _; rw [HSe.out, if_pos (.inl hA)]
    have HEn : Hid (Below w.heap.size w w3) := (HQ.out _ hw3).2.2.2.2.2
    clear hw3 hb3 hH HSe HQ
    go_wp2
    go_ret
    rw [HSe2.out]
    exact ⟨rfl, PgF.of HEn.out, n, by omega, HM0.out.later HEn.out⟩
end Go.Proofs.Ytodncihjenlnjaa
