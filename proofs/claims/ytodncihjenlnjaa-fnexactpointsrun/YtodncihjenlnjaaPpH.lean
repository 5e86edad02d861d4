/-
  goOn of the program.
-/
import Derived.Test.YtodncihjenlnjaaPpG
namespace Go.Proofs.Ytodncihjenlnjaa
open Go.ChangeShapes Go.WideShapes Go.ChangeAt Go.RowKit Go.Deep
set_option linter.unusedVariables false

theorem TkOk.of {B : Nat} {W W' : World} {lv lv' : Value} {T : Int → Option (List RLo)} {fv : Int → Option Value} (h : TkOk B W lv T fv)
    (hk : ∀ c K v, T c = some K → W.ownsRow B 67 2 v K.length (loCells K) → ∀ q, v.ownBlock = some q → lv.ownBlock ≠ some q → W'.heap[q]? = W.heap[q]? ∧ lv'.ownBlock ≠ some q) : TkOk B W' lv' T fv := fun c => ⟨(h c).1, fun K hK => by
  obtain ⟨v, a, b, d⟩ := (h c).2 K hK
  exact ⟨v, a, row_of b (fun q hq => (hk c K v hK b q hq (d q hq)).1), fun q hq => (hk c K v hK b q hq (d q hq)).2⟩⟩
theorem tk_ne {B : Nat} {W : World} {rb mb n : Nat} {day sp ex : Int} {lv : Value} {nm : Int} {mv : Value} {f : Int → Option Value} (h1 : PgIs W rb day sp ex lv nm mv) (h3 : MapV zSl W mb n f) {v : Value} {k : Nat} {xs : List Value} (b : W.ownsRow B 67 2 v k xs) {q : Nat} (hq : v.ownBlock = some q) : q ≠ rb ∧ q ≠ mb ∧ q < W.heap.size := by
  obtain ⟨cur2, hcur2⟩ := row_type b hq
  refine ⟨fun y => ?_, fun y => ?_, (row_lt b q hq).2⟩
  · have hh : W.heap[rb]? = _ := h1
    rw [← y, hcur2] at hh
    simp at hh
  · obtain ⟨es, ck, hme⟩ := h3.is
    rw [← y, hcur2] at hme
    simp at hme
theorem rb_ne {W : World} {rb mb n : Nat} {day sp ex : Int} {lv : Value} {nm : Int} {mv : Value} {f : Int → Option Value} (h1 : PgIs W rb day sp ex lv nm mv) (h3 : MapV zSl W mb n f) : mb ≠ rb := fun e => by
  obtain ⟨es, ck, hme⟩ := h3.is
  have hh : W.heap[rb]? = _ := h1
  rw [← e, hme] at hh
  simp at hh
theorem ret_boolP {a b : Bool} (h : a = b) : Ending.returned (.bool a) = .returned (.bool b) := by rw [h]
theorem spanP_any (a b n : Int) (w : World) :
    Calls Try.prog 35 #[.agg #[.int .i64 a, .int .i64 b], .int .i64 n] w fun e w' => e = .returned (.bool (decide (a ≤ n ∧ n ≤ b))) ∧ Below w.heap.size w w' := by
  rcases (by omega : n < a ∨ (a ≤ n ∧ b < n) ∨ (a ≤ n ∧ n ≤ b)) with h1 | ⟨h1, h2⟩ | ⟨h1, h2⟩
  all_goals
    go_enter Try.func35, Try.ntmps35
    go_wp2
    go_ret
    refine ⟨ret_boolP ?_, below_alloc _ _⟩
    rw [Bool.eq_iff_iff]
    simp <;> omega
theorem ahead_any (rb : Nat) (day sp ex : Int) (lv : Value) (nm : Int) (mv : Value) (w : World) (hg : PgIs w rb day sp ex lv nm mv) :
    Calls Try.prog 36 #[.pointer (some ⟨rb, 0, none⟩)] w fun e w' => e = .returned (.agg #[.int .i64 day, .int .i64 100000]) ∧ Below w.heap.size w w' := by
  have c0 := (hg.later (below_alloc w (Obj.cells #[.int .i64 0, .int .i64 0] 73))).cells.1
  have HB : Hid (∀ V : Array Value, Below w.heap.size w (w.alloc (Obj.cells V 73))) := fun V => below_alloc _ _
  clear hg
  go_enter Try.func36, Try.ntmps36
  go_wp2
  refine bodyPost_ret (v := .agg #[.int .i64 day, .int .i64 100000]) (by simp [results, Try.results36, go_sem]) rfl ⟨rfl, HB.out _⟩
set_option maxHeartbeats 4000000 in
theorem goOn_any (B rb mb n : Nat) (nm : Int) (σ : PSt) (j : Nat) (hj : j ≤ 1000) (hok : PsOk j σ) (kd d un : Int) (w : World) (hBw : B ≤ w.heap.size) (hM : PgM B rb mb n nm σ w) :
    Calls Try.prog 32 #[.pointer (some ⟨rb, 0, none⟩), .agg #[.int .i64 kd, .int .i64 d, .int .i64 un]] w fun e w' => e = .returned (.int .i64 (stDay d σ).1) ∧ PgF B rb mb w w' ∧ ∃ n', n' ≤ n + 1 ∧ PgM B rb mb n' nm (stDay d σ).2 w' := by
  have HM0 : Hid (PgM B rb mb n nm σ w) := hM
  have HSd : Hid (stDay d σ = if ¬ (σ.day ≤ d ∧ d ≤ 100000) then (5, σ) else (0, { σ with day := d, ex := σ.ex + (sumP σ.L - sumP (keptL d σ.L)), L := keptL d σ.L })) := rfl
  obtain ⟨lv, fv, hg, hr, hmv, htk⟩ := hM
  have hs := hok.sum
  have hk := sumP_kept d hok.lot
  have he1 := hok.ex1
  have he2 := hok.ex2
  obtain ⟨la, lc, rfl⟩ := row_slice hr
  have HG : Hid (PgIs w rb σ.day σ.sp σ.ex (.slice la σ.L.length lc) nm (.map (some mb)) ∧ w.ownsRow B 67 2 (.slice la σ.L.length lc) σ.L.length (loCells σ.L) ∧ MapV zSl w mb n fv ∧ TkOk B w (.slice la σ.L.length lc) σ.T fv) := ⟨hg, hr, hmv, htk⟩
  have HIn : Hid (∀ W : World, W.ownsRow B 67 2 (.slice la σ.L.length lc) σ.L.length (loCells σ.L) → Calls Try.prog 39 #[.slice la σ.L.length lc, .int .i64 d] W fun e w' => ∃ ka kc, e = .returned (.tuple #[.slice ka (keptL d σ.L).length kc, .int .i64 (sumP σ.L - sumP (keptL d σ.L))]) ∧ LoRow W W.heap.size (.slice ka (keptL d σ.L).length kc) (keptL d σ.L) w' ∧ (keptL d σ.L = [] → ka = none ∧ kc = 0)) := fun W hW => inTime_any la lc σ.L (by have := hok.len; omega) hok.lot d W (lo_reads hW)
  have hrl := hg.lt
  obtain ⟨W1, hW1⟩ : ∃ W1, W1 = w.alloc (Obj.cells #[.int .i64 kd, .int .i64 d, .int .i64 un] 46) := ⟨_, rfl⟩
  have hz1 : W1.heap.size = w.heap.size + 1 := by rw [hW1]; simp
  have HW1 : Hid (Below w.heap.size w W1 ∧ W1.heap[w.heap.size]? = some (.cells #[.int .i64 kd, .int .i64 d, .int .i64 un] 46 (0, 0))) := by
    subst hW1
    exact ⟨below_alloc _ _, heapNew _ _⟩
  have HQ : Hid (∀ W : World, Below W1.heap.size W1 W → W.cell? ⟨w.heap.size, 1, none⟩ = some (.int .i64 d) ∧ PgIs W rb σ.day σ.sp σ.ex (.slice la σ.L.length lc) nm (.map (some mb)) ∧ Below w.heap.size w W) := fun W hW => by
    have h0 := chain HW1.out.1 hW
    exact ⟨blkCell ((hW.block _ (by omega)).trans HW1.out.2) 1 _ rfl, HG.out.1.later h0, h0⟩
  clear hg hr hmv htk
  go_enter Try.func32, Try.ntmps32
  go_wp2_with fail
  rw [← hW1]
  clear hW1
  -- is it ahead
  refine wp_region_held_drew (S := fun W => Below W1.heap.size W1 W) (by kernel_rfl) (below_drew _) (fun hH => ?_)
  refine wpAnyH_take (i := 0) (v := .pointer (some ⟨rb, 0, none⟩)) rfl (by kernel_rfl) (by kernel_rfl) (by kernel_rfl) (fun _ _ _ h => h) (Or.inl ⟨by rfl, fun w hSw => by go_simp⟩) hH ?_
  refine wpAnyH_take (i := 2) (v := .pointer (some ⟨w.heap.size, 1, none⟩)) rfl (by kernel_rfl) (by kernel_rfl) (by kernel_rfl) (fun _ _ _ h => h) (Or.inl ⟨by rfl, fun w hSw => by go_simp⟩) hH ?_
  try simp only [Act.put, List.setIfInBounds_toArray, List.set_cons_zero, List.set_cons_succ, List.getElem_toArray, List.getElem_cons_succ, List.getElem_cons_zero]
  refine wpAnyH_take (i := 3) (v := .int .i64 d) rfl (by kernel_rfl) (by kernel_rfl) (by kernel_rfl) (fun _ _ _ h => h) (Or.inl ⟨by rfl, fun w hSw => by have f0 := (HQ.out w hSw).1; go_simp⟩) hH ?_
  try simp only [Act.put, List.setIfInBounds_toArray, List.set_cons_zero, List.set_cons_succ, List.getElem_toArray, List.getElem_cons_succ, List.getElem_cons_zero]
  refine wpAnyH_ready (rs := [1]) (by kernel_rfl) (by simp) ?_
  refine AllReadyH.cons rfl (fun K hK => ?_) AllReadyH.nil
  go_simp
  go_at_call 36
  refine (ahead_any rb _ _ _ _ _ _ _ (HQ.out _ hH).2.1).mono ?_
  rintro e w3 ⟨rfl, hb3⟩
  have hw3 := chain hH hb3
  refine hK.out _ _ hw3 (fun _ => ?_)
  clear hK K
  try simp only [Act.put, List.setIfInBounds_toArray, List.set_cons_zero, List.set_cons_succ, List.getElem_toArray, List.getElem_cons_succ, List.getElem_cons_zero]
  refine wpAnyH_ready (rs := [4]) (by kernel_rfl) (by simp) ?_
  refine AllReadyH.cons rfl (fun K hK => ?_) AllReadyH.nil
  go_simp
  go_at_call 35
  refine (spanP_any σ.day 100000 d _).mono ?_
  rintro e w4 ⟨rfl, hb4⟩
  have hw4 := chain hw3 hb4
  refine hK.out _ _ hw4 (fun _ => ?_)
  clear hK K
  try simp only [Act.put, List.setIfInBounds_toArray, List.set_cons_zero, List.set_cons_succ, List.getElem_toArray, List.getElem_cons_succ, List.getElem_cons_zero]
  by_cases hd : σ.day ≤ d ∧ d ≤ 100000
  · rw [decide_eq_true hd]
    refine wpAnyH_take (i := 5) (v := .bool false) rfl (by kernel_rfl) (by kernel_rfl) (by kernel_rfl) (fun _ _ _ h => h) (Or.inl ⟨by rfl, fun w hSw => by go_simp⟩) hw4 ?_
    try simp only [Act.put, List.setIfInBounds_toArray, List.set_cons_zero, List.set_cons_succ, List.getElem_toArray, List.getElem_cons_succ, List.getElem_cons_zero]
    refine wpAnyH_done (by kernel_rfl) ?_ _
    have HSd2 : Hid (stDay d σ = (0, { σ with day := d, ex := σ.ex + (sumP σ.L - sumP (keptL d σ.L)), L := keptL d σ.L })) := by show _ = _; rw [HSd.out, if_neg (by simpa using hd)]
    have HW4 : Hid (Below W1.heap.size W1 w4) := hw4
    have a1 := (HQ.out w4 hw4).1
    have y0 := (HQ.out w4 hw4).2.1.cells.1
    have yf := (HQ.out w4 hw4).2.1.free 0
    have a2 : (w4.setCell ⟨rb, 0, none⟩ (.int .i64 d)).cell? ⟨w.heap.size, 1, none⟩ = some (.int .i64 d) := by rw [World.cell?_setCell_other _ _ _ _ (by simp)]; exact a1
    clear hw4 hb4 hw3 hb3 hH HSd
    go_wp2_with fail
    have hP5 : PgIs (w4.setCell ⟨rb, 0, none⟩ (.int .i64 d)) rb d σ.sp σ.ex (.slice la σ.L.length lc) nm (.map (some mb)) := (HQ.out w4 HW4.out).2.1.set0 d
    have hk5 : ∀ q, q < w.heap.size → q ≠ rb → (w4.setCell ⟨rb, 0, none⟩ (.int .i64 d)).heap[q]? = w.heap[q]? := fun q h1 h2 => (Below.heap_setCell _ _ _ _ h2).trans ((HQ.out w4 HW4.out).2.2.block q h1)
    have hf5 : Fr (fun q => q = rb) w (w4.setCell ⟨rb, 0, none⟩ (.int .i64 d)) := (Fr.of (X := fun q => q = rb) (HQ.out w4 HW4.out).2.2).set (b := rb) rfl _ _
    generalize w4.setCell ⟨rb, 0, none⟩ (.int .i64 d) = W5 at *
    have H5 : Hid (PgIs W5 rb d σ.sp σ.ex (.slice la σ.L.length lc) nm (.map (some mb)) ∧ W5.ownsRow B 67 2 (.slice la σ.L.length lc) σ.L.length (loCells σ.L) ∧ Fr (fun q => q = rb) w W5 ∧ W5.cell? ⟨w.heap.size, 1, none⟩ = some (.int .i64 d) ∧ w.heap.size < W5.heap.size) := ⟨hP5, row_of HG.out.2.1 (fun q hq => hk5 q (row_lt HG.out.2.1 q hq).2 (tk_ne HG.out.1 HG.out.2.2.1 HG.out.2.1 hq).1), hf5, a2, by
      rcases Nat.lt_or_ge w.heap.size W5.heap.size with h | h
      · exact h
      · rw [World.cell?] at a2; simp [Array.getElem?_eq_none h] at a2⟩
    clear hP5 hk5 hf5 a2 a1 y0 yf HW4 HQ
    -- what is in time
    have HQ5 : Hid (∀ W : World, Below W5.heap.size W5 W → W.cell? ⟨w.heap.size, 1, none⟩ = some (.int .i64 d) ∧ W.cell? ⟨rb, 3, none⟩ = some (.slice la σ.L.length lc) ∧ W.ownsRow B 67 2 (.slice la σ.L.length lc) σ.L.length (loCells σ.L)) := fun W hW => ⟨(hW.cell (p := ⟨w.heap.size, 1, none⟩) H5.out.2.2.2.2).trans H5.out.2.2.2.1, (H5.out.1.later hW).cells.2.2.2.1, row_of H5.out.2.1 (fun q hq => hW.block q (row_lt H5.out.2.1 q hq).2)⟩
    refine wp_region_held_drew (S := fun W => Below W5.heap.size W5 W) (by kernel_rfl) (below_drew _) (fun hH => ?_)
    refine wpAnyH_take (i := 0) (v := .pointer (some ⟨rb, 0, none⟩)) rfl (by kernel_rfl) (by kernel_rfl) (by kernel_rfl) (fun _ _ _ h => h) (Or.inl ⟨by rfl, fun w hSw => by go_simp⟩) hH ?_
    refine wpAnyH_take (i := 1) (v := .pointer (some ⟨rb, 0, none⟩)) rfl (by kernel_rfl) (by kernel_rfl) (by kernel_rfl) (fun _ _ _ h => h) (Or.inl ⟨by rfl, fun w hSw => by go_simp⟩) hH ?_
    try simp only [Act.put, List.setIfInBounds_toArray, List.set_cons_zero, List.set_cons_succ, List.getElem_toArray, List.getElem_cons_succ, List.getElem_cons_zero]
    refine wpAnyH_take (i := 2) (v := .pointer (some ⟨rb, 0, none⟩)) rfl (by kernel_rfl) (by kernel_rfl) (by kernel_rfl) (fun _ _ _ h => h) (Or.inl ⟨by rfl, fun w hSw => by go_simp⟩) hH ?_
    try simp only [Act.put, List.setIfInBounds_toArray, List.set_cons_zero, List.set_cons_succ, List.getElem_toArray, List.getElem_cons_succ, List.getElem_cons_zero]
    refine wpAnyH_take (i := 3) (v := .pointer (some ⟨rb, 3, none⟩)) rfl (by kernel_rfl) (by kernel_rfl) (by kernel_rfl) (fun _ _ _ h => h) (Or.inl ⟨by rfl, fun w hSw => by go_simp⟩) hH ?_
    try simp only [Act.put, List.setIfInBounds_toArray, List.set_cons_zero, List.set_cons_succ, List.getElem_toArray, List.getElem_cons_succ, List.getElem_cons_zero]
    refine wpAnyH_take (i := 4) (v := .slice la σ.L.length lc) rfl (by kernel_rfl) (by kernel_rfl) (by kernel_rfl) (fun _ _ _ h => h) (Or.inl ⟨by rfl, fun w hSw => by have f0 := (HQ5.out w hSw).2.1; go_simp⟩) hH ?_
    try simp only [Act.put, List.setIfInBounds_toArray, List.set_cons_zero, List.set_cons_succ, List.getElem_toArray, List.getElem_cons_succ, List.getElem_cons_zero]
    refine wpAnyH_take (i := 5) (v := .pointer (some ⟨w.heap.size, 1, none⟩)) rfl (by kernel_rfl) (by kernel_rfl) (by kernel_rfl) (fun _ _ _ h => h) (Or.inl ⟨by rfl, fun w hSw => by go_simp⟩) hH ?_
    try simp only [Act.put, List.setIfInBounds_toArray, List.set_cons_zero, List.set_cons_succ, List.getElem_toArray, List.getElem_cons_succ, List.getElem_cons_zero]
    refine wpAnyH_take (i := 6) (v := .int .i64 d) rfl (by kernel_rfl) (by kernel_rfl) (by kernel_rfl) (fun _ _ _ h => h) (Or.inl ⟨by rfl, fun w hSw => by have f0 := (HQ5.out w hSw).1; go_simp⟩) hH ?_
    try simp only [Act.put, List.setIfInBounds_toArray, List.set_cons_zero, List.set_cons_succ, List.getElem_toArray, List.getElem_cons_succ, List.getElem_cons_zero]
    refine wpAnyH_ready (rs := [7]) (by kernel_rfl) (by simp) ?_
    refine AllReadyH.cons rfl (fun K hK => ?_) AllReadyH.nil
    go_simp
    go_at_call 39
    refine (HIn.out _ (HQ5.out _ hH).2.2).mono ?_
    rintro e w6 ⟨ka, kc, rfl, ⟨hrow6, hs6, hb6⟩, -⟩
    have hw6 := chain hH hb6
    have HR6 : Hid (w6.ownsRow W5.heap.size 67 2 (.slice ka (keptL d σ.L).length kc) (keptL d σ.L).length (loCells (keptL d σ.L)) ∧ Below W5.heap.size W5 w6) := ⟨row_base hrow6 hH.size, hw6⟩
    refine hK.out _ _ hw6 (fun _ => ?_)
    clear hK K
    try simp only [Act.put, List.setIfInBounds_toArray, List.set_cons_zero, List.set_cons_succ, List.getElem_toArray, List.getElem_cons_succ, List.getElem_cons_zero]
    refine wpAnyH_take (i := 8) (v := .tuple #[.slice ka (keptL d σ.L).length kc, .int .i64 (sumP σ.L - sumP (keptL d σ.L))]) rfl (by kernel_rfl) (by kernel_rfl) (by kernel_rfl) (fun _ _ _ h => h) (Or.inl ⟨by rfl, fun w hSw => by go_simp⟩) hw6 ?_
    try simp only [Act.put, List.setIfInBounds_toArray, List.set_cons_zero, List.set_cons_succ, List.getElem_toArray, List.getElem_cons_succ, List.getElem_cons_zero]
    refine wpAnyH_take (i := 9) (v := .slice ka (keptL d σ.L).length kc) rfl (by kernel_rfl) (by kernel_rfl) (by kernel_rfl) (fun _ _ _ h => h) (Or.inl ⟨by rfl, fun w hSw => by go_simp⟩) hw6 ?_
    try simp only [Act.put, List.setIfInBounds_toArray, List.set_cons_zero, List.set_cons_succ, List.getElem_toArray, List.getElem_cons_succ, List.getElem_cons_zero]
    refine wpAnyH_take (i := 10) (v := .int .i64 (sumP σ.L - sumP (keptL d σ.L))) rfl (by kernel_rfl) (by kernel_rfl) (by kernel_rfl) (fun _ _ _ h => h) (Or.inl ⟨by rfl, fun w hSw => by go_simp⟩) hw6 ?_
    try simp only [Act.put, List.setIfInBounds_toArray, List.set_cons_zero, List.set_cons_succ, List.getElem_toArray, List.getElem_cons_succ, List.getElem_cons_zero]
    refine wpAnyH_take (i := 11) (v := .slice ka (keptL d σ.L).length kc) rfl (by kernel_rfl) (by kernel_rfl) (by kernel_rfl) (fun _ _ _ h => h) (Or.inl ⟨by rfl, fun w hSw => by go_simp⟩) hw6 ?_
    try simp only [Act.put, List.setIfInBounds_toArray, List.set_cons_zero, List.set_cons_succ, List.getElem_toArray, List.getElem_cons_succ, List.getElem_cons_zero]
    refine wpAnyH_take (i := 12) (v := .int .i64 (sumP σ.L - sumP (keptL d σ.L))) rfl (by kernel_rfl) (by kernel_rfl) (by kernel_rfl) (fun _ _ _ h => h) (Or.inl ⟨by rfl, fun w hSw => by go_simp⟩) hw6 ?_
    try simp only [Act.put, List.setIfInBounds_toArray, List.set_cons_zero, List.set_cons_succ, List.getElem_toArray, List.getElem_cons_succ, List.getElem_cons_zero]
    refine wpAnyH_done (by kernel_rfl) ?_ _
    clear hw6 hb6 hs6 hrow6 hH HQ5 HIn
    have hP6 := H5.out.1.later HR6.out.2
    have c2 := hP6.cells.2.2.1
    have c3 := hP6.cells.2.2.2.1
    have cf := hP6.free 3
    have hP7 := hP6.set3 (.slice ka (keptL d σ.L).length kc)
    have d2 := hP7.cells.2.2.1
    have df := hP7.free 2
    have hP8 := hP7.set2 (σ.ex + (sumP σ.L - sumP (keptL d σ.L)))
    have hwx : IntKind.i64.wrap (σ.ex + (sumP σ.L - sumP (keptL d σ.L))) = σ.ex + (sumP σ.L - sumP (keptL d σ.L)) := wrap_id _ (by omega) (by omega)
    have HEnd : Hid (PgF B rb mb w ((w6.setCell ⟨rb, 3, none⟩ (.slice ka (keptL d σ.L).length kc)).setCell ⟨rb, 2, none⟩ (.int .i64 (σ.ex + (sumP σ.L - sumP (keptL d σ.L))))) ∧ PgM B rb mb n nm { σ with day := d, ex := σ.ex + (sumP σ.L - sumP (keptL d σ.L)), L := keptL d σ.L } ((w6.setCell ⟨rb, 3, none⟩ (.slice ka (keptL d σ.L).length kc)).setCell ⟨rb, 2, none⟩ (.int .i64 (σ.ex + (sumP σ.L - sumP (keptL d σ.L)))))) := by
      have hfr : Fr (fun q => q = rb) w ((w6.setCell ⟨rb, 3, none⟩ (.slice ka (keptL d σ.L).length kc)).setCell ⟨rb, 2, none⟩ (.int .i64 (σ.ex + (sumP σ.L - sumP (keptL d σ.L))))) := ((H5.out.2.2.1.trans (Fr.of HR6.out.2)).set (b := rb) rfl _ _).set (b := rb) rfl _ _
      refine ⟨hfr.mono (fun q hq => .inl hq), _, fv, hP8, row_base (row_of HR6.out.1 (fun q hq => ?_)) (by have := H5.out.2.2.2.2; omega), HG.out.2.2.1.block (hfr.block mb HG.out.2.2.1.lt (rb_ne HG.out.1 HG.out.2.2.1)), HG.out.2.2.2.of (fun c K v hK b q hq hne => ?_)⟩
      · have hq1 := row_lt HR6.out.1 q hq
        have hq2 : q ≠ rb := by have := H5.out.2.2.2.2; omega
        exact (Below.heap_setCell _ _ _ _ hq2).trans (Below.heap_setCell _ _ _ _ hq2)
      · have hn := tk_ne HG.out.1 HG.out.2.2.1 b hq
        refine ⟨hfr.block q hn.2.2 hn.1, fun e => ?_⟩
        have := row_lt HR6.out.1 q e
        have := H5.out.2.2.2.2
        omega
    clear hP6 hP7 hP8 H5 HR6 HG
    go_wp2
    go_ret
    rw [HSd2.out]
    exact ⟨rfl, HEnd.out.1, n, by omega, HEnd.out.2⟩
  · rw [decide_eq_false hd]
    refine wpAnyH_take (i := 5) (v := .bool true) rfl (by kernel_rfl) (by kernel_rfl) (by kernel_rfl) (fun _ _ _ h => h) (Or.inl ⟨by rfl, fun w hSw => by go_simp⟩) hw4 ?_
    try simp only [Act.put, List.setIfInBounds_toArray, List.set_cons_zero, List.set_cons_succ, List.getElem_toArray, List.getElem_cons_succ, List.getElem_cons_zero]
    refine wpAnyH_done (by kernel_rfl) ?_ _
    have HSd2 : Hid (stDay d σ = (5, σ)) := by show _ = _; rw [HSd.out, if_pos hd]
    have HEn : Hid (Below w.heap.size w w4) := (HQ.out _ hw4).2.2
    clear hw4 hb4 hw3 hb3 hH HSd HQ
    go_wp2
    go_ret
    rw [HSd2.out]
    exact ⟨rfl, PgF.of HEn.out, n, by omega, HM0.out.later HEn.out⟩
end Go.Proofs.Ytodncihjenlnjaa
