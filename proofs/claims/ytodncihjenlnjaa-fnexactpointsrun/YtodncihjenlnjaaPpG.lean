/-
  The account as mathematics, act by act; how memory holds it; spend whole.
-/
import Derived.Test.YtodncihjenlnjaaPpF
namespace Go.Proofs.Ytodncihjenlnjaa
open Go.ChangeShapes Go.WideShapes Go.ChangeAt Go.RowKit Go.Deep
set_option linter.unusedVariables false

/-- An account: its day, what is spent, what is expired, its lots, what each act took and can still come back. -/
structure PSt where
  day : Int
  sp : Int
  ex : Int
  L : List RLo
  T : Int → Option (List RLo)
def stEarn (nu un : Int) (σ : PSt) : Int × PSt :=
  if ¬ (1 ≤ nu ∧ nu ≤ 1000000) ∨ ¬ (σ.day ≤ un ∧ un ≤ 100000) then (5, σ) else if σ.L.length = 100 then (14, σ) else (0, { σ with L := σ.L ++ [⟨nu, un⟩] })
def stSpend (m nm : Int) (σ : PSt) : Int × PSt :=
  if m < 1 then (5, σ) else if sumP σ.L < m then (19, σ) else (0, { σ with sp := σ.sp + m, L := spL m σ.L, T := fun c => if c = nm then some (spO m σ.L) else σ.T c })
def stDay (d : Int) (σ : PSt) : Int × PSt :=
  if ¬ (σ.day ≤ d ∧ d ≤ 100000) then (5, σ) else (0, { σ with day := d, ex := σ.ex + (sumP σ.L - sumP (keptL d σ.L)), L := keptL d σ.L })
def stBack (j : Int) (σ : PSt) : Int × PSt :=
  match σ.T j with
  | none => (8, σ)
  | some K => if 100 < σ.L.length + (keptL σ.day K).length then (14, σ) else (0, { σ with sp := σ.sp - sumP K, ex := σ.ex + (sumP K - sumP (keptL σ.day K)), L := σ.L ++ keptL σ.day K, T := fun c => if c = j then none else σ.T c })
/-- What the numbers keep to behind j acts. -/
structure PsOk (j : Nat) (σ : PSt) : Prop where
  len : σ.L.length ≤ 100
  lot : ∀ r ∈ σ.L, LoN r
  sp1 : -(100000000 * (j : Int)) ≤ σ.sp
  sp2 : σ.sp ≤ 100000000 * (j : Int)
  ex1 : 0 ≤ σ.ex
  ex2 : σ.ex ≤ 100000000 * (j : Int)
  day1 : 0 ≤ σ.day
  day2 : σ.day ≤ 100000
  tk : ∀ c K, σ.T c = some K → (∀ r ∈ K, LoN r) ∧ sumP K ≤ 100000000
theorem PsOk.sum {j : Nat} {σ : PSt} (h : PsOk j σ) : 0 ≤ sumP σ.L ∧ sumP σ.L ≤ 100000000 := by
  have := sumP_bound h.lot
  have := h.len
  omega
theorem PsOk.up {j : Nat} {σ : PSt} (h : PsOk j σ) : PsOk (j + 1) σ := by
  obtain ⟨h1, h2, h3, h4, h5, h6, h7, h8, h9⟩ := h
  exact ⟨h1, h2, by push_cast; omega, by push_cast; omega, h5, by push_cast; omega, h7, h8, h9⟩
theorem sumP_kept (d : Int) {K : List RLo} (h : ∀ r ∈ K, LoN r) : 0 ≤ sumP (keptL d K) ∧ sumP (keptL d K) ≤ sumP K := by
  have h0 := sumP_bound (keptL_N (d := d) h)
  refine ⟨by omega, ?_⟩
  clear h0
  induction K with
  | nil => exact Int.le_refl _
  | cons r K ih =>
    have ih := ih (fun x hx => h x (List.mem_cons_of_mem _ hx))
    have hr := h r List.mem_cons_self
    unfold LoN at hr
    have e : ∀ (x : RLo) (M : List RLo), sumP (x :: M) = x.nu + sumP M := fun x M => by simp [sumP]
    unfold keptL at *
    rw [List.filter_cons]
    split
    · rw [e, e]; omega
    · rw [e]; omega
theorem stEarn_ok {nu un : Int} {j : Nat} {σ : PSt} (h : PsOk j σ) : PsOk (j + 1) (stEarn nu un σ).2 := by
  unfold stEarn
  split
  · exact h.up
  · rename_i h0
    split
    · exact h.up
    · rename_i h1
      have hu := h.up
      have := h.len
      exact ⟨by simp; omega, fun r hr => by
        rcases List.mem_append.1 hr with q | q
        · exact h.lot r q
        · rw [List.mem_singleton.1 q]; exact ⟨by dsimp only; omega, by dsimp only; omega⟩, hu.sp1, hu.sp2, hu.ex1, hu.ex2, hu.day1, hu.day2, hu.tk⟩
theorem stSpend_ok {m nm : Int} {j : Nat} {σ : PSt} (h : PsOk j σ) : PsOk (j + 1) (stSpend m nm σ).2 := by
  unfold stSpend
  split
  · exact h.up
  · split
    · exact h.up
    · rename_i h0 h1
      have hu := h.up
      have hs := h.sum
      obtain ⟨f1, f2, f3, f4, f5⟩ := sp_facts (m := m) h.lot (by omega) (by omega)
      have := h.len
      have := h.sp1
      have := h.sp2
      refine ⟨Nat.le_trans f5 h.len, f1, by dsimp only; push_cast; omega, by dsimp only; push_cast; omega, hu.ex1, hu.ex2, hu.day1, hu.day2, fun c K hK => ?_⟩
      dsimp only at hK
      split at hK
      · injection hK with hK
        rw [← hK]
        exact ⟨f2, by rw [f3]; omega⟩
      · exact h.tk c K hK
theorem stDay_ok {d : Int} {j : Nat} {σ : PSt} (h : PsOk j σ) : PsOk (j + 1) (stDay d σ).2 := by
  unfold stDay
  split
  · exact h.up
  · rename_i h0
    have hu := h.up
    have hs := h.sum
    have hk := sumP_kept d h.lot
    have h5 := h.ex1
    have h6 := h.ex2
    have h7 := h.day1
    exact ⟨Nat.le_trans (keptL_len _ _) h.len, keptL_N h.lot, hu.sp1, hu.sp2, by dsimp only; omega, by dsimp only; push_cast; omega, by dsimp only; omega, by dsimp only; omega, h.tk⟩
theorem stBack_ok {i : Int} {j : Nat} {σ : PSt} (h : PsOk j σ) : PsOk (j + 1) (stBack i σ).2 := by
  unfold stBack
  split
  · exact h.up
  · rename_i K hK
    split
    · exact h.up
    · rename_i h0
      have hu := h.up
      obtain ⟨t1, t2⟩ := h.tk i K hK
      have hk := sumP_kept σ.day t1
      have h3 := h.sp1
      have h4 := h.sp2
      have h5 := h.ex1
      have h6 := h.ex2
      refine ⟨by rw [List.length_append]; omega, fun r hr => ?_, by dsimp only; push_cast; omega, by dsimp only; push_cast; omega, by dsimp only; omega, by dsimp only; push_cast; omega, h.day1, h.day2, fun c M hM => ?_⟩
      · rcases List.mem_append.1 hr with q | q
        · exact h.lot r q
        · exact keptL_N t1 r q
      · dsimp only at hM
        split at hM
        · cases hM
        · exact h.tk c M hM
/-- What is taken, in memory: rows of their own, apart from the lots. -/
def TkOk (B : Nat) (W : World) (lv : Value) (T : Int → Option (List RLo)) (fv : Int → Option Value) : Prop :=
  ∀ c, (T c = none → fv c = none) ∧ ∀ K, T c = some K → ∃ v, fv c = some v ∧ W.ownsRow B 67 2 v K.length (loCells K) ∧ ∀ q, v.ownBlock = some q → lv.ownBlock ≠ some q
/-- Memory holds an account. -/
def PgM (B rb mb n : Nat) (nm : Int) (σ : PSt) (W : World) : Prop :=
  ∃ lv fv, PgIs W rb σ.day σ.sp σ.ex lv nm (.map (some mb)) ∧ W.ownsRow B 67 2 lv σ.L.length (loCells σ.L) ∧ MapV zSl W mb n fv ∧ TkOk B W lv σ.T fv
/-- What an act may touch. -/
def PgF (B rb mb : Nat) (w w' : World) : Prop := Fr (fun k => k = rb ∨ k = mb ∨ (B ≤ k ∧ ∃ cur, w.heap[k]? = some (.cells cur 67 (0, 0)))) w w'
theorem PgM.later {B rb mb n : Nat} {nm : Int} {σ : PSt} {W W' : World} (h : PgM B rb mb n nm σ W) (hb : Below W.heap.size W W') : PgM B rb mb n nm σ W' := by
  obtain ⟨lv, fv, h1, h2, h3, h4⟩ := h
  refine ⟨lv, fv, h1.later hb, row_of h2 (fun q hq => hb.block q (row_lt h2 q hq).2), h3.block (hb.block mb h3.lt), fun c => ⟨(h4 c).1, fun K hK => ?_⟩⟩
  obtain ⟨v, a, b, d⟩ := (h4 c).2 K hK
  exact ⟨v, a, row_of b (fun q hq => hb.block q (row_lt b q hq).2), d⟩
theorem PgF.of {B rb mb : Nat} {w w' : World} (h : Below w.heap.size w w') : PgF B rb mb w w' := Fr.of h
set_option maxHeartbeats 4000000 in
theorem spend_no (B rb mb n : Nat) (nm : Int) (σ : PSt) (hok : σ.L.length ≤ 100) (hN : ∀ r ∈ σ.L, LoN r) (kd m un : Int) (w : World) (hM : PgM B rb mb n nm σ w) (hb : m < 1 ∨ sumP σ.L < m) :
    Calls Try.prog 31 #[.pointer (some ⟨rb, 0, none⟩), .agg #[.int .i64 kd, .int .i64 m, .int .i64 un]] w fun e w' => e = .returned (.int .i64 (if m < 1 then 5 else 19)) ∧ Below w.heap.size w w' := by
  obtain ⟨lv, fv, hg, hr, -, -⟩ := hM
  generalize σ.L = L at *
  obtain ⟨la, lc, rfl⟩ := row_slice hr
  have hPt : ∀ W : World, Below w.heap.size w W → Calls Try.prog 20 #[.slice la L.length lc] W fun e w' => e = .returned (.int .i64 (sumP L)) ∧ Below W.heap.size W w' := fun W hW => pointsIn_any _ lc L (by omega) hN W (lo_reads (row_of hr (fun q hq => hW.block q (row_lt hr q hq).2)))
  have HPt : Hid (∀ W : World, Below w.heap.size w W → Calls Try.prog 20 #[.slice la L.length lc] W fun e w' => e = .returned (.int .i64 (sumP L)) ∧ Below W.heap.size W w') := hPt
  have HG : Hid (PgIs w rb σ.day σ.sp σ.ex (.slice la L.length lc) nm (.map (some mb))) := hg
  obtain ⟨W2, hW2⟩ : ∃ W2, W2 = (w.alloc (Obj.cells #[.pointer (some ⟨rb, 0, none⟩)] 59)).alloc (Obj.cells #[.int .i64 kd, .int .i64 m, .int .i64 un] 46) := ⟨_, rfl⟩
  have hz2 : W2.heap.size = w.heap.size + 2 := by rw [hW2]; simp
  have HW2 : Hid (Below w.heap.size w W2 ∧ W2.heap[w.heap.size]? = some (.cells #[.pointer (some ⟨rb, 0, none⟩)] 59 (0, 0)) ∧ W2.heap[w.heap.size + 1]? = some (.cells #[.int .i64 kd, .int .i64 m, .int .i64 un] 46 (0, 0))) := by
    subst hW2
    refine ⟨chain (below_alloc _ _) (below_alloc _ _), ((below_alloc _ _).block _ (by simp)).trans (heapNew _ _), ?_⟩
    have := heapNew (w.alloc (Obj.cells #[.pointer (some ⟨rb, 0, none⟩)] 59)) (Obj.cells #[.int .i64 kd, .int .i64 m, .int .i64 un] 46)
    simpa using this
  have a1 : W2.cell? ⟨w.heap.size + 1, 1, none⟩ = some (.int .i64 m) := blkCell HW2.out.2.2 1 _ rfl
  clear hg hr hPt
  by_cases hm0 : m < 1
  · go_enter_defers Try.func31, Try.ntmps31
    go_wp2_with fail
    rw [← hW2]
    clear hW2
    go_wp2_with fail
    exact ⟨_, results_tmp rfl _ _ _, by first | rfl | (rw [if_pos hm0]; rfl), HW2.out.1⟩
  have hms : sumP L < m := by rcases hb with h | h; exact absurd h hm0; exact h
  go_enter_defers Try.func31, Try.ntmps31
  go_wp2_with fail
  rw [← hW2]
  clear hW2
  go_wp2_with fail
  -- are there enough
  have HQ : Hid (∀ W : World, Below W2.heap.size W2 W → W.cell? ⟨w.heap.size + 1, 1, none⟩ = some (.int .i64 m) ∧ W.cell? ⟨w.heap.size, 0, none⟩ = some (.pointer (some ⟨rb, 0, none⟩)) ∧ W.cell? ⟨rb, 3, none⟩ = some (.slice la L.length lc) ∧ Below w.heap.size w W) := fun W hW => by
    have h0 := chain HW2.out.1 hW
    exact ⟨blkCell ((hW.block _ (by omega)).trans HW2.out.2.2) 1 _ rfl, blkCell ((hW.block _ (by omega)).trans HW2.out.2.1) 0 _ rfl, (HG.out.later h0).cells.2.2.2.1, h0⟩
  refine wp_calm ?_
  refine wp_region_held_drew (S := fun W => Below W2.heap.size W2 W) (by kernel_rfl) (below_drew _) (fun hH => ?_)
  refine wpAnyH_take (i := 0) (v := .pointer (some ⟨w.heap.size + 1, 1, none⟩)) rfl (by kernel_rfl) (by kernel_rfl) (by kernel_rfl) (fun _ _ _ h => h) (Or.inl ⟨by rfl, fun w hSw => by go_simp⟩) hH ?_
  refine wpAnyH_take (i := 1) (v := .int .i64 m) rfl (by kernel_rfl) (by kernel_rfl) (by kernel_rfl) (fun _ _ _ h => h) (Or.inl ⟨by rfl, fun w hSw => by have f0 := (HQ.out w hSw).1; go_simp⟩) hH ?_
  try simp only [Act.put, List.setIfInBounds_toArray, List.set_cons_zero, List.set_cons_succ, List.getElem_toArray, List.getElem_cons_succ, List.getElem_cons_zero]
  refine wpAnyH_take (i := 2) (v := .pointer (some ⟨rb, 0, none⟩)) rfl (by kernel_rfl) (by kernel_rfl) (by kernel_rfl) (fun _ _ _ h => h) (Or.inl ⟨by rfl, fun w hSw => by have f0 := (HQ.out w hSw).2.1; go_simp⟩) hH ?_
  try simp only [Act.put, List.setIfInBounds_toArray, List.set_cons_zero, List.set_cons_succ, List.getElem_toArray, List.getElem_cons_succ, List.getElem_cons_zero]
  refine wpAnyH_take (i := 3) (v := .pointer (some ⟨rb, 0, none⟩)) rfl (by kernel_rfl) (by kernel_rfl) (by kernel_rfl) (fun _ _ _ h => h) (Or.inl ⟨by rfl, fun w hSw => by go_simp⟩) hH ?_
  try simp only [Act.put, List.setIfInBounds_toArray, List.set_cons_zero, List.set_cons_succ, List.getElem_toArray, List.getElem_cons_succ, List.getElem_cons_zero]
  refine wpAnyH_take (i := 4) (v := .pointer (some ⟨rb, 0, none⟩)) rfl (by kernel_rfl) (by kernel_rfl) (by kernel_rfl) (fun _ _ _ h => h) (Or.inl ⟨by rfl, fun w hSw => by go_simp⟩) hH ?_
  try simp only [Act.put, List.setIfInBounds_toArray, List.set_cons_zero, List.set_cons_succ, List.getElem_toArray, List.getElem_cons_succ, List.getElem_cons_zero]
  refine wpAnyH_take (i := 5) (v := .pointer (some ⟨rb, 3, none⟩)) rfl (by kernel_rfl) (by kernel_rfl) (by kernel_rfl) (fun _ _ _ h => h) (Or.inl ⟨by rfl, fun w hSw => by go_simp⟩) hH ?_
  try simp only [Act.put, List.setIfInBounds_toArray, List.set_cons_zero, List.set_cons_succ, List.getElem_toArray, List.getElem_cons_succ, List.getElem_cons_zero]
  refine wpAnyH_take (i := 6) (v := .slice la L.length lc) rfl (by kernel_rfl) (by kernel_rfl) (by kernel_rfl) (fun _ _ _ h => h) (Or.inl ⟨by rfl, fun w hSw => by have f0 := (HQ.out w hSw).2.2.1; go_simp⟩) hH ?_
  try simp only [Act.put, List.setIfInBounds_toArray, List.set_cons_zero, List.set_cons_succ, List.getElem_toArray, List.getElem_cons_succ, List.getElem_cons_zero]
  refine wpAnyH_ready (rs := [7]) (by kernel_rfl) (by simp) ?_
  refine AllReadyH.cons rfl (fun K hK => ?_) AllReadyH.nil
  go_simp
  go_at_call 20
  refine (HPt.out _ (HQ.out _ hH).2.2.2).mono ?_
  rintro e w3 ⟨rfl, hb3⟩
  have hw3 := chain hH hb3
  refine hK.out _ _ hw3 (fun _ => ?_)
  clear hK K
  try simp only [Act.put, List.setIfInBounds_toArray, List.set_cons_zero, List.set_cons_succ, List.getElem_toArray, List.getElem_cons_succ, List.getElem_cons_zero]
  refine wpAnyH_take (i := 8) (v := .bool true) rfl (by kernel_rfl) (by kernel_rfl) (by kernel_rfl) (fun _ _ _ h => h) (Or.inl ⟨by rfl, fun w hSw => by go_simp⟩) hw3 ?_
  try simp only [Act.put, List.setIfInBounds_toArray, List.set_cons_zero, List.set_cons_succ, List.getElem_toArray, List.getElem_cons_succ, List.getElem_cons_zero]
  refine wpAnyH_done (by kernel_rfl) ?_ _
  simp only [calm]
  have HW3 : Hid (Below w.heap.size w w3) := chain HW2.out.1 hw3
  clear hw3 hb3 hH HPt a1
  go_wp2_with fail
  exact ⟨_, results_tmp rfl _ _ _, by first | rfl | (rw [if_neg (by omega)]; rfl), HW3.out⟩
theorem spend_any (B rb mb n : Nat) (nm : Int) (σ : PSt) (j : Nat) (hj : j ≤ 1000) (hok : PsOk j σ) (hn : n < maxLen) (hwf : WfI nm) (kd m un : Int) (w : World) (hBw : B ≤ w.heap.size) (hM : PgM B rb mb n nm σ w) :
    Calls Try.prog 31 #[.pointer (some ⟨rb, 0, none⟩), .agg #[.int .i64 kd, .int .i64 m, .int .i64 un]] w fun e w' => e = .returned (.int .i64 (stSpend m nm σ).1) ∧ PgF B rb mb w w' ∧ ∃ n', n' ≤ n + 1 ∧ PgM B rb mb n' nm (stSpend m nm σ).2 w' := by
  have hsb := sumP_bound hok.lot
  have hl := hok.len
  by_cases h : m < 1 ∨ sumP σ.L < m
  · refine (spend_no B rb mb n nm σ hl hok.lot kd m un w hM h).mono ?_
    rintro e w' ⟨rfl, hb⟩
    refine ⟨?_, PgF.of hb, n, by omega, ?_⟩
    · unfold stSpend
      split
      · rfl
      · rw [if_pos (by omega)]
    · have e : (stSpend m nm σ).2 = σ := by
        unfold stSpend
        split
        · rfl
        · rw [if_pos (by omega)]
      rw [e]
      exact hM.later hb
  · have e : stSpend m nm σ = (0, { σ with sp := σ.sp + m, L := spL m σ.L, T := fun c => if c = nm then some (spO m σ.L) else σ.T c }) := by
      unfold stSpend
      rw [if_neg (by omega), if_neg (by omega)]
    rw [e]
    obtain ⟨lv, fv, h1, h2, h3, h4⟩ := hM
    have hl0 : 0 < σ.L.length := by omega
    obtain ⟨g, c, rfl⟩ := row_some h2 hl0
    have hp := hok.sp1
    have hp2 := hok.sp2
    have hgl := (row_lt h2 g rfl)
    refine (spend_ok B rb mb n g c σ.day σ.sp σ.ex nm fv kd m un σ.L (by omega) hok.lot (by omega) (by omega) (by omega) (by omega) hn hwf w h1 h2 h3).mono ?_
    rintro e w' ⟨rfl, hf, hp', hr', tv, hm', ht'⟩
    obtain ⟨cur, hcur⟩ := row_type h2 (q := g) rfl
    refine ⟨rfl, hf.mono (fun q hq => ?_), n + 1, Nat.le_refl _, _, _, hp', hr', hm', fun x => ⟨fun hx => ?_, fun K hK => ?_⟩⟩
    · rcases hq with q | q | q
      · exact .inl q
      · exact .inr (.inr ⟨by rw [q]; exact hgl.1, cur, by rw [q]; exact hcur⟩)
      · exact .inr (.inl q)
    · dsimp only at hx ⊢
      split at hx
      · cases hx
      · rename_i hx2
        rw [if_neg hx2]; exact (h4 x).1 hx
    · dsimp only at hK ⊢
      split at hK
      · rename_i hx2
        injection hK with hK
        subst hK
        refine ⟨tv, by rw [if_pos hx2], row_base ht' hBw, fun q hq e => ?_⟩
        have := row_lt ht' q hq
        simp [Value.ownBlock] at e
        omega
      · rename_i hx2
        obtain ⟨v, a, b, d⟩ := (h4 x).2 K hK
        refine ⟨v, by rw [if_neg hx2]; exact a, row_of b (fun q hq => hf.block q (row_lt b q hq).2 ?_), fun q hq e => d q hq e⟩
        obtain ⟨cur2, hcur2⟩ := row_type b hq
        rintro (y | y | y)
        · have hh : w.heap[rb]? = _ := h1
          rw [← y, hcur2] at hh
          simp at hh
        · exact d q hq (by rw [y]; rfl)
        · obtain ⟨es, ck, hme⟩ := h3.is
          rw [← y, hcur2] at hme
          simp at hme
end Go.Proofs.Ytodncihjenlnjaa
