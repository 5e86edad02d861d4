/-
  The specification's act where a spend comes back.
-/
import Derived.Test.YtodncihjenlnjaaSqG
namespace Go.Proofs.Ytodncihjenlnjaa
open Go.ChangeShapes Go.WideShapes Go.ChangeAt Go.RowKit Go.Deep
set_option linter.unusedVariables false

theorem list_put {W : World} {B g c k : Nat} {vs : List Value} (h : W.ownsRow B 25 1 (.slice (some ⟨g, 0, none⟩) k c) k vs) (i : Nat) (x : Value) : (W.setCell ⟨g, i, none⟩ x).ownsRow B 25 1 (.slice (some ⟨g, 0, none⟩) k c) k (vs.set i x) := by
  obtain ⟨h1, h2⟩ := h
  refine ⟨by rw [List.length_set]; exact h1, ?_⟩
  rcases h2 with ⟨q, _⟩ | ⟨g', cap, cur, q, hB, hg, hc, hm, hs, ht⟩
  · simp at q
  · simp at q
    obtain ⟨rfl, rfl⟩ := q
    refine .inr ⟨g, c, cur.setIfInBounds i x, rfl, hB, heap_setCell_same _ _ _ _ _ _ hg, hc, hm, by simpa using hs, ?_⟩
    rw [Array.toList_setIfInBounds, List.take_set, ht]
theorem ansA_back {B rb k n : Nat} {w W w' : World} {σ : PSt} {lv v : Value} {tb tc : Nat} {vs : List Value} {K : List RLo} {b : Nat} (hM : SqM B rb k σ lv (.slice (some ⟨tb, 0, none⟩) k tc) vs w) (hT : TI k σ) (hn : n < k) (hB : B ≤ w.heap.size) (hb : Below w.heap.size w W)
    (hd : SdS W rb σ.day (σ.sp - sumP K) (σ.ex + (sumP K - sumP (keptL σ.day K))) v (.slice (some ⟨tb, 0, none⟩) k tc) v (σ.L ++ keptL σ.day K) w') (hw : w.heap.size ≤ b) (hb1 : b < W.heap.size) (hnb : W.heap[b]? = some (.cells #[] 67 (0, 0))) :
    w'.cell? ⟨rb, 4, none⟩ = some (.slice (some ⟨tb, 0, none⟩) k tc) ∧ w'.frozen? ⟨tb, n, none⟩ = false ∧ (∀ u, vs[n]? = some u → w'.cell? ⟨tb, n, none⟩ = some u) ∧
    AnsA B rb k w (0, { σ with sp := σ.sp - sumP K, ex := σ.ex + (sumP K - sumP (keptL σ.day K)), L := σ.L ++ keptL σ.day K, T := fun c => if c = (n : Int) then none else σ.T c }) (.returned (.tuple #[.int .i64 0, .slice (some ⟨b, 0, none⟩) 0 0])) (w'.setCell ⟨tb, n, none⟩ (.slice (some ⟨b, 0, none⟩) 0 0)) := by
  have hM1 := hM.later hb
  have hsz := hb.size
  have hrl := hM.run.lt
  have htl := (row_lt hM.list tb rfl)
  have htr : tb ≠ rb := sg_list hM.run hM.list rfl
  have hlen : vs.length = k := by have := hM.list.1; omega
  have hkeep : ∀ q, q < W.heap.size → q ≠ rb → w'.heap[q]? = W.heap[q]? := fun q h1 h2 => hd.fr.block q h1 h2
  have hput : ∀ q, q ≠ tb → (w'.setCell ⟨tb, n, none⟩ (.slice (some ⟨b, 0, none⟩) 0 0)).heap[q]? = w'.heap[q]? := fun q hq => Below.heap_setCell _ _ _ _ hq
  have hlist : w'.ownsRow B 25 1 (.slice (some ⟨tb, 0, none⟩) k tc) k vs := row_of hM1.list (fun q hq => hkeep q (row_lt hM1.list q hq).2 (sg_list hM1.run hM1.list hq))
  have hk : tq (fun c => if c = (n : Int) then none else σ.T c) k = [] := by
    unfold tq; dsimp only; rw [if_neg (by omega)]; exact hT.last
  obtain ⟨tcur, htc⟩ := row_type hlist (q := tb) rfl
  refine ⟨hd.run.cells.2.2.2.2, blkFree htc n, fun u hu => ?_, v, _, vs.set n (.slice (some ⟨b, 0, none⟩) 0 0), some ⟨b, 0, none⟩, 0, by dsimp only; rw [hk]; rfl, ?_, ⟨hd.run.of (hput rb (Ne.symm htr)), row_base (row_of hd.row (fun q hq => hput q (fun e => ?_))) (by omega), list_put hlist n _, fun j u hu => ?_⟩, ?_, fun q hq => ?_⟩
  · rw [hlist.cellAt n (by omega)]; exact hu
  · refine Fr.mono (X := fun q => q = rb ∨ q = tb) ((((Fr.of hb).trans (hd.fr.mono (fun q hq => .inl hq)))).set (b := tb) (.inr rfl) _ _) (fun q hq => ?_)
    rcases hq with r | r
    · exact .inl r
    · exact .inr (.inr ⟨by omega, by rw [r]; exact row_type hM.list rfl⟩)
  · have := (row_lt hd.row q hq).1; omega
  · dsimp only
    rw [List.getElem?_set] at hu
    by_cases hj : n = j
    · rw [if_pos hj, if_pos (by omega)] at hu
      injection hu with hu
      have hq2 : tq (fun c => if c = (n : Int) then none else σ.T c) j = [] := by unfold tq; dsimp only; rw [if_pos (by omega)]; rfl
      rw [hq2, ← hu]
      refine ⟨noneRow B _ b (by omega) ((hput b (by omega)).trans ((hkeep b hb1 (by omega)).trans hnb)), fun q hq e => ?_⟩
      have e2 : b = q := by simpa [Value.ownBlock] using hq
      have := (row_lt hd.row q e).1
      omega
    · rw [if_neg hj] at hu
      have hq2 : tq (fun c => if c = (n : Int) then none else σ.T c) j = tq σ.T j := by unfold tq; dsimp only; rw [if_neg (by omega)]
      rw [hq2]
      have hu1 := hM1.rows j u hu
      refine ⟨row_of hu1.1 (fun q hq => (hput q (fun e => ?_)).trans (hkeep q (row_lt hu1.1 q hq).2 (sg_ne hM1.run hu1.1 hq))), fun q hq e => ?_⟩
      · obtain ⟨c1, g1⟩ := row_type hu1.1 hq
        obtain ⟨c2, g2⟩ := row_type hM1.list (q := tb) rfl
        rw [e, g2] at g1
        simp at g1
      · have := (row_lt hu1.1 q hq).2
        have := (row_lt hd.row q e).1
        omega
  · dsimp only; rw [hk]; exact noneRow B _ b (by omega) ((hput b (by omega)).trans ((hkeep b hb1 (by omega)).trans hnb))
  · dsimp only at hq
    have e2 : b = q := by simpa [Value.ownBlock] using hq
    intro e
    have := (row_lt hd.row q e).1
    omega
theorem stBack_none {j : Int} {σ : PSt} (h : σ.T j = none) : stBack j σ = (8, σ) := by unfold stBack; rw [h]
theorem stBack_some {j : Int} {σ : PSt} {K : List RLo} (h : σ.T j = some K) : stBack j σ = if 100 < σ.L.length + (keptL σ.day K).length then (14, σ) else (0, { σ with sp := σ.sp - sumP K, ex := σ.ex + (sumP K - sumP (keptL σ.day K)), L := σ.L ++ keptL σ.day K, T := fun c => if c = j then none else σ.T c }) := by unfold stBack; rw [h]
set_option maxHeartbeats 8000000 in
set_option maxRecDepth 8000 in
theorem actS_back (B rb k : Nat) (σ : PSt) (hok : PsOk k σ) (hk : k ≤ 200) (hT : TI k σ) (lv tv : Value) (vs : List Value) (nu un : Int) (w : World) (hB : B ≤ w.heap.size) (hM : SqM B rb k σ lv tv vs w) :
    Calls Try.prog 16 #[.pointer (some ⟨rb, 0, none⟩), .agg #[.int .i64 4, .int .i64 nu, .int .i64 un]] w (AnsA B rb k w (stBack nu σ)) := by
  obtain ⟨Q, hQ⟩ : ∃ Q, Q = AnsA B rb k w (stBack nu σ) := ⟨_, rfl⟩
  obtain ⟨W2, hW2⟩ : ∃ W2, W2 = (w.alloc (Obj.cells #[.int .i64 4, .int .i64 nu, .int .i64 un] 46)).alloc (Obj.cells #[] 67) := ⟨_, rfl⟩
  obtain ⟨hz2, hb2, hc2⟩ := actBox w 4 nu un W2 hW2
  obtain ⟨la, lc, rfl⟩ := row_slice hM.lots
  obtain ⟨ta, tc, rfl⟩ := row_slice hM.list
  have hrl := hM.run.lt
  have hs1 := hok.sp1
  have hs2 := hok.sp2
  have hx1 := hok.ex1
  have hx2 := hok.ex2
  have HC : Hid (∀ W, Below W2.heap.size W2 W → (W.cell? ⟨w.heap.size, 0, none⟩ = some (.int .i64 4) ∧ W.cell? ⟨w.heap.size, 1, none⟩ = some (.int .i64 nu) ∧ W.cell? ⟨w.heap.size, 2, none⟩ = some (.int .i64 un) ∧ W.heap[w.heap.size + 1]? = some (.cells #[] 67 (0, 0)) ∧ Below w.heap.size w W) ∧ SqM B rb k σ (.slice la σ.L.length lc) (.slice ta k tc) vs W) := fun W hW => ⟨hc2 W hW, hM.later (hc2 W hW).2.2.2.2⟩
  have HQ8 : Hid (σ.T nu = none → ∀ W, Below W2.heap.size W2 W → Q (.returned (.tuple #[.int .i64 8, .slice (some ⟨w.heap.size + 1, 0, none⟩) 0 0])) W) := fun h W hW => by
    rw [hQ, stBack_none h]
    exact ansA_same hM hT hB (hc2 W hW).2.2.2.2 (by omega) (hc2 W hW).2.2.2.1
  have HQ14 : Hid (∀ Ks, σ.T nu = some Ks → 100 < σ.L.length + (keptL σ.day Ks).length → ∀ W, Below W2.heap.size W2 W → Q (.returned (.tuple #[.int .i64 14, .slice (some ⟨w.heap.size + 1, 0, none⟩) 0 0])) W) := fun Ks h h' W hW => by
    rw [hQ, stBack_some h, if_pos h']
    exact ansA_same hM hT hB (hc2 W hW).2.2.2.2 (by omega) (hc2 W hW).2.2.2.1
  have HQ0 : Hid (∀ Ks, σ.T nu = some Ks → ¬ 100 < σ.L.length + (keptL σ.day Ks).length → ∀ (tb n : Nat), nu = (n : Int) → n < k → ta = some ⟨tb, 0, none⟩ → ∀ W, Below W2.heap.size W2 W → ∀ w' v, SdS W rb σ.day (σ.sp - sumP Ks) (σ.ex + (sumP Ks - sumP (keptL σ.day Ks))) v (.slice ta k tc) v (σ.L ++ keptL σ.day Ks) w' → w'.cell? ⟨rb, 4, none⟩ = some (.slice ta k tc) ∧ w'.frozen? ⟨tb, n, none⟩ = false ∧ (∀ u, vs[n]? = some u → w'.cell? ⟨tb, n, none⟩ = some u) ∧ w'.cell? ⟨w.heap.size, 1, none⟩ = some (.int .i64 nu) ∧ Q (.returned (.tuple #[.int .i64 0, .slice (some ⟨w.heap.size + 1, 0, none⟩) 0 0])) (w'.setCell ⟨tb, n, none⟩ (.slice (some ⟨w.heap.size + 1, 0, none⟩) 0 0))) := fun Ks h h' tb n hnn hnk hta W hW w' v hd => by
    subst hta
    have hsz := hW.size
    obtain ⟨r1, r2, r3, r4⟩ := ansA_back (n := n) (b := w.heap.size + 1) hM hT hnk hB (hc2 W hW).2.2.2.2 hd (by omega) (by omega) (hc2 W hW).2.2.2.1
    refine ⟨r1, r2, r3, (World.cell?_of_block (w := W) (a := ⟨w.heap.size, 1, none⟩) (hd.fr.block w.heap.size (by omega) (by omega))).trans (hc2 W hW).2.1, ?_⟩
    rw [hQ, stBack_some h, if_neg h', hnn]
    exact r4
  have HBk : Hid (∀ Ks, σ.T nu = some Ks → ∀ ka kc W, Below W2.heap.size W2 W → W.ownsRow B 67 2 (.slice ka Ks.length kc) Ks.length (loCells Ks) → Calls Try.prog 29 #[.pointer (some ⟨rb, 0, none⟩), .slice ka Ks.length kc] W fun e w' => if 100 < σ.L.length + (keptL σ.day Ks).length then e = .returned (.int .i64 14) ∧ Below W.heap.size W w' else e = .returned (.int .i64 0) ∧ ∃ v, SdS W rb σ.day (σ.sp - sumP Ks) (σ.ex + (sumP Ks - sumP (keptL σ.day Ks))) v (.slice ta k tc) v (σ.L ++ keptL σ.day Ks) w') := fun Ks hK ka kc W hW hr => by
    obtain ⟨t1, t2⟩ := hok.tk nu Ks hK
    have t3 := sumP_bound t1
    exact backS_any B rb σ.day σ.sp σ.ex la lc _ σ.L Ks hok.len (by omega) t1 (by omega) (by omega) hx1 (by omega) ka kc W (HC.out W hW).2.run (HC.out W hW).2.lots hr
  have HT : Hid (TI k σ) := hT
  rw [← hQ]
  have c0 := (hc2 W2 (Below.refl _ _)).1
  clear hM hT hQ hc2 hok
  go_enter Try.func16, Try.ntmps16
  rw [hW2] at c0
  go_wp2_with fail
  rw [← hW2] at c0 ⊢
  clear c0 hW2
  refine wp_region_held_drew (S := fun W => Below W2.heap.size W2 W) (by kernel_rfl) (below_drew _) (fun hH => ?_)
  refine wpAnyH_take (i := 0) (v := .pointer (some ⟨w.heap.size, 1, none⟩)) rfl (by kernel_rfl) (by kernel_rfl) (by kernel_rfl) (fun _ _ _ h => h) (Or.inl ⟨by rfl, fun w hSw => by go_simp⟩) hH ?_
  refine wpAnyH_take (i := 1) (v := .int .i64 nu) rfl (by kernel_rfl) (by kernel_rfl) (by kernel_rfl) (fun _ _ _ h => h) (Or.inl ⟨by rfl, fun w hSw => by have f0 := (HC.out w hSw).1.2.1; go_simp⟩) hH ?_
  try simp only [Act.put, List.setIfInBounds_toArray, List.set_cons_zero, List.set_cons_succ, List.getElem_toArray, List.getElem_cons_succ, List.getElem_cons_zero]
  by_cases hneg : nu < 0
  · skip
    refine wpAnyH_take (i := 2) (v := .bool true) rfl (by kernel_rfl) (by kernel_rfl) (by kernel_rfl) (fun _ _ _ h => h) (Or.inl ⟨by rfl, fun w hSw => by go_simp⟩) hH ?_
    try simp only [Act.put, List.setIfInBounds_toArray, List.set_cons_zero, List.set_cons_succ, List.getElem_toArray, List.getElem_cons_succ, List.getElem_cons_zero]
    refine wpAnyH_take (i := 3) (v := .bool true) rfl (by kernel_rfl) (by kernel_rfl) (by kernel_rfl) (fun _ _ _ h => h) (Or.inl ⟨by rfl, fun w hSw => by go_simp⟩) hH ?_
    try simp only [Act.put, List.setIfInBounds_toArray, List.set_cons_zero, List.set_cons_succ, List.getElem_toArray, List.getElem_cons_succ, List.getElem_cons_zero]
    refine wpAnyH_take (i := 4) (v := undef) rfl (by kernel_rfl) (by kernel_rfl) (by kernel_rfl) (fun _ _ _ h => h) (Or.inr ⟨by rfl, rfl⟩) hH ?_
    try simp only [Act.put, List.setIfInBounds_toArray, List.set_cons_zero, List.set_cons_succ, List.getElem_toArray, List.getElem_cons_succ, List.getElem_cons_zero]
    refine wpAnyH_take (i := 5) (v := undef) rfl (by kernel_rfl) (by kernel_rfl) (by kernel_rfl) (fun _ _ _ h => h) (Or.inr ⟨by rfl, rfl⟩) hH ?_
    try simp only [Act.put, List.setIfInBounds_toArray, List.set_cons_zero, List.set_cons_succ, List.getElem_toArray, List.getElem_cons_succ, List.getElem_cons_zero]
    refine wpAnyH_take (i := 6) (v := undef) rfl (by kernel_rfl) (by kernel_rfl) (by kernel_rfl) (fun _ _ _ h => h) (Or.inr ⟨by rfl, rfl⟩) hH ?_
    try simp only [Act.put, List.setIfInBounds_toArray, List.set_cons_zero, List.set_cons_succ, List.getElem_toArray, List.getElem_cons_succ, List.getElem_cons_zero]
    refine wpAnyH_take (i := 7) (v := undef) rfl (by kernel_rfl) (by kernel_rfl) (by kernel_rfl) (fun _ _ _ h => h) (Or.inr ⟨by rfl, rfl⟩) hH ?_
    try simp only [Act.put, List.setIfInBounds_toArray, List.set_cons_zero, List.set_cons_succ, List.getElem_toArray, List.getElem_cons_succ, List.getElem_cons_zero]
    refine wpAnyH_take (i := 8) (v := undef) rfl (by kernel_rfl) (by kernel_rfl) (by kernel_rfl) (fun _ _ _ h => h) (Or.inr ⟨by rfl, rfl⟩) hH ?_
    try simp only [Act.put, List.setIfInBounds_toArray, List.set_cons_zero, List.set_cons_succ, List.getElem_toArray, List.getElem_cons_succ, List.getElem_cons_zero]
    refine wpAnyH_take (i := 9) (v := undef) rfl (by kernel_rfl) (by kernel_rfl) (by kernel_rfl) (fun _ _ _ h => h) (Or.inr ⟨by rfl, rfl⟩) hH ?_
    try simp only [Act.put, List.setIfInBounds_toArray, List.set_cons_zero, List.set_cons_succ, List.getElem_toArray, List.getElem_cons_succ, List.getElem_cons_zero]
    refine wpAnyH_take (i := 10) (v := undef) rfl (by kernel_rfl) (by kernel_rfl) (by kernel_rfl) (fun _ _ _ h => h) (Or.inr ⟨by rfl, rfl⟩) hH ?_
    try simp only [Act.put, List.setIfInBounds_toArray, List.set_cons_zero, List.set_cons_succ, List.getElem_toArray, List.getElem_cons_succ, List.getElem_cons_zero]
    refine wpAnyH_take (i := 11) (v := undef) rfl (by kernel_rfl) (by kernel_rfl) (by kernel_rfl) (fun _ _ _ h => h) (Or.inr ⟨by rfl, rfl⟩) hH ?_
    try simp only [Act.put, List.setIfInBounds_toArray, List.set_cons_zero, List.set_cons_succ, List.getElem_toArray, List.getElem_cons_succ, List.getElem_cons_zero]
    refine wpAnyH_take (i := 12) (v := .bool true) rfl (by kernel_rfl) (by kernel_rfl) (by kernel_rfl) (fun _ _ _ h => h) (Or.inl ⟨by rfl, fun w hSw => by go_simp⟩) hH ?_
    try simp only [Act.put, List.setIfInBounds_toArray, List.set_cons_zero, List.set_cons_succ, List.getElem_toArray, List.getElem_cons_succ, List.getElem_cons_zero]
    refine wpAnyH_take (i := 13) (v := .bool true) rfl (by kernel_rfl) (by kernel_rfl) (by kernel_rfl) (fun _ _ _ h => h) (Or.inl ⟨by rfl, fun w hSw => by go_simp⟩) hH ?_
    try simp only [Act.put, List.setIfInBounds_toArray, List.set_cons_zero, List.set_cons_succ, List.getElem_toArray, List.getElem_cons_succ, List.getElem_cons_zero]
    refine wpAnyH_take (i := 14) (v := undef) rfl (by kernel_rfl) (by kernel_rfl) (by kernel_rfl) (fun _ _ _ h => h) (Or.inr ⟨by rfl, rfl⟩) hH ?_
    try simp only [Act.put, List.setIfInBounds_toArray, List.set_cons_zero, List.set_cons_succ, List.getElem_toArray, List.getElem_cons_succ, List.getElem_cons_zero]
    refine wpAnyH_take (i := 15) (v := undef) rfl (by kernel_rfl) (by kernel_rfl) (by kernel_rfl) (fun _ _ _ h => h) (Or.inr ⟨by rfl, rfl⟩) hH ?_
    try simp only [Act.put, List.setIfInBounds_toArray, List.set_cons_zero, List.set_cons_succ, List.getElem_toArray, List.getElem_cons_succ, List.getElem_cons_zero]
    refine wpAnyH_take (i := 16) (v := undef) rfl (by kernel_rfl) (by kernel_rfl) (by kernel_rfl) (fun _ _ _ h => h) (Or.inr ⟨by rfl, rfl⟩) hH ?_
    try simp only [Act.put, List.setIfInBounds_toArray, List.set_cons_zero, List.set_cons_succ, List.getElem_toArray, List.getElem_cons_succ, List.getElem_cons_zero]
    refine wpAnyH_take (i := 17) (v := undef) rfl (by kernel_rfl) (by kernel_rfl) (by kernel_rfl) (fun _ _ _ h => h) (Or.inr ⟨by rfl, rfl⟩) hH ?_
    try simp only [Act.put, List.setIfInBounds_toArray, List.set_cons_zero, List.set_cons_succ, List.getElem_toArray, List.getElem_cons_succ, List.getElem_cons_zero]
    refine wpAnyH_take (i := 18) (v := undef) rfl (by kernel_rfl) (by kernel_rfl) (by kernel_rfl) (fun _ _ _ h => h) (Or.inr ⟨by rfl, rfl⟩) hH ?_
    try simp only [Act.put, List.setIfInBounds_toArray, List.set_cons_zero, List.set_cons_succ, List.getElem_toArray, List.getElem_cons_succ, List.getElem_cons_zero]
    refine wpAnyH_take (i := 19) (v := undef) rfl (by kernel_rfl) (by kernel_rfl) (by kernel_rfl) (fun _ _ _ h => h) (Or.inr ⟨by rfl, rfl⟩) hH ?_
    try simp only [Act.put, List.setIfInBounds_toArray, List.set_cons_zero, List.set_cons_succ, List.getElem_toArray, List.getElem_cons_succ, List.getElem_cons_zero]
    refine wpAnyH_take (i := 20) (v := undef) rfl (by kernel_rfl) (by kernel_rfl) (by kernel_rfl) (fun _ _ _ h => h) (Or.inr ⟨by rfl, rfl⟩) hH ?_
    try simp only [Act.put, List.setIfInBounds_toArray, List.set_cons_zero, List.set_cons_succ, List.getElem_toArray, List.getElem_cons_succ, List.getElem_cons_zero]
    refine wpAnyH_take (i := 21) (v := undef) rfl (by kernel_rfl) (by kernel_rfl) (by kernel_rfl) (fun _ _ _ h => h) (Or.inr ⟨by rfl, rfl⟩) hH ?_
    try simp only [Act.put, List.setIfInBounds_toArray, List.set_cons_zero, List.set_cons_succ, List.getElem_toArray, List.getElem_cons_succ, List.getElem_cons_zero]
    refine wpAnyH_take (i := 22) (v := undef) rfl (by kernel_rfl) (by kernel_rfl) (by kernel_rfl) (fun _ _ _ h => h) (Or.inr ⟨by rfl, rfl⟩) hH ?_
    try simp only [Act.put, List.setIfInBounds_toArray, List.set_cons_zero, List.set_cons_succ, List.getElem_toArray, List.getElem_cons_succ, List.getElem_cons_zero]
    refine wpAnyH_take (i := 23) (v := undef) rfl (by kernel_rfl) (by kernel_rfl) (by kernel_rfl) (fun _ _ _ h => h) (Or.inr ⟨by rfl, rfl⟩) hH ?_
    try simp only [Act.put, List.setIfInBounds_toArray, List.set_cons_zero, List.set_cons_succ, List.getElem_toArray, List.getElem_cons_succ, List.getElem_cons_zero]
    refine wpAnyH_take (i := 24) (v := .bool true) rfl (by kernel_rfl) (by kernel_rfl) (by kernel_rfl) (fun _ _ _ h => h) (Or.inl ⟨by rfl, fun w hSw => by go_simp⟩) hH ?_
    try simp only [Act.put, List.setIfInBounds_toArray, List.set_cons_zero, List.set_cons_succ, List.getElem_toArray, List.getElem_cons_succ, List.getElem_cons_zero]
    refine wpAnyH_done (by kernel_rfl) ?_ _
    have HE := HQ8.out (by
      cases hTn : σ.T nu with
      | none => rfl
      | some Ks => have := HT.out nu Ks hTn; omega) _ hH
    clear hH HQ8 HQ14 HQ0 HBk HC
    go_wp2
    exact HE
  · skip
    refine wpAnyH_take (i := 2) (v := .bool false) rfl (by kernel_rfl) (by kernel_rfl) (by kernel_rfl) (fun _ _ _ h => h) (Or.inl ⟨by rfl, fun w hSw => by go_simp⟩) hH ?_
    try simp only [Act.put, List.setIfInBounds_toArray, List.set_cons_zero, List.set_cons_succ, List.getElem_toArray, List.getElem_cons_succ, List.getElem_cons_zero]
    refine wpAnyH_take (i := 3) (v := .bool false) rfl (by kernel_rfl) (by kernel_rfl) (by kernel_rfl) (fun _ _ _ h => h) (Or.inl ⟨by rfl, fun w hSw => by go_simp⟩) hH ?_
    try simp only [Act.put, List.setIfInBounds_toArray, List.set_cons_zero, List.set_cons_succ, List.getElem_toArray, List.getElem_cons_succ, List.getElem_cons_zero]
    refine wpAnyH_take (i := 4) (v := .pointer (some ⟨w.heap.size, 1, none⟩)) rfl (by kernel_rfl) (by kernel_rfl) (by kernel_rfl) (fun _ _ _ h => h) (Or.inl ⟨by rfl, fun w hSw => by go_simp⟩) hH ?_
    try simp only [Act.put, List.setIfInBounds_toArray, List.set_cons_zero, List.set_cons_succ, List.getElem_toArray, List.getElem_cons_succ, List.getElem_cons_zero]
    refine wpAnyH_take (i := 5) (v := .int .i64 nu) rfl (by kernel_rfl) (by kernel_rfl) (by kernel_rfl) (fun _ _ _ h => h) (Or.inl ⟨by rfl, fun w hSw => by have f0 := (HC.out w hSw).1.2.1; go_simp⟩) hH ?_
    try simp only [Act.put, List.setIfInBounds_toArray, List.set_cons_zero, List.set_cons_succ, List.getElem_toArray, List.getElem_cons_succ, List.getElem_cons_zero]
    refine wpAnyH_take (i := 6) (v := .pointer (some ⟨rb, 0, none⟩)) rfl (by kernel_rfl) (by kernel_rfl) (by kernel_rfl) (fun _ _ _ h => h) (Or.inl ⟨by rfl, fun w hSw => by go_simp⟩) hH ?_
    try simp only [Act.put, List.setIfInBounds_toArray, List.set_cons_zero, List.set_cons_succ, List.getElem_toArray, List.getElem_cons_succ, List.getElem_cons_zero]
    refine wpAnyH_take (i := 7) (v := .pointer (some ⟨rb, 0, none⟩)) rfl (by kernel_rfl) (by kernel_rfl) (by kernel_rfl) (fun _ _ _ h => h) (Or.inl ⟨by rfl, fun w hSw => by go_simp⟩) hH ?_
    try simp only [Act.put, List.setIfInBounds_toArray, List.set_cons_zero, List.set_cons_succ, List.getElem_toArray, List.getElem_cons_succ, List.getElem_cons_zero]
    refine wpAnyH_take (i := 8) (v := .pointer (some ⟨rb, 4, none⟩)) rfl (by kernel_rfl) (by kernel_rfl) (by kernel_rfl) (fun _ _ _ h => h) (Or.inl ⟨by rfl, fun w hSw => by go_simp⟩) hH ?_
    try simp only [Act.put, List.setIfInBounds_toArray, List.set_cons_zero, List.set_cons_succ, List.getElem_toArray, List.getElem_cons_succ, List.getElem_cons_zero]
    refine wpAnyH_take (i := 9) (v := .slice ta k tc) rfl (by kernel_rfl) (by kernel_rfl) (by kernel_rfl) (fun _ _ _ h => h) (Or.inl ⟨by rfl, fun w hSw => by have f0 := (HC.out w hSw).2.run.cells.2.2.2.2; go_simp⟩) hH ?_
    try simp only [Act.put, List.setIfInBounds_toArray, List.set_cons_zero, List.set_cons_succ, List.getElem_toArray, List.getElem_cons_succ, List.getElem_cons_zero]
    refine wpAnyH_take (i := 10) (v := .int .i64 (k : Int)) rfl (by kernel_rfl) (by kernel_rfl) (by kernel_rfl) (fun _ _ _ h => h) (Or.inl ⟨by rfl, fun w hSw => by go_simp⟩) hH ?_
    try simp only [Act.put, List.setIfInBounds_toArray, List.set_cons_zero, List.set_cons_succ, List.getElem_toArray, List.getElem_cons_succ, List.getElem_cons_zero]
    by_cases hbig : (k : Int) ≤ nu
    · skip
      refine wpAnyH_take (i := 11) (v := .bool true) rfl (by kernel_rfl) (by kernel_rfl) (by kernel_rfl) (fun _ _ _ h => h) (Or.inl ⟨by rfl, fun w hSw => by go_simp⟩) hH ?_
      try simp only [Act.put, List.setIfInBounds_toArray, List.set_cons_zero, List.set_cons_succ, List.getElem_toArray, List.getElem_cons_succ, List.getElem_cons_zero]
      refine wpAnyH_take (i := 12) (v := .bool true) rfl (by kernel_rfl) (by kernel_rfl) (by kernel_rfl) (fun _ _ _ h => h) (Or.inl ⟨by rfl, fun w hSw => by go_simp⟩) hH ?_
      try simp only [Act.put, List.setIfInBounds_toArray, List.set_cons_zero, List.set_cons_succ, List.getElem_toArray, List.getElem_cons_succ, List.getElem_cons_zero]
      refine wpAnyH_take (i := 13) (v := .bool true) rfl (by kernel_rfl) (by kernel_rfl) (by kernel_rfl) (fun _ _ _ h => h) (Or.inl ⟨by rfl, fun w hSw => by go_simp⟩) hH ?_
      try simp only [Act.put, List.setIfInBounds_toArray, List.set_cons_zero, List.set_cons_succ, List.getElem_toArray, List.getElem_cons_succ, List.getElem_cons_zero]
      refine wpAnyH_take (i := 14) (v := undef) rfl (by kernel_rfl) (by kernel_rfl) (by kernel_rfl) (fun _ _ _ h => h) (Or.inr ⟨by rfl, rfl⟩) hH ?_
      try simp only [Act.put, List.setIfInBounds_toArray, List.set_cons_zero, List.set_cons_succ, List.getElem_toArray, List.getElem_cons_succ, List.getElem_cons_zero]
      refine wpAnyH_take (i := 15) (v := undef) rfl (by kernel_rfl) (by kernel_rfl) (by kernel_rfl) (fun _ _ _ h => h) (Or.inr ⟨by rfl, rfl⟩) hH ?_
      try simp only [Act.put, List.setIfInBounds_toArray, List.set_cons_zero, List.set_cons_succ, List.getElem_toArray, List.getElem_cons_succ, List.getElem_cons_zero]
      refine wpAnyH_take (i := 16) (v := undef) rfl (by kernel_rfl) (by kernel_rfl) (by kernel_rfl) (fun _ _ _ h => h) (Or.inr ⟨by rfl, rfl⟩) hH ?_
      try simp only [Act.put, List.setIfInBounds_toArray, List.set_cons_zero, List.set_cons_succ, List.getElem_toArray, List.getElem_cons_succ, List.getElem_cons_zero]
      refine wpAnyH_take (i := 17) (v := undef) rfl (by kernel_rfl) (by kernel_rfl) (by kernel_rfl) (fun _ _ _ h => h) (Or.inr ⟨by rfl, rfl⟩) hH ?_
      try simp only [Act.put, List.setIfInBounds_toArray, List.set_cons_zero, List.set_cons_succ, List.getElem_toArray, List.getElem_cons_succ, List.getElem_cons_zero]
      refine wpAnyH_take (i := 18) (v := undef) rfl (by kernel_rfl) (by kernel_rfl) (by kernel_rfl) (fun _ _ _ h => h) (Or.inr ⟨by rfl, rfl⟩) hH ?_
      try simp only [Act.put, List.setIfInBounds_toArray, List.set_cons_zero, List.set_cons_succ, List.getElem_toArray, List.getElem_cons_succ, List.getElem_cons_zero]
      refine wpAnyH_take (i := 19) (v := undef) rfl (by kernel_rfl) (by kernel_rfl) (by kernel_rfl) (fun _ _ _ h => h) (Or.inr ⟨by rfl, rfl⟩) hH ?_
      try simp only [Act.put, List.setIfInBounds_toArray, List.set_cons_zero, List.set_cons_succ, List.getElem_toArray, List.getElem_cons_succ, List.getElem_cons_zero]
      refine wpAnyH_take (i := 20) (v := undef) rfl (by kernel_rfl) (by kernel_rfl) (by kernel_rfl) (fun _ _ _ h => h) (Or.inr ⟨by rfl, rfl⟩) hH ?_
      try simp only [Act.put, List.setIfInBounds_toArray, List.set_cons_zero, List.set_cons_succ, List.getElem_toArray, List.getElem_cons_succ, List.getElem_cons_zero]
      refine wpAnyH_take (i := 21) (v := undef) rfl (by kernel_rfl) (by kernel_rfl) (by kernel_rfl) (fun _ _ _ h => h) (Or.inr ⟨by rfl, rfl⟩) hH ?_
      try simp only [Act.put, List.setIfInBounds_toArray, List.set_cons_zero, List.set_cons_succ, List.getElem_toArray, List.getElem_cons_succ, List.getElem_cons_zero]
      refine wpAnyH_take (i := 22) (v := undef) rfl (by kernel_rfl) (by kernel_rfl) (by kernel_rfl) (fun _ _ _ h => h) (Or.inr ⟨by rfl, rfl⟩) hH ?_
      try simp only [Act.put, List.setIfInBounds_toArray, List.set_cons_zero, List.set_cons_succ, List.getElem_toArray, List.getElem_cons_succ, List.getElem_cons_zero]
      refine wpAnyH_take (i := 23) (v := undef) rfl (by kernel_rfl) (by kernel_rfl) (by kernel_rfl) (fun _ _ _ h => h) (Or.inr ⟨by rfl, rfl⟩) hH ?_
      try simp only [Act.put, List.setIfInBounds_toArray, List.set_cons_zero, List.set_cons_succ, List.getElem_toArray, List.getElem_cons_succ, List.getElem_cons_zero]
      refine wpAnyH_take (i := 24) (v := .bool true) rfl (by kernel_rfl) (by kernel_rfl) (by kernel_rfl) (fun _ _ _ h => h) (Or.inl ⟨by rfl, fun w hSw => by go_simp⟩) hH ?_
      try simp only [Act.put, List.setIfInBounds_toArray, List.set_cons_zero, List.set_cons_succ, List.getElem_toArray, List.getElem_cons_succ, List.getElem_cons_zero]
      refine wpAnyH_done (by kernel_rfl) ?_ _
      have HE := HQ8.out (by
        cases hTn : σ.T nu with
        | none => rfl
        | some Ks => have := HT.out nu Ks hTn; omega) _ hH
      clear hH HQ8 HQ14 HQ0 HBk HC
      go_wp2
      exact HE
    · skip
      obtain ⟨n, rfl⟩ : ∃ n : Nat, nu = (n : Int) := ⟨nu.toNat, by omega⟩
      have hnk : n < k := by omega
      have hn0 : ¬ ((n : Int) < 0) := by omega
      have hnk' : (n : Int) < (k : Int) := by omega
      obtain ⟨tb, tc2, htt⟩ := row_some (HC.out W2 (Below.refl _ _)).2.list (by omega)
      simp only [Value.slice.injEq, true_and] at htt
      obtain ⟨rfl, rfl⟩ := htt
      have hvl : vs.length = k := by have := (HC.out W2 (Below.refl _ _)).2.list.1; omega
      obtain ⟨u, hu⟩ : ∃ u, vs[n]? = some u := ⟨vs[n]'(by omega), by simp⟩
      have HU : Hid (∀ W, Below W2.heap.size W2 W → W.cell? ⟨tb, n, none⟩ = some u ∧ W.ownsRow B 67 2 u (tq σ.T n).length (loCells (tq σ.T n))) := fun W hW => ⟨by rw [(HC.out W hW).2.list.cellAt n (by omega)]; exact hu, ((HC.out W hW).2.rows n u hu).1⟩
      obtain ⟨pa, pc, rfl⟩ := row_slice (HU.out W2 (Below.refl _ _)).2
      have HVn : Hid (vs[n]? = some (.slice pa (tq σ.T n).length pc)) := hu
      clear hu hvl
      have HTq : Hid (tq σ.T n = (σ.T (n : Int)).getD []) := rfl
      refine wpAnyH_take (i := 11) (v := .bool false) rfl (by kernel_rfl) (by kernel_rfl) (by kernel_rfl) (fun _ _ _ h => h) (Or.inl ⟨by rfl, fun w hSw => by go_simp⟩) hH ?_
      try simp only [Act.put, List.setIfInBounds_toArray, List.set_cons_zero, List.set_cons_succ, List.getElem_toArray, List.getElem_cons_succ, List.getElem_cons_zero]
      refine wpAnyH_take (i := 12) (v := .bool false) rfl (by kernel_rfl) (by kernel_rfl) (by kernel_rfl) (fun _ _ _ h => h) (Or.inl ⟨by rfl, fun w hSw => by go_simp⟩) hH ?_
      try simp only [Act.put, List.setIfInBounds_toArray, List.set_cons_zero, List.set_cons_succ, List.getElem_toArray, List.getElem_cons_succ, List.getElem_cons_zero]
      refine wpAnyH_take (i := 13) (v := .bool false) rfl (by kernel_rfl) (by kernel_rfl) (by kernel_rfl) (fun _ _ _ h => h) (Or.inl ⟨by rfl, fun w hSw => by go_simp⟩) hH ?_
      try simp only [Act.put, List.setIfInBounds_toArray, List.set_cons_zero, List.set_cons_succ, List.getElem_toArray, List.getElem_cons_succ, List.getElem_cons_zero]
      refine wpAnyH_take (i := 14) (v := .pointer (some ⟨rb, 0, none⟩)) rfl (by kernel_rfl) (by kernel_rfl) (by kernel_rfl) (fun _ _ _ h => h) (Or.inl ⟨by rfl, fun w hSw => by go_simp⟩) hH ?_
      try simp only [Act.put, List.setIfInBounds_toArray, List.set_cons_zero, List.set_cons_succ, List.getElem_toArray, List.getElem_cons_succ, List.getElem_cons_zero]
      refine wpAnyH_take (i := 15) (v := .pointer (some ⟨rb, 0, none⟩)) rfl (by kernel_rfl) (by kernel_rfl) (by kernel_rfl) (fun _ _ _ h => h) (Or.inl ⟨by rfl, fun w hSw => by go_simp⟩) hH ?_
      try simp only [Act.put, List.setIfInBounds_toArray, List.set_cons_zero, List.set_cons_succ, List.getElem_toArray, List.getElem_cons_succ, List.getElem_cons_zero]
      refine wpAnyH_take (i := 16) (v := .pointer (some ⟨rb, 4, none⟩)) rfl (by kernel_rfl) (by kernel_rfl) (by kernel_rfl) (fun _ _ _ h => h) (Or.inl ⟨by rfl, fun w hSw => by go_simp⟩) hH ?_
      try simp only [Act.put, List.setIfInBounds_toArray, List.set_cons_zero, List.set_cons_succ, List.getElem_toArray, List.getElem_cons_succ, List.getElem_cons_zero]
      refine wpAnyH_take (i := 17) (v := .slice (some ⟨tb, 0, none⟩) k tc) rfl (by kernel_rfl) (by kernel_rfl) (by kernel_rfl) (fun _ _ _ h => h) (Or.inl ⟨by rfl, fun w hSw => by have f0 := (HC.out w hSw).2.run.cells.2.2.2.2; go_simp⟩) hH ?_
      try simp only [Act.put, List.setIfInBounds_toArray, List.set_cons_zero, List.set_cons_succ, List.getElem_toArray, List.getElem_cons_succ, List.getElem_cons_zero]
      refine wpAnyH_take (i := 18) (v := .pointer (some ⟨w.heap.size, 1, none⟩)) rfl (by kernel_rfl) (by kernel_rfl) (by kernel_rfl) (fun _ _ _ h => h) (Or.inl ⟨by rfl, fun w hSw => by go_simp⟩) hH ?_
      try simp only [Act.put, List.setIfInBounds_toArray, List.set_cons_zero, List.set_cons_succ, List.getElem_toArray, List.getElem_cons_succ, List.getElem_cons_zero]
      refine wpAnyH_take (i := 19) (v := .int .i64 (n : Int)) rfl (by kernel_rfl) (by kernel_rfl) (by kernel_rfl) (fun _ _ _ h => h) (Or.inl ⟨by rfl, fun w hSw => by have f0 := (HC.out w hSw).1.2.1; go_simp⟩) hH ?_
      try simp only [Act.put, List.setIfInBounds_toArray, List.set_cons_zero, List.set_cons_succ, List.getElem_toArray, List.getElem_cons_succ, List.getElem_cons_zero]
      refine wpAnyH_take (i := 20) (v := .pointer (some ⟨tb, n, none⟩)) rfl (by kernel_rfl) (by kernel_rfl) (by kernel_rfl) (fun _ _ _ h => h) (Or.inl ⟨by rfl, fun w hSw => by go_simp⟩) hH ?_
      try simp only [Act.put, List.setIfInBounds_toArray, List.set_cons_zero, List.set_cons_succ, List.getElem_toArray, List.getElem_cons_succ, List.getElem_cons_zero]
      refine wpAnyH_take (i := 21) (v := .slice pa (tq σ.T n).length pc) rfl (by kernel_rfl) (by kernel_rfl) (by kernel_rfl) (fun _ _ _ h => h) (Or.inl ⟨by rfl, fun w hSw => by have f0 := (HU.out w hSw).1; go_simp⟩) hH ?_
      try simp only [Act.put, List.setIfInBounds_toArray, List.set_cons_zero, List.set_cons_succ, List.getElem_toArray, List.getElem_cons_succ, List.getElem_cons_zero]
      refine wpAnyH_take (i := 22) (v := .int .i64 ((tq σ.T n).length : Int)) rfl (by kernel_rfl) (by kernel_rfl) (by kernel_rfl) (fun _ _ _ h => h) (Or.inl ⟨by rfl, fun w hSw => by go_simp⟩) hH ?_
      try simp only [Act.put, List.setIfInBounds_toArray, List.set_cons_zero, List.set_cons_succ, List.getElem_toArray, List.getElem_cons_succ, List.getElem_cons_zero]
      cases hTn : σ.T (n : Int) with
      | none =>
        have he : tq σ.T n = [] := by rw [HTq.out, hTn]; rfl
        have hl0 : (((tq σ.T n).length : Int) == 0) = true := by rw [he]; rfl
        refine wpAnyH_take (i := 23) (v := .bool true) rfl (by kernel_rfl) (by kernel_rfl) (by kernel_rfl) (fun _ _ _ h => h) (Or.inl ⟨by rfl, fun w hSw => by go_simp⟩) hH ?_
        try simp only [Act.put, List.setIfInBounds_toArray, List.set_cons_zero, List.set_cons_succ, List.getElem_toArray, List.getElem_cons_succ, List.getElem_cons_zero]
        refine wpAnyH_take (i := 24) (v := .bool true) rfl (by kernel_rfl) (by kernel_rfl) (by kernel_rfl) (fun _ _ _ h => h) (Or.inl ⟨by rfl, fun w hSw => by go_simp⟩) hH ?_
        try simp only [Act.put, List.setIfInBounds_toArray, List.set_cons_zero, List.set_cons_succ, List.getElem_toArray, List.getElem_cons_succ, List.getElem_cons_zero]
        refine wpAnyH_done (by kernel_rfl) ?_ _
        have HE := HQ8.out hTn _ hH
        clear hH HQ8 HQ14 HQ0 HBk HC HU hTn he hl0
        go_wp2
        exact HE
      | some Ks =>
        have he : tq σ.T n = Ks := by rw [HTq.out, hTn]; rfl
        have hKn := (HT.out _ _ hTn).2.2
        have hKl : Ks.length ≠ 0 := fun e => hKn (List.eq_nil_of_length_eq_zero e)
        rw [he] at HU HVn ⊢
        have hl0 : ((Ks.length : Int) == 0) = false := by rw [beq_eq_false_iff_ne]; omega
        refine wpAnyH_take (i := 23) (v := .bool false) rfl (by kernel_rfl) (by kernel_rfl) (by kernel_rfl) (fun _ _ _ h => h) (Or.inl ⟨by rfl, fun w hSw => by go_simp⟩) hH ?_
        try simp only [Act.put, List.setIfInBounds_toArray, List.set_cons_zero, List.set_cons_succ, List.getElem_toArray, List.getElem_cons_succ, List.getElem_cons_zero]
        refine wpAnyH_take (i := 24) (v := .bool false) rfl (by kernel_rfl) (by kernel_rfl) (by kernel_rfl) (fun _ _ _ h => h) (Or.inl ⟨by rfl, fun w hSw => by go_simp⟩) hH ?_
        try simp only [Act.put, List.setIfInBounds_toArray, List.set_cons_zero, List.set_cons_succ, List.getElem_toArray, List.getElem_cons_succ, List.getElem_cons_zero]
        refine wpAnyH_done (by kernel_rfl) ?_ _
        have HBk2 : Hid (∀ W, Below W2.heap.size W2 W → Calls Try.prog 29 #[.pointer (some ⟨rb, 0, none⟩), .slice pa Ks.length pc] W fun e w' => if 100 < σ.L.length + (keptL σ.day Ks).length then e = .returned (.int .i64 14) ∧ Below W.heap.size W w' else e = .returned (.int .i64 0) ∧ ∃ v, SdS W rb σ.day (σ.sp - sumP Ks) (σ.ex + (sumP Ks - sumP (keptL σ.day Ks))) v (.slice (some ⟨tb, 0, none⟩) k tc) v (σ.L ++ keptL σ.day Ks) w') := fun W hW => HBk.out Ks hTn pa pc W hW (HU.out W hW).2
        have HR14 : Hid (100 < σ.L.length + (keptL σ.day Ks).length → ∀ W, Below W2.heap.size W2 W → Q (.returned (.tuple #[.int .i64 14, .slice (some ⟨w.heap.size + 1, 0, none⟩) 0 0])) W) := HQ14.out Ks hTn
        have HR0 : Hid (¬ 100 < σ.L.length + (keptL σ.day Ks).length → ∀ W, Below W2.heap.size W2 W → ∀ w' v, SdS W rb σ.day (σ.sp - sumP Ks) (σ.ex + (sumP Ks - sumP (keptL σ.day Ks))) v (.slice (some ⟨tb, 0, none⟩) k tc) v (σ.L ++ keptL σ.day Ks) w' → w'.cell? ⟨rb, 4, none⟩ = some (.slice (some ⟨tb, 0, none⟩) k tc) ∧ w'.frozen? ⟨tb, n, none⟩ = false ∧ (∀ u, vs[n]? = some u → w'.cell? ⟨tb, n, none⟩ = some u) ∧ w'.cell? ⟨w.heap.size, 1, none⟩ = some (.int .i64 (n : Int)) ∧ Q (.returned (.tuple #[.int .i64 0, .slice (some ⟨w.heap.size + 1, 0, none⟩) 0 0])) (w'.setCell ⟨tb, n, none⟩ (.slice (some ⟨w.heap.size + 1, 0, none⟩) 0 0))) := fun h W hW w' v hd => HQ0.out Ks hTn h tb n rfl hnk rfl W hW w' v hd
        have H3 : Hid (Below W2.heap.size W2 W2.drew) := hH
        clear hH HQ8 HQ14 HQ0 HBk hTn he HTq hKn hl0 HT
        generalize W2.drew = w3 at *
        go_wp2_with fail
        have HSs : Hid (∀ W, Below W2.heap.size W2 W → W.cell? ⟨rb, 4, none⟩ = some (.slice (some ⟨tb, 0, none⟩) k tc) ∧ W.cell? ⟨w.heap.size, 1, none⟩ = some (.int .i64 (n : Int)) ∧ W.cell? ⟨tb, n, none⟩ = some (.slice pa Ks.length pc)) := fun W hW => ⟨(HC.out W hW).2.run.cells.2.2.2.2, (HC.out W hW).1.2.1, (HU.out W hW).1⟩
        have hH3 : Below W2.heap.size W2 w3.drew := chain H3.out (below_drew _)
        refine wp_region_held_drew (S := fun W => W.cell? ⟨rb, 4, none⟩ = some (.slice (some ⟨tb, 0, none⟩) k tc) ∧ W.cell? ⟨w.heap.size, 1, none⟩ = some (.int .i64 (n : Int)) ∧ W.cell? ⟨tb, n, none⟩ = some (.slice pa Ks.length pc)) (by kernel_rfl) (HSs.out _ hH3) (fun hH => ?_)
        refine wpAnyH_take (i := 0) (v := .pointer (some ⟨rb, 0, none⟩)) rfl (by kernel_rfl) (by kernel_rfl) (by kernel_rfl) (fun _ _ _ h => h) (Or.inl ⟨by rfl, fun w hSw => by go_simp⟩) hH ?_
        refine wpAnyH_take (i := 1) (v := .pointer (some ⟨rb, 0, none⟩)) rfl (by kernel_rfl) (by kernel_rfl) (by kernel_rfl) (fun _ _ _ h => h) (Or.inl ⟨by rfl, fun w hSw => by go_simp⟩) hH ?_
        try simp only [Act.put, List.setIfInBounds_toArray, List.set_cons_zero, List.set_cons_succ, List.getElem_toArray, List.getElem_cons_succ, List.getElem_cons_zero]
        refine wpAnyH_take (i := 2) (v := .pointer (some ⟨rb, 0, none⟩)) rfl (by kernel_rfl) (by kernel_rfl) (by kernel_rfl) (fun _ _ _ h => h) (Or.inl ⟨by rfl, fun w hSw => by go_simp⟩) hH ?_
        try simp only [Act.put, List.setIfInBounds_toArray, List.set_cons_zero, List.set_cons_succ, List.getElem_toArray, List.getElem_cons_succ, List.getElem_cons_zero]
        refine wpAnyH_take (i := 3) (v := .pointer (some ⟨rb, 4, none⟩)) rfl (by kernel_rfl) (by kernel_rfl) (by kernel_rfl) (fun _ _ _ h => h) (Or.inl ⟨by rfl, fun w hSw => by go_simp⟩) hH ?_
        try simp only [Act.put, List.setIfInBounds_toArray, List.set_cons_zero, List.set_cons_succ, List.getElem_toArray, List.getElem_cons_succ, List.getElem_cons_zero]
        refine wpAnyH_take (i := 4) (v := .slice (some ⟨tb, 0, none⟩) k tc) rfl (by kernel_rfl) (by kernel_rfl) (by kernel_rfl) (fun _ _ _ h => h) (Or.inl ⟨by rfl, fun w hSw => by have f0 := hSw.1; go_simp⟩) hH ?_
        try simp only [Act.put, List.setIfInBounds_toArray, List.set_cons_zero, List.set_cons_succ, List.getElem_toArray, List.getElem_cons_succ, List.getElem_cons_zero]
        refine wpAnyH_take (i := 5) (v := .pointer (some ⟨w.heap.size, 1, none⟩)) rfl (by kernel_rfl) (by kernel_rfl) (by kernel_rfl) (fun _ _ _ h => h) (Or.inl ⟨by rfl, fun w hSw => by go_simp⟩) hH ?_
        try simp only [Act.put, List.setIfInBounds_toArray, List.set_cons_zero, List.set_cons_succ, List.getElem_toArray, List.getElem_cons_succ, List.getElem_cons_zero]
        refine wpAnyH_take (i := 6) (v := .int .i64 (n : Int)) rfl (by kernel_rfl) (by kernel_rfl) (by kernel_rfl) (fun _ _ _ h => h) (Or.inl ⟨by rfl, fun w hSw => by have f0 := hSw.2.1; go_simp⟩) hH ?_
        try simp only [Act.put, List.setIfInBounds_toArray, List.set_cons_zero, List.set_cons_succ, List.getElem_toArray, List.getElem_cons_succ, List.getElem_cons_zero]
        refine wpAnyH_take (i := 7) (v := .pointer (some ⟨tb, n, none⟩)) rfl (by kernel_rfl) (by kernel_rfl) (by kernel_rfl) (fun _ _ _ h => h) (Or.inl ⟨by rfl, fun w hSw => by go_simp⟩) hH ?_
        try simp only [Act.put, List.setIfInBounds_toArray, List.set_cons_zero, List.set_cons_succ, List.getElem_toArray, List.getElem_cons_succ, List.getElem_cons_zero]
        refine wpAnyH_take (i := 8) (v := .slice pa Ks.length pc) rfl (by kernel_rfl) (by kernel_rfl) (by kernel_rfl) (fun _ _ _ h => h) (Or.inl ⟨by rfl, fun w hSw => by have f0 := hSw.2.2; go_simp⟩) hH ?_
        try simp only [Act.put, List.setIfInBounds_toArray, List.set_cons_zero, List.set_cons_succ, List.getElem_toArray, List.getElem_cons_succ, List.getElem_cons_zero]
        refine wpAnyH_ready (rs := [9]) (by kernel_rfl) (by simp) ?_
        refine AllReadyH.cons rfl (fun K hK => ?_) AllReadyH.nil
        go_simp
        go_at_call 29
        refine (HBk2.out _ hH3).mono ?_
        intro e w4 h4
        by_cases hful : 100 < σ.L.length + (keptL σ.day Ks).length
        · rw [if_pos hful] at h4
          obtain ⟨rfl, hb4⟩ := h4
          have hw4 : Below W2.heap.size W2 w4 := chain hH3 hb4
          have hs4 := HSs.out w4 hw4
          refine hK.out _ _ hs4 (fun _ => ?_)
          clear hK K
          try simp only [Act.put, List.setIfInBounds_toArray, List.set_cons_zero, List.set_cons_succ, List.getElem_toArray, List.getElem_cons_succ, List.getElem_cons_zero]
          refine wpAnyH_take (i := 10) (v := .int .i64 14) rfl (by kernel_rfl) (by kernel_rfl) (by kernel_rfl) (fun _ _ _ h => h) (Or.inl ⟨by rfl, fun w hSw => by go_simp⟩) hs4 ?_
          try simp only [Act.put, List.setIfInBounds_toArray, List.set_cons_zero, List.set_cons_succ, List.getElem_toArray, List.getElem_cons_succ, List.getElem_cons_zero]
          refine wpAnyH_done (by kernel_rfl) ?_ _
          have HE := HR14.out hful w4 hw4
          clear hw4 hb4 hH HR14 HR0 HBk2 HC HU hful hs4 HSs hH3
          go_wp2
          exact HE
        · rw [if_neg hful] at h4
          obtain ⟨rfl, v, hd⟩ := h4
          obtain ⟨r1, r2, r3, r4, HE0⟩ := HR0.out hful _ hH3 w4 v hd
          obtain ⟨y1, y2, y3, y4, HE⟩ := HR0.out hful _ hH3 w4.drew v (hd.later (below_drew _))
          have y5 := y3 _ HVn.out
          have r5 := r3 _ HVn.out
          have HEh : Hid (Q (.returned (.tuple #[.int .i64 0, .slice (some ⟨w.heap.size + 1, 0, none⟩) 0 0])) (w4.drew.setCell ⟨tb, n, none⟩ (.slice (some ⟨w.heap.size + 1, 0, none⟩) 0 0))) := HE
          have hs4 : w4.cell? ⟨rb, 4, none⟩ = some (.slice (some ⟨tb, 0, none⟩) k tc) ∧ w4.cell? ⟨w.heap.size, 1, none⟩ = some (.int .i64 (n : Int)) ∧ w4.cell? ⟨tb, n, none⟩ = some (.slice pa Ks.length pc) := ⟨r1, r4, r5⟩
          refine hK.out _ _ hs4 (fun _ => ?_)
          clear hK K
          try simp only [Act.put, List.setIfInBounds_toArray, List.set_cons_zero, List.set_cons_succ, List.getElem_toArray, List.getElem_cons_succ, List.getElem_cons_zero]
          refine wpAnyH_take (i := 10) (v := .int .i64 0) rfl (by kernel_rfl) (by kernel_rfl) (by kernel_rfl) (fun _ _ _ h => h) (Or.inl ⟨by rfl, fun w hSw => by go_simp⟩) hs4 ?_
          try simp only [Act.put, List.setIfInBounds_toArray, List.set_cons_zero, List.set_cons_succ, List.getElem_toArray, List.getElem_cons_succ, List.getElem_cons_zero]
          refine wpAnyH_done (by kernel_rfl) ?_ _
          clear hd HE HE0 r2 r3 y3 hH HR14 HR0 HBk2 HC HU hful hs4 HSs hH3
          go_wp2_with fail
          generalize hWD : w4.drew = WD at *
          refine wp_region_z (S := fun W => W = WD) 8 (by kernel_rfl) hWD (fun hH => ?_)
          rw [hWD] at hH ⊢
          clear hWD r1 r4 r5
          refine wpAnyZ_take (i := 0) (v := .pointer (some ⟨rb, 0, none⟩)) rfl (by kernel_rfl) (by kernel_rfl) (by kernel_rfl) (by kernel_rfl) (fun _ _ _ h => h) (Or.inl ⟨by rfl, fun w hSw => by subst hSw; go_simp⟩) hH ?_
          refine wpAnyZ_take (i := 1) (v := .pointer (some ⟨rb, 0, none⟩)) rfl (by kernel_rfl) (by kernel_rfl) (by kernel_rfl) (by kernel_rfl) (fun _ _ _ h => h) (Or.inl ⟨by rfl, fun w hSw => by subst hSw; go_simp⟩) hH ?_
          try simp only [Act.put, List.setIfInBounds_toArray, List.set_cons_zero, List.set_cons_succ, List.getElem_toArray, List.getElem_cons_succ, List.getElem_cons_zero]
          refine wpAnyZ_take (i := 2) (v := .pointer (some ⟨rb, 4, none⟩)) rfl (by kernel_rfl) (by kernel_rfl) (by kernel_rfl) (by kernel_rfl) (fun _ _ _ h => h) (Or.inl ⟨by rfl, fun w hSw => by subst hSw; go_simp⟩) hH ?_
          try simp only [Act.put, List.setIfInBounds_toArray, List.set_cons_zero, List.set_cons_succ, List.getElem_toArray, List.getElem_cons_succ, List.getElem_cons_zero]
          refine wpAnyZ_take (i := 3) (v := .slice (some ⟨tb, 0, none⟩) k tc) rfl (by kernel_rfl) (by kernel_rfl) (by kernel_rfl) (by kernel_rfl) (fun _ _ _ h => h) (Or.inl ⟨by rfl, fun w hSw => by subst hSw; go_simp⟩) hH ?_
          try simp only [Act.put, List.setIfInBounds_toArray, List.set_cons_zero, List.set_cons_succ, List.getElem_toArray, List.getElem_cons_succ, List.getElem_cons_zero]
          refine wpAnyZ_take (i := 4) (v := .pointer (some ⟨w.heap.size, 1, none⟩)) rfl (by kernel_rfl) (by kernel_rfl) (by kernel_rfl) (by kernel_rfl) (fun _ _ _ h => h) (Or.inl ⟨by rfl, fun w hSw => by subst hSw; go_simp⟩) hH ?_
          try simp only [Act.put, List.setIfInBounds_toArray, List.set_cons_zero, List.set_cons_succ, List.getElem_toArray, List.getElem_cons_succ, List.getElem_cons_zero]
          refine wpAnyZ_take (i := 5) (v := .int .i64 (n : Int)) rfl (by kernel_rfl) (by kernel_rfl) (by kernel_rfl) (by kernel_rfl) (fun _ _ _ h => h) (Or.inl ⟨by rfl, fun w hSw => by subst hSw; go_simp⟩) hH ?_
          try simp only [Act.put, List.setIfInBounds_toArray, List.set_cons_zero, List.set_cons_succ, List.getElem_toArray, List.getElem_cons_succ, List.getElem_cons_zero]
          refine wpAnyZ_take (i := 6) (v := .slice (some ⟨w.heap.size + 1, 0, none⟩) 0 0) rfl (by kernel_rfl) (by kernel_rfl) (by kernel_rfl) (by kernel_rfl) (fun _ _ _ h => h) (Or.inl ⟨by rfl, fun w hSw => by subst hSw; go_simp⟩) hH ?_
          try simp only [Act.put, List.setIfInBounds_toArray, List.set_cons_zero, List.set_cons_succ, List.getElem_toArray, List.getElem_cons_succ, List.getElem_cons_zero]
          refine wpAnyZ_take (i := 7) (v := .pointer (some ⟨tb, n, none⟩)) rfl (by kernel_rfl) (by kernel_rfl) (by kernel_rfl) (by kernel_rfl) (fun _ _ _ h => h) (Or.inl ⟨by rfl, fun w hSw => by subst hSw; go_simp⟩) hH ?_
          try simp only [Act.put, List.setIfInBounds_toArray, List.set_cons_zero, List.set_cons_succ, List.getElem_toArray, List.getElem_cons_succ, List.getElem_cons_zero]
          refine wpAnyZ_ready (rs := [8]) (by kernel_rfl) (by simp) ?_
          refine AllReadyZ.cons rfl (fun K hK => ?_) AllReadyZ.nil
          go_simp
          refine hK.out _ _ (Or.inl rfl) (fun _ => ?_)
          clear hK K
          try simp only [Act.put, List.setIfInBounds_toArray, List.set_cons_zero, List.set_cons_succ, List.getElem_toArray, List.getElem_cons_succ, List.getElem_cons_zero]
          refine wpAnyZ_done (by kernel_rfl) ?_ _
          clear hH y1 y2 y4 y5
          generalize WD.setCell ⟨tb, n, none⟩ (.slice (some ⟨w.heap.size + 1, 0, none⟩) 0 0) = WE at *
          go_wp2
          exact HEh.out
end Go.Proofs.Ytodncihjenlnjaa
