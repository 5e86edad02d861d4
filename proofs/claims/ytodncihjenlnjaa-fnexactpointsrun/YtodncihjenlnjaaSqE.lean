/-
  The specification's act where points are earned.
-/
import Derived.Test.YtodncihjenlnjaaSqG
namespace Go.Proofs.Ytodncihjenlnjaa
open Go.ChangeShapes Go.WideShapes Go.ChangeAt Go.RowKit Go.Deep
set_option linter.unusedVariables false

theorem list_lots {W : World} {B B' n n' : Nat} {v v' : Value} {xs xs' : List Value} (h : W.ownsRow B 25 1 v n xs) (h' : W.ownsRow B' 67 2 v' n' xs') {q : Nat} (hq : v.ownBlock = some q) : v'.ownBlock ≠ some q := fun e => by
  obtain ⟨c1, h1⟩ := row_type h hq
  obtain ⟨c2, h2⟩ := row_type h' e
  rw [h1] at h2
  simp at h2
theorem ansA_earn {B rb k : Nat} {w W6 w9 : World} {σ : PSt} {la : Option Addr} {lc : Nat} {tv : Value} {vs : List Value} {b : Nat} {nu un : Int} (hM : SqM B rb k σ (.slice la σ.L.length lc) tv vs w) (hT : TI k σ) (hB : B ≤ w.heap.size) (hb : Below w.heap.size w W6) (hw : w.heap.size ≤ b) (hb1 : b < W6.heap.size) (hn : W6.heap[b]? = some (.cells #[] 67 (0, 0)))
    {ga : Option Addr} {gc : Nat} (ho : w9.ownsRow B 67 2 (.slice ga (σ.L.length + 1) gc) (σ.L.length + 1) (loCells σ.L ++ [.int .i64 nu, .int .i64 un])) (hg : W6.grownBy w9 (Value.ownBlock (.slice la σ.L.length lc)))
    (hat : ∀ q, Value.ownBlock (.slice ga (σ.L.length + 1) gc) = some q → Value.ownBlock (.slice la σ.L.length lc) = some q ∨ W6.heap.size ≤ q) :
    SgIs w9 rb σ.day σ.sp σ.ex (.slice la σ.L.length lc) tv ∧ AnsA B rb k w (0, { σ with L := σ.L ++ [⟨nu, un⟩] }) (.returned (.tuple #[.int .i64 0, .slice (some ⟨b, 0, none⟩) 0 0])) (w9.setCell ⟨rb, 3, none⟩ (.slice ga (σ.L.length + 1) gc)) := by
  have hgf := fr_grown hg
  have hsz := hb.size
  have hrl := hM.run.lt
  have e9 : ∀ q, q < w.heap.size → Value.ownBlock (.slice la σ.L.length lc) ≠ some q → w9.heap[q]? = w.heap[q]? := fun q h1 h2 => (hgf.block q (by omega) h2).trans (hb.block q h1)
  have pg9 : SgIs w9 rb σ.day σ.sp σ.ex (.slice la σ.L.length lc) tv := hM.run.of (e9 rb hM.run.lt (fun e => sg_ne hM.run hM.lots e rfl))
  have hk : ∀ q, q ≠ rb → (w9.setCell ⟨rb, 3, none⟩ (.slice ga (σ.L.length + 1) gc)).heap[q]? = w9.heap[q]? := fun q hq => Below.heap_setCell _ _ _ _ hq
  refine ⟨pg9, .slice ga (σ.L.length + 1) gc, tv, vs, some ⟨b, 0, none⟩, 0, by dsimp only; rw [hT.last]; rfl, ?_, ⟨pg9.set3 _, ?_, row_of hM.list (fun q hq => (hk q (sg_list hM.run hM.list hq)).trans (e9 q (row_lt hM.list q hq).2 (list_lots hM.list hM.lots hq))), fun j u hu => ?_⟩, ?_, fun q hq => ?_⟩
  · refine Fr.mono (X := fun q => q = rb ∨ Value.ownBlock (.slice la σ.L.length lc) = some q) ((((Fr.of hb).trans (hgf.mono (fun q hq => .inr hq)))).set (b := rb) (.inl rfl) _ _) (fun q hq => ?_)
    rcases hq with r | r
    · exact .inl r
    · exact .inr (.inl ⟨(row_lt hM.lots q r).1, row_type hM.lots r⟩)
  · dsimp only
    rw [List.length_append, loCells_append]
    exact row_of ho (fun q hq => hk q (sg_ne pg9 ho hq))
  · have hu1 := hM.rows j u hu
    refine ⟨row_of hu1.1 (fun q hq => (hk q (sg_ne hM.run hu1.1 hq)).trans (e9 q (row_lt hu1.1 q hq).2 (hu1.2 q hq))), fun q hq e => ?_⟩
    rcases hat q e with r | r
    · exact hu1.2 q hq r
    · have := (row_lt hu1.1 q hq).2; omega
  · dsimp only; rw [hT.last]
    refine noneRow B _ b (by omega) ((hk b (by omega)).trans ((hgf.block b hb1 (fun e => ?_)).trans hn))
    have := (row_lt hM.lots b e).2; omega
  · dsimp only at hq
    have e2 : b = q := by simpa [Value.ownBlock] using hq
    intro e
    rcases hat q e with r | r
    · have := (row_lt hM.lots q r).2; omega
    · omega
set_option maxHeartbeats 8000000 in
set_option maxRecDepth 8000 in
theorem actS_earn (B rb k : Nat) (σ : PSt) (hok : PsOk k σ) (hT : TI k σ) (lv tv : Value) (vs : List Value) (nu un : Int) (w : World) (hB : B ≤ w.heap.size) (hM : SqM B rb k σ lv tv vs w) :
    Calls Try.prog 16 #[.pointer (some ⟨rb, 0, none⟩), .agg #[.int .i64 1, .int .i64 nu, .int .i64 un]] w (AnsA B rb k w (stEarn nu un σ)) := by
  obtain ⟨Q, hQ⟩ : ∃ Q, Q = AnsA B rb k w (stEarn nu un σ) := ⟨_, rfl⟩
  obtain ⟨W2, hW2⟩ : ∃ W2, W2 = (w.alloc (Obj.cells #[.int .i64 1, .int .i64 nu, .int .i64 un] 46)).alloc (Obj.cells #[] 67) := ⟨_, rfl⟩
  obtain ⟨hz2, hb2, hc2⟩ := actBox w 1 nu un W2 hW2
  obtain ⟨la, lc, rfl⟩ := row_slice hM.lots
  have hrl := hM.run.lt
  obtain ⟨i0, hi, hzz⟩ := Option.map_eq_some_iff.1 loInfo
  simp only [Prod.mk.injEq] at hzz
  obtain ⟨hi0, hi1, hi2⟩ := hzz
  have hll := hok.len
  have HM : Hid (SqM B rb k σ (.slice la σ.L.length lc) tv vs w) := hM
  have HC : Hid (∀ W, Below W2.heap.size W2 W → (W.cell? ⟨w.heap.size, 0, none⟩ = some (.int .i64 1) ∧ W.cell? ⟨w.heap.size, 1, none⟩ = some (.int .i64 nu) ∧ W.cell? ⟨w.heap.size, 2, none⟩ = some (.int .i64 un) ∧ W.heap[w.heap.size + 1]? = some (.cells #[] 67 (0, 0)) ∧ Below w.heap.size w W) ∧ SqM B rb k σ (.slice la σ.L.length lc) tv vs W) := fun W hW => ⟨hc2 W hW, hM.later (hc2 W hW).2.2.2.2⟩
  have HQ5 : Hid (¬ (1 ≤ nu ∧ nu ≤ 1000000) ∨ ¬ (σ.day ≤ un ∧ un ≤ 100000) → ∀ W, Below W2.heap.size W2 W → Q (.returned (.tuple #[.int .i64 5, .slice (some ⟨w.heap.size + 1, 0, none⟩) 0 0])) W) := fun h W hW => by
    rw [hQ]; unfold stEarn; rw [if_pos h]
    exact ansA_same hM hT hB (hc2 W hW).2.2.2.2 (by omega) (hc2 W hW).2.2.2.1
  have HQ14 : Hid (¬ (¬ (1 ≤ nu ∧ nu ≤ 1000000) ∨ ¬ (σ.day ≤ un ∧ un ≤ 100000)) → σ.L.length = 100 → ∀ W, Below W2.heap.size W2 W → Q (.returned (.tuple #[.int .i64 14, .slice (some ⟨w.heap.size + 1, 0, none⟩) 0 0])) W) := fun h h' W hW => by
    rw [hQ]; unfold stEarn; rw [if_neg h, if_pos h']
    exact ansA_same hM hT hB (hc2 W hW).2.2.2.2 (by omega) (hc2 W hW).2.2.2.1
  have HQ0 : Hid (¬ (¬ (1 ≤ nu ∧ nu ≤ 1000000) ∨ ¬ (σ.day ≤ un ∧ un ≤ 100000)) → ¬ σ.L.length = 100 → ∀ e w', AnsA B rb k w (0, { σ with L := σ.L ++ [⟨nu, un⟩] }) e w' → Q e w') := fun h h' e w' hd => by
    rw [hQ]; unfold stEarn; rw [if_neg h, if_neg h']; exact hd
  have HT : Hid (TI k σ) := hT
  rw [← hQ]
  have c0 := (hc2 W2 (Below.refl _ _)).1
  clear hM hT hQ hc2 hok
  go_enter Try.func16, Try.ntmps16
  rw [hW2] at c0
  go_wp2_with fail
  rw [← hW2] at c0 ⊢
  clear c0 hW2
  refine wp_region_held_drew (S := fun W => Below W2.heap.size W2 W) (by kernel_rfl) (below_drew _) (fun hH => ?_)
  refine wpAnyH_take (i := 0) (v := .pointer (some ⟨w.heap.size, 1, none⟩)) rfl (by kernel_rfl) (by kernel_rfl) (by kernel_rfl) (fun _ _ _ h => h) (Or.inl ⟨by rfl, fun w hSw => by go_simp⟩) hH ?_
  refine wpAnyH_take (i := 1) (v := .int .i64 nu) rfl (by kernel_rfl) (by kernel_rfl) (by kernel_rfl) (fun _ _ _ h => h) (Or.inl ⟨by rfl, fun w hSw => by have f0 := (HC.out w hSw).1.2.1; go_simp⟩) hH ?_
  try simp only [Act.put, List.setIfInBounds_toArray, List.set_cons_zero, List.set_cons_succ, List.getElem_toArray, List.getElem_cons_succ, List.getElem_cons_zero]
  refine wpAnyH_ready (rs := [2]) (by kernel_rfl) (by simp) ?_
  refine AllReadyH.cons rfl (fun K hK => ?_) AllReadyH.nil
  go_simp
  go_at_call 26
  refine (inS_any nu 1 1000000 _).mono ?_
  rintro e w3 ⟨rfl, hb3⟩
  have hw3 : Below W2.heap.size W2 w3 := by rw [hb3]; exact hH
  clear hb3
  refine hK.out _ _ hw3 (fun _ => ?_)
  clear hK K
  try simp only [Act.put, List.setIfInBounds_toArray, List.set_cons_zero, List.set_cons_succ, List.getElem_toArray, List.getElem_cons_succ, List.getElem_cons_zero]
  by_cases hA : 1 ≤ nu ∧ nu ≤ 1000000
  · rw [decide_eq_true hA]
    refine wpAnyH_take (i := 3) (v := .bool false) rfl (by kernel_rfl) (by kernel_rfl) (by kernel_rfl) (fun _ _ _ h => h) (Or.inl ⟨by rfl, fun w hSw => by go_simp⟩) hw3 ?_
    try simp only [Act.put, List.setIfInBounds_toArray, List.set_cons_zero, List.set_cons_succ, List.getElem_toArray, List.getElem_cons_succ, List.getElem_cons_zero]
    refine wpAnyH_take (i := 4) (v := .bool false) rfl (by kernel_rfl) (by kernel_rfl) (by kernel_rfl) (fun _ _ _ h => h) (Or.inl ⟨by rfl, fun w hSw => by go_simp⟩) hw3 ?_
    try simp only [Act.put, List.setIfInBounds_toArray, List.set_cons_zero, List.set_cons_succ, List.getElem_toArray, List.getElem_cons_succ, List.getElem_cons_zero]
    refine wpAnyH_take (i := 5) (v := .pointer (some ⟨w.heap.size, 2, none⟩)) rfl (by kernel_rfl) (by kernel_rfl) (by kernel_rfl) (fun _ _ _ h => h) (Or.inl ⟨by rfl, fun w hSw => by go_simp⟩) hw3 ?_
    try simp only [Act.put, List.setIfInBounds_toArray, List.set_cons_zero, List.set_cons_succ, List.getElem_toArray, List.getElem_cons_succ, List.getElem_cons_zero]
    refine wpAnyH_take (i := 6) (v := .int .i64 un) rfl (by kernel_rfl) (by kernel_rfl) (by kernel_rfl) (fun _ _ _ h => h) (Or.inl ⟨by rfl, fun w hSw => by have f0 := (HC.out w hSw).1.2.2.1; go_simp⟩) hw3 ?_
    try simp only [Act.put, List.setIfInBounds_toArray, List.set_cons_zero, List.set_cons_succ, List.getElem_toArray, List.getElem_cons_succ, List.getElem_cons_zero]
    refine wpAnyH_take (i := 7) (v := .pointer (some ⟨rb, 0, none⟩)) rfl (by kernel_rfl) (by kernel_rfl) (by kernel_rfl) (fun _ _ _ h => h) (Or.inl ⟨by rfl, fun w hSw => by go_simp⟩) hw3 ?_
    try simp only [Act.put, List.setIfInBounds_toArray, List.set_cons_zero, List.set_cons_succ, List.getElem_toArray, List.getElem_cons_succ, List.getElem_cons_zero]
    refine wpAnyH_take (i := 8) (v := .pointer (some ⟨rb, 0, none⟩)) rfl (by kernel_rfl) (by kernel_rfl) (by kernel_rfl) (fun _ _ _ h => h) (Or.inl ⟨by rfl, fun w hSw => by go_simp⟩) hw3 ?_
    try simp only [Act.put, List.setIfInBounds_toArray, List.set_cons_zero, List.set_cons_succ, List.getElem_toArray, List.getElem_cons_succ, List.getElem_cons_zero]
    refine wpAnyH_take (i := 9) (v := .pointer (some ⟨rb, 0, none⟩)) rfl (by kernel_rfl) (by kernel_rfl) (by kernel_rfl) (fun _ _ _ h => h) (Or.inl ⟨by rfl, fun w hSw => by go_simp⟩) hw3 ?_
    try simp only [Act.put, List.setIfInBounds_toArray, List.set_cons_zero, List.set_cons_succ, List.getElem_toArray, List.getElem_cons_succ, List.getElem_cons_zero]
    refine wpAnyH_take (i := 10) (v := .pointer (some ⟨rb, 0, none⟩)) rfl (by kernel_rfl) (by kernel_rfl) (by kernel_rfl) (fun _ _ _ h => h) (Or.inl ⟨by rfl, fun w hSw => by go_simp⟩) hw3 ?_
    try simp only [Act.put, List.setIfInBounds_toArray, List.set_cons_zero, List.set_cons_succ, List.getElem_toArray, List.getElem_cons_succ, List.getElem_cons_zero]
    refine wpAnyH_take (i := 11) (v := .int .i64 σ.day) rfl (by kernel_rfl) (by kernel_rfl) (by kernel_rfl) (fun _ _ _ h => h) (Or.inl ⟨by rfl, fun w hSw => by have f0 := (HC.out w hSw).2.run.cells.1; go_simp⟩) hw3 ?_
    try simp only [Act.put, List.setIfInBounds_toArray, List.set_cons_zero, List.set_cons_succ, List.getElem_toArray, List.getElem_cons_succ, List.getElem_cons_zero]
    refine wpAnyH_ready (rs := [12]) (by kernel_rfl) (by simp) ?_
    refine AllReadyH.cons rfl (fun K hK => ?_) AllReadyH.nil
    go_simp
    go_at_call 26
    refine (inS_any un σ.day 100000 _).mono ?_
    rintro e w5 ⟨rfl, hb5⟩
    have hw5 : Below W2.heap.size W2 w5 := by rw [hb5]; exact hw3
    clear hb5
    refine hK.out _ _ hw5 (fun _ => ?_)
    clear hK K
    try simp only [Act.put, List.setIfInBounds_toArray, List.set_cons_zero, List.set_cons_succ, List.getElem_toArray, List.getElem_cons_succ, List.getElem_cons_zero]
    by_cases hU : σ.day ≤ un ∧ un ≤ 100000
    · rw [decide_eq_true hU]
      refine wpAnyH_take (i := 13) (v := .bool false) rfl (by kernel_rfl) (by kernel_rfl) (by kernel_rfl) (fun _ _ _ h => h) (Or.inl ⟨by rfl, fun w hSw => by go_simp⟩) hw5 ?_
      try simp only [Act.put, List.setIfInBounds_toArray, List.set_cons_zero, List.set_cons_succ, List.getElem_toArray, List.getElem_cons_succ, List.getElem_cons_zero]
      refine wpAnyH_take (i := 14) (v := .bool false) rfl (by kernel_rfl) (by kernel_rfl) (by kernel_rfl) (fun _ _ _ h => h) (Or.inl ⟨by rfl, fun w hSw => by go_simp⟩) hw5 ?_
      try simp only [Act.put, List.setIfInBounds_toArray, List.set_cons_zero, List.set_cons_succ, List.getElem_toArray, List.getElem_cons_succ, List.getElem_cons_zero]
      refine wpAnyH_done (by kernel_rfl) ?_ _
      have H5 : Hid (Below W2.heap.size W2 w5) := hw5
      have x3 := (HC.out _ hw5).2.run.cells.2.2.2.1
      clear hw5 hw3 hH
      by_cases hF : σ.L.length = 100
      · have hFb : ((σ.L.length : Int) == 100) = true := by rw [beq_iff_eq]; omega
        have HE := HQ14.out (by omega) hF w5 H5.out
        clear HC HQ5 HQ0 HQ14 hF
        go_wp2
        exact HE
      · have hFb : ((σ.L.length : Int) == 100) = false := by rw [beq_eq_false_iff_ne]; omega
        have HE := HQ0.out (by omega) hF
        clear HQ5 HQ0 HQ14
        go_wp2_with fail
        have HC5 : Hid (SqM B rb k σ (.slice la σ.L.length lc) tv vs w5 ∧ Below w.heap.size w w5 ∧ w.heap.size + 2 ≤ w5.heap.size ∧ w5.heap[w.heap.size + 1]? = some (.cells #[] 67 (0, 0))) := ⟨(HC.out _ H5.out).2, (HC.out _ H5.out).1.2.2.2.2, by have := H5.out.size; omega, (HC.out _ H5.out).1.2.2.2.1⟩
        have HQ6 : Hid (∀ W : World, Fr (fun q => Value.ownBlock (.slice la σ.L.length lc) = some q) w5 W → W.cell? ⟨w.heap.size, 1, none⟩ = some (.int .i64 nu) ∧ W.cell? ⟨w.heap.size, 2, none⟩ = some (.int .i64 un) ∧ W.cell? ⟨rb, 3, none⟩ = some (.slice la σ.L.length lc) ∧ W.frozen? ⟨rb, 3, none⟩ = false) := fun W hW => by
          have e0 := hW.block w.heap.size (by have := HC5.out.2.2.1; omega) (fun e => by have := row_lt HM.out.lots _ e; omega)
          have e1 := hW.block rb HC5.out.1.run.lt (fun e => sg_ne HC5.out.1.run HC5.out.1.lots e rfl)
          obtain ⟨-, k1, k2, -, -⟩ := (HC.out _ H5.out).1
          exact ⟨(World.cell?_of_block (w := w5) (a := ⟨w.heap.size, 1, none⟩) e0).trans k1, (World.cell?_of_block (w := w5) (a := ⟨w.heap.size, 2, none⟩) e0).trans k2, (HC5.out.1.run.of e1).cells.2.2.2.1, (HC5.out.1.run.of e1).free 3⟩
        clear x3
        refine wp_region_z (S := fun W => Fr (fun q => Value.ownBlock (.slice la σ.L.length lc) = some q) w5 W) 16 (by kernel_rfl) (Fr.of (below_drew _)) (fun hH => ?_)
        refine wpAnyZ_take (i := 0) (v := .pointer (some ⟨rb, 0, none⟩)) rfl (by kernel_rfl) (by kernel_rfl) (by kernel_rfl) (by kernel_rfl) (fun _ _ _ h => h) (Or.inl ⟨by rfl, fun w hSw => by go_simp⟩) hH ?_
        refine wpAnyZ_take (i := 1) (v := .pointer (some ⟨rb, 0, none⟩)) rfl (by kernel_rfl) (by kernel_rfl) (by kernel_rfl) (by kernel_rfl) (fun _ _ _ h => h) (Or.inl ⟨by rfl, fun w hSw => by go_simp⟩) hH ?_
        try simp only [Act.put, List.setIfInBounds_toArray, List.set_cons_zero, List.set_cons_succ, List.getElem_toArray, List.getElem_cons_succ, List.getElem_cons_zero]
        refine wpAnyZ_take (i := 2) (v := .pointer (some ⟨rb, 0, none⟩)) rfl (by kernel_rfl) (by kernel_rfl) (by kernel_rfl) (by kernel_rfl) (fun _ _ _ h => h) (Or.inl ⟨by rfl, fun w hSw => by go_simp⟩) hH ?_
        try simp only [Act.put, List.setIfInBounds_toArray, List.set_cons_zero, List.set_cons_succ, List.getElem_toArray, List.getElem_cons_succ, List.getElem_cons_zero]
        refine wpAnyZ_take (i := 3) (v := .pointer (some ⟨rb, 0, none⟩)) rfl (by kernel_rfl) (by kernel_rfl) (by kernel_rfl) (by kernel_rfl) (fun _ _ _ h => h) (Or.inl ⟨by rfl, fun w hSw => by go_simp⟩) hH ?_
        try simp only [Act.put, List.setIfInBounds_toArray, List.set_cons_zero, List.set_cons_succ, List.getElem_toArray, List.getElem_cons_succ, List.getElem_cons_zero]
        refine wpAnyZ_take (i := 4) (v := .pointer (some ⟨rb, 3, none⟩)) rfl (by kernel_rfl) (by kernel_rfl) (by kernel_rfl) (by kernel_rfl) (fun _ _ _ h => h) (Or.inl ⟨by rfl, fun w hSw => by go_simp⟩) hH ?_
        try simp only [Act.put, List.setIfInBounds_toArray, List.set_cons_zero, List.set_cons_succ, List.getElem_toArray, List.getElem_cons_succ, List.getElem_cons_zero]
        refine wpAnyZ_take (i := 5) (v := .slice la σ.L.length lc) rfl (by kernel_rfl) (by kernel_rfl) (by kernel_rfl) (by kernel_rfl) (fun _ _ _ h => h) (Or.inl ⟨by rfl, fun w hSw => by have f0 := (HQ6.out w hSw).2.2.1; go_simp⟩) hH ?_
        try simp only [Act.put, List.setIfInBounds_toArray, List.set_cons_zero, List.set_cons_succ, List.getElem_toArray, List.getElem_cons_succ, List.getElem_cons_zero]
        refine wpAnyZ_take (i := 6) (v := .pointer (some ⟨w.heap.size, 1, none⟩)) rfl (by kernel_rfl) (by kernel_rfl) (by kernel_rfl) (by kernel_rfl) (fun _ _ _ h => h) (Or.inl ⟨by rfl, fun w hSw => by go_simp⟩) hH ?_
        try simp only [Act.put, List.setIfInBounds_toArray, List.set_cons_zero, List.set_cons_succ, List.getElem_toArray, List.getElem_cons_succ, List.getElem_cons_zero]
        refine wpAnyZ_take (i := 7) (v := .int .i64 nu) rfl (by kernel_rfl) (by kernel_rfl) (by kernel_rfl) (by kernel_rfl) (fun _ _ _ h => h) (Or.inl ⟨by rfl, fun w hSw => by have f0 := (HQ6.out w hSw).1; go_simp⟩) hH ?_
        try simp only [Act.put, List.setIfInBounds_toArray, List.set_cons_zero, List.set_cons_succ, List.getElem_toArray, List.getElem_cons_succ, List.getElem_cons_zero]
        refine wpAnyZ_take (i := 8) (v := .pointer (some ⟨w.heap.size, 2, none⟩)) rfl (by kernel_rfl) (by kernel_rfl) (by kernel_rfl) (by kernel_rfl) (fun _ _ _ h => h) (Or.inl ⟨by rfl, fun w hSw => by go_simp⟩) hH ?_
        try simp only [Act.put, List.setIfInBounds_toArray, List.set_cons_zero, List.set_cons_succ, List.getElem_toArray, List.getElem_cons_succ, List.getElem_cons_zero]
        refine wpAnyZ_take (i := 9) (v := .int .i64 un) rfl (by kernel_rfl) (by kernel_rfl) (by kernel_rfl) (by kernel_rfl) (fun _ _ _ h => h) (Or.inl ⟨by rfl, fun w hSw => by have f0 := (HQ6.out w hSw).2.1; go_simp⟩) hH ?_
        try simp only [Act.put, List.setIfInBounds_toArray, List.set_cons_zero, List.set_cons_succ, List.getElem_toArray, List.getElem_cons_succ, List.getElem_cons_zero]
        refine wpAnyZ_take (i := 10) (v := .agg #[.int .i64 nu, .int .i64 un]) rfl (by kernel_rfl) (by kernel_rfl) (by kernel_rfl) (by kernel_rfl) (fun _ _ _ h => h) (Or.inl ⟨by rfl, fun w hSw => by go_simp⟩) hH ?_
        try simp only [Act.put, List.setIfInBounds_toArray, List.set_cons_zero, List.set_cons_succ, List.getElem_toArray, List.getElem_cons_succ, List.getElem_cons_zero]
        refine wpAnyZ_ready (rs := [11]) (by kernel_rfl) (by simp) ?_
        refine AllReadyZ.cons rfl (fun K hK => ?_) AllReadyZ.nil
        go_simp
        have h11 : Below w5.heap.size w5 (w5.alloc (Obj.cells #[.int .i64 nu, .int .i64 un] 67)).drew := chain (below_alloc _ _) (below_drew _)
        have hb11 : (w5.alloc (Obj.cells #[.int .i64 nu, .int .i64 un] 67)).drew.heap[w5.heap.size]? = some (.cells #[.int .i64 nu, .int .i64 un] 67 (0, 0)) := heapNew w5 _
        have hF11 : Fr (fun q => Value.ownBlock (.slice la σ.L.length lc) = some q) w5 (w5.alloc (Obj.cells #[.int .i64 nu, .int .i64 un] 67)).drew := Fr.of h11
        refine hK.out _ _ (Or.inr hF11) (fun _ => ?_)
        clear hK K
        try simp only [Act.put, List.setIfInBounds_toArray, List.set_cons_zero, List.set_cons_succ, List.getElem_toArray, List.getElem_cons_succ, List.getElem_cons_zero]
        generalize (w5.alloc (Obj.cells #[.int .i64 nu, .int .i64 un] 67)).drew = W6 at *
        have HR6 : Hid (W6.ownsRow B 67 2 (.slice la σ.L.length lc) σ.L.length (loCells σ.L) ∧ B ≤ W6.heap.size ∧ Below w.heap.size w W6) := ⟨row_of HC5.out.1.lots (fun q hq => h11.block q (row_lt HC5.out.1.lots q hq).2), by have := h11.size; have := HC5.out.2.2.1; omega, chain HC5.out.2.1 h11⟩
        refine wpAnyZ_ready (rs := [12]) (by kernel_rfl) (by simp) ?_
        refine AllReadyZ.cons rfl (fun K hK => ?_) AllReadyZ.nil
        refine step_append_lies _ rfl (.tmp 43) (.tmp 49) 25 rfl B 67 i0 (.agg #[.int .i64 0, .int .i64 0]) 2 16 Try.underlying25 hi hi0 hi1 hi2 rfl (by decide) (.slice la σ.L.length lc) _ _ (by simp [Act.eval]) HR6.out.1 ⟨w5.heap.size, 0, none⟩ 1 1 [.int .i64 nu, .int .i64 un] (by simp [Act.eval]) rfl (World.news_of_block hb11) (by simp [Value.oneCell']) (by omega) (by unfold maxLen; omega) (by omega) HR6.out.2.1 _ rfl (fun g1 cp1 w9 hown hgrow hat hglt => ?_)
        have hS9 : Fr (fun q => Value.ownBlock (.slice la σ.L.length lc) = some q) w5 w9 := hF11.trans (fr_grown hgrow)
        have her := ansA_earn (b := w.heap.size + 1) HM.out HT.out hB HR6.out.2.2 (by omega) (by have := h11.size; have := HC5.out.2.2.1; omega) ((h11.block _ (by have := HC5.out.2.2.1; omega)).trans HC5.out.2.2.2) hown hgrow (fun q hq => by
          have hq2 : g1 = q := by simpa [Value.ownBlock] using hq
          subst hq2
          rcases hat with r | r
          · exact .inl r
          · exact .inr (by omega))
        have HEr := HE _ _ her.2
        clear her hown hgrow hat hglt hb11 h11 HE
        refine hK.out _ _ (Or.inr hS9) (fun _ => ?_)
        clear hK K
        try simp only [Act.put, List.setIfInBounds_toArray, List.set_cons_zero, List.set_cons_succ, List.getElem_toArray, List.getElem_cons_succ, List.getElem_cons_zero]
        refine wpAnyZ_take (i := 13) (v := .pointer (some ⟨rb, 0, none⟩)) rfl (by kernel_rfl) (by kernel_rfl) (by kernel_rfl) (by kernel_rfl) (fun _ _ _ h => h) (Or.inl ⟨by rfl, fun w hSw => by go_simp⟩) hS9 ?_
        try simp only [Act.put, List.setIfInBounds_toArray, List.set_cons_zero, List.set_cons_succ, List.getElem_toArray, List.getElem_cons_succ, List.getElem_cons_zero]
        refine wpAnyZ_take (i := 14) (v := .pointer (some ⟨rb, 0, none⟩)) rfl (by kernel_rfl) (by kernel_rfl) (by kernel_rfl) (by kernel_rfl) (fun _ _ _ h => h) (Or.inl ⟨by rfl, fun w hSw => by go_simp⟩) hS9 ?_
        try simp only [Act.put, List.setIfInBounds_toArray, List.set_cons_zero, List.set_cons_succ, List.getElem_toArray, List.getElem_cons_succ, List.getElem_cons_zero]
        refine wpAnyZ_take (i := 15) (v := .pointer (some ⟨rb, 3, none⟩)) rfl (by kernel_rfl) (by kernel_rfl) (by kernel_rfl) (by kernel_rfl) (fun _ _ _ h => h) (Or.inl ⟨by rfl, fun w hSw => by go_simp⟩) hS9 ?_
        try simp only [Act.put, List.setIfInBounds_toArray, List.set_cons_zero, List.set_cons_succ, List.getElem_toArray, List.getElem_cons_succ, List.getElem_cons_zero]
        refine wpAnyZ_ready (rs := [16]) (by kernel_rfl) (by simp) ?_
        refine AllReadyZ.cons rfl (fun K hK => ?_) AllReadyZ.nil
        obtain ⟨y0, y1, y2, y3⟩ := HQ6.out w9 hS9
        go_simp
        refine hK.out _ _ (Or.inl rfl) (fun _ => ?_)
        clear hK K
        try simp only [Act.put, List.setIfInBounds_toArray, List.set_cons_zero, List.set_cons_succ, List.getElem_toArray, List.getElem_cons_succ, List.getElem_cons_zero]
        refine wpAnyZ_done (by kernel_rfl) ?_ _
        clear y0 y1 y2 y3 HQ6 hS9 hF11 hH
        generalize w9.setCell ⟨rb, 3, none⟩ (.slice (some ⟨g1, 0, none⟩) (σ.L.length + 1) cp1) = W9 at *
        go_wp2
        exact HEr
    · rw [decide_eq_false hU]
      refine wpAnyH_take (i := 13) (v := .bool true) rfl (by kernel_rfl) (by kernel_rfl) (by kernel_rfl) (fun _ _ _ h => h) (Or.inl ⟨by rfl, fun w hSw => by go_simp⟩) hw5 ?_
      try simp only [Act.put, List.setIfInBounds_toArray, List.set_cons_zero, List.set_cons_succ, List.getElem_toArray, List.getElem_cons_succ, List.getElem_cons_zero]
      refine wpAnyH_take (i := 14) (v := .bool true) rfl (by kernel_rfl) (by kernel_rfl) (by kernel_rfl) (fun _ _ _ h => h) (Or.inl ⟨by rfl, fun w hSw => by go_simp⟩) hw5 ?_
      try simp only [Act.put, List.setIfInBounds_toArray, List.set_cons_zero, List.set_cons_succ, List.getElem_toArray, List.getElem_cons_succ, List.getElem_cons_zero]
      refine wpAnyH_done (by kernel_rfl) ?_ _
      have HE := HQ5.out (.inr hU) w5 hw5
      clear hw5 hw3 hH HQ5 HQ0 HQ14 HC
      go_wp2
      exact HE
  · rw [decide_eq_false hA]
    refine wpAnyH_take (i := 3) (v := .bool true) rfl (by kernel_rfl) (by kernel_rfl) (by kernel_rfl) (fun _ _ _ h => h) (Or.inl ⟨by rfl, fun w hSw => by go_simp⟩) hw3 ?_
    try simp only [Act.put, List.setIfInBounds_toArray, List.set_cons_zero, List.set_cons_succ, List.getElem_toArray, List.getElem_cons_succ, List.getElem_cons_zero]
    refine wpAnyH_take (i := 4) (v := .bool true) rfl (by kernel_rfl) (by kernel_rfl) (by kernel_rfl) (fun _ _ _ h => h) (Or.inl ⟨by rfl, fun w hSw => by go_simp⟩) hw3 ?_
    try simp only [Act.put, List.setIfInBounds_toArray, List.set_cons_zero, List.set_cons_succ, List.getElem_toArray, List.getElem_cons_succ, List.getElem_cons_zero]
    refine wpAnyH_take (i := 5) (v := undef) rfl (by kernel_rfl) (by kernel_rfl) (by kernel_rfl) (fun _ _ _ h => h) (Or.inr ⟨by rfl, rfl⟩) hw3 ?_
    try simp only [Act.put, List.setIfInBounds_toArray, List.set_cons_zero, List.set_cons_succ, List.getElem_toArray, List.getElem_cons_succ, List.getElem_cons_zero]
    refine wpAnyH_take (i := 6) (v := undef) rfl (by kernel_rfl) (by kernel_rfl) (by kernel_rfl) (fun _ _ _ h => h) (Or.inr ⟨by rfl, rfl⟩) hw3 ?_
    try simp only [Act.put, List.setIfInBounds_toArray, List.set_cons_zero, List.set_cons_succ, List.getElem_toArray, List.getElem_cons_succ, List.getElem_cons_zero]
    refine wpAnyH_take (i := 7) (v := undef) rfl (by kernel_rfl) (by kernel_rfl) (by kernel_rfl) (fun _ _ _ h => h) (Or.inr ⟨by rfl, rfl⟩) hw3 ?_
    try simp only [Act.put, List.setIfInBounds_toArray, List.set_cons_zero, List.set_cons_succ, List.getElem_toArray, List.getElem_cons_succ, List.getElem_cons_zero]
    refine wpAnyH_take (i := 8) (v := undef) rfl (by kernel_rfl) (by kernel_rfl) (by kernel_rfl) (fun _ _ _ h => h) (Or.inr ⟨by rfl, rfl⟩) hw3 ?_
    try simp only [Act.put, List.setIfInBounds_toArray, List.set_cons_zero, List.set_cons_succ, List.getElem_toArray, List.getElem_cons_succ, List.getElem_cons_zero]
    refine wpAnyH_take (i := 9) (v := undef) rfl (by kernel_rfl) (by kernel_rfl) (by kernel_rfl) (fun _ _ _ h => h) (Or.inr ⟨by rfl, rfl⟩) hw3 ?_
    try simp only [Act.put, List.setIfInBounds_toArray, List.set_cons_zero, List.set_cons_succ, List.getElem_toArray, List.getElem_cons_succ, List.getElem_cons_zero]
    refine wpAnyH_take (i := 10) (v := undef) rfl (by kernel_rfl) (by kernel_rfl) (by kernel_rfl) (fun _ _ _ h => h) (Or.inr ⟨by rfl, rfl⟩) hw3 ?_
    try simp only [Act.put, List.setIfInBounds_toArray, List.set_cons_zero, List.set_cons_succ, List.getElem_toArray, List.getElem_cons_succ, List.getElem_cons_zero]
    refine wpAnyH_take (i := 11) (v := undef) rfl (by kernel_rfl) (by kernel_rfl) (by kernel_rfl) (fun _ _ _ h => h) (Or.inr ⟨by rfl, rfl⟩) hw3 ?_
    try simp only [Act.put, List.setIfInBounds_toArray, List.set_cons_zero, List.set_cons_succ, List.getElem_toArray, List.getElem_cons_succ, List.getElem_cons_zero]
    refine wpAnyH_take (i := 12) (v := undef) rfl (by kernel_rfl) (by kernel_rfl) (by kernel_rfl) (fun _ _ _ h => h) (Or.inr ⟨by rfl, rfl⟩) hw3 ?_
    try simp only [Act.put, List.setIfInBounds_toArray, List.set_cons_zero, List.set_cons_succ, List.getElem_toArray, List.getElem_cons_succ, List.getElem_cons_zero]
    refine wpAnyH_take (i := 13) (v := undef) rfl (by kernel_rfl) (by kernel_rfl) (by kernel_rfl) (fun _ _ _ h => h) (Or.inr ⟨by rfl, rfl⟩) hw3 ?_
    try simp only [Act.put, List.setIfInBounds_toArray, List.set_cons_zero, List.set_cons_succ, List.getElem_toArray, List.getElem_cons_succ, List.getElem_cons_zero]
    refine wpAnyH_take (i := 14) (v := .bool true) rfl (by kernel_rfl) (by kernel_rfl) (by kernel_rfl) (fun _ _ _ h => h) (Or.inl ⟨by rfl, fun w hSw => by go_simp⟩) hw3 ?_
    try simp only [Act.put, List.setIfInBounds_toArray, List.set_cons_zero, List.set_cons_succ, List.getElem_toArray, List.getElem_cons_succ, List.getElem_cons_zero]
    refine wpAnyH_done (by kernel_rfl) ?_ _
    have HE := HQ5.out (.inl hA) w3 hw3
    clear hw3 hH HQ5 HQ0 HQ14 HC
    go_wp2
    exact HE
end Go.Proofs.Ytodncihjenlnjaa
