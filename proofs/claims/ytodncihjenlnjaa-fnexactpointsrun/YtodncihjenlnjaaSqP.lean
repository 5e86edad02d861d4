/-
  The specification's act where points are spent.
-/
import Derived.Test.YtodncihjenlnjaaSqG
namespace Go.Proofs.Ytodncihjenlnjaa
open Go.ChangeShapes Go.WideShapes Go.ChangeAt Go.RowKit Go.Deep
set_option linter.unusedVariables false

theorem list_lotsP {W : World} {B B' n n' : Nat} {v v' : Value} {xs xs' : List Value} (h : W.ownsRow B 25 1 v n xs) (h' : W.ownsRow B' 67 2 v' n' xs') {q : Nat} (hq : v.ownBlock = some q) : v'.ownBlock ≠ some q := fun e => by
  obtain ⟨c1, h1⟩ := row_type h hq
  obtain ⟨c2, h2⟩ := row_type h' e
  rw [h1] at h2
  simp at h2
theorem ansA_spend {B rb k : Nat} {w W w' : World} {σ : PSt} {lv0 lv tv : Value} {vs : List Value} {m : Int} {oa : Option Addr} {oc : Nat} (hM : SqM B rb k σ lv0 tv vs w) (hT : TI k σ) (hB : B ≤ w.heap.size) (hb : Below w.heap.size w W)
    (hd : TqS W B rb σ.day (σ.sp + m) σ.ex lv0 lv tv (spL m σ.L) (.slice oa (spO m σ.L).length oc) (spO m σ.L) w') :
    AnsA B rb k w (0, { σ with sp := σ.sp + m, L := spL m σ.L, T := fun c => if c = (k : Int) then some (spO m σ.L) else σ.T c }) (.returned (.tuple #[.int .i64 0, .slice oa (spO m σ.L).length oc])) w' := by
  have hM1 := hM.later hb
  have hsz := hb.size
  have hlen : vs.length = k := by have := hM.list.1; omega
  have hk : tq (fun c => if c = (k : Int) then some (spO m σ.L) else σ.T c) k = spO m σ.L := by unfold tq; dsimp only; rw [if_pos rfl]; rfl
  have hkeep : ∀ q, q < W.heap.size → q ≠ rb → lv0.ownBlock ≠ some q → w'.heap[q]? = W.heap[q]? := fun q h1 h2 h3 => hd.fr.block q h1 (by rintro (r | r); exact h2 r; exact h3 r)
  refine ⟨lv, tv, vs, oa, oc, by dsimp only; rw [hk], ?_, ⟨hd.run, hd.lots, row_of hM1.list (fun q hq => hkeep q (row_lt hM1.list q hq).2 (sg_list hM1.run hM1.list hq) (list_lotsP hM1.list hM1.lots hq)), fun j u hu => ?_⟩, ?_, fun q hq => ?_⟩
  · refine ((Fr.of hb).trans hd.fr).mono (fun q hq => ?_)
    rcases hq with r | r
    · exact .inl r
    · exact .inr (.inl ⟨(row_lt hM.lots q r).1, row_type hM.lots r⟩)
  · have hj : j < k := by rw [← hlen]; exact (List.getElem?_eq_some_iff.1 hu).1
    have hq2 : tq (fun c => if c = (k : Int) then some (spO m σ.L) else σ.T c) j = tq σ.T j := by unfold tq; dsimp only; rw [if_neg (by omega)]
    dsimp only
    rw [hq2]
    have hu1 := hM1.rows j u hu
    refine ⟨row_of hu1.1 (fun q hq => hkeep q (row_lt hu1.1 q hq).2 (sg_ne hM1.run hu1.1 hq) (hu1.2 q hq)), fun q hq e => ?_⟩
    rcases hd.loc q e with r | r
    · exact hu1.2 q hq r
    · have := (row_lt hu1.1 q hq).2; omega
  · dsimp only; rw [hk]; exact row_base hd.out (by omega)
  · dsimp only at hq
    rw [hk] at hq
    exact fun e => hd.apart q e hq
set_option maxHeartbeats 8000000 in
set_option maxRecDepth 8000 in
theorem actS_spend (B rb k : Nat) (σ : PSt) (hok : PsOk k σ) (hk : k ≤ 200) (hT : TI k σ) (lv tv : Value) (vs : List Value) (nu un : Int) (w : World) (hB : B ≤ w.heap.size) (hM : SqM B rb k σ lv tv vs w) :
    Calls Try.prog 16 #[.pointer (some ⟨rb, 0, none⟩), .agg #[.int .i64 2, .int .i64 nu, .int .i64 un]] w (AnsA B rb k w (stSpend nu (k : Int) σ)) := by
  obtain ⟨Q, hQ⟩ : ∃ Q, Q = AnsA B rb k w (stSpend nu (k : Int) σ) := ⟨_, rfl⟩
  obtain ⟨W2, hW2⟩ : ∃ W2, W2 = (w.alloc (Obj.cells #[.int .i64 2, .int .i64 nu, .int .i64 un] 46)).alloc (Obj.cells #[] 67) := ⟨_, rfl⟩
  obtain ⟨hz2, hb2, hc2⟩ := actBox w 2 nu un W2 hW2
  obtain ⟨la, lc, rfl⟩ := row_slice hM.lots
  have hrl := hM.run.lt
  have hs1 := hok.sp1
  have hs2 := hok.sp2
  have HC : Hid (∀ W, Below W2.heap.size W2 W → (W.cell? ⟨w.heap.size, 0, none⟩ = some (.int .i64 2) ∧ W.cell? ⟨w.heap.size, 1, none⟩ = some (.int .i64 nu) ∧ W.cell? ⟨w.heap.size, 2, none⟩ = some (.int .i64 un) ∧ W.heap[w.heap.size + 1]? = some (.cells #[] 67 (0, 0)) ∧ Below w.heap.size w W) ∧ SqM B rb k σ (.slice la σ.L.length lc) tv vs W) := fun W hW => ⟨hc2 W hW, hM.later (hc2 W hW).2.2.2.2⟩
  have HQ5 : Hid (nu < 1 → ∀ W, Below W2.heap.size W2 W → Q (.returned (.tuple #[.int .i64 5, .slice (some ⟨w.heap.size + 1, 0, none⟩) 0 0])) W) := fun h W hW => by
    rw [hQ]; unfold stSpend; rw [if_pos h]
    exact ansA_same hM hT hB (hc2 W hW).2.2.2.2 (by omega) (hc2 W hW).2.2.2.1
  have HQ19 : Hid (¬ nu < 1 → sumP σ.L < nu → ∀ W, Below W2.heap.size W2 W → Q (.returned (.tuple #[.int .i64 19, .slice (some ⟨w.heap.size + 1, 0, none⟩) 0 0])) W) := fun h h' W hW => by
    rw [hQ]; unfold stSpend; rw [if_neg h, if_pos h']
    exact ansA_same hM hT hB (hc2 W hW).2.2.2.2 (by omega) (hc2 W hW).2.2.2.1
  have HTk : Hid (¬ nu < 1 → ¬ sumP σ.L < nu → ∀ W, Below W2.heap.size W2 W → Calls Try.prog 27 #[.pointer (some ⟨rb, 0, none⟩), .int .i64 nu] W fun e w' => ∃ oa n oc, e = .returned (.slice oa n oc) ∧ Q (.returned (.tuple #[.int .i64 0, .slice oa n oc])) w') := fun h h' W hW => by
    have hbW := (hc2 W hW).2.2.2.2
    have hMW := hM.later hbW
    refine (takeS_any B rb σ.day σ.sp σ.ex _ tv σ.L hok.len hok.lot nu (by omega) (by omega) (by omega) (by omega) W (by have := hbW.size; omega) hMW.run hMW.lots).mono ?_
    rintro e w' ⟨oa, oc, lv, rfl, hd⟩
    refine ⟨oa, _, oc, rfl, ?_⟩
    rw [hQ]; unfold stSpend; rw [if_neg h, if_neg h']
    exact ansA_spend hM hT hB hbW hd
  have HLf : Hid (∀ W, Below W2.heap.size W2 W → Calls Try.prog 17 #[.agg #[.int .i64 σ.day, .int .i64 σ.sp, .int .i64 σ.ex, .slice la σ.L.length lc]] W fun e w' => e = .returned (.int .i64 (sumP σ.L)) ∧ Below W.heap.size W w') := fun W hW => leftS_any σ.day σ.sp σ.ex la lc σ.L (by have := hok.len; omega) hok.lot W (lo_reads (HC.out W hW).2.lots)
  rw [← hQ]
  have hsb := hok.sum
  have c0 := (hc2 W2 (Below.refl _ _)).1
  have c1 := (hc2 W2 (Below.refl _ _)).2.1
  clear hM hT hQ hc2 hok
  go_enter Try.func16, Try.ntmps16
  rw [hW2] at c0 c1
  by_cases hA : nu < 1
  · have HE := HQ5.out hA W2 (Below.refl _ _)
    rw [hW2] at HE
    clear HQ5 HQ19 HTk HLf HC
    go_wp2
    exact HE
  · go_wp2_with fail
    rw [← hW2] at c0 c1 ⊢
    clear c0 c1 hW2 HQ5
    refine wp_region_held_drew (S := fun W => Below W2.heap.size W2 W) (by kernel_rfl) (below_drew _) (fun hH => ?_)
    refine wpAnyH_take (i := 0) (v := .pointer (some ⟨w.heap.size, 1, none⟩)) rfl (by kernel_rfl) (by kernel_rfl) (by kernel_rfl) (fun _ _ _ h => h) (Or.inl ⟨by rfl, fun w hSw => by go_simp⟩) hH ?_
    refine wpAnyH_take (i := 1) (v := .int .i64 nu) rfl (by kernel_rfl) (by kernel_rfl) (by kernel_rfl) (fun _ _ _ h => h) (Or.inl ⟨by rfl, fun w hSw => by have f0 := (HC.out w hSw).1.2.1; go_simp⟩) hH ?_
    try simp only [Act.put, List.setIfInBounds_toArray, List.set_cons_zero, List.set_cons_succ, List.getElem_toArray, List.getElem_cons_succ, List.getElem_cons_zero]
    refine wpAnyH_take (i := 2) (v := .pointer (some ⟨rb, 0, none⟩)) rfl (by kernel_rfl) (by kernel_rfl) (by kernel_rfl) (fun _ _ _ h => h) (Or.inl ⟨by rfl, fun w hSw => by go_simp⟩) hH ?_
    try simp only [Act.put, List.setIfInBounds_toArray, List.set_cons_zero, List.set_cons_succ, List.getElem_toArray, List.getElem_cons_succ, List.getElem_cons_zero]
    refine wpAnyH_take (i := 3) (v := .pointer (some ⟨rb, 0, none⟩)) rfl (by kernel_rfl) (by kernel_rfl) (by kernel_rfl) (fun _ _ _ h => h) (Or.inl ⟨by rfl, fun w hSw => by go_simp⟩) hH ?_
    try simp only [Act.put, List.setIfInBounds_toArray, List.set_cons_zero, List.set_cons_succ, List.getElem_toArray, List.getElem_cons_succ, List.getElem_cons_zero]
    refine wpAnyH_take (i := 4) (v := .pointer (some ⟨rb, 0, none⟩)) rfl (by kernel_rfl) (by kernel_rfl) (by kernel_rfl) (fun _ _ _ h => h) (Or.inl ⟨by rfl, fun w hSw => by go_simp⟩) hH ?_
    try simp only [Act.put, List.setIfInBounds_toArray, List.set_cons_zero, List.set_cons_succ, List.getElem_toArray, List.getElem_cons_succ, List.getElem_cons_zero]
    refine wpAnyH_take (i := 5) (v := .agg #[.int .i64 σ.day, .int .i64 σ.sp, .int .i64 σ.ex, .slice la σ.L.length lc]) rfl (by kernel_rfl) (by kernel_rfl) (by kernel_rfl) (fun _ _ _ h => h) (Or.inl ⟨by rfl, fun w hSw => by have f0 := (HC.out w hSw).2.run.cells.1; have f1 := (HC.out w hSw).2.run.cells.2.1; have f2 := (HC.out w hSw).2.run.cells.2.2.1; have f3 := (HC.out w hSw).2.run.cells.2.2.2.1; go_simp⟩) hH ?_
    try simp only [Act.put, List.setIfInBounds_toArray, List.set_cons_zero, List.set_cons_succ, List.getElem_toArray, List.getElem_cons_succ, List.getElem_cons_zero]
    refine wpAnyH_ready (rs := [6]) (by kernel_rfl) (by simp) ?_
    refine AllReadyH.cons rfl (fun K hK => ?_) AllReadyH.nil
    go_simp
    go_at_call 17
    refine (HLf.out _ hH).mono ?_
    rintro e w3 ⟨rfl, hb3⟩
    have hw3 : Below W2.heap.size W2 w3 := chain hH hb3
    clear hb3
    refine hK.out _ _ hw3 (fun _ => ?_)
    clear hK K
    try simp only [Act.put, List.setIfInBounds_toArray, List.set_cons_zero, List.set_cons_succ, List.getElem_toArray, List.getElem_cons_succ, List.getElem_cons_zero]
    have f1 := (HC.out w3 hw3).1.2.1
    by_cases hS : sumP σ.L < nu
    · skip
      refine wpAnyH_take (i := 7) (v := .bool true) rfl (by kernel_rfl) (by kernel_rfl) (by kernel_rfl) (fun _ _ _ h => h) (Or.inl ⟨by rfl, fun w hSw => by go_simp⟩) hw3 ?_
      try simp only [Act.put, List.setIfInBounds_toArray, List.set_cons_zero, List.set_cons_succ, List.getElem_toArray, List.getElem_cons_succ, List.getElem_cons_zero]
      refine wpAnyH_done (by kernel_rfl) ?_ _
      have HE := HQ19.out (by omega) (by omega) w3 hw3
      clear hw3 hH HQ19 HTk HLf HC f1
      go_wp2
      exact HE
    · skip
      refine wpAnyH_take (i := 7) (v := .bool false) rfl (by kernel_rfl) (by kernel_rfl) (by kernel_rfl) (fun _ _ _ h => h) (Or.inl ⟨by rfl, fun w hSw => by go_simp⟩) hw3 ?_
      try simp only [Act.put, List.setIfInBounds_toArray, List.set_cons_zero, List.set_cons_succ, List.getElem_toArray, List.getElem_cons_succ, List.getElem_cons_zero]
      refine wpAnyH_done (by kernel_rfl) ?_ _
      have HT3 := HTk.out (by omega) (by omega) w3 hw3
      clear hw3 hH HQ19 HTk HLf HC
      go_wp2_with fail
      (first | go_at_call 27 | skip)
      refine HT3.mono ?_
      rintro e w4 ⟨oa, n, oc, rfl, HE⟩
      clear f1 HT3
      go_wp2
      exact HE
end Go.Proofs.Ytodncihjenlnjaa
