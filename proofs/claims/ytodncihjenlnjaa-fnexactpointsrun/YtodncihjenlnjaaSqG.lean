/-
  The specification's act where a day goes by, and where points are earned.
-/
import Derived.Test.YtodncihjenlnjaaSqC
namespace Go.Proofs.Ytodncihjenlnjaa
open Go.ChangeShapes Go.WideShapes Go.ChangeAt Go.RowKit Go.Deep
set_option linter.unusedVariables false

theorem sg_list {W : World} {rb : Nat} {day sp ex : Int} {lv tv : Value} {B n : Nat} {v : Value} {xs : List Value} (h : SgIs W rb day sp ex lv tv) (hr : W.ownsRow B 25 1 v n xs) {q : Nat} (hq : v.ownBlock = some q) : q ≠ rb := fun e => by
  obtain ⟨cur, hc⟩ := row_type hr hq
  have h2 : W.heap[rb]? = _ := h
  rw [e, h2] at hc
  simp at hc
theorem ansA_sd {B rb k : Nat} {w w1 w' : World} {σ σ' : PSt} {lv tv v : Value} {vs : List Value} {b : Nat} (hM : SqM B rb k σ lv tv vs w) (hT : TI k σ) (hB : B ≤ w.heap.size) (hb : Below w.heap.size w w1)
    (hd : SdS w1 rb σ'.day σ'.sp σ'.ex v tv v σ'.L w') (hσ : σ'.T = σ.T) (hw : w.heap.size ≤ b) (hb1 : b < w1.heap.size) (hn : w1.heap[b]? = some (.cells #[] 67 (0, 0))) (hbr : b ≠ rb) : AnsA B rb k w (0, σ') (.returned (.tuple #[.int .i64 0, .slice (some ⟨b, 0, none⟩) 0 0])) w' := by
  have hM1 := hM.later hb
  have hlt : tq σ'.T k = [] := by rw [hσ]; exact hT.last
  have hkeep : ∀ q, q < w1.heap.size → q ≠ rb → w'.heap[q]? = w1.heap[q]? := fun q h1 h2 => hd.fr.block q h1 h2
  refine ⟨v, tv, vs, some ⟨b, 0, none⟩, 0, by dsimp only; rw [hlt]; rfl, ?_, ⟨hd.run, row_base hd.row (by have := hb.size; omega), row_of hM1.list (fun q hq => hkeep q (row_lt hM1.list q hq).2 (sg_list hM1.run hM1.list hq)), fun j u hu => ?_⟩, ?_, fun q hq => ?_⟩
  · exact ((Fr.of hb).trans (hd.fr)).mono (fun q hq => .inl hq)
  · rw [hσ]
    have hu1 := hM1.rows j u hu
    refine ⟨row_of hu1.1 (fun q hq => hkeep q (row_lt hu1.1 q hq).2 (sg_ne hM1.run hu1.1 hq)), fun q hq e => ?_⟩
    have := (row_lt hu1.1 q hq).2
    have := (row_lt hd.row q e).1
    omega
  · dsimp only; rw [hlt]; exact noneRow B w' b (by omega) ((hkeep b hb1 hbr).trans hn)
  · dsimp only at hq
    have e2 : b = q := by simpa [Value.ownBlock] using hq
    intro e
    have := (row_lt hd.row q e).1
    omega
set_option maxHeartbeats 8000000 in
theorem actS_day (B rb k : Nat) (σ : PSt) (hok : PsOk k σ) (hk : k ≤ 200) (hT : TI k σ) (lv tv : Value) (vs : List Value) (nu un : Int) (w : World) (hB : B ≤ w.heap.size) (hM : SqM B rb k σ lv tv vs w) :
    Calls Try.prog 16 #[.pointer (some ⟨rb, 0, none⟩), .agg #[.int .i64 3, .int .i64 nu, .int .i64 un]] w (AnsA B rb k w (stDay nu σ)) := by
  obtain ⟨Q, hQ⟩ : ∃ Q, Q = AnsA B rb k w (stDay nu σ) := ⟨_, rfl⟩
  obtain ⟨W2, hW2⟩ : ∃ W2, W2 = (w.alloc (Obj.cells #[.int .i64 3, .int .i64 nu, .int .i64 un] 46)).alloc (Obj.cells #[] 67) := ⟨_, rfl⟩
  obtain ⟨hz2, hb2, hc2⟩ := actBox w 3 nu un W2 hW2
  obtain ⟨la, lc, rfl⟩ := row_slice hM.lots
  have hrl := hM.run.lt
  have HC : Hid (∀ W, Below W2.heap.size W2 W → (W.cell? ⟨w.heap.size, 0, none⟩ = some (.int .i64 3) ∧ W.cell? ⟨w.heap.size, 1, none⟩ = some (.int .i64 nu) ∧ W.cell? ⟨w.heap.size, 2, none⟩ = some (.int .i64 un) ∧ W.heap[w.heap.size + 1]? = some (.cells #[] 67 (0, 0)) ∧ Below w.heap.size w W) ∧ SqM B rb k σ (.slice la σ.L.length lc) tv vs W) := fun W hW => ⟨hc2 W hW, hM.later (hc2 W hW).2.2.2.2⟩
  have HQ5 : Hid (¬ (σ.day ≤ nu ∧ nu ≤ 100000) → ∀ W, Below W2.heap.size W2 W → Q (.returned (.tuple #[.int .i64 5, .slice (some ⟨w.heap.size + 1, 0, none⟩) 0 0])) W) := fun h W hW => by
    rw [hQ]; unfold stDay; rw [if_pos h]
    exact ansA_same hM hT hB (hc2 W hW).2.2.2.2 (by omega) (hc2 W hW).2.2.2.1
  have HQ0 : Hid ((σ.day ≤ nu ∧ nu ≤ 100000) → ∀ W, Below W2.heap.size W2 W → ∀ w' v, SdS W rb nu σ.sp (σ.ex + (sumP σ.L - sumP (keptL nu σ.L))) v tv v (keptL nu σ.L) w' → Q (.returned (.tuple #[.int .i64 0, .slice (some ⟨w.heap.size + 1, 0, none⟩) 0 0])) w') := fun h W hW w' v hd => by
    rw [hQ]; unfold stDay; rw [if_neg (by simpa using h)]
    exact ansA_sd hM hT hB (hc2 W hW).2.2.2.2 hd rfl (by omega) (by have := hW.size; omega) (hc2 W hW).2.2.2.1 (by omega)
  have hx1 := hok.ex1
  have hx2 := hok.ex2
  have HDay : Hid (∀ W, Below W2.heap.size W2 W → Calls Try.prog 28 #[.pointer (some ⟨rb, 0, none⟩), .int .i64 nu] W fun e w' => e = .returned (.tuple #[]) ∧ ∃ v, SdS W rb nu σ.sp (σ.ex + (sumP σ.L - sumP (keptL nu σ.L))) v tv v (keptL nu σ.L) w') := fun W hW => dayS_any B rb σ.day σ.sp σ.ex la lc tv σ.L hok.len hok.lot nu hx1 (by omega) W (HC.out W hW).2.run (HC.out W hW).2.lots
  rw [← hQ]
  have c0 := (hc2 W2 (Below.refl _ _)).1
  clear hM hT hQ hc2 hok
  go_enter Try.func16, Try.ntmps16
  rw [hW2] at c0
  go_wp2_with fail
  rw [← hW2] at c0 ⊢
  clear c0 hW2
  refine wp_region_held_drew (S := fun W => Below W2.heap.size W2 W) (by kernel_rfl) (below_drew _) (fun hH => ?_)
  refine wpAnyH_take (i := 0) (v := .pointer (some ⟨w.heap.size, 1, none⟩)) rfl (by kernel_rfl) (by kernel_rfl) (by kernel_rfl) (fun _ _ _ h => h) (Or.inl ⟨by rfl, fun w hSw => by go_simp⟩) hH ?_
  refine wpAnyH_take (i := 1) (v := .int .i64 nu) rfl (by kernel_rfl) (by kernel_rfl) (by kernel_rfl) (fun _ _ _ h => h) (Or.inl ⟨by rfl, fun w hSw => by have f0 := (HC.out w hSw).1.2.1; go_simp⟩) hH ?_
  try simp only [Act.put, List.setIfInBounds_toArray, List.set_cons_zero, List.set_cons_succ, List.getElem_toArray, List.getElem_cons_succ, List.getElem_cons_zero]
  refine wpAnyH_take (i := 2) (v := .pointer (some ⟨rb, 0, none⟩)) rfl (by kernel_rfl) (by kernel_rfl) (by kernel_rfl) (fun _ _ _ h => h) (Or.inl ⟨by rfl, fun w hSw => by go_simp⟩) hH ?_
  try simp only [Act.put, List.setIfInBounds_toArray, List.set_cons_zero, List.set_cons_succ, List.getElem_toArray, List.getElem_cons_succ, List.getElem_cons_zero]
  refine wpAnyH_take (i := 3) (v := .pointer (some ⟨rb, 0, none⟩)) rfl (by kernel_rfl) (by kernel_rfl) (by kernel_rfl) (fun _ _ _ h => h) (Or.inl ⟨by rfl, fun w hSw => by go_simp⟩) hH ?_
  try simp only [Act.put, List.setIfInBounds_toArray, List.set_cons_zero, List.set_cons_succ, List.getElem_toArray, List.getElem_cons_succ, List.getElem_cons_zero]
  refine wpAnyH_take (i := 4) (v := .pointer (some ⟨rb, 0, none⟩)) rfl (by kernel_rfl) (by kernel_rfl) (by kernel_rfl) (fun _ _ _ h => h) (Or.inl ⟨by rfl, fun w hSw => by go_simp⟩) hH ?_
  try simp only [Act.put, List.setIfInBounds_toArray, List.set_cons_zero, List.set_cons_succ, List.getElem_toArray, List.getElem_cons_succ, List.getElem_cons_zero]
  refine wpAnyH_take (i := 5) (v := .pointer (some ⟨rb, 0, none⟩)) rfl (by kernel_rfl) (by kernel_rfl) (by kernel_rfl) (fun _ _ _ h => h) (Or.inl ⟨by rfl, fun w hSw => by go_simp⟩) hH ?_
  try simp only [Act.put, List.setIfInBounds_toArray, List.set_cons_zero, List.set_cons_succ, List.getElem_toArray, List.getElem_cons_succ, List.getElem_cons_zero]
  refine wpAnyH_take (i := 6) (v := .int .i64 σ.day) rfl (by kernel_rfl) (by kernel_rfl) (by kernel_rfl) (fun _ _ _ h => h) (Or.inl ⟨by rfl, fun w hSw => by have f0 := (HC.out w hSw).2.run.cells.1; go_simp⟩) hH ?_
  try simp only [Act.put, List.setIfInBounds_toArray, List.set_cons_zero, List.set_cons_succ, List.getElem_toArray, List.getElem_cons_succ, List.getElem_cons_zero]
  refine wpAnyH_ready (rs := [7]) (by kernel_rfl) (by simp) ?_
  refine AllReadyH.cons rfl (fun K hK => ?_) AllReadyH.nil
  go_simp
  go_at_call 26
  refine (inS_any nu σ.day 100000 _).mono ?_
  rintro e w3 ⟨rfl, hb3⟩
  have hw3 : Below W2.heap.size W2 w3 := by rw [hb3]; exact hH
  clear hb3
  refine hK.out _ _ hw3 (fun _ => ?_)
  clear hK K
  try simp only [Act.put, List.setIfInBounds_toArray, List.set_cons_zero, List.set_cons_succ, List.getElem_toArray, List.getElem_cons_succ, List.getElem_cons_zero]
  by_cases hA : σ.day ≤ nu ∧ nu ≤ 100000
  · rw [decide_eq_true hA]
    refine wpAnyH_take (i := 8) (v := .bool false) rfl (by kernel_rfl) (by kernel_rfl) (by kernel_rfl) (fun _ _ _ h => h) (Or.inl ⟨by rfl, fun w hSw => by go_simp⟩) hw3 ?_
    try simp only [Act.put, List.setIfInBounds_toArray, List.set_cons_zero, List.set_cons_succ, List.getElem_toArray, List.getElem_cons_succ, List.getElem_cons_zero]
    refine wpAnyH_done (by kernel_rfl) ?_ _
    have f1 := (HC.out w3 hw3).1.2.1
    have H3 : Hid (Below W2.heap.size W2 w3) := hw3
    clear hw3 hH
    go_wp2_with fail
    (first | go_at_call 28 | skip)
    refine (HDay.out w3 H3.out).mono ?_
    rintro e w4 ⟨rfl, v, hd⟩
    have HE := HQ0.out hA w3 H3.out w4 v hd
    clear hd HDay HQ5 HQ0 HC
    go_wp2
    exact HE
  · rw [decide_eq_false hA]
    refine wpAnyH_take (i := 8) (v := .bool true) rfl (by kernel_rfl) (by kernel_rfl) (by kernel_rfl) (fun _ _ _ h => h) (Or.inl ⟨by rfl, fun w hSw => by go_simp⟩) hw3 ?_
    try simp only [Act.put, List.setIfInBounds_toArray, List.set_cons_zero, List.set_cons_succ, List.getElem_toArray, List.getElem_cons_succ, List.getElem_cons_zero]
    refine wpAnyH_done (by kernel_rfl) ?_ _
    have HE := HQ5.out hA w3 hw3
    clear hw3 hH HDay HQ5 HQ0 HC
    go_wp2
    exact HE
end Go.Proofs.Ytodncihjenlnjaa
