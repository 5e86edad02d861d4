/-
  What ReadSegments tells is small; its list as the laws' helpers read it.
-/
import Derived.Test.YtjnlghngneonhaaScY
import Derived.Test.YtjnlghngneonhaaSgM
import Derived.Test.YtjnlghngneonhaaSgF
namespace Go.Proofs.Ytjnlghngneonhaa
open Go.ChangeShapes Go.WideShapes Go.ChangeAt Go.RowKit Go.Joins Go.Deep
set_option linter.unusedVariables false

theorem txL_size (L : List Int) : (txL L).size = L.length := by
  unfold txL
  have key : ∀ (L : List Int) (r : ByteArray), (L.foldl (fun r n => r.push (UInt8.ofNat n.toNat)) r).size = r.size + L.length := by
    intro L
    induction L with
    | nil => intro r; simp
    | cons a L ih => intro r; rw [List.foldl_cons, ih, ByteArray.size_push, List.length_cons]; omega
  rw [key]; simp
def SmC (c : CSg) : Prop := c.nm.size ≤ 65536 ∧ c.ps.length ≤ 20 ∧ ∀ s ∈ c.ps, s.size ≤ 80
structure SmS (s : RdS) : Prop where
  out : ∀ c ∈ s.out, SmC c
  o1 : s.out.length ≤ 200
  o2 : s.lb ≠ 0 → s.out.length ≤ 199
  tag : s.tag.size ≤ 65536
  p1 : s.ps.length ≤ 20
  p2 : s.lb ≠ 0 → s.lb ≠ 1 → s.ps.length ≤ 19
  ps : ∀ x ∈ s.ps, x.size ≤ 80
  pt : s.pt.length ≤ 80
def SmR (r : Int × Nat × List CSg) : Prop := (∀ c ∈ r.2.2, SmC c) ∧ r.2.2.length ≤ 200
theorem SmR.none' (c : Int) (p : Nat) : SmR (c, p, []) := ⟨fun c hc => (by cases hc), by simp⟩
theorem step_sm {t : ByteArray} (ht : t.size ≤ 65536) {s : RdS} (h : SmS s) : (∀ r, rdStep t s = .inl r → SmR r) ∧ ∀ s', rdStep t s = .inr s' → SmS s' := by
  obtain ⟨lb, pl, out, tag, ps, pt⟩ := s
  obtain ⟨h1, h2, h3, h4, h5, h6, h7, h8⟩ := h
  dsimp only at *
  unfold rdStep
  dsimp only
  refine ⟨fun r hr => ?_, fun s' hs => ?_⟩
  · repeat' split at hr
    all_goals first
      | (cases hr; done)
      | (injection hr with hr; subst hr; first | exact SmR.none' _ _ | exact ⟨h1, h2⟩)
  · by_cases l0 : lb = 0
    · rw [if_pos l0] at hs
      split at hs
      · cases hs
      · split at hs
        · cases hs
        · split at hs
          · cases hs
          · injection hs with hs
            subst hs
            exact ⟨h1, h2, fun _ => by dsimp only; omega, by dsimp only; rw [ByteArray.size_extract]; omega, by simp, fun _ e => absurd rfl e, fun x hx => (by cases hx), by simp⟩
    · rw [if_neg l0] at hs
      by_cases l1 : lb = 1
      · rw [if_pos l1] at hs
        split at hs
        · injection hs with hs
          subst hs
          refine ⟨fun c hc => ?_, by dsimp only; rw [List.length_append]; have := h3 l0; simp; omega, fun e => absurd rfl e, h4, h5, fun e => absurd rfl e, h7, by simp⟩
          rcases List.mem_append.1 hc with hc | hc
          · exact h1 c hc
          · rw [List.mem_singleton] at hc
            subst hc
            exact ⟨h4, h5, h7⟩
        · split at hs
          · split at hs
            · cases hs
            · injection hs with hs
              subst hs
              exact ⟨h1, h2, fun _ => h3 l0, h4, h5, fun _ _ => by dsimp only; omega, h7, by simp⟩
          · cases hs
      · rw [if_neg l1] at hs
        have h6' := h6 l0 l1
        have h3' := h3 l0
        split at hs
        · cases hs
        · split at hs
          · injection hs with hs
            subst hs
            refine ⟨h1, h2, fun _ => h3', h4, by dsimp only; rw [List.length_append]; simp; omega, fun _ e => absurd rfl e, fun x hx => ?_, by simp⟩
            rcases List.mem_append.1 hx with hx | hx
            · exact h7 x hx
            · rw [List.mem_singleton] at hx
              subst hx
              rw [txL_size]; exact h8
          · split at hs
            · split at hs
              · cases hs
              · split at hs
                · cases hs
                · injection hs with hs
                  subst hs
                  exact ⟨h1, h2, fun _ => h3', h4, h5, fun _ _ => h6', h7, by dsimp only; rw [List.length_append]; simp; omega⟩
            · split at hs
              · cases hs
              · injection hs with hs
                subst hs
                exact ⟨h1, h2, fun _ => h3', h4, h5, fun _ _ => h6', h7, by dsimp only; rw [List.length_append]; simp; omega⟩
theorem run_sm {t : ByteArray} (ht : t.size ≤ 65536) : ∀ (n : Nat) (s : RdS), SmS s → SmR (rdRun t n s) := by
  intro n
  induction n with
  | zero => intro s _; exact SmR.none' _ _
  | succ n ih =>
    intro s h
    unfold rdRun
    have k := step_sm ht h
    cases hs : rdStep t s with
    | inl r => exact k.1 r hs
    | inr s' => exact ih s' (k.2 s' hs)
theorem rsg_sm (t : ByteArray) : SmR (rsgR t) := by
  rcases sz_ways t with ⟨_, e⟩ | ⟨h, e⟩
  · rw [e]; exact SmR.none' _ _
  · rw [e]
    exact run_sm h _ _ ⟨fun c hc => (by cases hc), by simp, fun _ => by simp, by simp, by simp, fun _ _ => by simp, fun x hx => (by cases hx), by simp⟩
def zE : SgE := ⟨zSg, none, 0⟩
theorem sgV_at : ∀ (E : List SgE) (i : Nat), i < E.length → (sgV E)[i * 2]? = some (.string (E.getD i zE).c.nm) ∧ (sgV E)[i * 2 + 1]? = some (E.getD i zE).row
  | [], i, h => by simp at h
  | e :: E, 0, _ => ⟨rfl, rfl⟩
  | e :: E, i + 1, h => by
    have k := sgV_at E i (by simpa using h)
    have e0 : sgV (e :: E) = .string e.c.nm :: e.row :: sgV E := rfl
    rw [e0, show (i + 1) * 2 = i * 2 + 1 + 1 by omega, show i * 2 + 1 + 1 + 1 = (i * 2 + 1) + 1 + 1 by omega]
    simp only [List.getElem?_cons_succ, List.getD_cons_succ]
    exact k
def fSg (E : List SgE) (j : Nat) : Value := if j % 2 = 0 then .string (E.getD (j / 2) zE).c.nm else (E.getD (j / 2) zE).row
theorem sgV_mk (E : List SgE) : sgV E = mkA (fSg E) (E.length * 2) := by
  apply List.ext_getElem?
  intro j
  by_cases hj : j < E.length * 2
  · rw [mkA_get _ _ j hj]
    have k := sgV_at E (j / 2) (by omega)
    unfold fSg
    by_cases e : j % 2 = 0
    · rw [if_pos e, ← k.1, show j / 2 * 2 = j by omega]
    · rw [if_neg e, ← k.2, show j / 2 * 2 + 1 = j by omega]
  · rw [List.getElem?_eq_none (by rw [sgV_len]; omega), List.getElem?_eq_none (by rw [mkA_length]; omega)]
theorem getE_mem {E : List SgE} {i : Nat} (h : i < E.length) : E.getD i zE ∈ E := by
  have e : E.getD i zE = E[i] := by simp [List.getD_eq_getElem?_getD, h]
  rw [e]; exact List.getElem_mem _
theorem getE_map {E : List SgE} {i : Nat} (h : i < E.length) : (E.map (·.c)).getD i zSg = (E.getD i zE).c := by
  simp [List.getD_eq_getElem?_getD, h]
theorem row_cap {w : World} {B : Nat} {e : TypeId} {k : Nat} {a : Option Addr} {n m c : Nat} {xs : List Value} (h : w.ownsRow B e k (.slice a m c) n xs) : n ≤ c := by
  rcases h.2 with ⟨q, h2⟩ | ⟨g, cap, cur, q, hB, hg, hc, r⟩
  · omega
  · simp at q; omega
theorem row_reads {W : World} {B : Nat} {a : Option Addr} {k : Nat} {ps : List ByteArray} (h : W.ownsRow B 9 1 (.slice a ps.length k) ps.length (strV ps)) : ReadsS W.heap.size W a ps := by
  rcases Nat.eq_zero_or_pos ps.length with h0 | h0
  · exact .inl (List.length_eq_zero_iff.1 h0)
  · obtain ⟨g, cp, hq⟩ := row_some h h0
    simp only [Value.slice.injEq, true_and] at hq
    obtain ⟨rfl, rfl⟩ := hq
    refine .inr ⟨g, 0, rfl, (row_lt h g rfl).2, fun i hi => ?_⟩
    rw [Nat.zero_add, h.cellAt i (by omega)]
    simp [strV, List.getD_eq_getElem?_getD, hi]
theorem SpR.reads {B : Nat} {E : List SgE} {la : Option Addr} {lk : Nat} {W : World} (h : SpR B E la lk W) : ReadsSg W.heap.size W la (E.map (·.c)) := by
  rcases Nat.eq_zero_or_pos E.length with h0 | h0
  · exact .inl (by rw [List.length_eq_zero_iff.1 h0]; rfl)
  · obtain ⟨g, cp, hq⟩ := row_some h.rowL h0
    simp only [Value.slice.injEq, true_and] at hq
    obtain ⟨rfl, rfl⟩ := hq
    refine .inr ⟨g, 0, rfl, (row_lt h.rowL g rfl).2, fun i hi => ?_⟩
    rw [List.length_map] at hi
    have k := sgV_at E i hi
    have ho := h.old _ (getE_mem hi)
    rw [getE_map hi]
    refine ⟨(E.getD i zE).a, (E.getD i zE).k, ⟨?_, ?_⟩, row_cap ho, row_reads ho⟩
    · rw [Nat.zero_add, h.rowL.cellAt (i * 2) (by omega)]; exact k.1
    · rw [Nat.zero_add, h.rowL.cellAt (i * 2 + 1) (by omega)]; exact k.2
theorem SpR.marked {B : Nat} {E : List SgE} {la : Option Addr} {lk : Nat} {W : World} (h : SpR B E la lk W) : SgT B la E.length lk (fun i => (E.getD i zE).row) (fun i => (E.getD i zE).c.ps.length) (fSg E) (fun i => strV (E.getD i zE).c.ps) W := by
  refine ⟨by rw [← sgV_mk]; exact h.rowL, fun i hi => h.old _ (getE_mem hi), fun i j hi hj hne q hq => ?_⟩
  have hp := List.pairwise_iff_getElem.1 h.dst
  have ei : E.getD i zE = E[i] := by simp [List.getD_eq_getElem?_getD, hi]
  have ej : E.getD j zE = E[j] := by simp [List.getD_eq_getElem?_getD, hj]
  rw [ei] at hq
  rw [ej]
  rcases Nat.lt_or_ge i j with hl | hl
  · exact hp i j hi hj hl q hq
  · intro e
    exact hp j i hj hi (by omega) q e hq
theorem kAtS_small (k0 : Nat) (M : Nat → Nat) : ∀ n, (∀ i, i < n → M i ≤ 20) → kAtS k0 M n ≤ k0 + n * 21
  | 0, _ => by simp [kAtS]
  | n + 1, h => by
    have := kAtS_small k0 M n (fun i hi => h i (by omega))
    have := h n (by omega)
    show kAtS k0 M n + 1 + M n ≤ _
    omega
theorem AnsRd.open' {w w' : World} {r : Int × Nat × List CSg} {e : Ending} (h : AnsRd w r e w') (hs : SmR r) : ∃ (E : List SgE) (la : Option Addr) (lk : Nat), e = .returned (.tuple #[.slice la E.length lk, .int .i64 r.1, .int .i64 (r.2.1 : Int)]) ∧ r.2.2 = E.map (·.c) ∧ SpR w.heap.size E la lk w' ∧ Below w.heap.size w w' := by
  obtain ⟨E, la, lk, h1, h2, h3, h4, h5, h6⟩ := h
  exact ⟨E, la, lk, h1, h2, ⟨h3, h4, h5, h6.size⟩, h6⟩
end Go.Proofs.Ytjnlghngneonhaa
