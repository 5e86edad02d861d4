/-
  Lists of events that are right, told by pairs; an event put in at its place; nothing of the program is in it.
-/
import Derived.Test.YtabghjlmmpckdaaEvC
namespace Go.Proofs.Ytabghjlmmpckdaa
open Go.ChangeShapes Go.WideShapes Go.ChangeAt Go.RowKit Go.Deep
set_option linter.unusedVariables false

structure EvR (L : List REv) : Prop where
  one : ∀ r ∈ L, evOne r = true
  ord : L.Pairwise (fun x y => evAh x y = true)
  seq : L.Pairwise (fun x y => x.sh = y.sh → x.sq < y.sq)
theorem getD_in {L : List REv} {k : Nat} (hk : k < L.length) : L.getD k zEv = L[k] := by simp [List.getD_eq_getElem?_getD, hk]
theorem EvR.go {L : List REv} (h : EvR L) : evGo L L.length = true := by
  unfold evGo
  refine List.all_eq_true.2 (fun k hk => ?_)
  have hk := List.mem_range.1 hk
  unfold evStep
  rw [Bool.and_eq_true, Bool.and_eq_true]
  refine ⟨?_, ?_, ?_⟩
  · rw [getD_in hk]; exact h.one _ (List.getElem_mem _)
  · by_cases h0 : k = 0
    · rw [decide_eq_true h0]; rfl
    · rw [decide_eq_false h0, Bool.false_or, getD_in hk, getD_in (show k - 1 < L.length by omega)]
      exact List.pairwise_iff_getElem.1 h.ord (k - 1) k (by omega) hk (by omega)
  · refine seqB_of (fun j hj he => ?_)
    rw [getD_in hk, getD_in (show j < L.length by omega)] at *
    exact List.pairwise_iff_getElem.1 h.seq j k (by omega) hk hj he
theorem EvR.all {L : List REv} (h : EvR L) (hl : L.length ≤ 120) : evAll L = true := by
  unfold evAll
  rw [decide_eq_true hl, h.go]; rfl
theorem EvR.sub {L M : List REv} (h : EvR L) (hs : M.Sublist L) : EvR M := ⟨fun r hr => h.one r (hs.subset hr), h.ord.sublist hs, h.seq.sublist hs⟩
theorem ah_iff (x y : REv) : evAh x y = true ↔ (x.tm < y.tm ∨ (x.tm = y.tm ∧ (x.sh < y.sh ∨ (x.sh = y.sh ∧ x.sq < y.sq)))) := by
  unfold evAh
  split
  · split
    · simp; omega
    · simp; omega
  · simp; omega
theorem ah_trans {x y z : REv} (h : evAh x y = true) (k : evAh y z = true) : evAh x z = true := by
  rw [ah_iff] at *
  omega
theorem ah_asym {x y : REv} (h : evAh x y = true) : evAh y x = false := by
  cases hk : evAh y x
  · rfl
  · rw [ah_iff] at *; omega
/-- e at its place p in L. -/
def putE (L : List REv) (p : Nat) (e : REv) : List REv := L.take p ++ e :: L.drop p
theorem putE_len {L : List REv} {p : Nat} (e : REv) (hp : p ≤ L.length) : (putE L p e).length = L.length + 1 := by
  unfold putE
  rw [List.length_append, List.length_take, List.length_cons, List.length_drop]
  omega
theorem putE_mem {L : List REv} {p : Nat} {e r : REv} (h : r ∈ putE L p e) : r ∈ L ∨ r = e := by
  unfold putE at h
  rcases List.mem_append.1 h with h | h
  · exact .inl (List.mem_of_mem_take h)
  · rcases List.mem_cons.1 h with h | h
    · exact .inr h
    · exact .inl (List.mem_of_mem_drop h)
theorem EvR.put {L : List REv} {p : Nat} {e : REv} (h : EvR L) (he : evOne e = true) (hp : p ≤ L.length) (hs : ∀ r ∈ L, r.sh = e.sh → r.sq < e.sq ∧ r.tm ≤ e.tm)
    (hb : ∀ i, p ≤ i → i < L.length → evAh e (L.getD i zEv) = true) (ha : 0 < p → evAh e (L.getD (p - 1) zEv) = false) : EvR (putE L p e) := by
  have hlt : ∀ x ∈ L.take p, evAh x e = true := fun x hx => by
    obtain ⟨i, hi, rfl⟩ := List.mem_iff_getElem.1 hx
    rw [List.length_take] at hi
    rw [List.getElem_take]
    have hlast : evAh (L.getD (p - 1) zEv) e = true := by
      have h1 := ha (by omega)
      have hm : L.getD (p - 1) zEv ∈ L := by rw [getD_in (show p - 1 < L.length by omega)]; exact List.getElem_mem _
      generalize L.getD (p - 1) zEv = y at *
      have h2 := hs y hm
      have h1' : ¬ evAh e y = true := by rw [h1]; simp
      rw [ah_iff] at h1' ⊢
      by_cases e1 : y.sh = e.sh
      · have := h2 e1; omega
      · omega
    by_cases e1 : i = p - 1
    · subst e1; rw [getD_in (show p - 1 < L.length by omega)] at hlast; exact hlast
    · refine ah_trans ?_ hlast
      rw [getD_in (show p - 1 < L.length by omega)]
      exact List.pairwise_iff_getElem.1 h.ord i (p - 1) (by omega) (by omega) (by omega)
  have hgt : ∀ y ∈ L.drop p, evAh e y = true := fun y hy => by
    obtain ⟨i, hi, rfl⟩ := List.mem_iff_getElem.1 hy
    rw [List.length_drop] at hi
    rw [List.getElem_drop]
    have := hb (p + i) (by omega) (by omega)
    rwa [getD_in (by omega)] at this
  have hcut : ∀ x ∈ L.take p, ∀ y ∈ L.drop p, evAh x y = true ∧ (x.sh = y.sh → x.sq < y.sq) := fun x hx y hy => by
    obtain ⟨i, hi, rfl⟩ := List.mem_iff_getElem.1 hx
    obtain ⟨j, hj, rfl⟩ := List.mem_iff_getElem.1 hy
    rw [List.length_take] at hi
    rw [List.length_drop] at hj
    rw [List.getElem_take, List.getElem_drop]
    exact ⟨List.pairwise_iff_getElem.1 h.ord i (p + j) (by omega) (by omega) (by omega), List.pairwise_iff_getElem.1 h.seq i (p + j) (by omega) (by omega) (by omega)⟩
  refine ⟨fun r hr => ?_, ?_, ?_⟩
  · rcases putE_mem hr with h1 | h1
    · exact h.one r h1
    · rw [h1]; exact he
  · unfold putE
    rw [List.pairwise_append]
    refine ⟨h.ord.sublist (List.take_sublist _ _), List.pairwise_cons.2 ⟨hgt, h.ord.sublist (List.drop_sublist _ _)⟩, fun x hx y hy => ?_⟩
    rcases List.mem_cons.1 hy with h1 | h1
    · rw [h1]; exact hlt x hx
    · exact (hcut x hx y h1).1
  · unfold putE
    rw [List.pairwise_append]
    refine ⟨h.seq.sublist (List.take_sublist _ _), List.pairwise_cons.2 ⟨fun y hy hsh => ?_, h.seq.sublist (List.drop_sublist _ _)⟩, fun x hx y hy => ?_⟩
    · have h1 := hs y (List.mem_of_mem_drop hy) hsh.symm
      have h2 := hgt y hy
      rw [ah_iff] at h2
      omega
    · rcases List.mem_cons.1 hy with h1 | h1
      · rw [h1]; exact fun hsh => (hs x (List.mem_of_mem_take hx) hsh).1
      · exact (hcut x hx y h1).2
theorem evR_nil : EvR [] := ⟨fun r hr => by simp at hr, List.Pairwise.nil, List.Pairwise.nil⟩
/-! ### In a row -/
def evC (r : REv) : List Value := [.int .i64 r.sh, .int .i64 r.sq, .int .i64 r.tm, .int .i64 r.kd, .string r.cd, .int .i64 r.am]
def evCells (L : List REv) : List Value := L.flatMap evC
theorem evCells_len : ∀ L : List REv, (evCells L).length = L.length * 6
  | [] => rfl
  | c :: t => by
    have h := evCells_len t
    unfold evCells at *
    rw [List.flatMap_cons, List.length_append, h, List.length_cons]
    show 6 + _ = _
    omega
theorem evCells_append (a b : List REv) : evCells (a ++ b) = evCells a ++ evCells b := by unfold evCells; rw [List.flatMap_append]
theorem evCells_cons (a : REv) (b : List REv) : evCells (a :: b) = evC a ++ evCells b := by unfold evCells; rw [List.flatMap_cons]
theorem evCells_get : ∀ (L : List REv) (i j : Nat), i < L.length → j < 6 → (evCells L)[i * 6 + j]? = (evC (L.getD i zEv))[j]?
  | [], i, j, hi, hj => by simp at hi
  | c :: t, 0, j, hi, hj => by
    rw [evCells_cons, Nat.zero_mul, Nat.zero_add, List.getElem?_append_left (by show j < 6; exact hj)]; rfl
  | c :: t, i + 1, j, hi, hj => by
    have h := evCells_get t i j (by simpa using hi) hj
    rw [evCells_cons, List.getElem?_append_right (by show 6 ≤ _; omega), show (i + 1) * 6 + j - (evC c).length = i * 6 + j by show (i + 1) * 6 + j - 6 = _; omega, h]
    rfl
theorem evCells_take : ∀ (L : List REv) (p : Nat), (evCells L).take (p * 6) = evCells (L.take p)
  | [], p => by simp [evCells]
  | c :: t, 0 => by simp [evCells]
  | c :: t, p + 1 => by
    rw [List.take_succ_cons, evCells_cons, evCells_cons, List.take_append, show (evC c).length = 6 from rfl, List.take_of_length_le (by show 6 ≤ _; omega), show (p + 1) * 6 - 6 = p * 6 by omega, evCells_take t p]
theorem evCells_drop : ∀ (L : List REv) (p : Nat), (evCells L).drop (p * 6) = evCells (L.drop p)
  | [], p => by simp [evCells]
  | c :: t, 0 => by simp [evCells]
  | c :: t, p + 1 => by
    rw [List.drop_succ_cons, evCells_cons, List.drop_append, show (evC c).length = 6 from rfl, List.drop_eq_nil_of_le (by show 6 ≤ _; omega), List.nil_append, show (p + 1) * 6 - 6 = p * 6 by omega, evCells_drop t p]
theorem evs_row {w : World} {B g cap : Nat} {L : List REv} (h : w.ownsRow B 35 6 (.slice (some ⟨g, 0, none⟩) L.length cap) L.length (evCells L)) : EvsAt w g 0 L := fun i hi => by
  have hc : ∀ j, j < 6 → w.cell? ⟨g, 0 + i * 6 + j, none⟩ = (evC (L.getD i zEv))[j]? := fun j hj => by
    rw [Nat.zero_add, h.cellAt (i * 6 + j) (by omega), evCells_get L i j hi hj]
  exact ⟨hc 0 (by omega), hc 1 (by omega), hc 2 (by omega), hc 3 (by omega), hc 4 (by omega), hc 5 (by omega)⟩
/-- The beginning of a row. -/
theorem row_take {w : World} {B g n c k : Nat} {e : TypeId} {xs : List Value} (h : w.ownsRow B e k (.slice (some ⟨g, 0, none⟩) n c) n xs) (p : Nat) (hp : p ≤ n) : w.ownsRow B e k (.slice (some ⟨g, 0, none⟩) p c) p (xs.take (p * k)) := by
  obtain ⟨h1, h2⟩ := h
  have hpk : p * k ≤ n * k := Nat.mul_le_mul_right k hp
  refine ⟨by rw [List.length_take, h1]; omega, ?_⟩
  rcases h2 with ⟨q, _⟩ | ⟨g', cap, cur, q, hB, hg, hc, hm, hs, ht⟩
  · simp at q
  · simp at q
    obtain ⟨rfl, rfl⟩ := q
    refine .inr ⟨g, c, cur, rfl, hB, hg, by omega, hm, hs, ?_⟩
    rw [← ht, List.take_take, Nat.min_eq_left hpk]
end Go.Proofs.Ytabghjlmmpckdaa
