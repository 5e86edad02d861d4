/-
  Texts of this claim laid together: BsK, BsL.
-/
import Derived.Test.YtbijgoaanphojaaM37
/-
  The specification's most, for whatever is left.
-/
namespace Go.Proofs.Ytbijgoaanphojaa
open Go.ChangeShapes Go.WideShapes Go.ChangeAt Go.RowKit Go.Deep
set_option linter.unusedVariables false

theorem most_any (B sb mb : Nat) (us : List RUn) (ua : Option Addr) (uc : Nat) (ds : List CDl) (da : Option Addr) (dc : Nat) (hu8 : us.length ≤ 8) (h1 : unAll us = true) (h2 : dlAll ds = true) (hq : ∀ r ∈ ds, DlOK r) : ∀ n, MostP B sb mb us ua uc ds da dc n
  | 0 => fun mask sp F W hm hsp hSp hl hS => most_none B sb mb us ua uc ds da dc hu8 mask sp F W hm (List.eq_nil_of_length_eq_zero (by omega)) hS
  | n + 1 => fun mask sp F W hm hsp hSp hl hS => by
    have IH := most_any B sb mb us ua uc ds da dc hu8 h1 h2 hq n
    cases hf : freeL us.length mask with
    | nil => exact most_none B sb mb us ua uc ds da dc hu8 mask sp F W hm hf hS
    | cons x l =>
      rw [hf, List.length_cons] at hl
      exact most_some B sb mb us ua uc ds da dc hu8 h1 h2 hq mask sp F W hm hsp hSp x l hf (fun m s F' W' a1 a2 a3 a4 a5 => IH m s F' W' a1 a2 a3 (by omega) a5) hS
end Go.Proofs.Ytbijgoaanphojaa

/-
  What the specification's Best keeps: the uses found so far, the one that is sought.
-/
namespace Go.Proofs.Ytbijgoaanphojaa
open Go.ChangeShapes Go.WideShapes Go.ChangeAt Go.RowKit Go.Deep
set_option linter.unusedVariables false

theorem useJ_stay {us : List RUn} {ds : List CDl} {mask sp : Nat} {left : List Nat} {j : Nat} {r : Nat × List Nat} (h : useJ us ds mask sp left j = some r) : ∀ m, useJ us ds mask sp left (j + m) = some r
  | 0 => h
  | m + 1 => by rw [← Nat.add_assoc, useJ_succ, useJ_stay h m]; rfl
theorem useJ_to {us : List RUn} {ds : List CDl} {mask sp : Nat} {left : List Nat} {j n : Nat} {r : Nat × List Nat} (h : useJ us ds mask sp left j = some r) (hn : j ≤ n) : useJ us ds mask sp left n = some r := by
  have := useJ_stay h (n - j)
  rwa [show j + (n - j) = n by omega] at this
theorem useJ_off {us : List RUn} {ds : List CDl} {mask sp : Nat} {left : List Nat} {j : Nat} (h : useJ us ds mask sp left j = none) (hb : sp.testBit j = true) : useJ us ds mask sp left (j + 1) = none := by rw [useJ_succ, h, if_pos hb]; rfl
theorem useJ_miss {us : List RUn} {ds : List CDl} {mask sp : Nat} {left : List Nat} {j : Nat} (h : useJ us ds mask sp left j = none) (hb : sp.testBit j = false) (hf : (setsK us ds left j).find? (hitK us ds mask sp j) = none) : useJ us ds mask sp left (j + 1) = none := by rw [useJ_succ, h, if_neg (by rw [hb]; simp), hf]; rfl
theorem useJ_hit {us : List RUn} {ds : List CDl} {mask sp : Nat} {left : List Nat} {j : Nat} {s : List Nat} (h : useJ us ds mask sp left j = none) (hb : sp.testBit j = false) (hf : (setsK us ds left j).find? (hitK us ds mask sp j) = some s) : useJ us ds mask sp left (j + 1) = some (j, s) := by rw [useJ_succ, h, if_neg (by rw [hb]; simp), hf]; rfl
theorem find_at {L : List (List Nat)} {p : List Nat → Bool} {i : Nat} (hi : i < L.length) (h0 : ∀ j, j < i → p (L.getD j []) = false) (h1 : p (L.getD i []) = true) : L.find? p = some (L.getD i []) := by
  have e : L = L.take i ++ L.getD i [] :: L.drop (i + 1) := by
    have := (List.take_append_drop i L).symm
    rw [List.drop_eq_getElem_cons hi] at this
    rw [show L.getD i [] = L[i] by simp [List.getD_eq_getElem?_getD, hi]]
    exact this
  have hn : (L.take i).find? p = none := List.find?_eq_none.2 (fun x hx => by
    obtain ⟨j, hj, rfl⟩ := List.getElem_of_mem hx
    have hj' : j < i := by rw [List.length_take] at hj; omega
    have := h0 j hj'
    rw [List.getElem_take]
    rw [show L.getD j [] = L[j] by simp [List.getD_eq_getElem?_getD, show j < L.length by omega]] at this
    simp [this])
  have e2 : L.find? p = (L.take i ++ L.getD i [] :: L.drop (i + 1)).find? p := by rw [← e]
  rw [e2, List.find?_append, hn, List.find?_cons, h1]; rfl
theorem find_no {L : List (List Nat)} {p : List Nat → Bool} (h0 : ∀ j, j < L.length → p (L.getD j []) = false) : L.find? p = none := List.find?_eq_none.2 (fun x hx => by
  obtain ⟨j, hj, rfl⟩ := List.getElem_of_mem hx
  have := h0 j hj
  rw [show L.getD j [] = L[j] by simp [List.getD_eq_getElem?_getD, hj]] at this
  simp [this])
/-- Uses in a row of their own, each with a list from block B on. -/
structure UseR (B : Nat) (v : Value) (U : List (Nat × List Nat)) (C : List Value) (W : World) : Prop where
  own : W.ownsRow B 36 3 v U.length C
  fit : ∀ i, i < U.length → ∃ h c, C[i * 3]? = some (.int .i64 (((U.getD i (0, [])).1 : Nat) : Int)) ∧ C[i * 3 + 1]? = some (.int .i64 0) ∧ C[i * 3 + 2]? = some (.slice h (U.getD i (0, [])).2.length c) ∧ (U.getD i (0, [])).2.length ≤ c ∧ RI W h (U.getD i (0, [])).2 ∧ ∀ b o, h = some ⟨b, o, none⟩ → B ≤ b
theorem ri_fr {mb B : Nat} {W W' : World} {h : Option Addr} {xs : List Nat} (hr : RI W h xs) (hb : ∀ b o, h = some ⟨b, o, none⟩ → B ≤ b) (hm : mb < B) (hf : Fr (fun q => q = mb) W W') : RI W' h xs := by
  rcases hr with h3 | ⟨b, off, cur, ha, hk, hc⟩
  · exact .inl h3
  · have := hb b off ha
    exact .inr ⟨b, off, cur, ha, (hf.block b (blkLt hk) (by omega)).trans hk, hc⟩
theorem UseR.fr {B mb : Nat} {v : Value} {U : List (Nat × List Nat)} {C : List Value} {W W' : World} (h : UseR B v U C W) (hmb : mb < B) (hf : Fr (fun q => q = mb) W W') : UseR B v U C W' := by
  refine ⟨row_of h.own (fun q hq => hf.block q (row_lt h.own q hq).2 (by have := (row_lt h.own q hq).1; omega)), fun i hi => ?_⟩
  obtain ⟨g, c, a1, a2, a3, a4, a5, a6⟩ := h.fit i hi
  exact ⟨g, c, a1, a2, a3, a4, ri_fr a5 a6 hmb hf, a6⟩
theorem UseR.later {B : Nat} {v : Value} {U : List (Nat × List Nat)} {C : List Value} {W W' : World} (h : UseR B v U C W) (hb : Below W.heap.size W W') : UseR B v U C W' := by
  refine ⟨row_of h.own (fun q hq => hb.block q (row_lt h.own q hq).2), fun i hi => ?_⟩
  obtain ⟨g, c, a1, a2, a3, a4, a5, a6⟩ := h.fit i hi
  exact ⟨g, c, a1, a2, a3, a4, a5.later hb, a6⟩
theorem UseR.push {B g cp k c : Nat} {v : Value} {U : List (Nat × List Nat)} {C : List Value} {W W' : World} {h : Option Addr} {s : List Nat} (hU : UseR B v U C W) (ho : W'.ownsRow B 36 3 (.slice (some ⟨g, 0, none⟩) (U.length + 1) cp) (U.length + 1) (C ++ [.int .i64 (k : Int), .int .i64 0, .slice h s.length c])) (hg : W.grownBy W' v.ownBlock) (hs : s.length ≤ c) (hr : RI W h s) (hb : ∀ b o, h = some ⟨b, o, none⟩ → B ≤ b) :
    UseR B (.slice (some ⟨g, 0, none⟩) (U ++ [(k, s)]).length cp) (U ++ [(k, s)]) (C ++ [.int .i64 (k : Int), .int .i64 0, .slice h s.length c]) W' := by
  have hf := fr_grown hg
  have hkeep : ∀ a xs, RI W a xs → RI W' a xs := fun a xs h' => h'.of (fun q cur hq => hf.block q (blkLt hq) (fun e => by
    obtain ⟨cur2, h2⟩ := row_typ hU.own e
    rw [h2] at hq
    simp at hq))
  have hl : (U ++ [(k, s)]).length = U.length + 1 := by simp
  have hC : C.length = U.length * 3 := hU.own.1
  refine ⟨by rw [hl]; exact ho, fun i hi => ?_⟩
  rw [hl] at hi
  by_cases e : i = U.length
  · subst e
    rw [show (U ++ [(k, s)]).getD U.length (0, []) = (k, s) by simp]
    refine ⟨h, c, ?_, ?_, ?_, hs, hkeep _ _ hr, hb⟩
    · rw [List.getElem?_append_right (by omega), hC, Nat.sub_self]; rfl
    · rw [List.getElem?_append_right (by omega), hC, show U.length * 3 + 1 - U.length * 3 = 1 by omega]; rfl
    · rw [List.getElem?_append_right (by omega), hC, show U.length * 3 + 2 - U.length * 3 = 2 by omega]; rfl
  · obtain ⟨g', c', a1, a2, a3, a4, a5, a6⟩ := hU.fit i (by omega)
    rw [show (U ++ [(k, s)]).getD i (0, []) = U.getD i (0, []) by simp only [List.getD_eq_getElem?_getD]; rw [List.getElem?_append_left (by omega)]]
    exact ⟨g', c', by rw [List.getElem?_append_left (by omega)]; exact a1, by rw [List.getElem?_append_left (by omega)]; exact a2, by rw [List.getElem?_append_left (by omega)]; exact a3, a4, hkeep _ _ a5, a6⟩
/-- As Priced reads them. -/
theorem UseR.reads {B : Nat} {a : Option Addr} {cp : Nat} {U : List (Nat × List Nat)} {C : List Value} {W : World} (h : UseR B (.slice a U.length cp) U C W) : ReadsUs W.heap.size W a (U.map cuOf) := by
  rcases Nat.eq_zero_or_pos U.length with h0 | h0
  · exact .inl (by rw [List.length_eq_zero_iff.1 h0]; rfl)
  · obtain ⟨g, cp', hq⟩ := row_some h.own h0
    simp only [Value.slice.injEq, true_and] at hq
    obtain ⟨rfl, rfl⟩ := hq
    refine .inr ⟨g, 0, rfl, (row_lt h.own g rfl).2, fun i hi => ?_⟩
    rw [List.length_map] at hi
    obtain ⟨g', c', a1, a2, a3, a4, a5, a6⟩ := h.fit i hi
    have e : (U.map cuOf).getD i zUs = cuOf (U.getD i (0, [])) := by simp [List.getD_eq_getElem?_getD, hi]
    rw [e]
    refine ⟨g', c', ⟨?_, ?_, ?_⟩, ?_, ?_⟩
    · rw [Nat.zero_add, h.own.cellAt _ (by omega)]; exact a1
    · rw [Nat.zero_add, h.own.cellAt _ (by omega)]; exact a2
    · rw [Nat.zero_add, h.own.cellAt _ (by omega), a3]; unfold cuOf; dsimp only; rw [zN_len]
    · unfold cuOf; dsimp only; rw [zN_len]; exact a4
    · exact a5.reads
/-- A mask whose bits below a number are all set leaves this number first, or it is set. -/
theorem freeL_at {n mask x : Nat} (hx : x < n) (h0 : mask.testBit x = false) (h : ∀ y, y < x → mask.testBit y = true) : ∃ l, freeL n mask = x :: l := ⟨_, freeL_first hx h0 h⟩
theorem or_same {mask x : Nat} (h : mask.testBit x = true) : mask ||| 2 ^ x = mask := by
  apply Nat.eq_of_testBit_eq
  intro i
  rw [Nat.testBit_or, Nat.testBit_two_pow]
  by_cases e : x = i
  · subst e; simp [h]
  · simp [e]
theorem bits_up {mask m x : Nat} (h : ∀ y, y < x → mask.testBit y = true) (hx : (mask ||| m).testBit x = true) : ∀ y, y < x + 1 → (mask ||| m).testBit y = true := fun y hy => by
  by_cases e : y = x
  · rw [e]; exact hx
  · rw [Nat.testBit_or, h y (by omega)]; rfl
theorem set_first {us : List RUn} {ds : List CDl} (h2 : dlAll ds = true) {x k : Nat} {l : List Nat} (hk : k < ds.length) {s : List Nat} (hs : s ∈ setsK us ds (x :: l) k) : x ∈ s := by
  obtain ⟨c, hc, rfl⟩ := List.mem_map.1 hs
  obtain ⟨x', l', s', e, e1, _⟩ := takes_mem (nd_ok h2 k hk) hc
  have := (List.cons.inj e).1
  rw [e1, this]; exact List.mem_cons_self
/-- The use that is sought, in block ub: none yet, or found. -/
def UB (B ub : Nat) (r : Option (Nat × List Nat)) (W : World) : Prop := match r with
  | none => W.heap[ub]? = some (.cells #[.int .i64 (-1), .int .i64 0, .slice none 0 0] 36 (0, 0))
  | some (k, s) => ∃ h c, W.heap[ub]? = some (.cells #[.int .i64 (k : Int), .int .i64 0, .slice h s.length c] 36 (0, 0)) ∧ s.length ≤ c ∧ RI W h s ∧ ∀ b o, h = some ⟨b, o, none⟩ → B ≤ b
theorem UB.fr {B ub mb : Nat} {r : Option (Nat × List Nat)} {W W' : World} (h : UB B ub r W) (hm : mb < B) (hu : ub ≠ mb) (hf : Fr (fun q => q = mb) W W') : UB B ub r W' := by
  match r, h with
  | none, h => exact (hf.block ub (blkLt h) hu).trans h
  | some (k, s), ⟨hh, c, a1, a2, a3, a4⟩ => exact ⟨hh, c, (hf.block ub (blkLt a1) hu).trans a1, a2, ri_fr a3 a4 hm hf, a4⟩
theorem UB.lt {B ub : Nat} {r : Option (Nat × List Nat)} {W : World} (h : UB B ub r W) : ub < W.heap.size := by
  match r, h with
  | none, h => exact blkLt h
  | some (k, s), ⟨hh, c, a1, _⟩ => exact blkLt a1
end Go.Proofs.Ytbijgoaanphojaa
