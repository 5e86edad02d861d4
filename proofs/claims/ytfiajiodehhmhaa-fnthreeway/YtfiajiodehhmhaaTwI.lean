/-
  Texts in their order, each once: what sorting and compacting makes of a list, and what inserting one by one makes of it, is one list; nothing of the program is in it.
-/
import Derived.Test.YtfiajiodehhmhaaTwD
namespace Go.Proofs.Ytfiajiodehhmhaa
open Go.ChangeShapes Go.WideShapes Go.ChangeAt Go.RowKit Go.Joins Go.Deep Go.Sort Go.Shelf
set_option linter.unusedVariables false

theorem tlB_inj {s t : ByteArray} (h : tlB s = tlB t) : s = t := by rw [← ofB_tlB s, h, ofB_tlB]
theorem ltU_lt {a b : List UInt8} (h : a ≤ b) (hn : a ≠ b) : a < b := Decidable.byContradiction fun h2 => hn (List.le_antisymm h (List.not_lt.1 h2))
theorem eq_of_rise {α : Type} {lt : α → α → Prop} (irr : ∀ a, ¬ lt a a) (asy : ∀ a b, lt a b → ¬ lt b a) : ∀ (L M : List α), L.Pairwise lt → M.Pairwise lt → (∀ x, x ∈ L ↔ x ∈ M) → L = M
  | [], [], _, _, _ => rfl
  | [], b :: M, _, _, h => absurd ((h b).2 (by simp)) (by simp)
  | a :: L, [], _, _, h => absurd ((h a).1 (by simp)) (by simp)
  | a :: L, b :: M, h1, h2, h => by
    rw [List.pairwise_cons] at h1 h2
    have e : a = b := by
      rcases List.mem_cons.1 ((h a).1 (by simp)) with e | e
      · exact e
      · rcases List.mem_cons.1 ((h b).2 (by simp)) with e' | e'
        · exact e'.symm
        · exact absurd (h1.1 b e') (asy _ _ (h2.1 a e))
    subst e
    have e2 := eq_of_rise irr asy L M h1.2 h2.2 (fun x => by
      constructor
      · intro hx
        rcases List.mem_cons.1 ((h x).1 (List.mem_cons_of_mem _ hx)) with e | e
        · subst e; exact absurd (h1.1 x hx) (irr x)
        · exact e
      · intro hx
        rcases List.mem_cons.1 ((h x).2 (List.mem_cons_of_mem _ hx)) with e | e
        · subst e; exact absurd (h2.1 x hx) (irr x)
        · exact e)
    rw [e2]
/-- Texts that rise. -/
def riS (L : List ByteArray) : Prop := L.Pairwise (fun x y => tlB x < tlB y)
theorem ri_eq {L M : List ByteArray} (h1 : riS L) (h2 : riS M) (h : ∀ t, t ∈ L ↔ t ∈ M) : L = M :=
  eq_of_rise (lt := fun x y => tlB x < tlB y) (fun a h => List.lt_irrefl (tlB a) h) (fun a b h k => List.lt_irrefl (tlB a) (List.lt_trans h k)) L M h1 h2 h
theorem comp_rise (zs : List (List UInt8)) (hs : zs.Pairwise (fun a b => leS a b = true)) : ∀ m, m ≤ zs.length → (Lib.compactUpTo zs.toArray m).Pairwise (· < ·) ∧ ∀ x, x ∈ Lib.compactUpTo zs.toArray m ↔ x ∈ zs.take m
  | 0, _ => by simp [Lib.compactUpTo]
  | m + 1, hm => by
    obtain ⟨i1, i2⟩ := comp_rise zs hs m (by omega)
    have em : zs.toArray[m]! = zs[m] := by simp [getElem!_pos, (by omega : m < zs.length)]
    have hle : ∀ x ∈ zs.take m, ∀ (h0 : 0 < m), x ≤ zs[m - 1] := fun x hx h0 => by
      obtain ⟨j, hj, rfl⟩ := List.mem_take_iff_getElem.1 hx
      by_cases e : j = m - 1
      · subst e; exact List.le_refl _
      · have := (List.pairwise_iff_getElem.1 hs) j (m - 1) (by omega) (by omega) (by omega)
        simpa [leS] using this
    rw [Lib.compactUpTo_succ, List.take_succ_eq_append_getElem (by omega)]
    by_cases h0 : m = 0
    · subst h0
      have hk : Lib.keeps zs.toArray 0 = true := Lib.keeps_lt_one _ 0 (by omega)
      rw [hk]
      simp [Lib.compactUpTo, em]
    · have ep : zs.toArray[m - 1]! = zs[m - 1] := by simp [getElem!_pos, (by omega : m - 1 < zs.length)]
      have hmm : zs[m - 1] ≤ zs[m] := by
        have := (List.pairwise_iff_getElem.1 hs) (m - 1) m (by omega) (by omega) (by omega)
        simpa [leS] using this
      by_cases he : zs[m] = zs[m - 1]
      · rw [Lib.keeps_neg (by omega) (by rw [em, ep]; exact he)]
        have hin : zs[m] ∈ zs.take m := by rw [he]; exact List.mem_take_iff_getElem.2 ⟨m - 1, by omega, rfl⟩
        refine ⟨by simpa using i1, fun x => ?_⟩
        simp only [Bool.false_eq_true, if_false, List.append_nil, List.mem_append, List.mem_singleton]
        rw [i2]
        constructor
        · exact fun h => .inl h
        · rintro (h | rfl)
          · exact h
          · exact hin
      · rw [Lib.keeps_pos (by rw [em, ep]; exact he)]
        refine ⟨?_, fun x => ?_⟩
        · rw [if_pos rfl, List.pairwise_append]
          refine ⟨i1, by simp, fun x hx y hy => ?_⟩
          rw [List.mem_singleton] at hy
          rw [hy, em]
          have h1 := hle x ((i2 x).1 hx) (by omega)
          have h2 : zs[m - 1] < zs[m] := ltU_lt hmm (fun q => he q.symm)
          exact List.lt_of_le_of_lt h1 h2
        · rw [if_pos rfl]
          simp only [List.mem_append, List.mem_singleton]
          rw [i2, em]
theorem leS_tr : ∀ a b c : List UInt8, leS a b = true → leS b c = true → leS a c = true := fun a b c h1 h2 => by simp only [leS, decide_eq_true_eq] at *; exact List.le_trans h1 h2
theorem leS_to : ∀ a b : List UInt8, (leS a b || leS b a) = true := fun a b => by simp only [leS, Bool.or_eq_true, decide_eq_true_eq]; exact List.le_total a b
theorem art_rise (L : List ByteArray) : riS (artL L) := by
  have h := (comp_rise _ (List.pairwise_mergeSort leS_tr leS_to (L.map tlB)) _ (Nat.le_refl _)).1
  unfold riS artL
  rw [List.pairwise_map]
  exact h.imp (fun {a b} q => by rw [tlB_ofB, tlB_ofB]; exact q)
theorem art_mem (L : List ByteArray) (t : ByteArray) : t ∈ artL L ↔ t ∈ L := by
  have h := (comp_rise _ (List.pairwise_mergeSort leS_tr leS_to (L.map tlB)) _ (Nat.le_refl _)).2
  have hc : ∀ x, x ∈ Lib.compact ((L.map tlB).mergeSort leS) ↔ x ∈ L.map tlB := fun x => by
    have := h x
    rw [List.take_length] at this
    unfold Lib.compact
    rw [this, (List.mergeSort_perm (L.map tlB) leS).mem_iff]
  unfold artL
  constructor
  · intro ht
    obtain ⟨x, hx, rfl⟩ := List.mem_map.1 ht
    obtain ⟨s, hs, rfl⟩ := List.mem_map.1 ((hc x).1 hx)
    rw [ofB_tlB]; exact hs
  · intro ht
    exact List.mem_map.2 ⟨tlB t, (hc _).2 (List.mem_map.2 ⟨t, ht, rfl⟩), ofB_tlB t⟩
def putS (L : List ByteArray) (p : Nat) (x : ByteArray) : List ByteArray := L.take p ++ x :: L.drop p
theorem putS_len {L : List ByteArray} {p : Nat} (x : ByteArray) (hp : p ≤ L.length) : (putS L p x).length = L.length + 1 := by
  unfold putS
  rw [List.length_append, List.length_take, List.length_cons, List.length_drop]
  omega
theorem putS_mem (L : List ByteArray) (p : Nat) (x t : ByteArray) : t ∈ putS L p x ↔ t ∈ L ∨ t = x := by
  unfold putS
  rw [List.mem_append, List.mem_cons]
  constructor
  · rintro (h | h | h)
    · exact .inl (List.mem_of_mem_take h)
    · exact .inr h
    · exact .inl (List.mem_of_mem_drop h)
  · rintro (h | h)
    · rw [← List.take_append_drop p L] at h
      rcases List.mem_append.1 h with h | h
      · exact .inl h
      · exact .inr (.inr h)
    · exact .inr (.inl h)
theorem putS_rise {L : List ByteArray} {p : Nat} {x : ByteArray} (h : riS L) (hx : x ∉ L) (hp : p ≤ L.length) (hb : ∀ j, j < p → tlB (L.getD j ByteArray.empty) < tlB x) (ha : p < L.length → ¬ tlB (L.getD p ByteArray.empty) < tlB x) : riS (putS L p x) := by
  unfold riS putS
  have h' : (L.take p ++ L.drop p).Pairwise (fun x y => tlB x < tlB y) := by rw [List.take_append_drop]; exact h
  rw [List.pairwise_append] at h'
  obtain ⟨k1, k2, k3⟩ := h'
  have g : ∀ j (hj : j < L.length), L.getD j ByteArray.empty = L[j] := fun j hj => by simp [List.getD_eq_getElem?_getD, hj]
  rw [List.pairwise_append]
  refine ⟨k1, ?_, fun a hh b hb' => ?_⟩
  · rw [List.pairwise_cons]
    refine ⟨fun b hb' => ?_, k2⟩
    obtain ⟨j, hj, rfl⟩ := List.mem_drop_iff_getElem.1 hb'
    have hpl : p < L.length := by omega
    have h1 := ha hpl
    rw [g p hpl] at h1
    have h2 : tlB x < tlB L[p] := ltU_lt (List.not_lt.1 h1) (fun e => hx (by rw [tlB_inj e]; exact List.getElem_mem _))
    by_cases e : j = 0
    · subst e; simpa using h2
    · have h3 := (List.pairwise_iff_getElem.1 h) p (p + j) hpl (by omega) (by omega)
      exact List.lt_trans h2 h3
  · rcases List.mem_cons.1 hb' with rfl | hb'
    · obtain ⟨j, hj, rfl⟩ := List.mem_take_iff_getElem.1 hh
      have := hb j (by omega)
      rw [g j (by omega)] at this
      exact this
    · exact k3 a hh b hb'
/-- What is known while texts are inserted one by one. -/
structure SoI (L : List ByteArray) (i : Nat) (out : List ByteArray) : Prop where
  rise : riS out
  mem : ∀ t, t ∈ out ↔ t ∈ L.take i
  len : out.length ≤ i
theorem SoI.end {L out : List ByteArray} (h : SoI L L.length out) : out = artL L := ri_eq h.rise (art_rise L) (fun t => by rw [h.mem t, List.take_length, art_mem])
theorem takeS (L : List ByteArray) {i : Nat} (hi : i < L.length) (t : ByteArray) : t ∈ L.take (i + 1) ↔ t ∈ L.take i ∨ t = L.getD i ByteArray.empty := by
  have e : L.getD i ByteArray.empty = L[i] := by simp [List.getD_eq_getElem?_getD, hi]
  rw [List.take_succ_eq_append_getElem hi, e, List.mem_append, List.mem_singleton]
theorem hasB_mem (L : List ByteArray) (t : ByteArray) : hasB L t = true ↔ t ∈ L := by
  unfold hasB
  rw [List.any_eq_true]
  constructor
  · rintro ⟨s, hs, e⟩
    have e2 : s = t := by
      have : s.toList = t.toList := by simpa using e
      rw [Lib.toList_data, Lib.toList_data] at this
      exact tlB_inj this
    rw [← e2]; exact hs
  · intro h
    exact ⟨t, h, by simp⟩
theorem SoI.skip {L out : List ByteArray} {i : Nat} (h : SoI L i out) (hi : i < L.length) (hh : hasB out (L.getD i ByteArray.empty) = true) : SoI L (i + 1) out :=
  ⟨h.rise, fun t => by
    rw [takeS L hi, ← h.mem]
    constructor
    · exact fun q => .inl q
    · rintro (q | q)
      · exact q
      · rw [q]; exact (hasB_mem _ _).1 hh, by have := h.len; omega⟩
theorem SoI.put {L out : List ByteArray} {i p : Nat} {x : ByteArray} (h : SoI L i out) (hi : i < L.length) (hx : L.getD i ByteArray.empty = x) (hh : hasB out x = false) (hp : p ≤ out.length) (hb : ∀ j, j < p → tlB (out.getD j ByteArray.empty) < tlB x) (ha : p < out.length → ¬ tlB (out.getD p ByteArray.empty) < tlB x) : SoI L (i + 1) (putS out p x) :=
  ⟨putS_rise h.rise (fun q => by rw [(hasB_mem _ _).2 q] at hh; cases hh) hp hb ha, fun t => by rw [putS_mem, takeS L hi, h.mem, hx], by rw [putS_len _ hp]; have := h.len; omega⟩
theorem less_iff (x y : ByteArray) : Op.bytesLess x.toList y.toList = decide (tlB x < tlB y) := by
  rw [bytesLess_eq, Lib.toList_data, Lib.toList_data]; rfl
end Go.Proofs.Ytfiajiodehhmhaa
