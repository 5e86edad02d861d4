/-
  What the specification's Witness needs: numbers appended to numbers within a region, terms picked one by one.
-/
import Derived.Test.YthkmgccmeoigpaaRwF
namespace Go.Proofs.Ythkmgccmeoigpaa
open Go.ChangeShapes Go.WideShapes Go.ChangeAt Go.RowKit Go.Deep
set_option linter.unusedVariables false

/-- The numbers left without the one at its place, of the first k. -/
def lsU (ts : List RTm) (d k : Nat) : List Nat := if k ≤ ts.length - 1 - d then (leftN ts d).take k else (lessN ts d).take (k - 1)
theorem lsU_zero (ts : List RTm) (d : Nat) : lsU ts d 0 = [] := by simp [lsU]
theorem lsU_all {ts : List RTm} {d : Nat} (h : d < ts.length) : lsU ts d (leftN ts d).length = lessN ts d := by
  have h1 := leftN_len ts d (by omega)
  have h2 := lessN_len ts d h
  unfold lsU
  rw [if_neg (by omega), List.take_of_length_le (by omega)]
theorem lsU_skip {ts : List RTm} {d : Nat} (h : d < ts.length) : lsU ts d (ts.length - 1 - d + 1) = lsU ts d (ts.length - 1 - d) := by
  unfold lsU
  rw [if_neg (by omega), if_pos (Nat.le_refl _), show ts.length - 1 - d + 1 - 1 = ts.length - 1 - d by omega, leftN_cut h]
  unfold lessN
  rw [List.take_left' (by simp), List.take_left' (by simp)]
theorem lsU_next {ts : List RTm} {d k : Nat} (h : d < ts.length) (hk : k < (leftN ts d).length) (hne : k ≠ ts.length - 1 - d) : lsU ts d k ++ [(leftN ts d).getD k 0] = lsU ts d (k + 1) := by
  have h2 := lessN_len ts d h
  unfold lsU
  rcases Nat.lt_or_ge k (ts.length - 1 - d) with h1 | h1
  · rw [if_pos (by omega), if_pos (by omega), List.take_succ_eq_append_getElem hk]
    simp [List.getD_eq_getElem?_getD, hk]
  · have e := lessN_at h (k - 1)
    rw [if_neg (by omega), show k - 1 + 1 = k by omega] at e
    have hk1 : k - 1 < (lessN ts d).length := by omega
    rw [if_neg (by omega), if_neg (by omega), ← e, show k + 1 - 1 = (k - 1) + 1 by omega, List.take_succ_eq_append_getElem hk1]
    simp [List.getD_eq_getElem?_getD, hk1]
theorem lsU_len (ts : List RTm) (d k : Nat) : (lsU ts d k).length ≤ k := by
  unfold lsU
  split
  · rw [List.length_take]; omega
  · rw [List.length_take]; omega
theorem less_split {ts : List RTm} {d : Nat} (h : d < ts.length) : zs (lessN ts d) = (zs (leftN ts d)).take (ts.length - 1 - d) ++ (zs (leftN ts d)).drop (ts.length - 1 - d + 1) := by
  rw [leftN_cut h]
  unfold lessN zs
  rw [List.map_append, List.map_append, List.take_left' (by simp), List.map_cons, List.drop_append, List.drop_of_length_le (by simp)]
  simp
theorem newsZ {w : World} {b off : Nat} {ns : List Int} (h : IntsAt w b off ns) : ∀ j u, (ns.map (Value.int .i64))[j]? = some u → w.cell? ((⟨b, off, none⟩ : Addr).add j) = some u := fun j u hj => by
  rw [List.getElem?_map] at hj
  obtain ⟨x, hx, rfl⟩ := Option.map_eq_some_iff.1 hj
  obtain ⟨hlt, he⟩ := List.getElem?_eq_some_iff.1 hx
  rw [Go.WideShapes.add_plain, h j hlt]
  congr 2
  simp [List.getD_eq_getElem?_getD, hx]
theorem intsAt_take {w : World} {b : Nat} {L : List Int} (h : IntsAt w b 0 L) (k : Nat) : IntsAt w b 0 (L.take k) := fun i hi => by
  rw [List.length_take] at hi
  rw [h i (by omega)]
  congr 2
  simp [List.getD_eq_getElem?_getD, show i < k by omega]
theorem intsAt_drop {w : World} {b : Nat} {L : List Int} (h : IntsAt w b 0 L) (k : Nat) : IntsAt w b k (L.drop k) := fun i hi => by
  rw [List.length_drop] at hi
  have := h (k + i) (by omega)
  rw [Nat.zero_add] at this
  rw [this]
  congr 2
  simp [List.getD_eq_getElem?_getD]
theorem onesZ (ns : List Int) : ∀ u ∈ ns.map (Value.int .i64), u.oneCell' = true := fun u hu => by
  obtain ⟨x, _, rfl⟩ := List.mem_map.mp hu
  rfl
/-- 'append(us, xs...)' of numbers, whatever their number, within a region. -/
theorem step_ints {w : World} {ops : Array Oper} {o : Oper} {a : Act} {K : Act → World → Prop} {Q : Exit → Act → World → Prop} {E : Prop} (hgd : o.guard = none) (s x : Operand)
    (ho : o.op = .call { callee := .builtin .append, args := #[s, x], argTypes := #[29, 29] }) (base g0 c0 : Nat) (us : List Int) (hs : a.eval s = .slice (some ⟨g0, 0, none⟩) us.length c0) (hown : w.ownsRow base 3 1 (.slice (some ⟨g0, 0, none⟩) us.length c0) us.length (us.map (Value.int .i64)))
    (g off c : Nat) (ts : List Int) (hl : us.length + ts.length ≤ 100000) (hx : a.eval x = .slice (some ⟨g, off, none⟩) ts.length c) (hnews : IntsAt w g off ts) (hbase : base ≤ w.heap.size)
    (h : ∀ g1 c1 w', w'.ownsRow base 3 1 (.slice (some ⟨g1, 0, none⟩) (us ++ ts).length c1) (us ++ ts).length ((us ++ ts).map (Value.int .i64)) → w.grownBy w' (some g0) → (g1 = g0 ∨ g1 = w.heap.size) → g1 < w'.heap.size → K (a.put o.dst (.slice (some ⟨g1, 0, none⟩) (us ++ ts).length c1)) w') :
    if Region.wanted o (yielded ops a.tmps) = true then Oper.wp Try.prog o a w K Q else E := by
  obtain ⟨i0, hti, hzz⟩ := Option.map_eq_some_iff.1 intInfo1
  simp only [Prod.mk.injEq] at hzz
  obtain ⟨hi0, hi1, hi2⟩ := hzz
  obtain ⟨_, hf⟩ := hown
  have hf0 : us.length ≤ c0 ∧ g0 < w.heap.size := by
    rcases hf with ⟨q, _⟩ | ⟨g', cap, cur, q, _, hg, hc, _⟩
    · simp at q
    · simp at q
      obtain ⟨rfl, rfl⟩ := q
      exact ⟨hc, (Array.getElem?_eq_some_iff.1 hg).1⟩
  have hown : w.ownsRow base 3 1 (.slice (some ⟨g0, 0, none⟩) us.length c0) us.length (us.map (Value.int .i64)) := ⟨by simp, hf⟩
  by_cases h0' : ts.length = 0
  · have hw : Region.wanted o (yielded ops a.tmps) = true := by simp [Region.wanted, hgd]
    rw [if_pos hw]
    have e0 : ts = [] := List.eq_nil_of_length_eq_zero h0'
    subst e0
    have hrun : (Builtin.append_ #[29, 29] o.type #[.slice (some ⟨g0, 0, none⟩) us.length c0, .slice (some ⟨g, off, none⟩) 0 c]).run Try.prog w = .ok (.slice (some ⟨g0, 0, none⟩) us.length c0) w := by
      simp [Builtin.append_, run_underlying Try.underlying29, sizeOf, typeInfo, hti, Builtin.lenOf, Builtin.firstCells, storeCells, loadCells, loadCellsFrom, hf0.1]
    have hh := h g0 c0 w (by simpa using hown) ⟨rfl, rfl, rfl, Nat.le_refl _, fun _ _ _ => rfl⟩ (.inl rfl) hf0.2
    rw [List.append_nil] at hh
    unfold Oper.wp execOp
    simp only [ho, resolve, invoke, builtin, Sem.run_bind, Sem.run_pure, Result.andThen_ok, List.map_toArray, List.map_cons, List.map_nil, hs, hx, List.length_nil, hrun]
    exact hh
  · refine step_append_lies _ hgd s x 29 ho base 3 i0 (.int .i64 0) 1 8 Try.underlying29 hti hi0 hi1 hi2 rfl (by decide) _ us.length (us.map (Value.int .i64)) hs hown ⟨g, off, none⟩ ts.length c (ts.map (Value.int .i64)) hx (by simp) (newsZ hnews) (onesZ ts) (by omega) (by unfold maxLen; omega) (by omega) hbase _ rfl ?_
    intro g1 c1 w' h1 h2 h3 h4
    rw [← List.map_append, ← List.length_append] at h1
    rw [← List.length_append]
    exact h g1 c1 w' h1 h2 (by rcases h3 with q | q; exact .inl (by simpa [Value.ownBlock] using q.symm); exact .inr q) h4
end Go.Proofs.Ythkmgccmeoigpaa
