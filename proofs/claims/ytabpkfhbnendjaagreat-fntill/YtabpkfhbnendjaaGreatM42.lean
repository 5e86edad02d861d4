/-
  Texts of this claim laid together: SpF.
-/
import Derived.Test.YtabpkfhbnendjaaGreatM41
/-
  Lines and baskets that lie anywhere are appended, within a region.
-/
namespace Go.Proofs.YtabpkfhbnendjaaGreat
open Go.ChangeShapes Go.WideShapes Go.ChangeAt Go.RowKit Go.Deep
set_option linter.unusedVariables false

def bkCells (ks : List Kb) : List Value := ks.flatMap kbC
theorem bkCells_append (a b : List Kb) : bkCells (a ++ b) = bkCells a ++ bkCells b := List.flatMap_append
theorem bkCells_take (M : List Kb) (k : Nat) : bkCells (M.take k) = (bkCells M).take (k * 2) := kbCells_take M k
theorem bkCells_drop (M : List Kb) (k : Nat) : bkCells (M.drop k) = (bkCells M).drop (k * 2) := kbCells_drop M k
def LnLies (w : World) (g off : Nat) (ts : List RLi) : Prop := ∀ j u, (lnCells ts)[j]? = some u → w.cell? ((⟨g, off, none⟩ : Addr).add j) = some u
theorem LnLies.later {w w' : World} {g off : Nat} {ts : List RLi} (h : LnLies w g off ts) (hb : Below w.heap.size w w') : LnLies w' g off ts := fun j u hj => by
  have := h j u hj
  exact (hb.cell (World.block_lt_of_cell? _ _ this)).trans this
theorem LnLies_of {w : World} {B g cp : Nat} {L : List RLi} (h : w.ownsRow B 82 4 (.slice (some ⟨g, 0, none⟩) L.length cp) L.length (lnCells L)) (i m off : Nat) (ho : off = i * 4 ∨ (L.drop i).take m = []) : LnLies w g off ((L.drop i).take m) := fun j u hj => by
  rcases ho with rfl | e
  · rw [lnCells_take, lnCells_drop] at hj
    have hlt : j < m * 4 := by
      have := (List.getElem?_eq_some_iff.1 hj).1
      rw [List.length_take] at this; omega
    rw [List.getElem?_take_of_lt hlt, List.getElem?_drop] at hj
    have hj2 := (List.getElem?_eq_some_iff.1 hj).1
    rw [show (lnCells L).length = L.length * 4 from lnCells_length L] at hj2
    rw [Go.WideShapes.add_plain, h.cellAt (i * 4 + j) (by omega)]
    exact hj
  · rw [e] at hj; simp [lnCells] at hj
set_option maxHeartbeats 2000000 in
theorem step_LnO {w : World} {ops : Array Oper} {o : Oper} {a : Act} {K : Act → World → Prop} {Q : Exit → Act → World → Prop} {E : Prop} (hgd : o.guard = none) (s x : Operand)
    (ho : o.op = .call { callee := .builtin .append, args := #[s, x], argTypes := #[28, 28] }) (base g0 c0 : Nat) (us : List RLi) (hs : a.eval s = .slice (some ⟨g0, 0, none⟩) us.length c0) (hown : w.ownsRow base 82 4 (.slice (some ⟨g0, 0, none⟩) us.length c0) us.length (lnCells us))
    (g off c : Nat) (ts : List RLi) (hl : us.length + ts.length ≤ 100000) (hx : a.eval x = .slice (some ⟨g, off, none⟩) ts.length c) (hnews : LnLies w g off ts) (hbase : base ≤ w.heap.size)
    (h : ∀ g1 c1 w', w'.ownsRow base 82 4 (.slice (some ⟨g1, 0, none⟩) (us ++ ts).length c1) (us ++ ts).length (lnCells (us ++ ts)) → w.grownBy w' (some g0) → (g1 = g0 ∨ g1 = w.heap.size) → g1 < w'.heap.size → K (a.put o.dst (.slice (some ⟨g1, 0, none⟩) (us ++ ts).length c1)) w') :
    if Region.wanted o (yielded ops a.tmps) = true then Oper.wp Tryz.prog o a w K Q else E := by
  obtain ⟨i0, hti, hzz⟩ := Option.map_eq_some_iff.1 lnInfo
  simp only [Prod.mk.injEq] at hzz
  obtain ⟨hi0, hi1, hi2⟩ := hzz
  obtain ⟨_, hf⟩ := hown
  have hf0 : us.length ≤ c0 ∧ g0 < w.heap.size := by
    rcases hf with ⟨q, _⟩ | ⟨g', cap, cur, q, _, hg, hc, _⟩
    · simp at q
    · simp at q
      obtain ⟨rfl, rfl⟩ := q
      exact ⟨hc, (Array.getElem?_eq_some_iff.1 hg).1⟩
  have hown : w.ownsRow base 82 4 (.slice (some ⟨g0, 0, none⟩) us.length c0) us.length (lnCells us) := ⟨lnCells_length us, hf⟩
  by_cases h0' : ts.length = 0
  · have hw : Region.wanted o (yielded ops a.tmps) = true := by simp [Region.wanted, hgd]
    rw [if_pos hw]
    have e0 : ts = [] := List.eq_nil_of_length_eq_zero h0'
    subst e0
    have hrun : (Builtin.append_ #[28, 28] o.type #[.slice (some ⟨g0, 0, none⟩) us.length c0, .slice (some ⟨g, off, none⟩) 0 c]).run Tryz.prog w = .ok (.slice (some ⟨g0, 0, none⟩) us.length c0) w := by
      simp [Builtin.append_, run_underlying Tryz.underlying28, sizeOf, typeInfo, hti, Builtin.lenOf, Builtin.firstCells, storeCells, loadCells, loadCellsFrom, hf0.1]
    have hh := h g0 c0 w (by simpa using hown) ⟨rfl, rfl, rfl, Nat.le_refl _, fun _ _ _ => rfl⟩ (.inl rfl) hf0.2
    rw [List.append_nil] at hh
    unfold Oper.wp execOp
    simp only [ho, resolve, invoke, builtin, Sem.run_bind, Sem.run_pure, Result.andThen_ok, List.map_toArray, List.map_cons, List.map_nil, hs, hx, List.length_nil, hrun]
    exact hh
  · refine step_append_lies _ hgd s x 28 ho base 82 i0 (.agg #[.int .i64 0, .int .i64 0, .int .i64 0, .int .i64 0]) 4 32 Tryz.underlying28 hti hi0 hi1 hi2 rfl (by decide) _ us.length (lnCells us) hs hown ⟨g, off, none⟩ ts.length c (lnCells ts) hx (lnCells_length ts) hnews (lnCells_one ts) (by omega) (by unfold maxLen; omega) (by omega) hbase _ rfl ?_
    intro g1 c1 w' h1 h2 h3 h4
    rw [← List.length_append, ← lnCells_append] at h1
    rw [← List.length_append]
    exact h g1 c1 w' h1 h2 (by rcases h3 with q | q; exact .inl (by simpa [Value.ownBlock] using q.symm); exact .inr q) h4
def BkLies (w : World) (g off : Nat) (ts : List Kb) : Prop := ∀ j u, (bkCells ts)[j]? = some u → w.cell? ((⟨g, off, none⟩ : Addr).add j) = some u
theorem BkLies.later {w w' : World} {g off : Nat} {ts : List Kb} (h : BkLies w g off ts) (hb : Below w.heap.size w w') : BkLies w' g off ts := fun j u hj => by
  have := h j u hj
  exact (hb.cell (World.block_lt_of_cell? _ _ this)).trans this
theorem BkLies_of {w : World} {B g cp : Nat} {L : List Kb} (h : w.ownsRow B 30 2 (.slice (some ⟨g, 0, none⟩) L.length cp) L.length (bkCells L)) (i m off : Nat) (ho : off = i * 2 ∨ (L.drop i).take m = []) : BkLies w g off ((L.drop i).take m) := fun j u hj => by
  rcases ho with rfl | e
  · rw [bkCells_take, bkCells_drop] at hj
    have hlt : j < m * 2 := by
      have := (List.getElem?_eq_some_iff.1 hj).1
      rw [List.length_take] at this; omega
    rw [List.getElem?_take_of_lt hlt, List.getElem?_drop] at hj
    have hj2 := (List.getElem?_eq_some_iff.1 hj).1
    rw [show (bkCells L).length = L.length * 2 from kbCells_len L] at hj2
    rw [Go.WideShapes.add_plain, h.cellAt (i * 2 + j) (by omega)]
    exact hj
  · rw [e] at hj; simp [bkCells] at hj
set_option maxHeartbeats 2000000 in
theorem step_BkO {w : World} {ops : Array Oper} {o : Oper} {a : Act} {K : Act → World → Prop} {Q : Exit → Act → World → Prop} {E : Prop} (hgd : o.guard = none) (s x : Operand)
    (ho : o.op = .call { callee := .builtin .append, args := #[s, x], argTypes := #[31, 31] }) (base g0 c0 : Nat) (us : List Kb) (hs : a.eval s = .slice (some ⟨g0, 0, none⟩) us.length c0) (hown : w.ownsRow base 30 2 (.slice (some ⟨g0, 0, none⟩) us.length c0) us.length (bkCells us))
    (g off c : Nat) (ts : List Kb) (hvs : ∀ k ∈ ts, ∃ a n c, k.v = .slice a n c) (hl : us.length + ts.length ≤ 100000) (hx : a.eval x = .slice (some ⟨g, off, none⟩) ts.length c) (hnews : BkLies w g off ts) (hbase : base ≤ w.heap.size)
    (h : ∀ g1 c1 w', w'.ownsRow base 30 2 (.slice (some ⟨g1, 0, none⟩) (us ++ ts).length c1) (us ++ ts).length (bkCells (us ++ ts)) → w.grownBy w' (some g0) → (g1 = g0 ∨ g1 = w.heap.size) → g1 < w'.heap.size → K (a.put o.dst (.slice (some ⟨g1, 0, none⟩) (us ++ ts).length c1)) w') :
    if Region.wanted o (yielded ops a.tmps) = true then Oper.wp Tryz.prog o a w K Q else E := by
  obtain ⟨i0, hti, hzz⟩ := Option.map_eq_some_iff.1 bkInfo
  simp only [Prod.mk.injEq] at hzz
  obtain ⟨hi0, hi1, hi2⟩ := hzz
  obtain ⟨_, hf⟩ := hown
  have hf0 : us.length ≤ c0 ∧ g0 < w.heap.size := by
    rcases hf with ⟨q, _⟩ | ⟨g', cap, cur, q, _, hg, hc, _⟩
    · simp at q
    · simp at q
      obtain ⟨rfl, rfl⟩ := q
      exact ⟨hc, (Array.getElem?_eq_some_iff.1 hg).1⟩
  have hown : w.ownsRow base 30 2 (.slice (some ⟨g0, 0, none⟩) us.length c0) us.length (bkCells us) := ⟨kbCells_len us, hf⟩
  by_cases h0' : ts.length = 0
  · have hw : Region.wanted o (yielded ops a.tmps) = true := by simp [Region.wanted, hgd]
    rw [if_pos hw]
    have e0 : ts = [] := List.eq_nil_of_length_eq_zero h0'
    subst e0
    have hrun : (Builtin.append_ #[31, 31] o.type #[.slice (some ⟨g0, 0, none⟩) us.length c0, .slice (some ⟨g, off, none⟩) 0 c]).run Tryz.prog w = .ok (.slice (some ⟨g0, 0, none⟩) us.length c0) w := by
      simp [Builtin.append_, run_underlying Tryz.underlying31, sizeOf, typeInfo, hti, Builtin.lenOf, Builtin.firstCells, storeCells, loadCells, loadCellsFrom, hf0.1]
    have hh := h g0 c0 w (by simpa using hown) ⟨rfl, rfl, rfl, Nat.le_refl _, fun _ _ _ => rfl⟩ (.inl rfl) hf0.2
    rw [List.append_nil] at hh
    unfold Oper.wp execOp
    simp only [ho, resolve, invoke, builtin, Sem.run_bind, Sem.run_pure, Result.andThen_ok, List.map_toArray, List.map_cons, List.map_nil, hs, hx, List.length_nil, hrun]
    exact hh
  · refine step_append_lies _ hgd s x 31 ho base 30 i0 (.agg #[.slice none 0 0, .int .i64 0]) 2 32 Tryz.underlying31 hti hi0 hi1 hi2 rfl (by decide) _ us.length (bkCells us) hs hown ⟨g, off, none⟩ ts.length c (bkCells ts) hx (kbCells_len ts) hnews (kbCells_one hvs) (by omega) (by unfold maxLen; omega) (by omega) hbase _ rfl ?_
    intro g1 c1 w' h1 h2 h3 h4
    rw [← List.length_append, ← bkCells_append] at h1
    rw [← List.length_append]
    exact h g1 c1 w' h1 h2 (by rcases h3 with q | q; exact .inl (by simpa [Value.ownBlock] using q.symm); exact .inr q) h4
end Go.Proofs.YtabpkfhbnendjaaGreat
