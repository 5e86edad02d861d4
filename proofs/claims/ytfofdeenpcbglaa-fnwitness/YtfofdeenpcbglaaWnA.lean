/-
  For FnWitness: what is left of a core without one of its numbers; a rule whose terms grow; append of terms that lie anywhere.
-/
import Derived.Test.YtfofdeenpcbglaaLwCore
import Derived.Test.YtfofdeenpcbglaaLwFires
import Derived.Test.YtfofdeenpcbglaaDrawCl7
import Derived.Test.YtfofdeenpcbglaaRwF
namespace Go.Proofs.Ytfofdeenpcbglaa
open Go.ChangeShapes Go.WideShapes Go.ChangeAt Go.RowKit Go.Deep
set_option linter.unusedVariables false

theorem pickT_append (ts : List RTm) (a b : List Nat) : pickT ts (a ++ b) = pickT ts a ++ pickT ts b := by simp [pickT]
theorem pickT_take (ts : List RTm) (a : List Nat) (k : Nat) : pickT ts (a.take k) = (pickT ts a).take k := by simp [pickT, List.map_take]
theorem pickT_drop (ts : List RTm) (a : List Nat) (k : Nat) : pickT ts (a.drop k) = (pickT ts a).drop k := by simp [pickT, List.map_drop]
theorem pickT_all {ts : List RTm} (h : ∀ t ∈ ts, tmB t = true) {ns : List Nat} (hn : ∀ x ∈ ns, x < ts.length) : ∀ t ∈ pickT ts ns, tmB t = true := fun t ht => by
  unfold pickT at ht
  obtain ⟨x, hx, rfl⟩ := List.mem_map.1 ht
  have hl := hn x hx
  rw [show ts.getD x zTm = ts[x] by simp [List.getD_eq_getElem?_getD, hl]]
  exact h _ (List.getElem_mem hl)
theorem cut_can {ts : List RTm} (i : Nat) (hi : i < (coreR ts ts.length).length) : canT (pickT ts ((coreR ts ts.length).take i ++ (coreR ts ts.length).drop (i + 1))) = true := by
  have hp := coreR_rise ts ts.length (Nat.le_refl _)
  refine core_need ts ts.length (Nat.le_refl _) ((coreR ts ts.length)[i]) (List.getElem_mem hi) _ (fun x hx => ?_)
  rcases List.mem_append.1 hx with h | h
  · refine ⟨?_, .inr (List.mem_of_mem_take h)⟩
    obtain ⟨j, hj, rfl⟩ := List.getElem_of_mem h
    rw [List.length_take] at hj
    rw [List.getElem_take]
    have := List.pairwise_iff_getElem.1 hp j i (by omega) hi (by omega)
    omega
  · refine ⟨?_, .inr (List.mem_of_mem_drop h)⟩
    obtain ⟨j, hj, rfl⟩ := List.getElem_of_mem h
    rw [List.length_drop] at hj
    rw [List.getElem_drop]
    have := List.pairwise_iff_getElem.1 hp i (i + 1 + j) hi (by omega) (by omega)
    omega
theorem core_rise_at {ts : List RTm} (i : Nat) (hi : i + 1 < (coreR ts ts.length).length) : (coreR ts ts.length).getD i 0 < (coreR ts ts.length).getD (i + 1) 0 := by
  have hp := coreR_rise ts ts.length (Nat.le_refl _)
  have := List.pairwise_iff_getElem.1 hp i (i + 1) (by omega) hi (by omega)
  rw [List.getD_eq_getElem?_getD, List.getD_eq_getElem?_getD, List.getElem?_eq_getElem hi, List.getElem?_eq_getElem (by omega : i < _)]
  exact this
theorem clOne_with {nm : ByteArray} {ts us : List RTm} {ac nu : Int} (h : clOne ⟨nm, ts, ac, nu⟩ = true) (h1 : us.length ≤ 8) (h2 : ∀ t ∈ us, tmB t = true) : clOne ⟨nm, us, ac, nu⟩ = true := by
  unfold clOne sayB at h ⊢
  simp only [Bool.and_eq_true, decide_eq_true_eq] at h ⊢
  exact ⟨⟨h1, h.1.2⟩, h.2.1, List.all_eq_true.2 h2⟩
/-- A rule in block bk, of which the terms v are a row of their own. -/
structure Kp (w0 : World) (bk : Nat) (nm : ByteArray) (ac nu : Int) (v : Value) (L : List RTm) (W : World) : Prop where
  sz : w0.heap.size = bk
  own : W.heap[bk]? = some (.cells #[.string nm, v, .int .i64 ac, .int .i64 nu] 25 (0, 0))
  row : W.ownsRow (bk + 1) 37 3 v L.length (tmCells L)
  bel : Below bk w0 W
theorem Kp.later {w0 : World} {bk : Nat} {nm : ByteArray} {ac nu : Int} {v : Value} {L : List RTm} {W W' : World} (h : Kp w0 bk nm ac nu v L W) (hb : Below W.heap.size W W') : Kp w0 bk nm ac nu v L W' :=
  ⟨h.sz, (hb.block _ (blk_lt h.own)).trans h.own, row_at h.row (fun q hq => hb.block q (h.row.lt q hq).2), h.bel.trans (hb.mono (Nat.le_of_lt (blk_lt h.own)))⟩
theorem Kp.push {w0 : World} {bk : Nat} {nm : ByteArray} {ac nu : Int} {v : Value} {L : List RTm} {W W' : World} {g cp : Nat} {t : RTm} (h : Kp w0 bk nm ac nu v L W)
    (ho : W'.ownsRow (bk + 1) 37 3 (.slice (some ⟨g, 0, none⟩) (L.length + 1) cp) (L.length + 1) (tmCells L ++ [.int .i64 t.fd, .int .i64 t.op, .int .i64 t.nu])) (hg : W.grownBy W' v.ownBlock) :
    Kp w0 bk nm ac nu (.slice (some ⟨g, 0, none⟩) (L.length + 1) cp) (L ++ [t]) (W'.setCell ⟨bk, 1, none⟩ (.slice (some ⟨g, 0, none⟩) (L.length + 1) cp)) := by
  have hb := blk_lt h.own
  have hne : v.ownBlock ≠ some bk := fun e => by have := (h.row.lt bk e).1; omega
  have hgb : g ≠ bk := fun e => by have := (ho.lt g rfl).1; omega
  have hset : ∀ k, k ≠ bk → (W'.setCell ⟨bk, 1, none⟩ (.slice (some ⟨g, 0, none⟩) (L.length + 1) cp)).heap[k]? = W'.heap[k]? := fun k hk => Below.heap_setCell _ _ _ _ hk
  refine ⟨h.sz, ?_, ?_, (h.bel.grown hg (Nat.le_of_lt hb) (fun q hq => by have := (h.row.lt q hq).1; omega)).setCell (Nat.le_refl _) _⟩
  · exact heap_setCell_same _ _ 1 _ _ _ ((hg.block bk hb (fun e => hne e.symm)).trans h.own)
  · rw [List.length_append, tmCells_append]
    exact row_at ho (fun q hq => hset q (by cases hq; exact hgb))
theorem Kp.cells {w0 : World} {bk : Nat} {nm : ByteArray} {ac nu : Int} {v : Value} {L : List RTm} {W : World} (h : Kp w0 bk nm ac nu v L W) :
    (W.cell? ⟨bk, 0, none⟩ = some (.string nm) ∧ W.cell? ⟨bk, 1, none⟩ = some v ∧ W.cell? ⟨bk, 2, none⟩ = some (.int .i64 ac) ∧ W.cell? ⟨bk, 3, none⟩ = some (.int .i64 nu)) ∧ W.frozen? ⟨bk, 1, none⟩ = false ∧ bk < W.heap.size := by
  refine ⟨⟨?_, ?_, ?_, ?_⟩, ?_, blk_lt h.own⟩
  · unfold World.cell?; rw [h.own]; rfl
  · unfold World.cell?; rw [h.own]; rfl
  · unfold World.cell?; rw [h.own]; rfl
  · unfold World.cell?; rw [h.own]; rfl
  · unfold World.frozen?; rw [h.own]; rfl
theorem Kp.start (w0 : World) (nm : ByteArray) (ac nu : Int) : Kp w0 w0.heap.size nm ac nu (.slice none 0 0) [] (w0.alloc (Obj.cells #[.string nm, .slice none 0 0, .int .i64 ac, .int .i64 nu] 25)) :=
  ⟨rfl, heapNew _ _, World.ownsRow_nil _ _ _ _, below_alloc _ _⟩
theorem Kp.form {w0 : World} {bk : Nat} {nm : ByteArray} {ac nu : Int} {v : Value} {L : List RTm} {W : World} (h : Kp w0 bk nm ac nu v L W) : ∃ g cp, v = .slice g L.length cp := row_form h.row
theorem Kp.reads {w0 : World} {bk : Nat} {nm : ByteArray} {ac nu : Int} {g : Option Addr} {cp : Nat} {L : List RTm} {W : World} (h : Kp w0 bk nm ac nu (.slice g L.length cp) L W) : ReadsTm W.heap.size W g L := (rowTm_reads h.row).2
/-- Terms from the address ⟨g, off⟩ on. -/
def TmLies (w : World) (g off : Nat) (ts : List RTm) : Prop := ∀ j u, (tmCells ts)[j]? = some u → w.cell? ((⟨g, off, none⟩ : Addr).add j) = some u
theorem tmLies_of {w : World} {B g cp : Nat} {L : List RTm} (h : w.ownsRow B 37 3 (.slice (some ⟨g, 0, none⟩) L.length cp) L.length (tmCells L)) (i m off : Nat) (ho : off = i * 3 ∨ (L.drop i).take m = []) : TmLies w g off ((L.drop i).take m) := fun j u hj => by
  rcases ho with rfl | e
  · have hd : ∀ (M : List RTm) (k : Nat), tmCells (M.take k) = (tmCells M).take (k * 3) := by
      intro M
      induction M with
      | nil => intro k; simp [tmCells]
      | cons t r ih =>
        intro k
        cases k with
        | zero => simp [tmCells]
        | succ k =>
          have := ih k
          unfold tmCells at this ⊢
          rw [List.take_succ_cons, List.flatMap_cons, List.flatMap_cons, this, show (k + 1) * 3 = k * 3 + 1 + 1 + 1 by omega]
          rfl
    have hp : ∀ (M : List RTm) (k : Nat), tmCells (M.drop k) = (tmCells M).drop (k * 3) := by
      intro M
      induction M with
      | nil => intro k; simp [tmCells]
      | cons t r ih =>
        intro k
        cases k with
        | zero => simp
        | succ k =>
          have := ih k
          unfold tmCells at this ⊢
          rw [List.drop_succ_cons, List.flatMap_cons, this, show (k + 1) * 3 = k * 3 + 1 + 1 + 1 by omega]
          rfl
    rw [hd, hp] at hj
    have hlt : j < m * 3 := by
      have := (List.getElem?_eq_some_iff.1 hj).1
      rw [List.length_take] at this; omega
    rw [List.getElem?_take_of_lt hlt, List.getElem?_drop] at hj
    have hj2 := (List.getElem?_eq_some_iff.1 hj).1
    rw [tmCells_length] at hj2
    rw [Go.WideShapes.add_plain, h.cellAt (i * 3 + j) (by omega)]
    exact hj
  · rw [e] at hj; simp [tmCells] at hj
theorem TmLies.later {w w' : World} {g off : Nat} {ts : List RTm} (h : TmLies w g off ts) (hb : Below w.heap.size w w') : TmLies w' g off ts := fun j u hj => by
  have := h j u hj
  exact (hb.cell (World.block_lt_of_cell? _ _ this)).trans this
/-- 'append(us, ts...)' of terms that lie anywhere, whatever their number, within a region. -/
theorem step_tmsO {w : World} {ops : Array Oper} {o : Oper} {a : Act} {K : Act → World → Prop} {Q : Exit → Act → World → Prop} {E : Prop} (hgd : o.guard = none) (s x : Operand)
    (ho : o.op = .call { callee := .builtin .append, args := #[s, x], argTypes := #[23, 23] }) (base g0 c0 : Nat) (us : List RTm) (hs : a.eval s = .slice (some ⟨g0, 0, none⟩) us.length c0) (hown : w.ownsRow base 37 3 (.slice (some ⟨g0, 0, none⟩) us.length c0) us.length (tmCells us))
    (g off c : Nat) (ts : List RTm) (hl : us.length + ts.length ≤ 100000) (hx : a.eval x = .slice (some ⟨g, off, none⟩) ts.length c) (hnews : TmLies w g off ts) (hbase : base ≤ w.heap.size)
    (h : ∀ g1 c1 w', w'.ownsRow base 37 3 (.slice (some ⟨g1, 0, none⟩) (us ++ ts).length c1) (us ++ ts).length (tmCells (us ++ ts)) → w.grownBy w' (some g0) → (g1 = g0 ∨ g1 = w.heap.size) → g1 < w'.heap.size → K (a.put o.dst (.slice (some ⟨g1, 0, none⟩) (us ++ ts).length c1)) w') :
    if Region.wanted o (yielded ops a.tmps) = true then Oper.wp Try.prog o a w K Q else E := by
  obtain ⟨i0, hti, hzz⟩ := Option.map_eq_some_iff.1 tmInfoR
  simp only [Prod.mk.injEq] at hzz
  obtain ⟨hi0, hi1, hi2⟩ := hzz
  obtain ⟨_, hf⟩ := hown
  have hf0 : us.length ≤ c0 ∧ g0 < w.heap.size := by
    rcases hf with ⟨q, _⟩ | ⟨g', cap, cur, q, _, hg, hc, _⟩
    · simp at q
    · simp at q
      obtain ⟨rfl, rfl⟩ := q
      exact ⟨hc, (Array.getElem?_eq_some_iff.1 hg).1⟩
  have hown : w.ownsRow base 37 3 (.slice (some ⟨g0, 0, none⟩) us.length c0) us.length (tmCells us) := ⟨tmCells_length us, hf⟩
  by_cases h0' : ts.length = 0
  · have hw : Region.wanted o (yielded ops a.tmps) = true := by simp [Region.wanted, hgd]
    rw [if_pos hw]
    have e0 : ts = [] := List.eq_nil_of_length_eq_zero h0'
    subst e0
    have hrun : (Builtin.append_ #[23, 23] o.type #[.slice (some ⟨g0, 0, none⟩) us.length c0, .slice (some ⟨g, off, none⟩) 0 c]).run Try.prog w = .ok (.slice (some ⟨g0, 0, none⟩) us.length c0) w := by
      simp [Builtin.append_, run_underlying Try.underlying23, sizeOf, typeInfo, hti, Builtin.lenOf, Builtin.firstCells, storeCells, loadCells, loadCellsFrom, hf0.1]
    have hh := h g0 c0 w (by simpa using hown) (grownSelf _ _) (.inl rfl) hf0.2
    rw [List.append_nil] at hh
    unfold Oper.wp execOp
    simp only [ho, resolve, invoke, builtin, Sem.run_bind, Sem.run_pure, Result.andThen_ok, List.map_toArray, List.map_cons, List.map_nil, hs, hx, List.length_nil, hrun]
    exact hh
  · refine step_append_lies _ hgd s x 23 ho base 37 i0 (.agg #[.int .i64 0, .int .i64 0, .int .i64 0]) 3 24 Try.underlying23 hti hi0 hi1 hi2 rfl (by decide) _ us.length (tmCells us) hs hown ⟨g, off, none⟩ ts.length c (tmCells ts) hx (tmCells_length ts) hnews (tmCells_one ts) (by omega) (by unfold maxLen; omega) (by omega) hbase _ rfl ?_
    intro g1 c1 w' h1 h2 h3 h4
    rw [← List.length_append, ← tmCells_append] at h1
    rw [← List.length_append]
    exact h g1 c1 w' h1 h2 (by rcases h3 with q | q; exact .inl (by simpa [Value.ownBlock] using q.symm); exact .inr q) h4
end Go.Proofs.Ytfofdeenpcbglaa
