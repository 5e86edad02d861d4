/-
  Drawn tax rows in a row of their own: the state of the draws, and a copy of such a row.
-/
import Derived.Test.YtoaimjocphfcaaaDrawTax1
import Derived.Test.YtoaimjocphfcaaaTaxB
import Derived.Test.YtoaimjocphfcaaaTaxC
import Derived.Deep.AppendLies
import Derived.Laws.OwnMore
namespace Go.Proofs.Ytoaimjocphfcaaa
open Go.ChangeShapes Go.WideShapes Go.ChangeAt Go.RowKit
set_option linter.unusedVariables false

theorem ownsRow_sameT {w w' : World} {B : Nat} {e : TypeId} {size : Nat} {v : Value} {n : Nat} {xs : List Value} (h : w.ownsRow B e size v n xs) (hs : ∀ k, v.ownBlock = some k → w'.heap[k]? = w.heap[k]?) : w'.ownsRow B e size v n xs := by
  obtain ⟨h1, h2⟩ := h
  refine ⟨h1, ?_⟩
  rcases h2 with h2 | ⟨g, cap, cur, e, hB, hg, r⟩
  · exact .inl h2
  · exact .inr ⟨g, cap, cur, e, hB, (hs g (by rw [e]; rfl)).trans hg, r⟩
theorem Src.grownT {w w' : World} {b : Nat} {a : Option Addr} {len cap : Nat} {x s : Int} {row : Option Nat} (h : Src w b a len cap x s) (hg : w.grownBy w' row) (hr : ∀ k, row = some k → k ≠ b) : Src w' b a len cap x s := by
  have hb := h.2.2.2.2.2.1
  have e : w'.heap[b]? = w.heap[b]? := hg.block b hb (fun e => hr b e.symm rfl)
  obtain ⟨h0, h1, h2, f1, f2, _, r⟩ := h
  exact ⟨(World.cell?_of_block (w := w) (a := ⟨b, 0, none⟩) e).trans h0, (World.cell?_of_block (w := w) (a := ⟨b, 1, none⟩) e).trans h1, (World.cell?_of_block (w := w) (a := ⟨b, 2, none⟩) e).trans h2, (World.frozen?_of_block (w := w) (a := ⟨b, 1, none⟩) e).trans f1, (World.frozen?_of_block (w := w) (a := ⟨b, 2, none⟩) e).trans f2, Nat.lt_of_lt_of_le hb hg.size, r⟩
theorem Src.laterT {w w' : World} {b : Nat} {a : Option Addr} {len cap : Nat} {x s : Int} (h : Src w b a len cap x s) (hB : Below w.heap.size w w') : Src w' b a len cap x s := by
  obtain ⟨h0, h1, h2, f1, f2, hb, r⟩ := h
  exact ⟨(hB.cell (p := ⟨b, 0, none⟩) hb).trans h0, (hB.cell (p := ⟨b, 1, none⟩) hb).trans h1, (hB.cell (p := ⟨b, 2, none⟩) hb).trans h2, (hB.frozen (p := ⟨b, 1, none⟩) hb).trans f1, (hB.frozen (p := ⟨b, 2, none⟩) hb).trans f2, Nat.lt_of_lt_of_le hb hB.size, r⟩

/-- The source in block b; the rows drawn so far in a row of their own. -/
def TxSt (w : World) (b : Nat) (a : Option Addr) (len cap : Nat) (v : Value) (rs : List TR) (at' sd : Int) (wr : World) : Prop :=
  wr.ownsRow (b + 1) 45 6 v rs.length (trCells rs) ∧ Src wr b a len cap at' sd ∧ b + 1 ≤ wr.heap.size ∧ Below b w wr
theorem TxSt.step {w : World} {b : Nat} {a : Option Addr} {len cap : Nat} {v : Value} {rs : List TR} {at' sd at2 sd2 : Int} {wr w' : World} (h : TxSt w b a len cap v rs at' sd wr) (ha : Apart b wr w') (hb : Below b wr w') (hs : Src w' b a len cap at2 sd2) : TxSt w b a len cap v rs at2 sd2 w' := by
  obtain ⟨h1, h2, h3, h4⟩ := h
  exact ⟨ownsRow_sameT h1 (fun k hk => ha.2 k (by have := (h1.lt k hk).1; omega) (h1.lt k hk).2), hs, Nat.le_trans h3 ha.1, h4.trans hb⟩
theorem TxSt.later {w : World} {b : Nat} {a : Option Addr} {len cap : Nat} {v : Value} {rs : List TR} {at' sd : Int} {wr w' : World} (h : TxSt w b a len cap v rs at' sd wr) (hb : Below wr.heap.size wr w') : TxSt w b a len cap v rs at' sd w' := by
  obtain ⟨h1, h2, h3, h4⟩ := h
  exact ⟨ownsRow_sameT h1 (fun k hk => hb.block k (h1.lt k hk).2), h2.laterT hb, Nat.le_trans h3 hb.size, h4.trans (hb.mono (by omega))⟩
theorem TxSt.push {w : World} {b : Nat} {a : Option Addr} {len cap : Nat} {v : Value} {rs : List TR} {at' sd : Int} {wr w' : World} {g cp : Nat} {r : TR} (h : TxSt w b a len cap v rs at' sd wr)
    (ho : w'.ownsRow (b + 1) 45 6 (.slice (some ⟨g, 0, none⟩) (rs.length + 1) cp) (rs.length + 1) (trCells rs ++ rowCells r)) (hg : wr.grownBy w' v.ownBlock) : TxSt w b a len cap (.slice (some ⟨g, 0, none⟩) (rs.length + 1) cp) (rs ++ [r]) at' sd w' := by
  obtain ⟨h1, h2, h3, h4⟩ := h
  refine ⟨?_, h2.grownT hg (fun k hk => by have := (h1.lt k hk).1; omega), Nat.le_trans h3 hg.size, h4.grown hg (by omega) (fun k hk => by have := (h1.lt k hk).1; omega)⟩
  rw [List.length_append, trCells_append]
  have : trCells [r] = rowCells r := by simp [trCells]
  rw [this]; exact ho
theorem TxSt.start {w : World} {b : Nat} {a : Option Addr} {len cap : Nat} {at' sd : Int} (hs : Src w b a len cap at' sd) :
    TxSt w b a len cap (.slice (some ⟨w.heap.size, 0, none⟩) 0 0) [] at' sd (w.alloc (Obj.cells #[] 45)) := by
  have hb := hs.2.2.2.2.2.1
  exact ⟨⟨rfl, .inr ⟨w.heap.size, 0, #[], rfl, hb, heapNew w _, Nat.le_refl _, by unfold maxLen; omega, rfl, rfl⟩⟩, hs.allocT _, by simp; omega, (Below.refl _ _).alloc (by omega) _⟩
theorem TxSt.reads {w : World} {b g n cp : Nat} {a : Option Addr} {len cap : Nat} {rs : List TR} {at' sd : Int} {wr : World} (h : TxSt w b a len cap (.slice (some ⟨g, 0, none⟩) n cp) rs at' sd wr) : ReadsT wr.heap.size wr (some ⟨g, 0, none⟩) rs ∧ n = rs.length := by
  obtain ⟨a', cap', e, hr⟩ := own_form h.1
  simp at e
  obtain ⟨rfl, rfl, rfl⟩ := e
  exact ⟨hr, rfl⟩

theorem taxRowInfo : (Try.prog.info? 45).map (fun i => (i.zero, i.size, i.bytes)) = some (some (.agg #[.int .i64 0, .string ⟨#[]⟩, .int .i64 0, .int .i64 0, .int .i64 0, .int .i64 0]), 6, 56) := by kernel_rfl
theorem oneRowT (r : TR) : ∀ u ∈ rowCells r, u.oneCell' = true := fun u hu => by
  simp [rowCells] at hu; rcases hu with rfl | rfl | rfl | rfl | rfl | rfl <;> rfl
theorem oneRowsT : ∀ (rs : List TR), ∀ u ∈ trCells rs, u.oneCell' = true
  | [], u, hu => by cases hu
  | r :: rs, u, hu => by
    rcases List.mem_append.1 hu with h | h
    · exact oneRowT r u h
    · exact oneRowsT rs u h
theorem grown_self (w : World) (q : Option Nat) : w.grownBy w q := ⟨rfl, rfl, rfl, Nat.le_refl _, fun _ _ _ => rfl⟩
/-- 'append([]TaxRow{}, rs...)' at a step of a region that draws its order. -/
theorem step_copy {w : World} {ops : Array Oper} {o : Oper} {a : Act} {K : Act → World → Prop} {Q : Exit → Act → World → Prop} {E : Prop} (hgd : o.guard = none) (s x : Operand)
    (ho : o.op = .call { callee := .builtin .append, args := #[s, x], argTypes := #[23, 23] }) (base h0 : Nat) (hs : a.eval s = .slice (some ⟨h0, 0, none⟩) 0 0) (hown : w.ownsRow base 45 6 (.slice (some ⟨h0, 0, none⟩) 0 0) 0 [])
    (g c : Nat) (rs : List TR) (hl : rs.length ≤ 1000) (hx : a.eval x = .slice (some ⟨g, 0, none⟩) rs.length c) (hnews : ∀ j u, (trCells rs)[j]? = some u → w.cell? ((⟨g, 0, none⟩ : Addr).add j) = some u) (hbase : base ≤ w.heap.size)
    (h : ∀ g1 c1 w', w'.ownsRow base 45 6 (.slice (some ⟨g1, 0, none⟩) rs.length c1) rs.length (trCells rs) → w.grownBy w' (some h0) → K (a.put o.dst (.slice (some ⟨g1, 0, none⟩) rs.length c1)) w') :
    if Region.wanted o (yielded ops a.tmps) = true then Oper.wp Try.prog o a w K Q else E := by
  obtain ⟨i0, hti, hzz⟩ := Option.map_eq_some_iff.1 taxRowInfo
  simp only [Prod.mk.injEq] at hzz
  obtain ⟨hi0, hi1, hi2⟩ := hzz
  by_cases h0' : rs.length = 0
  · have hw : Region.wanted o (yielded ops a.tmps) = true := by simp [Region.wanted, hgd]
    rw [if_pos hw]
    have hrun : (Builtin.append_ #[23, 23] o.type #[.slice (some ⟨h0, 0, none⟩) 0 0, .slice (some ⟨g, 0, none⟩) 0 c]).run Try.prog w = .ok (.slice (some ⟨h0, 0, none⟩) 0 0) w := by
      simp [Builtin.append_, run_underlying Try.underlying23, sizeOf, typeInfo, hti, Builtin.lenOf, Builtin.firstCells, storeCells, loadCells, loadCellsFrom]
    have e0 : rs = [] := List.eq_nil_of_length_eq_zero h0'
    subst e0
    have hh := h h0 0 w hown (grown_self _ _)
    unfold Oper.wp execOp
    simp only [ho, resolve, invoke, builtin, Sem.run_bind, Sem.run_pure, Result.andThen_ok, List.map_toArray, List.map_cons, List.map_nil, hs, hx, List.length_nil, hrun]
    exact hh
  · refine step_append_lies _ hgd s x 23 ho base 45 i0 (.agg #[.int .i64 0, .string ⟨#[]⟩, .int .i64 0, .int .i64 0, .int .i64 0, .int .i64 0]) 6 56 Try.underlying23 hti hi0 hi1 hi2 rfl (by decide) _ 0 [] hs hown ⟨g, 0, none⟩ rs.length c (trCells rs) hx (trCells_length rs) hnews (oneRowsT rs) (by omega) (by unfold maxLen; omega) (by omega) hbase _ rfl ?_
    intro g1 c1 w' h1 h2 _ _
    rw [Nat.zero_add] at h1
    rw [Nat.zero_add]
    exact h g1 c1 w' h1 h2
/-- The cells of rows that own their memory. -/
theorem own_news {w : World} {B g cp : Nat} {rs : List TR} (h : w.ownsRow B 45 6 (.slice (some ⟨g, 0, none⟩) rs.length cp) rs.length (trCells rs)) : ∀ j u, (trCells rs)[j]? = some u → w.cell? ((⟨g, 0, none⟩ : Addr).add j) = some u := fun j u hj => by
  have hlt : j < rs.length * 6 := by rw [← trCells_length rs]; exact (List.getElem?_eq_some_iff.1 hj).1
  have := h.cellAt j hlt
  rw [hj] at this
  rw [Go.WideShapes.add_plain, Nat.zero_add]; exact this
end Go.Proofs.Ytoaimjocphfcaaa
