/-
  The program's table of rows: a map keyed by class and place, whose elements are slices of rows that the call itself has made; what a look-up and a store at a key do.
-/
import Derived.Test.YtoaimjocphfcaaaTaxA
import Derived.Maps.OwnOps
import Derived.Maps.Views
import Derived.WideKeyEntry
import Derived.DeepKeys4
import Derived.Deep.AppendLies
import Derived.Laws.OwnMore
namespace Go.Proofs.Ytoaimjocphfcaaa
open Go.ChangeShapes Go.WideShapes Go.ChangeAt Go.RowKit
open Go.ChangeMaps (setBlock heap_setBlock_same heap_setBlock_other)
open Go.WideElems (Fit)
set_option linter.unusedVariables false

def keyV (c : Int) (s : ByteArray) : Value := .agg #[.int .i64 c, .string s]
def klOf (c : Int) (s : ByteArray) : Lit := .string (keyBytes [.int .i64 c, .string s.data.toList])
def KeyOK (c : Int) (s : ByteArray) : Prop := (Lit.int .i64 c).wf = true ∧ s.size ≤ maxLen
theorem taxLaid : laidOutB Try.prog = true := by kernel_rfl
theorem taxKey : WideMaps.KeyLaw Try.prog 69 := deep_law_laid taxLaid (m := 2) (by omega) (of_decide_eq_true (by kernel_rfl)) (by kernel_rfl) (by kernel_rfl)
theorem taxKeyed : Maps.Keyed Try.prog 69 := Maps.Keyed.of_law taxKey
theorem taxKeyType : Try.prog.keyType 69 = true := by kernel_rfl
theorem taxCells : Try.prog.cellsOf 69 = 2 := by kernel_rfl
theorem taxCells3 : Try.prog.cellsOf 3 = 1 := by kernel_rfl
theorem taxCells9 : Try.prog.cellsOf 9 = 1 := by kernel_rfl
theorem taxRow : (69 : TypeId) < Try.prog.types.size := of_decide_eq_true (by kernel_rfl)
/-- A key of two fields, an int and a string, at whatever program. -/
theorem keyOf_two {P : Program} {k t0 t1 : TypeId} {n0 n1 g0 g1 p0 p1 : String} {e0 e1 : Bool} {b0 b1 : Nat}
    (hu : P.underlying k = some (.struct #[{ name := n0, type := t0, offset := 0, embedded := e0, tag := g0, pkgPath := p0, byteOffset := b0 }, { name := n1, type := t1, offset := 1, embedded := e1, tag := g1, pkgPath := p1, byteOffset := b1 }]))
    (hn0 : (n0 != "_") = true) (hn1 : (n1 != "_") = true) (hkt : P.keyType k = true) (hc : P.cellsOf k = 2) (h0 : P.underlying t0 = some (.int .i64)) (h1 : P.underlying t1 = some .string) (c0 : P.cellsOf t0 = 1) (c1 : P.cellsOf t1 = 1) (hsz : 0 < P.types.size)
    {c : Int} {s : ByteArray} (hw : (Lit.int .i64 c).wf = true) (hs : s.size ≤ maxLen) : keyOf P k (.agg #[.int .i64 c, .string s]) = some (.string (keyBytes [.int .i64 c, .string s.data.toList])) := by
  obtain ⟨n, hn⟩ : ∃ n, P.types.size = n + 1 := ⟨P.types.size - 1, by omega⟩
  unfold keyOf
  rw [hu]
  simp only [hkt, Value.formed, hu, hc, Value.cells, hn, Program.keyLits]
  simp at hn0 hn1
  simp [h0, h1, c0, c1, hw, hs, hn0, hn1]
theorem keyOf_mk {c : Int} {s : ByteArray} (h : KeyOK c s) : keyOf Try.prog 69 (keyV c s) = some (klOf c s) :=
  keyOf_two Try.underlying69 (by decide) (by decide) taxKeyType taxCells Try.underlying3 Try.underlying9 taxCells3 taxCells9 (Nat.lt_of_le_of_lt (Nat.zero_le _) taxRow) h.1 h.2
theorem keyV_inj {c c' : Int} {s s' : ByteArray} (h : keyV c s = keyV c' s') : c = c' ∧ s = s' := by
  unfold keyV at h
  simp at h
  exact h
theorem klOf_inj {c c' : Int} {s s' : ByteArray} (h : KeyOK c s) (h' : KeyOK c' s') (e : klOf c s = klOf c' s') : c = c' ∧ s = s' :=
  keyV_inj (taxKeyed.inj (keyOf_mk h) (e ▸ keyOf_mk h'))

def rowCells (r : TR) : List Value := [.int .i64 r.cl, .string r.pl, .int .i64 r.fr, .int .i64 r.to, .int .i64 r.n, .int .i64 r.d]
def trCells : List TR → List Value
  | [] => []
  | r :: rs => rowCells r ++ trCells rs
theorem trCells_length : ∀ rs, (trCells rs).length = rs.length * 6
  | [] => rfl
  | r :: rs => by simp [trCells, rowCells, trCells_length rs]; omega
theorem trCells_append : ∀ rs qs, trCells (rs ++ qs) = trCells rs ++ trCells qs
  | [], qs => rfl
  | r :: rs, qs => by simp [trCells, trCells_append rs qs]
theorem trCells_get : ∀ (rs : List TR) (i j : Nat), i < rs.length → j < 6 → (trCells rs)[i * 6 + j]? = (rowCells (rs.getD i tr0))[j]?
  | r :: rs, 0, j, h, hj => by
    rw [show 0 * 6 + j = j by omega, trCells, List.getElem?_append_left (by simp [rowCells]; omega)]; rfl
  | r :: rs, i + 1, j, h, hj => by
    rw [trCells, List.getElem?_append_right (by simp [rowCells]; omega), show (i + 1) * 6 + j - (rowCells r).length = i * 6 + j by simp [rowCells]; omega, trCells_get rs i j (by simpa using h) hj]
    rfl
theorem rowsAt_own {w : World} {base : Nat} {g cap n : Nat} {rs : List TR} (h : w.ownsRow base 45 6 (.slice (some ⟨g, 0, none⟩) n cap) rs.length (trCells rs)) : RowsAt w g 0 rs := fun i hi => by
  have hn : n = rs.length := by
    rcases h.2 with ⟨e, _⟩ | ⟨_, _, _, e, _⟩
    · cases e
    · simp at e; exact e.2.1
  subst hn
  have q := fun j hj => trCells_get rs i j hi hj
  refine ⟨?_, ?_, ?_, ?_, ?_, ?_⟩
  · rw [h.cellAt (0 + i * 6) (by omega), show 0 + i * 6 = i * 6 + 0 by omega, q 0 (by omega)]; rfl
  · rw [h.cellAt (0 + i * 6 + 1) (by omega), show 0 + i * 6 + 1 = i * 6 + 1 by omega, q 1 (by omega)]; rfl
  · rw [h.cellAt (0 + i * 6 + 2) (by omega), show 0 + i * 6 + 2 = i * 6 + 2 by omega, q 2 (by omega)]; rfl
  · rw [h.cellAt (0 + i * 6 + 3) (by omega), show 0 + i * 6 + 3 = i * 6 + 3 by omega, q 3 (by omega)]; rfl
  · rw [h.cellAt (0 + i * 6 + 4) (by omega), show 0 + i * 6 + 4 = i * 6 + 4 by omega, q 4 (by omega)]; rfl
  · rw [h.cellAt (0 + i * 6 + 5) (by omega), show 0 + i * 6 + 5 = i * 6 + 5 by omega, q 5 (by omega)]; rfl
/-- A slice that owns rows, written out. -/
theorem own_form {w : World} {base : Nat} {v : Value} {rs : List TR} (h : w.ownsRow base 45 6 v rs.length (trCells rs)) : ∃ a cap, v = .slice a rs.length cap ∧ ReadsT w.heap.size w a rs := by
  rcases h.2 with ⟨e, h0⟩ | ⟨g, cap, cur, e, hB, hg, hn, hc, _⟩
  · exact ⟨none, 0, by rw [h0]; exact e, .inl (List.eq_nil_of_length_eq_zero h0)⟩
  · exact ⟨some ⟨g, 0, none⟩, cap, e, .inr ⟨g, 0, rfl, (Array.getElem?_eq_some_iff.1 hg).1, by rw [e] at h; exact rowsAt_own h⟩⟩

def heldR (v : Value) : Option (DataW Value × List MemPlace) := some (.held v, [])
def nilS : Value := .slice none 0 0
/-- Block b is the table: at each key a slice of its own, which holds the key's rows; no two keys' slices lie in one block. -/
def Tab (w : World) (b base n : Nat) (G : Int → ByteArray → List TR) : Prop :=
  ∃ (D : DataW Value) (V : Int → ByteArray → Value), w.ownsMap Try.prog 69 heldR b n D ∧ Maps.IsMap D ∧ b < base ∧
    (∀ c s, KeyOK c s → D.atKey (klOf c s) (.held nilS) = .held (V c s)) ∧ (∀ c s, KeyOK c s → w.ownsRow base 45 6 (V c s) (G c s).length (trCells (G c s))) ∧
    ∀ c s c' s', KeyOK c s → KeyOK c' s' → (c ≠ c' ∨ s ≠ s') → (V c s).ownBlock = none ∨ (V c s).ownBlock ≠ (V c' s').ownBlock

theorem Tab.made (w : World) : Tab (w.alloc (.map #[] 0)) w.heap.size (w.heap.size + 1) 0 (fun _ _ => []) :=
  ⟨.map [], fun _ _ => nilS, World.ownsMap_made w _ _ _, Maps.isMap_empty, by omega, fun c s _ => rfl, fun c s _ => World.ownsRow_nil _ _ _ _, fun _ _ _ _ _ _ _ => .inl rfl⟩
theorem ownsMap_block {w w' : World} {b n : Nat} {D : DataW Value} (h : w.ownsMap Try.prog 69 heldR b n D) (e : w'.heap[b]? = w.heap[b]?) : w'.ownsMap Try.prog 69 heldR b n D := by
  obtain ⟨es, clock, hb, F, hs, hD⟩ := h
  exact ⟨es, clock, e.trans hb, F, hs, hD⟩
theorem Tab.kept {w w' : World} {b base n : Nat} {G : Int → ByteArray → List TR} {row : Option Nat} (h : Tab w b base n G) (hg : w.grownBy w' row) (hr : ∀ k, row = some k → k < b) : Tab w' b base n G := by
  obtain ⟨D, V, h1, h2, h3, h4, h5, h6⟩ := h
  refine ⟨D, V, h1.kept hg (fun e => by have := hr b e.symm; omega), h2, h3, h4, fun c s hk => (h5 c s hk).kept hg ?_, h6⟩
  cases hv : (V c s).ownBlock with
  | none => exact .inl rfl
  | some k => right; intro e; have := hr k e.symm; have := ((h5 c s hk).lt k hv).1; omega
theorem Tab.alloc {w : World} {b base n : Nat} {G : Int → ByteArray → List TR} (h : Tab w b base n G) (o : Obj) : Tab (w.alloc o) b base n G := h.kept (World.grownBy_alloc w o none) (fun k hk => by cases hk)
theorem Tab.drew {w : World} {b base n : Nat} {G : Int → ByteArray → List TR} (h : Tab w b base n G) : Tab w.drew b base n G := h
theorem Tab.lt {w : World} {b base n : Nat} {G : Int → ByteArray → List TR} (h : Tab w b base n G) : b < w.heap.size := by obtain ⟨D, V, h1, _⟩ := h; exact h1.lt
theorem Tab.later {w w' : World} {b base n : Nat} {G : Int → ByteArray → List TR} (h : Tab w b base n G) (hb : Below w.heap.size w w') : Tab w' b base n G :=
  h.kept (row := none) ⟨hb.os, hb.tape, hb.output, hb.size, fun k hk _ => hb.block k hk⟩ (fun k hk => by cases hk)
theorem Tab.same {w : World} {b base n : Nat} {G G' : Int → ByteArray → List TR} (h : Tab w b base n G) (e : ∀ c s, G c s = G' c s) : Tab w b base n G' := by
  have : G = G' := funext fun c => funext fun s => e c s
  rwa [← this]

theorem zeroSlice (w : World) : (zeroValue 23).run Try.prog w = .ok nilS w := by kernel_rfl
theorem look_raw {w : World} {b n : Nat} {D : DataW Value} {c : Int} {s : ByteArray} {v : Value} (h : w.ownsMap Try.prog 69 heldR b n D) (hk : KeyOK c s) (hv : D.atKey (klOf c s) (.held nilS) = .held v) :
    (Instr.lookup 48 (.map (some b)) (keyV c s) false).run Try.prog w = .ok v w := by
  obtain ⟨u, ps, hrun, hu⟩ := h.lookup taxKeyed Try.underlying48 (zeroSlice w) (show heldR nilS = some (.held nilS, []) from rfl) (keyOf_mk hk)
  rw [hv] at hu
  have : u = v := by unfold heldR at hu; simp at hu; exact hu.1
  rw [hrun, this]
/-- What a look-up at a key gives, in every world in which the table's block is as it is here. -/
theorem Tab.look {w : World} {b base n : Nat} {G : Int → ByteArray → List TR} (h : Tab w b base n G) {c : Int} {s : ByteArray} (hk : KeyOK c s) :
    ∃ v M, w.heap[b]? = some M ∧ (∀ w' : World, w'.heap[b]? = some M → (Instr.lookup 48 (.map (some b)) (.agg #[.int .i64 c, .string s]) false).run Try.prog w' = .ok v w') ∧ w.ownsRow base 45 6 v (G c s).length (trCells (G c s)) := by
  obtain ⟨D, V, h1, h2, h3, h4, h5, h6⟩ := h
  have hb := h1
  obtain ⟨es, clock, hb, _⟩ := hb
  exact ⟨V c s, .map es clock, hb, fun w' hw' => look_raw (ownsMap_block h1 (hw'.trans hb.symm)) hk (h4 c s hk), h5 c s hk⟩

theorem one_entry {es : List MapEntry} (h : es.Pairwise (fun x y => x.key ≠ y.key)) {x y : MapEntry} (hx : x ∈ es) (hy : y ∈ es) (e : x.key = y.key) : x = y := by
  induction es with
  | nil => cases hx
  | cons a l ih =>
    obtain ⟨h1, h2⟩ := List.pairwise_cons.1 h
    rcases List.mem_cons.1 hx with q | q
    · rcases List.mem_cons.1 hy with r | r
      · rw [q, r]
      · exact absurd (q ▸ e) (h1 y r)
    · rcases List.mem_cons.1 hy with r | r
      · exact absurd (r ▸ e.symm) (h1 x q)
      · exact ih h2 q r
theorem grown_set {w : World} {b : Nat} {es es' : Array MapEntry} {clock clock' : Nat} (hb : w.heap[b]? = some (.map es clock)) : w.grownBy (setBlock w b (.map es' clock')) (some b) :=
  ⟨rfl, rfl, rfl, by simp [setBlock], fun i _ hi => heap_setBlock_other hb _ (fun e => hi (by rw [e]))⟩
theorem size_set (w : World) (b : Nat) (o : Obj) : (setBlock w b o).heap.size = w.heap.size := by simp [setBlock]

/-- 'table[key] = append(table[key], row)': the entry is laid, what is there is handed over, and the way back. -/
theorem Tab.entry {w : World} {b base n : Nat} {G : Int → ByteArray → List TR} (h : Tab w b base n G) (hn : n < maxLen) {c : Int} {s : ByteArray} (hk : KeyOK c s) :
    ∃ (v : Value) (st : Nat) (w1 : World), (Instr.mapEntry 48 (.map (some b)) (.agg #[.int .i64 c, .string s])).run Try.prog w = .ok (.tuple #[v, .int .i64 (st : Int)]) w1 ∧ w.grownBy w1 (some b) ∧ w1.heap.size = w.heap.size ∧
      w1.ownsRow base 45 6 v (G c s).length (trCells (G c s)) ∧
      ∀ (w2 : World) (v' : Value) (r : TR), w1.grownBy w2 v.ownBlock → w2.ownsRow base 45 6 v' ((G c s).length + 1) (trCells (G c s) ++ rowCells r) → (v.ownBlock = v'.ownBlock ∨ ∃ g, v'.ownBlock = some g ∧ w.heap.size ≤ g) →
        ∃ w3, (Instr.entryStore 48 (.map (some b)) (.int .i64 (st : Int)) v').run Try.prog w2 = .ok () w3 ∧ Tab w3 b base (n + 1) (fun c' s' => if c' = c ∧ s' = s then G c s ++ [r] else G c' s') ∧ w2.grownBy w3 (some b) := by
  obtain ⟨D, V, h1, h2, h3, h4, h5, h6⟩ := h
  have hbl := h1.lt
  have hown := h1
  obtain ⟨es, clock, hb, F, hs, hD⟩ := h1
  obtain ⟨v0, st, es1, clock1, hrun, hv0, hback⟩ := WideElems.entry_then_store taxKey Try.underlying48 zeroSlice hb F (keyOf_mk hk)
  have hlk := look_raw hown hk (h4 c s hk)
  have hv : v0 = V c s := by
    rcases Maps.fit_look false taxKeyed Try.underlying48 (zeroSlice w) hb F (keyOf_mk hk) with ⟨hr, hno, _⟩ | ⟨e0, y, hm, he, hr, _⟩
    · rw [hlk] at hr
      simp at hr
      rcases hv0 with ⟨e0, hm, he, _⟩ | ⟨_, e⟩
      · exact absurd he (hno e0 hm)
      · rw [e, hr]
    · rw [hlk] at hr
      simp at hr
      rcases hv0 with ⟨e1, hm1, he1, e⟩ | ⟨hno, _⟩
      · rw [e, hr, one_entry ((MapKept.stamped_iff es clock).1 F.stamped).2.2 hm1 hm (he1.trans he.symm)]
      · exact absurd he (hno e0 hm)
  subst hv
  have hg1 : w.grownBy (setBlock w b (.map es1 clock1)) (some b) := grown_set hb
  have hoff : ∀ c s, KeyOK c s → (V c s).ownBlock = none ∨ (V c s).ownBlock ≠ some b := fun c s hk => by
    cases hv : (V c s).ownBlock with
    | none => exact .inl rfl
    | some k => right; intro e; have := ((h5 c s hk).lt k hv).1; simp at e; omega
  refine ⟨V c s, st, setBlock w b (.map es1 clock1), hrun, hg1, size_set _ _ _, (h5 c s hk).kept hg1 (hoff c s hk), fun w2 v' r hg2 hown2 hloc => ?_⟩
  have hb1 : (setBlock w b (.map es1 clock1)).heap[b]? = some (.map es1 clock1) := heap_setBlock_same hb _
  have hb2 : w2.heap[b]? = some (.map es1 clock1) := (hg2.block b (by rw [size_set]; exact hbl) (fun e => by rcases hoff c s hk with h | h; (rw [h] at e; cases e); exact h e.symm)).trans hb1
  obtain ⟨es', clock', hst, hup⟩ := hback w2 v' hb2
  obtain ⟨w', hup', hown', _⟩ := hown.update taxKeyed Try.underlying48 hn (keyOf_mk hk) (show heldR v' = some (.held v', []) from rfl)
  rw [hup] at hup'
  simp at hup'
  subst hup'
  have hb3 : (setBlock w2 b (.map es' clock')).heap[b]? = (setBlock w b (.map es' clock')).heap[b]? := (heap_setBlock_same hb2 _).trans (heap_setBlock_same hb _).symm
  have hg3 : w2.grownBy (setBlock w2 b (.map es' clock')) (some b) := grown_set hb2
  have hoff' : v'.ownBlock = none ∨ v'.ownBlock ≠ some b := by
    cases hv : v'.ownBlock with
    | none => exact .inl rfl
    | some k => right; intro e; have := (hown2.lt k hv).1; simp at e; omega
  have hlt0 : ∀ c s, KeyOK c s → ∀ k, (V c s).ownBlock = some k → k < w.heap.size := fun c s hk k hv => ((h5 c s hk).lt k hv).2
  refine ⟨setBlock w2 b (.map es' clock'), hst, ⟨D.put (klOf c s) (.held v'), fun c' s' => if c' = c ∧ s' = s then v' else V c' s', ownsMap_block hown' hb3, h2.put _ _, h3, fun c' s' hk' => ?_, fun c' s' hk' => ?_, fun c1 s1 c2 s2 hk1 hk2 hne => ?_⟩, hg3⟩
  · show _ = DataW.held (if c' = c ∧ s' = s then v' else V c' s')
    by_cases e : c' = c ∧ s' = s
    · rw [if_pos e]
      obtain ⟨rfl, rfl⟩ := e
      exact Maps.atKey_put_same h2 (taxKeyed.key (keyOf_mk hk)) _ _
    · rw [if_neg e, Maps.atKey_put_other (fun q => e (klOf_inj hk' hk q))]
      exact h4 c' s' hk'
  · by_cases e : c' = c ∧ s' = s
    · simp only [if_pos e]
      rw [List.length_append, trCells_append]
      have : trCells [r] = rowCells r := by simp [trCells]
      rw [this]
      exact hown2.kept hg3 hoff'
    · simp only [if_neg e]
      refine (((h5 c' s' hk').kept hg1 (hoff c' s' hk')).kept hg2 ?_).kept hg3 (hoff c' s' hk')
      exact h6 c' s' c s hk' hk (by by_cases q : c' = c; (right; intro q'; exact e ⟨q, q'⟩); exact .inl q)
  · have hx : ∀ c' s', KeyOK c' s' → ¬ (c' = c ∧ s' = s) → (V c' s').ownBlock = none ∨ (V c' s').ownBlock ≠ v'.ownBlock := fun c' s' hk' e => by
      rcases hloc with q | ⟨g, q, hg⟩
      · rw [← q]
        exact h6 c' s' c s hk' hk (by by_cases q : c' = c; (right; intro q'; exact e ⟨q, q'⟩); exact .inl q)
      · cases hv : (V c' s').ownBlock with
        | none => exact .inl rfl
        | some k => right; intro e; have := hlt0 c' s' hk' k hv; rw [q] at e; simp at e; omega
    by_cases e1 : c1 = c ∧ s1 = s
    · by_cases e2 : c2 = c ∧ s2 = s
      · exfalso
        obtain ⟨rfl, rfl⟩ := e1
        obtain ⟨rfl, rfl⟩ := e2
        simp at hne
      · simp only [if_pos e1, if_neg e2]
        rcases hx c2 s2 hk2 e2 with q | q
        · rw [q]
          cases hv : v'.ownBlock with
          | none => exact .inl rfl
          | some k => exact .inr (by simp)
        · exact .inr (fun q' => q q'.symm)
    · by_cases e2 : c2 = c ∧ s2 = s
      · simp only [if_neg e1, if_pos e2]
        exact hx c1 s1 hk1 e1
      · simp only [if_neg e1, if_neg e2]
        exact h6 c1 s1 c2 s2 hk1 hk2 hne

/-- At the operations, for the walk. -/
theorem wpList_mapEntry {w : World} {ops : Array Oper} {rest : List Oper} {o : Oper} {a : Act} {Q : Exit → Act → World → Prop} (hg : o.guard = none) (m x : Operand) (t : TypeId) (hop : o.op = Op.mapEntry t m x)
    (mv key v : Value) (w' : World) (hm : a.eval m = mv) (hx : a.eval x = key) (hrun : (Instr.mapEntry t mv key).run Try.prog w = .ok v w') (h : wpList Try.prog ops Q rest (a.put o.dst v) w') : wpList Try.prog ops Q (o :: rest) a w := by
  refine wpList_plain hg fun K' hK' => ?_
  unfold Oper.wp
  simp [execOp, hop, hm, hx, hrun, Result.andThen]
  exact hK' _ _ h
theorem wpList_entryStore {w : World} {ops : Array Oper} {rest : List Oper} {o : Oper} {a : Act} {Q : Exit → Act → World → Prop} (hg : o.guard = none) (m x y : Operand) (t : TypeId) (hop : o.op = Op.entryStore t m x y)
    (mv st v : Value) (w' : World) (hm : a.eval m = mv) (hx : a.eval x = st) (hy : a.eval y = v) (hrun : (Instr.entryStore t mv st v).run Try.prog w = .ok () w') (h : wpList Try.prog ops Q rest (a.put o.dst undef) w') : wpList Try.prog ops Q (o :: rest) a w := by
  refine wpList_plain hg fun K' hK' => ?_
  unfold Oper.wp
  simp [execOp, hop, hm, hx, hy, hrun, Result.andThen]
  exact hK' _ _ h
end Go.Proofs.Ytoaimjocphfcaaa
