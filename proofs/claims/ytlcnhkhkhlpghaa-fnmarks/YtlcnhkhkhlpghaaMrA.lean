/-
  The program's memo: a map by a day, a step and a number of units; what a look-up and a store do; what it holds.
-/
import Derived.Test.YtlcnhkhkhlpghaaMrM
import Derived.Maps.OwnOps
import Derived.Maps.OwnSet
import Derived.Maps.Views
import Derived.WideKeyEntry
import Derived.DeepKeys4
namespace Go.Proofs.Ytlcnhkhkhlpghaa
open Go.ChangeShapes Go.WideShapes Go.ChangeAt Go.RowKit Go.Deep
set_option linter.unusedVariables false

def WfN (c : Int) : Prop := (Lit.int .i64 c).wf = true
theorem wfN_of {c : Int} (h : 0 ≤ c) (h' : c ≤ 1000000) : WfN c := by
  unfold WfN Lit.wf
  rw [Bool.and_eq_true, decide_eq_true_eq, decide_eq_true_eq]
  exact ⟨by show (-9223372036854775808 : Int) ≤ _; omega, by show c ≤ 9223372036854775807; omega⟩
def keyD (d s l : Int) : Value := .agg #[.int .i64 d, .int .i64 s, .int .i64 l]
def klD (d s l : Int) : Lit := .string (keyBytes [.int .i64 d, .int .i64 s, .int .i64 l])
structure KdOK (d s l : Int) : Prop where
  d : WfN d
  s : WfN s
  l : WfN l
theorem mdLaid : laidOutB Try.prog = true := by kernel_rfl
theorem mdKey : WideMaps.KeyLaw Try.prog 79 := deep_law_laid mdLaid (m := 3) (by omega) (of_decide_eq_true (by kernel_rfl)) (by kernel_rfl) (by kernel_rfl)
theorem mdKeyed : Maps.Keyed Try.prog 79 := Maps.Keyed.of_law mdKey
theorem mdKeyType : Try.prog.keyType 79 = true := by kernel_rfl
theorem mdCells : Try.prog.cellsOf 79 = 3 := by kernel_rfl
theorem mdCellsI : Try.prog.cellsOf 3 = 1 := by kernel_rfl
theorem mdRow : (79 : TypeId) < Try.prog.types.size := of_decide_eq_true (by kernel_rfl)
/-- A key of three fields, all numbers, at whatever program. -/
theorem keyOf_three {P : Program} {k t : TypeId} {n0 n1 n2 g0 g1 g2 p0 p1 p2 : String} {e0 e1 e2 : Bool} {b0 b1 b2 : Nat}
    (hu : P.underlying k = some (.struct #[{ name := n0, type := t, offset := 0, embedded := e0, tag := g0, pkgPath := p0, byteOffset := b0 }, { name := n1, type := t, offset := 1, embedded := e1, tag := g1, pkgPath := p1, byteOffset := b1 }, { name := n2, type := t, offset := 2, embedded := e2, tag := g2, pkgPath := p2, byteOffset := b2 }]))
    (hn0 : (n0 != "_") = true) (hn1 : (n1 != "_") = true) (hn2 : (n2 != "_") = true) (hkt : P.keyType k = true) (hc : P.cellsOf k = 3) (h0 : P.underlying t = some (.int .i64)) (c0 : P.cellsOf t = 1) (hsz : 0 < P.types.size)
    {d s l : Int} (hd : WfN d) (hs : WfN s) (hl : WfN l) : keyOf P k (keyD d s l) = some (klD d s l) := by
  obtain ⟨n, hn⟩ : ∃ n, P.types.size = n + 1 := ⟨P.types.size - 1, by omega⟩
  unfold keyOf keyD klD
  rw [hu]
  unfold WfN at hd hl hs
  simp only [hkt, Value.formed, hu, hc, Value.cells, hn, Program.keyLits]
  simp at hn0 hn1 hn2
  simp [h0, c0, hd, hl, hs, hn0, hn1, hn2]
theorem keyD_mk {d s l : Int} (h : KdOK d s l) : keyOf Try.prog 79 (keyD d s l) = some (klD d s l) :=
  keyOf_three Try.underlying79 (by decide) (by decide) (by decide) mdKeyType mdCells Try.underlying3 mdCellsI (Nat.lt_of_le_of_lt (Nat.zero_le _) mdRow) h.d h.s h.l
theorem klD_inj {d s l d' s' l' : Int} (h : KdOK d s l) (h' : KdOK d' s' l') (e : klD d s l = klD d' s' l') : d = d' ∧ s = s' ∧ l = l' := by
  have q := mdKeyed.inj (keyD_mk h) (e ▸ keyD_mk h')
  unfold keyD at q
  simp at q
  exact q
/-- An element as it is. -/
def heldD (v : Value) : Option (DataW Value × List MemPlace) := some (.held v, [])
def zCh : Value := .agg #[.int .i64 0, .int .i64 0]
/-- Block b is a map: f what it has at each key. -/
def MapD (w : World) (b n : Nat) (f : Int → Int → Int → Option Value) : Prop :=
  ∃ D : DataW Value, w.ownsMap Try.prog 79 heldD b n D ∧ Maps.IsMap D ∧ (∀ d s l, KdOK d s l → D.atKey (klD d s l) (.held zCh) = .held ((f d s l).getD zCh)) ∧ ∀ d s l, KdOK d s l → Maps.has D (klD d s l) = (f d s l).isSome
theorem MapD.made (w : World) : MapD (w.alloc (.map #[] 0)) w.heap.size 0 (fun _ _ _ => none) :=
  ⟨.map [], World.ownsMap_made w _ _ _, Maps.isMap_empty, fun _ _ _ _ => rfl, fun _ _ _ _ => rfl⟩
theorem MapD.block {w w' : World} {b n : Nat} {f : Int → Int → Int → Option Value} (h : MapD w b n f) (e : w'.heap[b]? = w.heap[b]?) : MapD w' b n f := by
  obtain ⟨D, ⟨es, clock, hb, F, hs, hD⟩, h2, h3, h4⟩ := h
  exact ⟨D, ⟨es, clock, e.trans hb, F, hs, hD⟩, h2, h3, h4⟩
theorem MapD.lt {w : World} {b n : Nat} {f : Int → Int → Int → Option Value} (h : MapD w b n f) : b < w.heap.size := by obtain ⟨D, h1, _⟩ := h; exact h1.lt
theorem MapD.look {w : World} {b n : Nat} {f : Int → Int → Int → Option Value} {t e : TypeId} (h : MapD w b n f) (ht : Try.prog.underlying t = some (.map 79 e)) (hz : (zeroValue e).run Try.prog w = .ok zCh w) {d s l : Int} (hk : KdOK d s l) :
    (Instr.lookup t (.map (some b)) (keyD d s l) true).run Try.prog w = .ok (.tuple #[(f d s l).getD zCh, .bool (f d s l).isSome]) w := by
  obtain ⟨D, h1, h2, h3, h4⟩ := h
  obtain ⟨v, ps, hrun, hR⟩ := h1.look_ok mdKeyed ht hz (show heldD zCh = some (.held zCh, []) from rfl) (keyD_mk hk)
  rw [h3 d s l hk] at hR
  have : v = (f d s l).getD zCh := by unfold heldD at hR; simp at hR; exact hR.1
  rw [hrun, this, h4 d s l hk]
theorem MapD.put {w : World} {b n : Nat} {f : Int → Int → Int → Option Value} {t e : TypeId} (h : MapD w b n f) (ht : Try.prog.underlying t = some (.map 79 e)) (hn : n < maxLen) {d s l : Int} (hk : KdOK d s l) (v : Value) :
    ∃ w', (Instr.mapUpdate t (.map (some b)) (keyD d s l) v).run Try.prog w = .ok () w' ∧ MapD w' b (n + 1) (fun d' s' l' => if d' = d ∧ s' = s ∧ l' = l then some v else f d' s' l') ∧ w.grownBy w' (some b) := by
  obtain ⟨D, h1, h2, h3, h4⟩ := h
  obtain ⟨w', hrun, hown, hg⟩ := h1.store mdKeyed ht hn (keyD_mk hk) (show heldD v = some (.held v, []) from rfl)
  have hkl : WideAt.IsKeyLit (klD d s l) := mdKeyed.key (keyD_mk hk)
  have hne : ∀ d' s' l', KdOK d' s' l' → ¬ (d' = d ∧ s' = s ∧ l' = l) → klD d' s' l' ≠ klD d s l := fun d' s' l' a1 h e => h (klD_inj a1 hk e)
  refine ⟨w', hrun, ⟨_, hown, h2.put _ _, fun d' s' l' a1 => ?_, fun d' s' l' a1 => ?_⟩, hg.grown⟩
  · dsimp only
    by_cases e : d' = d ∧ s' = s ∧ l' = l
    · obtain ⟨rfl, rfl, rfl⟩ := e
      rw [if_pos ⟨rfl, rfl, rfl⟩]
      exact Maps.atKey_put_same h2 hkl _ _
    · rw [if_neg e, Maps.atKey_put_other (hne d' s' l' a1 e)]
      exact h3 d' s' l' a1
  · dsimp only
    by_cases e : d' = d ∧ s' = s ∧ l' = l
    · obtain ⟨rfl, rfl, rfl⟩ := e
      rw [Maps.has_put_same h2 hkl]; simp
    · rw [Maps.has_put_other (hne d' s' l' a1 e), h4 d' s' l' a1, if_neg e]
/-- A choice as a value. -/
def chV (c : Nat × Int) : Value := .agg #[.int .i64 (c.1 : Int), .int .i64 c.2]
/-- What the memo holds are choices. -/
def Memo (prs : List Int) (cs : LL) (N : Nat) (w : World) (b n : Nat) : Prop := ∃ f, MapD w b n f ∧ ∀ (d s : Nat) (l : Int) v, f (d : Int) (s : Int) l = some v → v = chV (chz prs cs N (cs.length - d) s l)
theorem Memo.fr {prs : List Int} {cs : LL} {N : Nat} {w w' : World} {b n : Nat} (h : Memo prs cs N w b n) (e : w'.heap[b]? = w.heap[b]?) : Memo prs cs N w' b n := by
  obtain ⟨f, h1, h2⟩ := h
  exact ⟨f, h1.block e, h2⟩
theorem Memo.lt {prs : List Int} {cs : LL} {N : Nat} {w : World} {b n : Nat} (h : Memo prs cs N w b n) : b < w.heap.size := by obtain ⟨f, h1, _⟩ := h; exact h1.lt
theorem Memo.made (prs : List Int) (cs : LL) (N : Nat) (w : World) : Memo prs cs N (w.alloc (.map #[] 0)) w.heap.size 0 := ⟨_, MapD.made w, fun _ _ _ _ h => by cases h⟩
theorem Memo.look {prs : List Int} {cs : LL} {N : Nat} {w : World} {b n : Nat} (h : Memo prs cs N w b n) {t e : TypeId} (ht : Try.prog.underlying t = some (.map 79 e)) (hz : (zeroValue e).run Try.prog w = .ok zCh w) {d s : Nat} {l : Int} (hk : KdOK (d : Int) (s : Int) l) :
    (Instr.lookup t (.map (some b)) (keyD (d : Int) (s : Int) l) true).run Try.prog w = .ok (.tuple #[zCh, .bool false]) w ∨ (Instr.lookup t (.map (some b)) (keyD (d : Int) (s : Int) l) true).run Try.prog w = .ok (.tuple #[chV (chz prs cs N (cs.length - d) s l), .bool true]) w := by
  obtain ⟨f, h1, h2⟩ := h
  have := h1.look ht hz hk
  cases e : f (d : Int) (s : Int) l with
  | none => rw [e] at this; exact .inl this
  | some v => rw [e] at this; rw [h2 d s l v e] at this; exact .inr this
theorem Memo.put {prs : List Int} {cs : LL} {N : Nat} {w : World} {b n : Nat} (h : Memo prs cs N w b n) {t e : TypeId} (ht : Try.prog.underlying t = some (.map 79 e)) (hn : n < maxLen) {d s : Nat} {l : Int} (hk : KdOK (d : Int) (s : Int) l) :
    ∃ w', (Instr.mapUpdate t (.map (some b)) (keyD (d : Int) (s : Int) l) (chV (chz prs cs N (cs.length - d) s l))).run Try.prog w = .ok () w' ∧ Memo prs cs N w' b (n + 1) ∧ Fr (fun q => q = b) w w' := by
  obtain ⟨f, h1, h2⟩ := h
  obtain ⟨w', hrun, hm, hg⟩ := h1.put ht hn hk (chV (chz prs cs N (cs.length - d) s l))
  refine ⟨w', hrun, ⟨_, hm, fun d' s' l' v hv => ?_⟩, (fr_grown hg).mono (fun q e => by cases e; rfl)⟩
  try dsimp only at hv
  split at hv
  · rename_i e
    obtain ⟨e1, e2, rfl⟩ := e
    obtain rfl : d' = d := by omega
    obtain rfl : s' = s := by omega
    cases hv
    rfl
  · exact h2 d' s' l' v hv
end Go.Proofs.Ytlcnhkhkhlpghaa
