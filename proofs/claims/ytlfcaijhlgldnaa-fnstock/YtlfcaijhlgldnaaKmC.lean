/-
  The program's map of lots, by article and number, whatever its elements; and its map of units by a code.
-/
import Derived.Test.YtlfcaijhlgldnaaKmA
import Derived.Maps.OwnOps
import Derived.Maps.OwnSet
import Derived.Maps.Views
import Derived.WideKeyEntry
import Derived.DeepKeys4
namespace Go.Proofs.Ytlfcaijhlgldnaa
open Go.ChangeShapes Go.WideShapes Go.ChangeAt Go.RowKit Go.Deep
open Go.ChangeMaps (setBlock heap_setBlock_same heap_setBlock_other)
set_option linter.unusedVariables false

def WfI (c : Int) : Prop := (Lit.int .i64 c).wf = true
theorem wfI_of (c : Int) (h : -9223372036854775808 ≤ c) (h' : c ≤ 9223372036854775807) : WfI c := by
  unfold WfI Lit.wf
  rw [Bool.and_eq_true, decide_eq_true_eq, decide_eq_true_eq]
  exact ⟨h, h'⟩
def keyV (s : ByteArray) (c : Int) : Value := .agg #[.string s, .int .i64 c]
def klV (s : ByteArray) (c : Int) : Lit := .string (keyBytes [.string s.data.toList, .int .i64 c])
structure KeyOK (s : ByteArray) (c : Int) : Prop where
  wf : WfI c
  sz : s.size ≤ maxLen
theorem lkLaid : laidOutB Try.prog = true := by kernel_rfl
theorem lkKey : WideMaps.KeyLaw Try.prog 82 := deep_law_laid lkLaid (m := 2) (by omega) (of_decide_eq_true (by kernel_rfl)) (by kernel_rfl) (by kernel_rfl)
theorem lkKeyed : Maps.Keyed Try.prog 82 := Maps.Keyed.of_law lkKey
theorem lkKeyType : Try.prog.keyType 82 = true := by kernel_rfl
theorem lkCells : Try.prog.cellsOf 82 = 2 := by kernel_rfl
theorem lkCells3 : Try.prog.cellsOf 3 = 1 := by kernel_rfl
theorem lkCells9 : Try.prog.cellsOf 9 = 1 := by kernel_rfl
theorem lkRow : (82 : TypeId) < Try.prog.types.size := of_decide_eq_true (by kernel_rfl)
/-- A key of two fields, a string and an int, at whatever program. -/
theorem keyOf_si {P : Program} {k t0 t1 : TypeId} {n0 n1 g0 g1 p0 p1 : String} {e0 e1 : Bool} {b0 b1 : Nat}
    (hu : P.underlying k = some (.struct #[{ name := n0, type := t0, offset := 0, embedded := e0, tag := g0, pkgPath := p0, byteOffset := b0 }, { name := n1, type := t1, offset := 1, embedded := e1, tag := g1, pkgPath := p1, byteOffset := b1 }]))
    (hn0 : (n0 != "_") = true) (hn1 : (n1 != "_") = true) (hkt : P.keyType k = true) (hc : P.cellsOf k = 2) (h0 : P.underlying t0 = some .string) (h1 : P.underlying t1 = some (.int .i64)) (c0 : P.cellsOf t0 = 1) (c1 : P.cellsOf t1 = 1) (hsz : 0 < P.types.size)
    {c : Int} {s : ByteArray} (hw : (Lit.int .i64 c).wf = true) (hs : s.size ≤ maxLen) : keyOf P k (.agg #[.string s, .int .i64 c]) = some (.string (keyBytes [.string s.data.toList, .int .i64 c])) := by
  obtain ⟨n, hn⟩ : ∃ n, P.types.size = n + 1 := ⟨P.types.size - 1, by omega⟩
  unfold keyOf
  rw [hu]
  simp only [hkt, Value.formed, hu, hc, Value.cells, hn, Program.keyLits]
  simp at hn0 hn1
  simp [h0, h1, c0, c1, hw, hs, hn0, hn1]
theorem keyV_mk {s : ByteArray} {c : Int} (h : KeyOK s c) : keyOf Try.prog 82 (keyV s c) = some (klV s c) :=
  keyOf_si Try.underlying82 (by decide) (by decide) lkKeyType lkCells Try.underlying9 Try.underlying3 lkCells9 lkCells3 (Nat.lt_of_le_of_lt (Nat.zero_le _) lkRow) h.wf h.sz
theorem klV_inj {c c' : Int} {s s' : ByteArray} (h : KeyOK s c) (h' : KeyOK s' c') (e : klV s c = klV s' c') : s = s' ∧ c = c' := by
  have q := lkKeyed.inj (keyV_mk h) (e ▸ keyV_mk h')
  unfold keyV at q
  simp at q
  exact q
/-- An element as it is. -/
def heldL (v : Value) : Option (DataW Value × List MemPlace) := some (.held v, [])
/-- Block b is a map of n entries: f what it has at each key. -/
def MapL (w : World) (b n : Nat) (f : ByteArray → Int → Option Value) : Prop :=
  ∃ D : DataW Value, w.ownsMap Try.prog 82 heldL b n D ∧ Maps.size D = n ∧ (∀ s c, KeyOK s c → D.atKey (klV s c) (.held .nilIface) = .held ((f s c).getD .nilIface)) ∧ ∀ s c, KeyOK s c → Maps.has D (klV s c) = (f s c).isSome
theorem MapL.made (w : World) : MapL (w.alloc (.map #[] 0)) w.heap.size 0 (fun _ _ => none) :=
  ⟨.map [], World.ownsMap_made w _ _ _, rfl, fun _ _ _ => rfl, fun _ _ _ => rfl⟩
theorem MapL.block {w w' : World} {b n : Nat} {f : ByteArray → Int → Option Value} (h : MapL w b n f) (e : w'.heap[b]? = w.heap[b]?) : MapL w' b n f := by
  obtain ⟨D, ⟨es, clock, hb, F, hs, hD⟩, h2, h3, h4⟩ := h
  exact ⟨D, ⟨es, clock, e.trans hb, F, hs, hD⟩, h2, h3, h4⟩
theorem MapL.lt {w : World} {b n : Nat} {f : ByteArray → Int → Option Value} (h : MapL w b n f) : b < w.heap.size := by obtain ⟨D, h1, _⟩ := h; exact h1.lt
theorem MapL.is {w : World} {b n : Nat} {f : ByteArray → Int → Option Value} (h : MapL w b n f) : ∃ es clock, w.heap[b]? = some (.map es clock) := by
  obtain ⟨D, ⟨es, clock, hb, _⟩, _⟩ := h
  exact ⟨es, clock, hb⟩
theorem lsZero (w : World) : (zeroValue 84).run Try.prog w = .ok .nilIface w := by kernel_rfl
theorem MapL.look {w : World} {b n : Nat} {f : ByteArray → Int → Option Value} (h : MapL w b n f) {s : ByteArray} {c : Int} (hk : KeyOK s c) :
    (Instr.lookup 54 (.map (some b)) (keyV s c) true).run Try.prog w = .ok (.tuple #[(f s c).getD .nilIface, .bool (f s c).isSome]) w := by
  obtain ⟨D, h1, h2, h3, h4⟩ := h
  obtain ⟨v, ps, hrun, hR⟩ := h1.look_ok lkKeyed Try.underlying54 (lsZero w) (show heldL .nilIface = some (.held .nilIface, []) from rfl) (keyV_mk hk)
  rw [h3 s c hk] at hR
  have : v = (f s c).getD .nilIface := by unfold heldL at hR; simp at hR; exact hR.1
  rw [hrun, this, h4 s c hk]
theorem MapL.get {w : World} {b n : Nat} {f : ByteArray → Int → Option Value} (h : MapL w b n f) {s : ByteArray} {c : Int} (hk : KeyOK s c) :
    (Instr.lookup 54 (.map (some b)) (keyV s c) false).run Try.prog w = .ok ((f s c).getD .nilIface) w := by
  obtain ⟨D, h1, h2, h3, h4⟩ := h
  obtain ⟨v, ps, hrun, hR⟩ := h1.lookup lkKeyed Try.underlying54 (lsZero w) (show heldL .nilIface = some (.held .nilIface, []) from rfl) (keyV_mk hk)
  rw [h3 s c hk] at hR
  have : v = (f s c).getD .nilIface := by unfold heldL at hR; simp at hR; exact hR.1
  rw [hrun, this]
theorem MapL.len {w : World} {b n : Nat} {f : ByteArray → Int → Option Value} (h : MapL w b n f) (ty : TypeId) : (Builtin.len_ #[54] ty #[.map (some b)]).run Try.prog w = .ok (.int .i64 (n : Int)) w := by
  obtain ⟨D, h1, h2, _⟩ := h
  have := h1.len Try.underlying54 ty
  rw [h2] at this
  exact this
theorem ownExact {H : Type} {P : Program} {k : TypeId} {R : Value → Option (DataW H × List MemPlace)} {w : World} {b n m : Nat} {D : DataW H} (h : w.ownsMap P k R b n D) (hm : Maps.size D ≤ m) : w.ownsMap P k R b m D := by
  obtain ⟨es, clock, hb, F, hs, rfl⟩ := h
  refine ⟨es, clock, hb, F, ?_, rfl⟩
  have e1 : ∀ l : List (Lit × DataW H), (l.foldr DataW.insert []).length = l.length := fun l => length_sorted l
  simpa [Maps.size, e1] using hm
theorem MapL.put {w : World} {b n : Nat} {f : ByteArray → Int → Option Value} (h : MapL w b n f) (hn : n < maxLen) {s : ByteArray} {c : Int} (hk : KeyOK s c) (v : Value) :
    ∃ w', (Instr.mapUpdate 54 (.map (some b)) (keyV s c) v).run Try.prog w = .ok () w' ∧ MapL w' b (if (f s c).isSome = true then n else n + 1) (fun s' c' => if s' = s ∧ c' = c then some v else f s' c') ∧ w.grownBy w' (some b) := by
  obtain ⟨D, h1, h2, h3, h4⟩ := h
  obtain ⟨w', hrun, hown, hg⟩ := h1.store lkKeyed Try.underlying54 hn (keyV_mk hk) (show heldL v = some (.held v, []) from rfl)
  have hkl : WideAt.IsKeyLit (klV s c) := lkKeyed.key (keyV_mk hk)
  have hne : ∀ s' c', KeyOK s' c' → ¬ (s' = s ∧ c' = c) → klV s' c' ≠ klV s c := fun s' c' a1 h e => h (klV_inj a1 hk e)
  have hsz : Maps.size (D.put (klV s c) (.held v)) = if (f s c).isSome = true then n else n + 1 := by
    rw [Maps.size_put (h1.tidy lkKeyed), h4 s c hk, h2]
  refine ⟨w', hrun, ⟨_, ownExact hown (Nat.le_of_eq hsz), hsz, fun s' c' a1 => ?_, fun s' c' a1 => ?_⟩, hg.grown⟩
  · dsimp only
    by_cases e : s' = s ∧ c' = c
    · obtain ⟨rfl, rfl⟩ := e
      rw [if_pos ⟨rfl, rfl⟩]
      exact Maps.atKey_put_same h1.isMap hkl _ _
    · rw [if_neg e, Maps.atKey_put_other (hne s' c' a1 e)]
      exact h3 s' c' a1
  · dsimp only
    by_cases e : s' = s ∧ c' = c
    · obtain ⟨rfl, rfl⟩ := e
      rw [Maps.has_put_same h1.isMap hkl]; simp
    · rw [Maps.has_put_other (hne s' c' a1 e), h4 s' c' a1, if_neg e]
theorem dropAll {H : Type} {P : Program} {k : TypeId} {R : Value → Option (DataW H × List MemPlace)} {w : World} {b n : Nat} {D : DataW H} {t e : TypeId} (h : w.ownsMap P k R b n D) (K : Maps.Keyed P k) (ht : P.underlying t = some (.map k e)) {key : Value} {kl : Lit} (hkey : keyOf P k key = some kl) :
    ∃ w', (∀ ty, (Builtin.delete_ #[t, k] ty #[.map (some b), key]).run P w = .ok (.tuple #[]) w') ∧ w'.ownsMap P k R b n (D.del kl) ∧ w.mapTurned w' b := by
  obtain ⟨w', h1, h2, h3⟩ := h.drop K ht hkey 0
  exact ⟨w', fun ty => h1, h2, h3⟩
theorem MapL.del {w : World} {b n : Nat} {f : ByteArray → Int → Option Value} (h : MapL w b n f) {s : ByteArray} {c : Int} (hk : KeyOK s c) (hs : (f s c).isSome = true) :
    ∃ w', (∀ ty, (Builtin.delete_ #[54, 82] ty #[.map (some b), keyV s c]).run Try.prog w = .ok (.tuple #[]) w') ∧ MapL w' b (n - 1) (fun s' c' => if s' = s ∧ c' = c then none else f s' c') ∧ w.grownBy w' (some b) := by
  obtain ⟨D, h1, h2, h3, h4⟩ := h
  obtain ⟨w', hrun, hown, hg⟩ := dropAll h1 lkKeyed Try.underlying54 (keyV_mk hk)
  have hne : ∀ s' c', KeyOK s' c' → ¬ (s' = s ∧ c' = c) → klV s' c' ≠ klV s c := fun s' c' a1 h e => h (klV_inj a1 hk e)
  have hsz : Maps.size (D.del (klV s c)) = n - 1 := by
    have := Maps.size_del (k := klV s c) (h1.tidy lkKeyed)
    rw [h4 s c hk, if_pos hs, h2] at this
    omega
  refine ⟨w', hrun, ⟨_, ownExact hown (Nat.le_of_eq hsz), hsz, fun s' c' a1 => ?_, fun s' c' a1 => ?_⟩, hg.grown⟩
  · dsimp only
    by_cases e : s' = s ∧ c' = c
    · obtain ⟨rfl, rfl⟩ := e
      rw [if_pos ⟨rfl, rfl⟩]
      exact Maps.atKey_del_same _
    · rw [if_neg e, Maps.atKey_del_other (hne s' c' a1 e)]
      exact h3 s' c' a1
  · dsimp only
    by_cases e : s' = s ∧ c' = c
    · obtain ⟨rfl, rfl⟩ := e
      rw [Maps.has_del_same]; simp
    · rw [Maps.has_del_other (hne s' c' a1 e), h4 s' c' a1, if_neg e]
/-! ### Units by a code -/
theorem ikK : Maps.Keyed Try.prog 3 := Maps.int_keyed Try.underlying3
/-- Block b is a map of at most n entries: g what it has at each number, 0 where it has nothing. -/
def MapI (w : World) (b n : Nat) (g : Int → Int) : Prop :=
  ∃ D : DataW Value, w.ownsMap Try.prog 3 heldL b n D ∧ ∀ c, WfI c → D.atKey (.int .i64 c) (.held (.int .i64 0)) = .held (.int .i64 (g c))
theorem MapI.made (w : World) : MapI (w.alloc (.map #[] 0)) w.heap.size 0 (fun _ => 0) := ⟨.map [], World.ownsMap_made w _ _ _, fun _ _ => rfl⟩
theorem MapI.block {w w' : World} {b n : Nat} {g : Int → Int} (h : MapI w b n g) (e : w'.heap[b]? = w.heap[b]?) : MapI w' b n g := by
  obtain ⟨D, ⟨es, clock, hb, F, hs, hD⟩, h2⟩ := h
  exact ⟨D, ⟨es, clock, e.trans hb, F, hs, hD⟩, h2⟩
theorem MapI.lt {w : World} {b n : Nat} {g : Int → Int} (h : MapI w b n g) : b < w.heap.size := by obtain ⟨D, h1, _⟩ := h; exact h1.lt
theorem MapI.is {w : World} {b n : Nat} {g : Int → Int} (h : MapI w b n g) : ∃ es clock, w.heap[b]? = some (.map es clock) := by
  obtain ⟨D, ⟨es, clock, hb, _⟩, _⟩ := h
  exact ⟨es, clock, hb⟩
theorem intZero (w : World) : (zeroValue 3).run Try.prog w = .ok (.int .i64 0) w := by kernel_rfl
theorem MapI.get {w : World} {b n : Nat} {g : Int → Int} (h : MapI w b n g) {c : Int} (hc : WfI c) :
    (Instr.lookup 56 (.map (some b)) (.int .i64 c) false).run Try.prog w = .ok (.int .i64 (g c)) w := by
  obtain ⟨D, h1, h3⟩ := h
  obtain ⟨v, ps, hrun, hR⟩ := h1.lookup ikK Try.underlying56 (intZero w) (show heldL (.int .i64 0) = some (.held (.int .i64 0), []) from rfl) (Maps.keyOf_int_mk Try.underlying3 hc)
  rw [h3 c hc] at hR
  have : v = .int .i64 (g c) := by unfold heldL at hR; simp at hR; exact hR.1
  rw [hrun, this]
theorem MapI.put {w : World} {b n : Nat} {g : Int → Int} (h : MapI w b n g) (hn : n < maxLen) {c : Int} (hc : WfI c) (x : Int) :
    ∃ w', (Instr.mapUpdate 56 (.map (some b)) (.int .i64 c) (.int .i64 x)).run Try.prog w = .ok () w' ∧ MapI w' b (n + 1) (fun c' => if c' = c then x else g c') ∧ w.grownBy w' (some b) := by
  obtain ⟨D, h1, h3⟩ := h
  obtain ⟨w', hrun, hown, hg⟩ := h1.store ikK Try.underlying56 hn (Maps.keyOf_int_mk Try.underlying3 hc) (show heldL (.int .i64 x) = some (.held (.int .i64 x), []) from rfl)
  have hkl : WideAt.IsKeyLit (.int .i64 c) := ikK.key (Maps.keyOf_int_mk Try.underlying3 hc)
  have hne : ∀ c', c' ≠ c → (Lit.int .i64 c') ≠ .int .i64 c := fun c' h e => by simp at e; exact h e
  refine ⟨w', hrun, ⟨_, hown, fun c' hc' => ?_⟩, hg.grown⟩
  dsimp only
  by_cases e : c' = c
  · subst e
    rw [if_pos rfl]
    exact Maps.atKey_put_same h1.isMap hkl _ _
  · rw [if_neg e, Maps.atKey_put_other (hne c' e)]
    exact h3 c' hc'
theorem MapI.clear {w : World} {b n : Nat} {g : Int → Int} (h : MapI w b n g) :
    ∃ w', (∀ ty, (Builtin.clear_ #[56] ty #[.map (some b)]).run Try.prog w = .ok (.tuple #[]) w') ∧ MapI w' b 0 (fun _ => 0) ∧ w.grownBy w' (some b) := by
  obtain ⟨D, ⟨es, clock, hb, F, hs, hD⟩, h3⟩ := h
  refine ⟨setBlock w b (.map #[] clock), fun ty => ?_, ⟨.map [], ⟨#[], clock, heap_setBlock_same hb _, ⟨by simp, ⟨by simp, by simp⟩, by simp⟩, Nat.le_refl _, rfl⟩, fun _ _ => rfl⟩, World.mapTurned.grown ⟨es, clock, #[], clock, hb, rfl⟩⟩
  simp [Builtin.clear_, run_underlying Try.underlying56, MapKept.run_getObj_map hb, MapKept.run_setObj_map _ hb, Result.andThen, setBlock]
end Go.Proofs.Ytlfcaijhlgldnaa
