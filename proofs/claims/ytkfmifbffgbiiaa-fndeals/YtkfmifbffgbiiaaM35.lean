/-
  Texts of this claim laid together: BsM, MapS.
-/
import Derived.Test.YtkfmifbffgbiiaaM34
import Derived.Test.YtkfmifbffgbiiaaM14
import Derived.Maps.OwnOps
import Derived.Maps.OwnSet
import Derived.Maps.Views
import Derived.WideKeyEntry
import Derived.DeepKeys4
/-
  The specification's search as mathematics: sets out of a rising list, the units that a mask leaves, the first way that saves most.
-/
namespace Go.Proofs.Ytkfmifbffgbiiaa
open Go.ChangeShapes Go.WideShapes Go.ChangeAt Go.RowKit Go.Deep
set_option linter.unusedVariables false

/-- All lists of k numbers out of a list, in order. -/
def setsR : Nat → List Nat → List (List Nat)
  | 0, _ => [[]]
  | _ + 1, [] => []
  | k + 1, x :: l => (setsR k l).map (x :: ·) ++ setsR (k + 1) l
theorem setsR_short : ∀ (k : Nat) (l : List Nat), l.length < k → setsR k l = []
  | 0, _, h => absurd h (Nat.not_lt_zero _)
  | k + 1, [], _ => rfl
  | k + 1, x :: l, h => by
    rw [setsR, setsR_short k l (by simpa using h), setsR_short (k + 1) l (by simp at h; omega)]; rfl
theorem setsR_zero (l : List Nat) : setsR 0 l = [[]] := by cases l <;> rfl
theorem setsR_len : ∀ (k : Nat) (l : List Nat) (s : List Nat), s ∈ setsR k l → s.length = k ∧ s.Sublist l
  | 0, l, s, h => by
    rw [setsR_zero, List.mem_singleton] at h
    subst h
    exact ⟨rfl, List.nil_sublist _⟩
  | k + 1, [], s, h => by cases h
  | k + 1, x :: l, s, h => by
    rw [setsR] at h
    rcases List.mem_append.1 h with h | h
    · obtain ⟨s', hs', rfl⟩ := List.mem_map.1 h
      obtain ⟨h1, h2⟩ := setsR_len k l s' hs'
      exact ⟨by simp [h1], h2.cons_cons x⟩
    · obtain ⟨h1, h2⟩ := setsR_len (k + 1) l s h
      exact ⟨h1, h2.cons x⟩
theorem setsR_drop (k : Nat) (l : List Nat) (i : Nat) (h : i < l.length) : setsR (k + 1) (l.drop i) = (setsR k (l.drop (i + 1))).map (l.getD i 0 :: ·) ++ setsR (k + 1) (l.drop (i + 1)) := by
  rw [show l.drop i = l.getD i 0 :: l.drop (i + 1) by rw [show l.getD i 0 = l[i] by simp [List.getD_eq_getElem?_getD, h]]; exact List.drop_eq_getElem_cons h, setsR]
theorem tkR_sets (f : Nat → Bool) : ∀ (q : List Nat) (k : Nat) (t p : List Nat), (tkR f q k t p).map Prod.fst = (setsR k (q.filter f)).map (t ++ ·)
  | q, 0, t, p => by rw [tkR_zero, setsR_zero]; simp
  | [], k + 1, t, p => rfl
  | x :: q, k + 1, t, p => by
    rw [tkR, List.map_append, tkR_sets f q (k + 1)]
    by_cases hx : f x = true
    · rw [if_pos hx, tkR_sets f q k, List.filter_cons, if_pos hx, setsR, List.map_append, List.map_map]
      congr 1
      simp [Function.comp_def]
    · rw [if_neg hx, List.filter_cons, if_neg hx]; rfl
theorem takes_sets (us : List RUn) (d : CDl) (x : Nat) (l : List Nat) : (takes us d (x :: l)).map Prod.fst = if fitU us d x = true then (setsR (d.nd.toNat - 1) (l.filter (fitU us d))).map (x :: ·) else [] := by
  show (if fitU us d x = true then tkR (fitU us d) l (d.nd.toNat - 1) [x] [] else []).map Prod.fst = _
  by_cases hx : fitU us d x = true
  · rw [if_pos hx, if_pos hx, tkR_sets]; rfl
  · rw [if_neg hx, if_neg hx]; rfl
/-- The first that attains the most. -/
theorem first_most {α β : Type} (sv : β → Int) (v : α → Int) (mk : α → β) (hmk : ∀ c, sv (mk c) = v c) : ∀ (L : List α) (b0 : β), sv b0 ≤ sv (L.foldl (fun b c => if sv b < v c then mk c else b) b0) ∧ (∀ c ∈ L, v c ≤ sv (L.foldl (fun b c => if sv b < v c then mk c else b) b0)) ∧ (sv b0 = sv (L.foldl (fun b c => if sv b < v c then mk c else b) b0) → L.foldl (fun b c => if sv b < v c then mk c else b) b0 = b0) ∧ (sv b0 ≠ sv (L.foldl (fun b c => if sv b < v c then mk c else b) b0) → ∃ c, L.find? (fun c => decide (v c = sv (L.foldl (fun b c => if sv b < v c then mk c else b) b0))) = some c ∧ L.foldl (fun b c => if sv b < v c then mk c else b) b0 = mk c)
  | [], b0 => ⟨Int.le_refl _, fun c hc => (by cases hc), fun _ => rfl, fun h => absurd rfl h⟩
  | c :: L, b0 => by
    rw [List.foldl_cons]
    by_cases hc : sv b0 < v c
    · rw [if_pos hc]
      obtain ⟨h1, h2, h3, h4⟩ := first_most sv v mk hmk L (mk c)
      generalize L.foldl (fun b c => if sv b < v c then mk c else b) (mk c) = r at *
      rw [hmk] at h1 h3 h4
      refine ⟨by omega, fun c' hc' => ?_, fun h => by omega, fun _ => ?_⟩
      · rcases List.mem_cons.1 hc' with e | e
        · rw [e]; exact h1
        · exact h2 c' e
      · by_cases he : v c = sv r
        · exact ⟨c, by rw [List.find?_cons]; simp [he], h3 he⟩
        · obtain ⟨c', h5, h6⟩ := h4 he
          exact ⟨c', by rw [List.find?_cons]; simp [he]; exact h5, h6⟩
    · rw [if_neg hc]
      obtain ⟨h1, h2, h3, h4⟩ := first_most sv v mk hmk L b0
      generalize L.foldl (fun b c => if sv b < v c then mk c else b) b0 = r at *
      refine ⟨h1, fun c' hc' => ?_, h3, fun h => ?_⟩
      · rcases List.mem_cons.1 hc' with e | e
        · rw [e]; omega
        · exact h2 c' e
      · obtain ⟨c', h5, h6⟩ := h4 h
        have he : ¬ v c = sv r := by omega
        exact ⟨c', by rw [List.find?_cons]; simp [he]; exact h5, h6⟩
/-- The ways to begin with the first unit, in order: a deal, what it takes, what is left. -/
def cands (us : List RUn) (ds : List CDl) (left : List Nat) (sp : Nat) : List (Nat × List Nat × List Nat) := (List.range ds.length).flatMap fun k => if offD (ds.getD k zDl) sp k = true then [] else (takes us (ds.getD k zDl) left).map fun c => (k, c)
def cVal (us : List RUn) (ds : List CDl) (sp : Nat) (c : Nat × List Nat × List Nat) : Int := svU us (ds.getD c.1 zDl) c.2.1 + (sr us ds c.2.2 (spD (ds.getD c.1 zDl) sp c.1)).sv
def cWy (us : List RUn) (ds : List CDl) (sp : Nat) (c : Nat × List Nat × List Nat) : Wy := ⟨cVal us ds sp c, (c.1, c.2.1) :: (sr us ds c.2.2 (spD (ds.getD c.1 zDl) sp c.1)).us⟩
theorem foldl_flat {α β γ : Type} (f : γ → β → γ) (g : α → List β) : ∀ (l : List α) (b : γ), (l.flatMap g).foldl f b = l.foldl (fun b x => (g x).foldl f b) b
  | [], b => rfl
  | x :: l, b => by rw [List.flatMap_cons, List.foldl_append, List.foldl_cons, foldl_flat f g l]
theorem foldl_mapL {α β γ : Type} (f : γ → β → γ) (g : α → β) : ∀ (l : List α) (b : γ), (l.map g).foldl f b = l.foldl (fun b x => f b (g x)) b
  | [], b => rfl
  | x :: l, b => by rw [List.map_cons, List.foldl_cons, List.foldl_cons, foldl_mapL f g l]
theorem sr_cands {us : List RUn} {ds : List CDl} (hd : NdOK ds) (x : Nat) (l : List Nat) (sp : Nat) : sr us ds (x :: l) sp = (cands us ds (x :: l) sp).foldl (fun b c => if b.sv < cVal us ds sp c then cWy us ds sp c else b) (sr us ds l sp) := by
  rw [sr_cons hd, cands, foldl_flat]
  refine foldl_same _ _ (fun b k hk => ?_)
  unfold stD
  by_cases h : offD (ds.getD k zDl) sp k = true
  · rw [if_pos h, if_pos h]; rfl
  · rw [if_neg h, if_neg h, foldl_mapL]
    rfl
theorem sr_first {us : List RUn} {ds : List CDl} (hd : NdOK ds) (x : Nat) (l : List Nat) (sp : Nat) :
    (sr us ds l sp).sv ≤ (sr us ds (x :: l) sp).sv ∧ (∀ c ∈ cands us ds (x :: l) sp, cVal us ds sp c ≤ (sr us ds (x :: l) sp).sv) ∧ ((sr us ds l sp).sv = (sr us ds (x :: l) sp).sv → sr us ds (x :: l) sp = sr us ds l sp) ∧ ((sr us ds l sp).sv ≠ (sr us ds (x :: l) sp).sv → ∃ c, (cands us ds (x :: l) sp).find? (fun c => decide (cVal us ds sp c = (sr us ds (x :: l) sp).sv)) = some c ∧ sr us ds (x :: l) sp = cWy us ds sp c) := by
  have h := first_most Wy.sv (cVal us ds sp) (cWy us ds sp) (fun c => rfl) (cands us ds (x :: l) sp) (sr us ds l sp)
  rw [← sr_cands hd x l sp] at h
  exact h
/-- What is saved, by the greatest alone. -/
theorem most_max {α β : Type} (sv : β → Int) (v : α → Int) (mk : α → β) (hmk : ∀ c, sv (mk c) = v c) : ∀ (L : List α) (b0 : β), sv (L.foldl (fun b c => if sv b < v c then mk c else b) b0) = L.foldl (fun m c => max m (v c)) (sv b0)
  | [], b0 => rfl
  | c :: L, b0 => by
    rw [List.foldl_cons, List.foldl_cons]
    by_cases hc : sv b0 < v c
    · rw [if_pos hc, most_max sv v mk hmk L, hmk, show max (sv b0) (v c) = v c by omega]
    · rw [if_neg hc, most_max sv v mk hmk L, show max (sv b0) (v c) = sv b0 by omega]
/-- The units that a mask leaves. -/
def freeL (n mask : Nat) : List Nat := (List.range n).filter fun i => ! mask.testBit i
theorem freeL_ris (n mask : Nat) : Ris n (freeL n mask) := ⟨List.Pairwise.filter _ List.pairwise_lt_range, fun x hx => List.mem_range.1 (List.mem_filter.1 hx).1⟩
theorem mem_freeL (n mask x : Nat) : x ∈ freeL n mask ↔ x < n ∧ mask.testBit x = false := by
  unfold freeL
  rw [List.mem_filter, List.mem_range]
  simp
theorem freeL_zero (n : Nat) : freeL n 0 = List.range n := List.filter_eq_self.2 (fun a _ => by simp)
end Go.Proofs.Ytkfmifbffgbiiaa

/-
  A map by two numbers (a struct), whatever its elements: what a look-up and a store do.
-/
namespace Go.Proofs.Ytkfmifbffgbiiaa
open Go.ChangeShapes Go.WideShapes Go.ChangeAt Go.RowKit Go.Deep
set_option linter.unusedVariables false

def WfU (c : Nat) : Prop := (Lit.int .u64 (c : Int)).wf = true
theorem wfU_of (c : Nat) (h : c ≤ 9223372036854775807) : WfU c := by
  unfold WfU Lit.wf
  rw [Bool.and_eq_true, decide_eq_true_eq, decide_eq_true_eq]
  exact ⟨by show (0 : Int) ≤ _; omega, by show ((c : Nat) : Int) ≤ 18446744073709551615; omega⟩
def keyS (l s : Nat) : Value := .agg #[.int .u64 (l : Int), .int .u64 (s : Int)]
def klS (l s : Nat) : Lit := .string (keyBytes [.int .u64 (l : Int), .int .u64 (s : Int)])
theorem stLaid : laidOutB Try.prog = true := by kernel_rfl
theorem stKey : WideMaps.KeyLaw Try.prog 76 := deep_law_laid stLaid (m := 2) (by omega) (of_decide_eq_true (by kernel_rfl)) (by kernel_rfl) (by kernel_rfl)
theorem stKeyed : Maps.Keyed Try.prog 76 := Maps.Keyed.of_law stKey
theorem stKeyType : Try.prog.keyType 76 = true := by kernel_rfl
theorem stCells : Try.prog.cellsOf 76 = 2 := by kernel_rfl
theorem stCellsU : Try.prog.cellsOf 71 = 1 := by kernel_rfl
theorem stRow : (76 : TypeId) < Try.prog.types.size := of_decide_eq_true (by kernel_rfl)
/-- A key of two fields, both unsigned numbers, at whatever program. -/
theorem keyOf_two {P : Program} {k t0 t1 : TypeId} {n0 n1 g0 g1 p0 p1 : String} {e0 e1 : Bool} {b0 b1 : Nat}
    (hu : P.underlying k = some (.struct #[{ name := n0, type := t0, offset := 0, embedded := e0, tag := g0, pkgPath := p0, byteOffset := b0 }, { name := n1, type := t1, offset := 1, embedded := e1, tag := g1, pkgPath := p1, byteOffset := b1 }]))
    (hn0 : (n0 != "_") = true) (hn1 : (n1 != "_") = true) (hkt : P.keyType k = true) (hc : P.cellsOf k = 2) (h0 : P.underlying t0 = some (.int .u64)) (h1 : P.underlying t1 = some (.int .u64)) (c0 : P.cellsOf t0 = 1) (c1 : P.cellsOf t1 = 1) (hsz : 0 < P.types.size)
    {l s : Nat} (hl : WfU l) (hs : WfU s) : keyOf P k (keyS l s) = some (klS l s) := by
  obtain ⟨n, hn⟩ : ∃ n, P.types.size = n + 1 := ⟨P.types.size - 1, by omega⟩
  unfold keyOf keyS klS
  rw [hu]
  unfold WfU at hl hs
  simp only [hkt, Value.formed, hu, hc, Value.cells, hn, Program.keyLits]
  simp at hn0 hn1
  simp [h0, h1, c0, c1, hl, hs, hn0, hn1]
theorem keyS_mk {l s : Nat} (hl : WfU l) (hs : WfU s) : keyOf Try.prog 76 (keyS l s) = some (klS l s) :=
  keyOf_two Try.underlying76 (by decide) (by decide) stKeyType stCells Try.underlying71 Try.underlying71 stCellsU stCellsU (Nat.lt_of_le_of_lt (Nat.zero_le _) stRow) hl hs
theorem klS_inj {l s l' s' : Nat} (hl : WfU l) (hs : WfU s) (hl' : WfU l') (hs' : WfU s') (e : klS l s = klS l' s') : l = l' ∧ s = s' := by
  have h := stKeyed.inj (keyS_mk hl hs) (e ▸ keyS_mk hl' hs')
  unfold keyS at h
  simp at h
  omega
/-- An element as it is. -/
def heldS (v : Value) : Option (DataW Value × List MemPlace) := some (.held v, [])
/-- Block b is a map: f what it has at each pair of numbers; z the element's nought. -/
def MapS (z : Value) (w : World) (b n : Nat) (f : Nat → Nat → Option Value) : Prop :=
  ∃ D : DataW Value, w.ownsMap Try.prog 76 heldS b n D ∧ Maps.IsMap D ∧ (∀ l s, WfU l → WfU s → D.atKey (klS l s) (.held z) = .held ((f l s).getD z)) ∧ ∀ l s, WfU l → WfU s → Maps.has D (klS l s) = (f l s).isSome
theorem MapS.made (z : Value) (w : World) : MapS z (w.alloc (.map #[] 0)) w.heap.size 0 (fun _ _ => none) :=
  ⟨.map [], World.ownsMap_made w _ _ _, Maps.isMap_empty, fun _ _ _ _ => rfl, fun _ _ _ _ => rfl⟩
theorem MapS.block {z : Value} {w w' : World} {b n : Nat} {f : Nat → Nat → Option Value} (h : MapS z w b n f) (e : w'.heap[b]? = w.heap[b]?) : MapS z w' b n f := by
  obtain ⟨D, ⟨es, clock, hb, F, hs, hD⟩, h2, h3, h4⟩ := h
  exact ⟨D, ⟨es, clock, e.trans hb, F, hs, hD⟩, h2, h3, h4⟩
theorem MapS.lt {z : Value} {w : World} {b n : Nat} {f : Nat → Nat → Option Value} (h : MapS z w b n f) : b < w.heap.size := by obtain ⟨D, h1, _⟩ := h; exact h1.lt
theorem MapS.is {z : Value} {w : World} {b n : Nat} {f : Nat → Nat → Option Value} (h : MapS z w b n f) : ∃ es clock, w.heap[b]? = some (.map es clock) := by
  obtain ⟨D, ⟨es, clock, hb, _⟩, _⟩ := h
  exact ⟨es, clock, hb⟩
theorem MapS.look {z : Value} {w : World} {b n : Nat} {f : Nat → Nat → Option Value} {t e : TypeId} (h : MapS z w b n f) (ht : Try.prog.underlying t = some (.map 76 e)) (hz : (zeroValue e).run Try.prog w = .ok z w) {l s : Nat} (hl : WfU l) (hs : WfU s) :
    (Instr.lookup t (.map (some b)) (keyS l s) true).run Try.prog w = .ok (.tuple #[(f l s).getD z, .bool (f l s).isSome]) w := by
  obtain ⟨D, h1, h2, h3, h4⟩ := h
  obtain ⟨v, ps, hrun, hR⟩ := h1.look_ok stKeyed ht hz (show heldS z = some (.held z, []) from rfl) (keyS_mk hl hs)
  rw [h3 l s hl hs] at hR
  have : v = (f l s).getD z := by unfold heldS at hR; simp at hR; exact hR.1
  rw [hrun, this, h4 l s hl hs]
theorem MapS.put {z : Value} {w : World} {b n : Nat} {f : Nat → Nat → Option Value} {t e : TypeId} (h : MapS z w b n f) (ht : Try.prog.underlying t = some (.map 76 e)) (hn : n < maxLen) {l s : Nat} (hl : WfU l) (hs : WfU s) (v : Value) :
    ∃ w', (Instr.mapUpdate t (.map (some b)) (keyS l s) v).run Try.prog w = .ok () w' ∧ MapS z w' b (n + 1) (fun l' s' => if l' = l ∧ s' = s then some v else f l' s') ∧ w.grownBy w' (some b) := by
  obtain ⟨D, h1, h2, h3, h4⟩ := h
  obtain ⟨w', hrun, hown, hg⟩ := h1.store stKeyed ht hn (keyS_mk hl hs) (show heldS v = some (.held v, []) from rfl)
  have hkl : WideAt.IsKeyLit (klS l s) := stKeyed.key (keyS_mk hl hs)
  have hne : ∀ l' s', WfU l' → WfU s' → ¬ (l' = l ∧ s' = s) → klS l' s' ≠ klS l s := fun l' s' a1 a2 h e => h (klS_inj a1 a2 hl hs e)
  refine ⟨w', hrun, ⟨_, hown, h2.put _ _, fun l' s' a1 a2 => ?_, fun l' s' a1 a2 => ?_⟩, hg.grown⟩
  · dsimp only
    by_cases e : l' = l ∧ s' = s
    · obtain ⟨rfl, rfl⟩ := e
      rw [if_pos ⟨rfl, rfl⟩]
      exact Maps.atKey_put_same h2 hkl _ _
    · rw [if_neg e, Maps.atKey_put_other (hne l' s' a1 a2 e)]
      exact h3 l' s' a1 a2
  · dsimp only
    by_cases e : l' = l ∧ s' = s
    · obtain ⟨rfl, rfl⟩ := e
      rw [Maps.has_put_same h2 hkl]; simp
    · rw [Maps.has_put_other (hne l' s' a1 a2 e), h4 l' s' a1 a2, if_neg e]
end Go.Proofs.Ytkfmifbffgbiiaa
