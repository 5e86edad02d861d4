/-
  Alarms as mathematics; the alarms so far in memory.
-/
import Derived.Test.YtillkllkekhmfaaFlE
import Derived.Test.YtillkllkekhmfaaMkP
namespace Go.Proofs.Ytillkllkekhmfaa
open Go.ChangeShapes Go.WideShapes Go.ChangeAt Go.RowKit Go.Joins Go.Deep Go.Shelf
set_option linter.unusedVariables false

/-- The alarm that is on, how many are above one behind the other, the alarms that are off again. -/
structure AmS where
  cur : Option Int
  ab : Int
  L : List (Int × Int)
def amN (lo hi : Nat) (hold : Int) (t : AmS) (p : Nat × Nat) : AmS :=
  match t.cur with
  | some f => if leF p.2 lo = true then ⟨none, 0, t.L ++ [(f, (p.1 : Int))]⟩ else t
  | none => if ltF hi p.2 = true then (if t.ab + 1 = hold then ⟨some (p.1 : Int), t.ab + 1, t.L⟩ else ⟨none, t.ab + 1, t.L⟩) else ⟨none, 0, t.L⟩
def amF (lo hi : Nat) (hold : Int) (ps : List TH) : AmS := ps.foldl (fun t p => amN lo hi hold t p.1) ⟨none, 0, []⟩
theorem amF_snoc (lo hi : Nat) (hold : Int) (ps : List TH) (p : TH) : amF lo hi hold (ps ++ [p]) = amN lo hi hold (amF lo hi hold ps) p.1 := by unfold amF; rw [List.foldl_append]; rfl
/-- All alarms: one that is on, to the end n. -/
def full (n : Int) (t : AmS) : List (Int × Int) := match t.cur with
  | some f => t.L ++ [(f, n)]
  | none => t.L
theorem full_some {n : Int} {t : AmS} {f : Int} (h : t.cur = some f) : full n t = t.L ++ [(f, n)] := by unfold full; rw [h]
theorem full_none {n : Int} {t : AmS} (h : t.cur = none) : full n t = t.L := by unfold full; rw [h]
theorem am_bd (lo hi : Nat) (hold : Int) : ∀ ps, 0 ≤ (amF lo hi hold ps).ab ∧ (amF lo hi hold ps).ab ≤ ps.length ∧ (amF lo hi hold ps).L.length + (if (amF lo hi hold ps).cur = none then 0 else 1) ≤ ps.length := by
  refine snoc_ind ⟨Int.le_refl _, Int.le_refl _, Nat.le_refl _⟩ (fun ps p h => ?_)
  rw [amF_snoc, List.length_append]
  obtain ⟨h1, h2, h3⟩ := h
  generalize amF lo hi hold ps = t at *
  obtain ⟨c, ab, L⟩ := t
  unfold amN
  cases c with
  | some f =>
    dsimp only at *
    rw [if_neg (by simp)] at h3
    split
    · refine ⟨by simp, by simp; omega, ?_⟩
      dsimp only
      rw [if_pos rfl, List.length_append]
      simp only [List.length_cons, List.length_nil]
      omega
    · dsimp only
      rw [if_neg (by simp)]
      simp only [List.length_cons, List.length_nil]
      exact ⟨h1, by omega, by omega⟩
  | none =>
    dsimp only at *
    rw [if_pos rfl] at h3
    split
    · split
      · dsimp only
        rw [if_neg (by simp)]
        simp only [List.length_cons, List.length_nil]
        exact ⟨by omega, by omega, by omega⟩
      · dsimp only
        rw [if_pos rfl]
        simp only [List.length_cons, List.length_nil]
        exact ⟨by omega, by omega, by omega⟩
    · dsimp only
      rw [if_pos rfl]
      simp only [List.length_cons, List.length_nil]
      exact ⟨by omega, by omega, by omega⟩
theorem full_len (n : Int) (lo hi : Nat) (hold : Int) (ps : List TH) : (full n (amF lo hi hold ps)).length ≤ ps.length := by
  have h := (am_bd lo hi hold ps).2.2
  generalize amF lo hi hold ps = t at *
  obtain ⟨c, ab, L⟩ := t
  cases c with
  | some f => rw [full_some rfl, List.length_append]; rw [if_neg (by simp)] at h; exact h
  | none => rw [full_none rfl]; rw [if_pos rfl] at h; exact h
/-- What both answer. -/
def amC (xs : List Nat) (hi lo : Nat) (hold : Int) : Int := if trC xs = 0 then (if (dgF hi && dgF lo && !ltF hi lo && inB hold 1 200) = true then 0 else 1) else trC xs
def amL (xs : List Nat) (hi lo : Nat) (hold : Int) : List (Int × Int) := if amC xs hi lo hold = 0 then full (xs.length : Int) (amF lo hi hold (thT xs xs.length)) else []
theorem amL_len (xs : List Nat) (hi lo : Nat) (hold : Int) : (amL xs hi lo hold).length ≤ 200 := by
  unfold amL
  split
  · rename_i h
    unfold amC at h
    split at h
    · rename_i h2
      have h3 := (trC_right h2).1
      have h4 := full_len (xs.length : Int) lo hi hold (thT xs xs.length)
      have h5 := thT_len xs xs.length
      omega
    · exact absurd h (by assumption)
  · simp
theorem am_ways (xs : List Nat) (hi lo : Nat) (hold : Int) : (trC xs ≠ 0 ∧ amC xs hi lo hold = trC xs ∧ amL xs hi lo hold = []) ∨
    (trC xs = 0 ∧ (dgF hi && dgF lo && !ltF hi lo && inB hold 1 200) = false ∧ amC xs hi lo hold = 1 ∧ amL xs hi lo hold = []) ∨
    (trC xs = 0 ∧ (dgF hi && dgF lo && !ltF hi lo && inB hold 1 200) = true ∧ amC xs hi lo hold = 0 ∧ amL xs hi lo hold = full (xs.length : Int) (amF lo hi hold (thT xs xs.length))) := by
  unfold amL amC
  by_cases h : trC xs = 0
  · rw [if_pos h]
    cases h1 : (dgF hi && dgF lo && !ltF hi lo && inB hold 1 200)
    · exact .inr (.inl ⟨h, rfl, rfl, rfl⟩)
    · exact .inr (.inr ⟨h, rfl, rfl, rfl⟩)
  · rw [if_neg h, if_neg h]
    exact .inl ⟨h, rfl, rfl⟩
/-- A list of pairs as cells. -/
def alCells : List (Int × Int) → List Value
  | [] => []
  | r :: rs => .int .i64 r.1 :: .int .i64 r.2 :: alCells rs
theorem alCells_length : ∀ L, (alCells L).length = L.length * 2
  | [] => rfl
  | r :: rs => by rw [alCells, List.length_cons, List.length_cons, alCells_length rs, List.length_cons]; omega
theorem alCells_append : ∀ L M, alCells (L ++ M) = alCells L ++ alCells M
  | [], _ => rfl
  | r :: rs, M => by rw [List.cons_append, alCells, alCells_append rs M, alCells]; rfl
theorem alCells_at : ∀ (L : List (Int × Int)) (i : Nat), i < L.length → (alCells L)[i * 2]? = some (.int .i64 (L.getD i (0, 0)).1) ∧ (alCells L)[i * 2 + 1]? = some (.int .i64 (L.getD i (0, 0)).2)
  | r :: rs, 0, _ => ⟨rfl, rfl⟩
  | r :: rs, i + 1, h => by
    have q := alCells_at rs i (by simpa using h)
    rw [alCells, show (i + 1) * 2 = i * 2 + 1 + 1 by omega]
    exact q
theorem alCells_put : ∀ (L : List (Int × Int)) (f n p : Int), (alCells (L ++ [(f, n)])).set (L.length * 2 + 1) (.int .i64 p) = alCells (L ++ [(f, p)])
  | [], f, n, p => rfl
  | r :: rs, f, n, p => by
    rw [List.cons_append, alCells, List.cons_append, alCells, List.length_cons, show (rs.length + 1) * 2 + 1 = rs.length * 2 + 1 + 1 + 1 by omega, List.set_cons_succ, List.set_cons_succ, alCells_put rs f n p]
def AnsAm (w : World) (L : List (Int × Int)) (c : Int) (e : Ending) (w' : World) : Prop := ∃ g cp, e = .returned (.tuple #[.slice g L.length cp, .int .i64 c]) ∧ w'.ownsRow w.heap.size 39 2 (.slice g L.length cp) L.length (alCells L) ∧ Below w.heap.size w w'
theorem AnsAm.nil {w w' : World} {c : Int} (hb : Below w.heap.size w w') : AnsAm w [] c (.returned (.tuple #[.slice none 0 0, .int .i64 c])) w' := ⟨none, 0, rfl, World.ownsRow_nil _ _ _ _, hb⟩
/-! ### The program's boxes -/
structure AmI (w : World) (a : Option Addr) (len cap : Nat) (hi lo : Nat) (hold : Int) (on : Bool) (ab : Int) (F : List (Int × Int)) (W : World) : Prop where
  b0 : W.heap[w.heap.size]? = some (.cells #[.slice a len cap] 23 (0, 0))
  b1 : W.heap[w.heap.size + 1]? = some (.cells #[.float .f64 hi] 24 (0, 0))
  b2 : W.heap[w.heap.size + 2]? = some (.cells #[.float .f64 lo] 24 (0, 0))
  b3 : W.heap[w.heap.size + 3]? = some (.cells #[.int .i64 hold] 3 (0, 0))
  b4 : ∃ g cp, W.heap[w.heap.size + 4]? = some (.cells #[.slice g F.length cp] 35 (0, 0)) ∧ W.ownsRow w.heap.size 39 2 (.slice g F.length cp) F.length (alCells F)
  b5 : W.heap[w.heap.size + 5]? = some (.cells #[.bool on] 4 (0, 0))
  b6 : W.heap[w.heap.size + 6]? = some (.cells #[.int .i64 ab] 3 (0, 0))
  b7 : W.heap[w.heap.size + 7]? = some (.cells #[.slice a len cap] 23 (0, 0))
  bel : Below w.heap.size w W
/-- What a round may have done. -/
def SkA (s : Nat) (W W' : World) : Prop := KeepsOthers W W' ∧ Kp1 s (s + 7) W W'
theorem SkA.refl (s : Nat) (W : World) : SkA s W W := ⟨KeepsOthers.refl _, Kp1.refl _ _ _⟩
theorem SkA.trans {s : Nat} {A B C : World} (h : SkA s A B) (k : SkA s B C) : SkA s A C := ⟨h.1.trans k.1, h.2.trans k.2⟩
theorem SkA.set {s : Nat} (W : World) {b : Nat} (hb : s ≤ b) (hB : b ≠ s + 7) (k : Nat) (v : Value) : SkA s W (W.setCell ⟨b, k, none⟩ v) := ⟨KeepsOthers.setCell _ _ _, (Kp1.refl _ _ _).set hb (Ne.symm hB) k v⟩
section
variable {w : World} {a : Option Addr} {len cap hi lo : Nat} {hold ab : Int} {on : Bool} {F : List (Int × Int)} {W W' : World}
theorem row_ne {B b n : Nat} {v : Value} {xs : List Value} {V : Array Value} {t : TypeId} (h : W.ownsRow B 39 2 v n xs) (hb : W.heap[b]? = some (.cells V t (0, 0))) (ht : t ≠ 39) : ∀ q, v.ownBlock = some q → q ≠ b := fun q hq e => by
  obtain ⟨cur, hc⟩ := row_type h hq
  rw [e, hb] at hc
  simp at hc
  exact ht hc.2
theorem AmI.kept {N : Nat} (h : AmI w a len cap hi lo hold on ab F W) (hN : w.heap.size ≤ N) {row : Option Nat} (hg : W.grownBy W' row) (hr : ∀ r, row = some r → N ≤ r ∧ ∃ o : Obj, W.heap[r]? = some o ∧ o.isCells = false) : AmI w a len cap hi lo hold on ab F W' := by
  have k := fun r e => (hr r e).2
  obtain ⟨g, cp, h1, h2⟩ := h.b4
  refine ⟨blk_keptF h.b0 hg k, blk_keptF h.b1 hg k, blk_keptF h.b2 hg k, blk_keptF h.b3 hg k, ⟨g, cp, blk_keptF h1 hg k, row_of h2 (fun q hq => ?_)⟩, blk_keptF h.b5 hg k, blk_keptF h.b6 hg k, blk_keptF h.b7 hg k, h.bel.grown hg (by have := h.bel.size; omega) (fun k e => Nat.le_trans hN (hr k e).1)⟩
  obtain ⟨cur, hcur⟩ := row_type h2 hq
  exact (blk_keptF hcur hg k).trans hcur.symm
theorem AmI.later (h : AmI w a len cap hi lo hold on ab F W) (hb : Below W.heap.size W W') : AmI w a len cap hi lo hold on ab F W' := by
  obtain ⟨g, cp, h1, h2⟩ := h.b4
  exact ⟨(hb.block _ (blkLt h.b0)).trans h.b0, (hb.block _ (blkLt h.b1)).trans h.b1, (hb.block _ (blkLt h.b2)).trans h.b2, (hb.block _ (blkLt h.b3)).trans h.b3, ⟨g, cp, (hb.block _ (blkLt h1)).trans h1, row_of h2 (fun q hq => hb.block q (row_lt h2 q hq).2)⟩, (hb.block _ (blkLt h.b5)).trans h.b5, (hb.block _ (blkLt h.b6)).trans h.b6, (hb.block _ (blkLt h.b7)).trans h.b7, chain h.bel hb⟩
theorem AmI.setOn (h : AmI w a len cap hi lo hold on ab F W) (v : Bool) : AmI w a len cap hi lo hold v ab F (W.setCell ⟨w.heap.size + 5, 0, none⟩ (.bool v)) := by
  obtain ⟨g, cp, h1, h2⟩ := h.b4
  have f : ∀ k, k ≠ w.heap.size + 5 → (W.setCell ⟨w.heap.size + 5, 0, none⟩ (.bool v)).heap[k]? = W.heap[k]? := fun k hk => Below.heap_setCell _ _ _ _ hk
  exact ⟨(f _ (by omega)).trans h.b0, (f _ (by omega)).trans h.b1, (f _ (by omega)).trans h.b2, (f _ (by omega)).trans h.b3, ⟨g, cp, (f _ (by omega)).trans h1, row_of h2 (fun q hq => f q (row_ne h2 h.b5 (by decide) q hq))⟩, by
    have e := heap_setCell_same _ _ 0 _ _ (.bool v) h.b5
    simp only [List.setIfInBounds_toArray, List.set_cons_zero] at e
    exact e, (f _ (by omega)).trans h.b6, (f _ (by omega)).trans h.b7, h.bel.setCell (p := ⟨w.heap.size + 5, 0, none⟩) (by show w.heap.size ≤ w.heap.size + 5; omega) _⟩
theorem AmI.setAb (h : AmI w a len cap hi lo hold on ab F W) (v : Int) : AmI w a len cap hi lo hold on v F (W.setCell ⟨w.heap.size + 6, 0, none⟩ (.int .i64 v)) := by
  obtain ⟨g, cp, h1, h2⟩ := h.b4
  have f : ∀ k, k ≠ w.heap.size + 6 → (W.setCell ⟨w.heap.size + 6, 0, none⟩ (.int .i64 v)).heap[k]? = W.heap[k]? := fun k hk => Below.heap_setCell _ _ _ _ hk
  exact ⟨(f _ (by omega)).trans h.b0, (f _ (by omega)).trans h.b1, (f _ (by omega)).trans h.b2, (f _ (by omega)).trans h.b3, ⟨g, cp, (f _ (by omega)).trans h1, row_of h2 (fun q hq => f q (row_ne h2 h.b6 (by decide) q hq))⟩, (f _ (by omega)).trans h.b5, by
    have e := heap_setCell_same _ _ 0 _ _ (.int .i64 v) h.b6
    simp only [List.setIfInBounds_toArray, List.set_cons_zero] at e
    exact e, (f _ (by omega)).trans h.b7, h.bel.setCell (p := ⟨w.heap.size + 6, 0, none⟩) (by show w.heap.size ≤ w.heap.size + 6; omega) _⟩
/-- The last alarm's end is written. -/
theorem AmI.put {L : List (Int × Int)} {f n : Int} (h : AmI w a len cap hi lo hold on ab (L ++ [(f, n)]) W) (p : Int) : ∃ g cp, W.heap[w.heap.size + 4]? = some (.cells #[.slice (some ⟨g, 0, none⟩) (L.length + 1) cp] 35 (0, 0)) ∧ W.cell? ⟨g, L.length * 2 + 1, none⟩ = some (.int .i64 n) ∧ W.frozen? ⟨g, L.length * 2 + 1, none⟩ = false ∧
    AmI w a len cap hi lo hold on ab (L ++ [(f, p)]) (W.setCell ⟨g, L.length * 2 + 1, none⟩ (.int .i64 p)) ∧ SkA w.heap.size W (W.setCell ⟨g, L.length * 2 + 1, none⟩ (.int .i64 p)) ∧ (∀ k, k < 8 → g ≠ w.heap.size + k) := by
  obtain ⟨g0, cp, h1, h2⟩ := h.b4
  have hlen : ∀ x : Int, (L ++ [(f, x)]).length = L.length + 1 := fun x => by simp
  rw [hlen] at h1 h2
  obtain ⟨g, cp', hg⟩ := row_some h2 (by omega)
  simp only [Value.slice.injEq, true_and] at hg
  obtain ⟨rfl, rfl⟩ := hg
  obtain ⟨cur, hcur⟩ := row_type h2 (q := g) rfl
  have hne : ∀ k, k < 8 → g ≠ w.heap.size + k := fun k hk => by
    have e : ∀ (V : Array Value) (t : TypeId) (j : Nat), j = k → W.heap[w.heap.size + j]? = some (.cells V t (0, 0)) → t ≠ 39 → g ≠ w.heap.size + k := fun V t j hj hb ht => by
      have := row_ne h2 hb ht g rfl
      omega
    have hk8 : k = 0 ∨ k = 1 ∨ k = 2 ∨ k = 3 ∨ k = 4 ∨ k = 5 ∨ k = 6 ∨ k = 7 := by omega
    rcases hk8 with r | r | r | r | r | r | r | r
    · exact e _ _ 0 r.symm h.b0 (by decide)
    · exact e _ _ 1 r.symm h.b1 (by decide)
    · exact e _ _ 2 r.symm h.b2 (by decide)
    · exact e _ _ 3 r.symm h.b3 (by decide)
    · exact e _ _ 4 r.symm h1 (by decide)
    · exact e _ _ 5 r.symm h.b5 (by decide)
    · exact e _ _ 6 r.symm h.b6 (by decide)
    · exact e _ _ 7 r.symm h.b7 (by decide)
  have hlow := (row_lt h2 g rfl).1
  have ff : ∀ k, k < 8 → (W.setCell ⟨g, L.length * 2 + 1, none⟩ (.int .i64 p)).heap[w.heap.size + k]? = W.heap[w.heap.size + k]? := fun k hk => Below.heap_setCell _ _ _ _ (Ne.symm (hne k hk))
  refine ⟨g, cp, h1, ?_, blkFree hcur _, ⟨(ff 0 (by omega)).trans h.b0, (ff 1 (by omega)).trans h.b1, (ff 2 (by omega)).trans h.b2, (ff 3 (by omega)).trans h.b3, ⟨some ⟨g, 0, none⟩, cp, ?_, ?_⟩, (ff 5 (by omega)).trans h.b5, (ff 6 (by omega)).trans h.b6, (ff 7 (by omega)).trans h.b7, h.bel.setCell (p := ⟨g, L.length * 2 + 1, none⟩) hlow _⟩, SkA.set _ hlow (hne 7 (by omega)) _ _, hne⟩
  · rw [h2.cellAt _ (by omega)]
    have q := (alCells_at (L ++ [(f, n)]) L.length (by simp)).2
    rw [q]
    congr 2
    simp [List.getD_eq_getElem?_getD]
  · rw [hlen]
    exact (ff 4 (by omega)).trans h1
  · rw [hlen]
    have q := rowPut h2 (L.length * 2 + 1) (by omega) (.int .i64 p)
    rwa [alCells_put] at q
/-- An alarm more. -/
theorem AmI.push {r : Int × Int} {o : Obj} {g g1 : Option Addr} {cp cp1 : Nat} {w3 : World} (h : AmI w a len cap hi lo hold on ab F W) (h4 : W.heap[w.heap.size + 4]? = some (.cells #[.slice g F.length cp] 35 (0, 0))) (hrow : W.ownsRow w.heap.size 39 2 (.slice g F.length cp) F.length (alCells F))
    (ho : w3.ownsRow w.heap.size 39 2 (.slice g1 (F.length + 1) cp1) (F.length + 1) (alCells F ++ [.int .i64 r.1, .int .i64 r.2])) (hg : (W.alloc o).grownBy w3 (Value.ownBlock (.slice g F.length cp))) :
    AmI w a len cap hi lo hold on ab (F ++ [r]) (w3.setCell ⟨w.heap.size + 4, 0, none⟩ (.slice g1 (F.length + 1) cp1)) ∧ SkA w.heap.size W (w3.setCell ⟨w.heap.size + 4, 0, none⟩ (.slice g1 (F.length + 1) cp1)) ∧ w3.heap[w.heap.size + 4]? = some (.cells #[.slice g F.length cp] 35 (0, 0)) := by
  have hf1 : Fr (fun k => k = w.heap.size + 4 ∨ Value.ownBlock (.slice g F.length cp) = some k) W w3 := (Fr.of (below_alloc W o)).trans ((fr_grown hg).mono (fun k h => .inr h))
  have h43 : w3.heap[w.heap.size + 4]? = some (.cells #[.slice g F.length cp] 35 (0, 0)) := (hg.block _ (by have := blkLt h4; simp; omega) (fun e => row_ne hrow h4 (by decide) _ e.symm rfl)).trans ((Below.heap_alloc _ _ _ (blkLt h4)).trans h4)
  have hf2 := hf1.set (b := w.heap.size + 4) (.inl rfl) 0 (.slice g1 (F.length + 1) cp1)
  have hlen : (F ++ [r]).length = F.length + 1 := by simp
  have hX : ∀ k, (k = w.heap.size + 4 ∨ Value.ownBlock (.slice g F.length cp) = some k) → w.heap.size ≤ k := fun k hk => by
    rcases hk with hk | hk
    · omega
    · exact (row_lt hrow k hk).1
  have ff : ∀ {k : Nat} {V : Array Value} {t : TypeId}, W.heap[w.heap.size + k]? = some (.cells V t (0, 0)) → t ≠ 39 → k ≠ 4 → (w3.setCell ⟨w.heap.size + 4, 0, none⟩ (.slice g1 (F.length + 1) cp1)).heap[w.heap.size + k]? = some (.cells V t (0, 0)) := fun {k V t} hb ht hk => (hf2.block _ (blkLt hb) (fun hx => by
    rcases hx with hx | hx
    · omega
    · exact row_ne hrow hb ht _ hx rfl)).trans hb
  refine ⟨⟨ff (k := 0) h.b0 (by decide) (by omega), ff h.b1 (by decide) (by omega), ff h.b2 (by decide) (by omega), ff h.b3 (by decide) (by omega), ⟨g1, cp1, ?_, ?_⟩, ff h.b5 (by decide) (by omega), ff h.b6 (by decide) (by omega), ff h.b7 (by decide) (by omega), Fr.below h.bel hf2 h.bel.size hX⟩, ⟨⟨hf2.size, fun k o' hk ho' => (hf2.block k (blkLt hk) (fun hx => ?_)).trans hk⟩, Fr.below (Below.refl _ _) hf2 h.bel.size hX, ?_⟩, h43⟩
  · rw [hlen]
    have e := heap_setCell_same w3 (w.heap.size + 4) 0 _ _ (.slice g1 (F.length + 1) cp1) h43
    simp only [List.setIfInBounds_toArray, List.set_cons_zero] at e
    exact e
  · rw [hlen, alCells_append]
    exact row_of ho (fun q hq => Below.heap_setCell _ _ _ _ (row_ne ho h43 (by decide) q hq))
  · rcases hx with hx | hx
    · rw [hx, h4] at hk; cases hk; cases ho'
    · obtain ⟨cur, hc⟩ := row_type hrow hx
      rw [hk] at hc
      cases hc
      cases ho'
  · exact (ff h.b7 (by decide) (by omega)).trans h.b7.symm
end
end Go.Proofs.Ytillkllkekhmfaa
