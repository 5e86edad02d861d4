/-
  Contract of the program's Seasons, for all arguments.
-/
import Derived.Test.YtjdjopikljdigaaQnD
import Derived.Test.YtjdjopikljdigaaQnB
namespace Go.Proofs.Ytjdjopikljdigaa
open Go.ChangeShapes Go.WideShapes Go.ChangeAt Go.RowKit Go.Joins Go.Deep Go.Shelf
set_option linter.unusedVariables false
attribute [local go_sem] Oper.semAt_some

theorem raInfo : (Try.prog.info? 36).map (fun i => (i.zero, i.size, i.bytes)) = some (some (.agg #[.int .i64 0, .int .i64 0]), 2, 16) := by kernel_rfl
theorem run_makeRa (n : Nat) (hn : n ≤ 100000000) (w : World) :
    (Instr.makeSlice 31 (.int .i64 0) (.int .i64 (n : Int))).run Try.prog w = .ok (.slice (some ⟨w.heap.size, 0, none⟩) 0 n) (w.alloc (.cells (madeCells #[.int .i64 0, .int .i64 0] (n * 2)) 36)) := by
  obtain ⟨i, hi, hzz⟩ := Option.map_eq_some_iff.1 raInfo
  simp only [Prod.mk.injEq] at hzz
  obtain ⟨hz, hs, hb⟩ := hzz
  have hr := run_make (P := Try.prog) w 31 36 i _ Try.underlying31 hi hz .i64 .i64 0 (n : Int) (Int.le_refl _) (by omega) (by rw [hb]; omega) (by omega)
  simp only [Int.toNat_natCast, hs, Int.toNat_zero] at hr
  exact hr
/-- What Seasons answers: ratios in a row of their own, a code. -/
def AnsR (w : World) (L : List (Int × Int)) (c : Int) (e : Ending) (w' : World) : Prop := ∃ g cp, e = .returned (.tuple #[.slice g L.length cp, .int .i64 c]) ∧ w'.ownsRow w.heap.size 36 2 (.slice g L.length cp) L.length (raCells L) ∧ Below w.heap.size w w'
theorem AnsR.nil {w w' : World} {c : Int} (hb : Below w.heap.size w w') : AnsR w [] c (.returned (.tuple #[.slice none 0 0, .int .i64 c])) w' := ⟨none, 0, rfl, World.ownsRow_nil _ _ _ _, hb⟩
theorem blk_kept {W W' : World} {row : Option Nat} {B : Nat} {V : Array Value} {t : TypeId} {fr : Nat × Nat} (h : W.heap[B]? = some (.cells V t fr)) (hg : W.grownBy W' row) (hr : ∀ r, row = some r → ∃ o : Obj, W.heap[r]? = some o ∧ o.isCells = false) : W'.heap[B]? = some (.cells V t fr) :=
  (hg.block B (blkLt h) (fun e => by obtain ⟨o, ho, hc⟩ := hr B e.symm; rw [h] at ho; cases ho; cases hc)).trans h
/-- What the loop holds between two rounds: the mean of all, the ratios so far. -/
structure SeI (w : World) (D7 D8 : Nat) (c d : Int) (L : List (Int × Int)) (W : World) : Prop where
  all : W.heap[D7]? = some (.cells #[.int .i64 c, .int .i64 d] 36 (0, 0))
  box : ∃ g cp, W.heap[D8]? = some (.cells #[.slice g L.length cp] 31 (0, 0)) ∧ W.ownsRow w.heap.size 36 2 (.slice g L.length cp) L.length (raCells L) ∧ Value.ownBlock (.slice g L.length cp) ≠ some D7
  bel : Below w.heap.size w W
theorem SeI.kept {w : World} {D7 D8 B : Nat} {c d : Int} {L : List (Int × Int)} {W W' : World} {row : Option Nat} (h : SeI w D7 D8 c d L W) (hB : w.heap.size ≤ B) (hg : W.grownBy W' row) (hr : ∀ r, row = some r → B ≤ r ∧ ∃ o : Obj, W.heap[r]? = some o ∧ o.isCells = false) : SeI w D7 D8 c d L W' := by
  obtain ⟨g, cp, h1, h2, h3⟩ := h.box
  have hr2 := fun r e => (hr r e).2
  refine ⟨blk_kept h.all hg hr2, ⟨g, cp, blk_kept h1 hg hr2, row_of h2 (fun q hq => ?_), h3⟩, h.bel.grown hg h.bel.size (fun k e => Nat.le_trans hB (hr k e).1)⟩
  obtain ⟨cur, hcur⟩ := row_type h2 hq
  exact (blk_kept hcur hg hr2).trans hcur.symm
/-- One ratio. -/
def lowB (c d : Int) (x : MT) : Int × Int := lowT (x.1.1 * d) (x.1.2 * c)
theorem lowB_seMs {xs : List Int} {n : Nat} (hnl : n ≤ xs.length) (hl : xs.length ≤ 4096) (hx : ∀ i, 0 ≤ xs.getD i 0 ∧ xs.getD i 0 ≤ 100000) : ∀ m, m ≤ n → (seMs xs n m).map (lowB (smP xs 1 0 xs.length) (xs.length : Int)) = seRs xs n m
  | 0, _ => rfl
  | m + 1, h => by
    rw [seMs_next, seRs_next, List.map_append, lowB_seMs hnl hl hx m (by omega)]
    show _ ++ [lowB _ _ (seMt xs n m)] = _
    unfold lowB
    rw [seMt_is (by omega) hnl hl hx]
    rfl
theorem SeI.start {w W : World} {D7 : Nat} {c d : Int} {n : Nat} (hn : n ≤ 60) (h7 : W.heap[D7]? = some (.cells #[.int .i64 c, .int .i64 d] 36 (0, 0))) (hb : Below w.heap.size w W) (v : Value) (hv : v = .slice (some ⟨W.heap.size, 0, none⟩) 0 n) :
    SeI w D7 (W.heap.size + 1) c d [] ((W.alloc (Obj.cells (madeCells #[.int .i64 0, .int .i64 0] (n * 2)) 36)).alloc (Obj.cells #[v] 31)) := by
  subst hv
  have hlt := blkLt h7
  refine ⟨(Below.heap_alloc _ _ _ (by simp; omega)).trans ((Below.heap_alloc _ _ _ hlt).trans h7), ⟨some ⟨W.heap.size, 0, none⟩, n, ?_, ?_, ?_⟩, chain hb (chain (below_alloc _ _) (below_alloc _ _))⟩
  · have := heapNew (W.alloc (Obj.cells (madeCells #[.int .i64 0, .int .i64 0] (n * 2)) 36)) (Obj.cells #[.slice (some ⟨W.heap.size, 0, none⟩) 0 n] 31)
    rwa [World.size_alloc] at this
  · refine ⟨rfl, .inr ⟨W.heap.size, n, madeCells #[.int .i64 0, .int .i64 0] (n * 2), rfl, hb.size, (Below.heap_alloc _ _ _ (by simp)).trans (heapNew W _), Nat.zero_le _, by unfold maxLen; omega, ?_, by simp [raCells]⟩⟩
    rw [size_madeCells]
  · simp [Value.ownBlock]; omega
/-- The row grows by one ratio, and the box holds it. -/
theorem SeI.push {w : World} {D7 D8 : Nat} {c d : Int} {L : List (Int × Int)} {W w5 : World} {g : Option Addr} {cp g1 cp1 : Nat} {r : Int × Int} (h7 : W.heap[D7]? = some (.cells #[.int .i64 c, .int .i64 d] 36 (0, 0))) (h8 : W.heap[D8]? = some (.cells #[.slice g L.length cp] 31 (0, 0)))
    (hrow : W.ownsRow w.heap.size 36 2 (.slice g L.length cp) L.length (raCells L)) (hne : Value.ownBlock (.slice g L.length cp) ≠ some D7) (hbel : Below w.heap.size w W) (hD8 : w.heap.size ≤ D8)
    (ho : w5.ownsRow w.heap.size 36 2 (.slice (some ⟨g1, 0, none⟩) (L.length + 1) cp1) (L.length + 1) (raCells L ++ [.int .i64 r.1, .int .i64 r.2])) (hg : W.grownBy w5 (Value.ownBlock (.slice g L.length cp))) (hat : Value.ownBlock (.slice g L.length cp) = some g1 ∨ g1 = W.heap.size) :
    SeI w D7 D8 c d (L ++ [r]) (w5.setCell ⟨D8, 0, none⟩ (.slice (some ⟨g1, 0, none⟩) (L.length + 1) cp1)) ∧ Fr (fun k => k = D8 ∨ Value.ownBlock (.slice g L.length cp) = some k) W (w5.setCell ⟨D8, 0, none⟩ (.slice (some ⟨g1, 0, none⟩) (L.length + 1) cp1)) := by
  have hf1 : Fr (fun k => k = D8 ∨ Value.ownBlock (.slice g L.length cp) = some k) W w5 := (fr_grown hg).mono (fun k h => .inr h)
  have hf2 := hf1.set (b := D8) (.inl rfl) 0 (.slice (some ⟨g1, 0, none⟩) (L.length + 1) cp1)
  have h8n : Value.ownBlock (.slice g L.length cp) ≠ some D8 := fun e => by
    obtain ⟨cur, hc⟩ := row_type hrow e
    rw [h8] at hc
    simp at hc
  have h78 : D7 ≠ D8 := fun e => by
    rw [e, h8] at h7
    simp at h7
  have h85 : w5.heap[D8]? = some (.cells #[.slice g L.length cp] 31 (0, 0)) := (hg.block D8 (blkLt h8) (fun e => h8n e.symm)).trans h8
  have hg1 : g1 ≠ D8 := fun e => by
    obtain ⟨cur, hc⟩ := row_type ho (q := g1) rfl
    rw [e, h85] at hc
    simp at hc
  have hlen : (L ++ [r]).length = L.length + 1 := by simp
  refine ⟨⟨(hf2.block D7 (blkLt h7) (fun e => by rcases e with e | e; exact h78 e; exact hne e)).trans h7, ⟨some ⟨g1, 0, none⟩, cp1, ?_, ?_, ?_⟩, ?_⟩, hf2⟩
  · rw [hlen]
    exact Boxed.set (.slice (some ⟨g1, 0, none⟩) (L.length + 1) cp1) h85
  · rw [hlen, raCells_append]
    exact row_of ho (fun q hq => Below.heap_setCell _ _ _ _ (by
      have e : g1 = q := by simpa [Value.ownBlock] using hq
      subst e
      exact hg1))
  · rw [hlen]
    intro e
    have e2 : g1 = D7 := by simpa [Value.ownBlock] using e
    rcases hat with h | h
    · exact hne (by rw [h, e2])
    · have := blkLt h7; omega
  · exact Fr.below hbel hf2 hbel.size (fun k hk => by
      rcases hk with hk | hk
      · omega
      · exact (row_lt hrow k hk).1)
theorem keeps_of_fr {X : Nat → Prop} {W W' : World} (h : Fr X W W') (hX : ∀ k, X k → ∃ V t fr, W.heap[k]? = some (.cells V t fr)) : KeepsOthers W W' := ⟨h.size, fun k o hk ho => by
  refine (h.block k (blkLt hk) (fun hx => ?_)).trans hk
  obtain ⟨V, t, fr, hc⟩ := hX k hx
  rw [hk] at hc
  cases hc
  cases ho⟩
end Go.Proofs.Ytjdjopikljdigaa
