/-
  The specification's run in memory, with what each act took; its act where the kind is none, and where a day goes by.
-/
import Derived.Test.YtodncihjenlnjaaSqB
import Derived.Test.YtodncihjenlnjaaSqT
import Derived.Test.YtodncihjenlnjaaPpM
namespace Go.Proofs.Ytodncihjenlnjaa
open Go.ChangeShapes Go.WideShapes Go.ChangeAt Go.RowKit Go.Deep
set_option linter.unusedVariables false

/-- What act j took and can still come back. -/
def tq (T : Int → Option (List RLo)) (j : Nat) : List RLo := (T (j : Int)).getD []
/-- What was taken stands at the number of an act ahead, and is something. -/
def TI (k : Nat) (σ : PSt) : Prop := ∀ c K, σ.T c = some K → 0 ≤ c ∧ c < (k : Int) ∧ K ≠ []
theorem TI.up {k : Nat} {σ : PSt} (h : TI k σ) : TI (k + 1) σ := fun c K hK => by
  obtain ⟨h1, h2, h3⟩ := h c K hK
  exact ⟨h1, by push_cast; omega, h3⟩
theorem TI.last {k : Nat} {σ : PSt} (h : TI k σ) : tq σ.T k = [] := by
  unfold tq
  cases hT : σ.T (k : Int) with
  | none => rfl
  | some K => have := h _ _ hT; omega
theorem TI.act {k : Nat} {σ : PSt} (h : TI k σ) (hok : PsOk k σ) (r : RPa) : TI (k + 1) (ptAct (k : Int) r σ).2 := by
  unfold ptAct
  split
  · unfold stBack
    split
    · exact h.up
    · split
      · exact h.up
      · intro c K hK
        dsimp only at hK
        split at hK
        · cases hK
        · exact h.up c K hK
  · split
    · unfold stDay
      split <;> exact h.up
    · split
      · unfold stSpend
        split
        · exact h.up
        · split
          · exact h.up
          · rename_i h0 h1
            intro c K hK
            dsimp only at hK
            split at hK
            · rename_i hc
              injection hK with hK
              obtain ⟨_, _, f3, _⟩ := sp_facts (m := r.nu) hok.lot (by omega) (by omega)
              refine ⟨by omega, by push_cast; omega, fun e => ?_⟩
              rw [hK, e] at f3
              simp [sumP] at f3
              omega
            · exact h.up c K hK
      · split
        · unfold stEarn
          split
          · exact h.up
          · split <;> exact h.up
        · exact h.up
/-- What is taken, in memory: rows of their own, apart from the lots. -/
def TqOk (B : Nat) (W : World) (lv : Value) (T : Int → Option (List RLo)) (vs : List Value) : Prop :=
  ∀ j v, vs[j]? = some v → W.ownsRow B 67 2 v (tq T j).length (loCells (tq T j)) ∧ ∀ q, v.ownBlock = some q → lv.ownBlock ≠ some q
structure SqM (B rb k : Nat) (σ : PSt) (lv tv : Value) (vs : List Value) (W : World) : Prop where
  run : SgIs W rb σ.day σ.sp σ.ex lv tv
  lots : W.ownsRow B 67 2 lv σ.L.length (loCells σ.L)
  list : W.ownsRow B 25 1 tv k vs
  rows : TqOk B W lv σ.T vs
theorem SqM.keep {B rb k : Nat} {σ : PSt} {lv tv : Value} {vs : List Value} {W W' : World} (h : SqM B rb k σ lv tv vs W) (hk : ∀ q, q < W.heap.size → W'.heap[q]? = W.heap[q]?) : SqM B rb k σ lv tv vs W' :=
  ⟨h.run.of (hk _ h.run.lt), row_of h.lots (fun q hq => hk q (row_lt h.lots q hq).2), row_of h.list (fun q hq => hk q (row_lt h.list q hq).2), fun j v hv => ⟨row_of (h.rows j v hv).1 (fun q hq => hk q (row_lt (h.rows j v hv).1 q hq).2), (h.rows j v hv).2⟩⟩
theorem SqM.later {B rb k : Nat} {σ : PSt} {lv tv : Value} {vs : List Value} {W W' : World} (h : SqM B rb k σ lv tv vs W) (hb : Below W.heap.size W W') : SqM B rb k σ lv tv vs W' := h.keep (fun q hq => hb.block q hq)
/-- What an act may touch. -/
def SqF (B rb : Nat) (w w' : World) : Prop := Fr (fun q => q = rb ∨ (B ≤ q ∧ ∃ cur, w.heap[q]? = some (.cells cur 67 (0, 0))) ∨ (B ≤ q ∧ ∃ cur, w.heap[q]? = some (.cells cur 25 (0, 0)))) w w'
theorem SqF.of {B rb : Nat} {w w' : World} (h : Below w.heap.size w w') : SqF B rb w w' := Fr.of h
/-- What an act answers: its code and what it took. -/
def AnsA (B rb k : Nat) (w : World) (r : Int × PSt) (e : Ending) (w' : World) : Prop :=
  ∃ lv tv vs pa pc, e = .returned (.tuple #[.int .i64 r.1, .slice pa (tq r.2.T k).length pc]) ∧ SqF B rb w w' ∧ SqM B rb k r.2 lv tv vs w' ∧ w'.ownsRow B 67 2 (.slice pa (tq r.2.T k).length pc) (tq r.2.T k).length (loCells (tq r.2.T k)) ∧ ∀ q, Value.ownBlock (.slice pa (tq r.2.T k).length pc) = some q → lv.ownBlock ≠ some q
theorem noneRow (B : Nat) (W : World) (b : Nat) (hB : B ≤ b) (h : W.heap[b]? = some (.cells #[] 67 (0, 0))) : W.ownsRow B 67 2 (.slice (some ⟨b, 0, none⟩) 0 0) 0 [] := ⟨rfl, .inr ⟨b, 0, #[], rfl, hB, h, Nat.le_refl _, by unfold maxLen; omega, rfl, rfl⟩⟩
/-- Where nothing turns: the code alone. -/
theorem ansA_same {B rb k : Nat} {w w' : World} {σ : PSt} {lv tv : Value} {vs : List Value} {c : Int} {b : Nat} (hM : SqM B rb k σ lv tv vs w) (hT : TI k σ) (hB : B ≤ w.heap.size) (hb : Below w.heap.size w w') (hw : w.heap.size ≤ b) (hn : w'.heap[b]? = some (.cells #[] 67 (0, 0))) : AnsA B rb k w (c, σ) (.returned (.tuple #[.int .i64 c, .slice (some ⟨b, 0, none⟩) 0 0])) w' := by
  refine ⟨lv, tv, vs, some ⟨b, 0, none⟩, 0, by rw [hT.last]; rfl, SqF.of hb, hM.later hb, by rw [hT.last]; exact noneRow B w' b (by omega) hn, fun q hq => ?_⟩
  have e2 : b = q := by simpa [Value.ownBlock] using hq
  intro e
  have := (row_lt hM.lots q e).2
  omega
/-- The act's number and the empty list, in memory. -/
theorem actBox (w : World) (kd nu un : Int) : ∀ W2, W2 = (w.alloc (Obj.cells #[.int .i64 kd, .int .i64 nu, .int .i64 un] 46)).alloc (Obj.cells #[] 67) →
    W2.heap.size = w.heap.size + 2 ∧ Below w.heap.size w W2 ∧ ∀ W, Below W2.heap.size W2 W → (W.cell? ⟨w.heap.size, 0, none⟩ = some (.int .i64 kd) ∧ W.cell? ⟨w.heap.size, 1, none⟩ = some (.int .i64 nu) ∧ W.cell? ⟨w.heap.size, 2, none⟩ = some (.int .i64 un) ∧ W.heap[w.heap.size + 1]? = some (.cells #[] 67 (0, 0)) ∧ Below w.heap.size w W) := fun W2 hW2 => by
  have hz : W2.heap.size = w.heap.size + 2 := by rw [hW2]; simp
  have hb : Below w.heap.size w W2 := by rw [hW2]; exact chain (below_alloc _ _) (below_alloc _ _)
  have h0 : W2.heap[w.heap.size]? = some (.cells #[.int .i64 kd, .int .i64 nu, .int .i64 un] 46 (0, 0)) := by rw [hW2]; exact ((below_alloc _ _).block _ (by simp)).trans (heapNew _ _)
  have h1 : W2.heap[w.heap.size + 1]? = some (.cells #[] 67 (0, 0)) := by
    rw [hW2]
    have := heapNew (w.alloc (Obj.cells #[.int .i64 kd, .int .i64 nu, .int .i64 un] 46)) (Obj.cells #[] 67)
    simpa using this
  refine ⟨hz, hb, fun W hW => ?_⟩
  have b0 := (hW.block _ (by omega)).trans h0
  exact ⟨blkCell b0 0 _ rfl, blkCell b0 1 _ rfl, blkCell b0 2 _ rfl, (hW.block _ (by omega)).trans h1, chain hb hW⟩
set_option maxHeartbeats 4000000 in
theorem actS_none (B rb k : Nat) (σ : PSt) (hT : TI k σ) (lv tv : Value) (vs : List Value) (kd nu un : Int) (h1 : kd ≠ 1) (h2 : kd ≠ 2) (h3 : kd ≠ 3) (h4 : kd ≠ 4) (w : World) (hB : B ≤ w.heap.size) (hM : SqM B rb k σ lv tv vs w) :
    Calls Try.prog 16 #[.pointer (some ⟨rb, 0, none⟩), .agg #[.int .i64 kd, .int .i64 nu, .int .i64 un]] w (AnsA B rb k w (13, σ)) := by
  obtain ⟨Q, hQ⟩ : ∃ Q, Q = AnsA B rb k w (13, σ) := ⟨_, rfl⟩
  obtain ⟨W2, hW2⟩ : ∃ W2, W2 = (w.alloc (Obj.cells #[.int .i64 kd, .int .i64 nu, .int .i64 un] 46)).alloc (Obj.cells #[] 67) := ⟨_, rfl⟩
  obtain ⟨hz2, hb2, hc2⟩ := actBox w kd nu un W2 hW2
  obtain ⟨c0, c1, c2, cn, hbw⟩ := hc2 W2 (Below.refl _ _)
  have HA : Hid (Q (.returned (.tuple #[.int .i64 13, .slice (some ⟨w.heap.size + 1, 0, none⟩) 0 0])) W2) := by rw [hQ]; exact ansA_same hM hT hB hb2 (by omega) cn
  rw [← hQ]
  have b1 : (kd == 1) = false := by rw [beq_eq_false_iff_ne]; exact h1
  have b2 : (kd == 2) = false := by rw [beq_eq_false_iff_ne]; exact h2
  have b3 : (kd == 3) = false := by rw [beq_eq_false_iff_ne]; exact h3
  have b4 : (kd == 4) = false := by rw [beq_eq_false_iff_ne]; exact h4
  clear hM hT hQ hc2 h1 h2 h3 h4 cn
  go_enter Try.func16, Try.ntmps16
  go_wp2
  rw [← hW2]
  exact HA.out
end Go.Proofs.Ytodncihjenlnjaa
