/-
  Arrays of digits held against each other.
-/
import Derived.Test.YtnjciehnlemmlaaScan2
namespace Go.Proofs.Ytnjciehnlemmlaa
open Go.ChangeShapes Go.WideShapes Go.ChangeAt Go.RowKit
set_option linter.unusedVariables false

theorem run_forIn_eq {P : Program} (f : Nat → Option Bool × Unit → Sem (ForInStep (Option Bool × Unit))) (q : Nat → Bool) : ∀ (m k : Nat) (w : World),
    (∀ i, k ≤ i → i < k + m → ∀ s w, (f i s).run P w = .ok (if q i = true then .yield (none, ()) else .done (some false, ())) w) →
    (forIn (List.range' k m) (none, ()) f).run P w = .ok (if (List.range' k m).all q = true then (none, ()) else (some false, ())) w := by
  intro m
  induction m with
  | zero => intro k w _; simp
  | succ m ih =>
    intro k w hf
    rw [List.range'_succ, List.forIn_cons, Sem.run_bind, hf k (Nat.le_refl _) (by omega)]
    cases hq : q k
    · simp [hq]
    · simp only [if_true, Result.andThen_ok]
      rw [ih (k + 1) w (fun i h1 h2 => hf i (by omega) (by omega)), List.all_cons, hq, Bool.true_and]

theorem all_range (l l' : List UInt8) (n : Nat) (h : l.length = n) (h' : l'.length = n) : (List.range' 0 n).all (fun i => ((l.getD i 0).toNat : Int) == ((l'.getD i 0).toNat : Int)) = decide (l = l') := by
  rw [Bool.eq_iff_iff, List.all_eq_true, decide_eq_true_iff]
  constructor
  · intro H
    refine List.ext_getElem (by omega) fun i h1 h2 => ?_
    have := H i (by simp; omega)
    simp only [beq_iff_eq] at this
    have e1 : l.getD i 0 = l[i] := by simp [List.getD_eq_getElem?_getD, h1]
    have e2 : l'.getD i 0 = l'[i] := by simp [List.getD_eq_getElem?_getD, h2]
    rw [e1, e2] at this
    exact u8_ext (by omega)
  · intro H i _; rw [H]; simp

theorem run_equal_rows (t : TypeId) (n : Nat) (l l' : List UInt8) (ht : Try.prog.underlying t = some (.array n 5)) (h : l.length = n) (h' : l'.length = n) (w : World) :
    (Op.equalIn 10000 t (.agg (row l)) (.agg (row l'))).run Try.prog w = .ok (decide (l = l')) w := by
  rw [← all_range l l' n h h']
  have e1 : ∀ i, i < n → (row l)[i]? = some (.int .u8 ((l.getD i 0).toNat : Int)) := fun i hi => by rw [row_at l i (by omega)]; simp [List.getD_eq_getElem?_getD, show i < l.length by omega]
  have e2 : ∀ i, i < n → (row l')[i]? = some (.int .u8 ((l'.getD i 0).toNat : Int)) := fun i hi => by rw [row_at l' i (by omega)]; simp [List.getD_eq_getElem?_getD, show i < l'.length by omega]
  generalize row l = V at *
  generalize row l' = V' at *
  unfold Op.equalIn
  simp [go_sem, run_underlying ht]
  rw [run_forIn_eq _ (fun i => ((l[i]?.getD 0).toNat : Int) == ((l'[i]?.getD 0).toNat : Int)) n 0 w (fun i _ hi s w => ?_)]
  · generalize (List.range' 0 n).all _ = b
    cases b <;> simp
  · have a1 := e1 i (by omega)
    have a2 := e2 i (by omega)
    simp only [List.getD_eq_getElem?_getD] at a1 a2
    simp [go_sem, a1, a2]
    split <;> rfl
theorem run_neq_rows (t : TypeId) (n : Nat) (l l' : List UInt8) (ht : Try.prog.underlying t = some (.array n 5)) (h : l.length = n) (h' : l'.length = n) (w : World) :
    (binOp BinOp.neq t (.agg (row l)) (.agg (row l'))).run Try.prog w = .ok (.bool (!(decide (l = l')))) w := by
  rw [run_neq_struct, run_equal_rows t n l l' ht h h' w]; rfl
theorem run_eql_rows (t : TypeId) (n : Nat) (l l' : List UInt8) (ht : Try.prog.underlying t = some (.array n 5)) (h : l.length = n) (h' : l'.length = n) (w : World) :
    (binOp BinOp.eql t (.agg (row l)) (.agg (row l'))).run Try.prog w = .ok (.bool (decide (l = l'))) w := by
  rw [run_eql_struct, run_equal_rows t n l l' ht h h' w]; rfl
end Go.Proofs.Ytnjciehnlemmlaa
