/-
  Texts of this claim laid together: Repeat, Scan2, Scan3.
-/
import Derived.Test.YtabpkfhbnendjaaGreatM5
import Derived.Test.YtabpkfhbnendjaaGreatM1
/-
  strings.Repeat of the text of one nought, none times and five times.
-/
namespace Go.Proofs.YtabpkfhbnendjaaGreat
open Go.ChangeShapes Go.WideShapes Go.ChangeAt Go.RowKit
set_option linter.unusedVariables false

theorem pre_other (l : List UInt8) (c d : UInt8) (r : List UInt8) (h : l = d :: r) (hn : (c == d) = false) : Lib.hasPrefix l [c] = false := by subst h; simp [Lib.hasPrefix, List.isPrefixOf, hn]
theorem pre_same (l : List UInt8) (c : UInt8) (r : List UInt8) (h : l = c :: r) : Lib.hasPrefix l [c] = true := by subst h; simp [Lib.hasPrefix, List.isPrefixOf]
set_option maxRecDepth 50000 in
theorem repeat5 (w : World) : Calls Tryz.prog 71 #[.string ⟨#[48]⟩, .int .i64 5] w fun e w' => e = .returned (.string ⟨#[48, 48, 48, 48, 48]⟩) ∧ w' = w := by
  have hm := fun w => Tryz.bits_Mul 1 5 (by decide) (by decide) w
  go_enter Tryz.func71, Tryz.ntmps71
  go_wp2_with fail
  go_at_call 79
  refine (hm _).mono ?_
  rintro e w1 ⟨rfl, rfl⟩
  clear hm
  go_wp2_with fail
  go_at_call 80
  refine (Tryz.strings_HasPrefix _ _ _).mono ?_
  rintro e w2 ⟨rfl, rfl⟩
  rw [pre_other _ _ 32 _ rfl (by decide)]
  go_wp2_with fail
  go_at_call 80
  refine (Tryz.strings_HasPrefix _ _ _).mono ?_
  rintro e w2 ⟨rfl, rfl⟩
  rw [pre_other _ _ 45 _ rfl (by decide)]
  go_wp2_with fail
  go_at_call 80
  refine (Tryz.strings_HasPrefix _ _ _).mono ?_
  rintro e w2 ⟨rfl, rfl⟩
  rw [pre_same _ _ _ rfl]
  go_wp2
  go_ret
  exact ⟨congrArg Ending.returned (congrArg Value.string (by kernel_rfl)), rfl⟩
theorem repeat0 (w : World) : Calls Tryz.prog 71 #[.string ⟨#[48]⟩, .int .i64 0] w fun e w' => e = .returned (.string ⟨#[]⟩) ∧ w' = w := Tryz.strings_Repeat_zero _ w
end Go.Proofs.YtabpkfhbnendjaaGreat

/-
  Contracts of the program's digitsOfScan and text, for every text of 8 and of 13 bytes.
-/
namespace Go.Proofs.YtabpkfhbnendjaaGreat
open Go.ChangeShapes Go.WideShapes Go.ChangeAt Go.RowKit
set_option linter.unusedVariables false

theorem cells_bytes (W : World) (p : ByteArray) (cap : Nat) (e : TypeId) (fr : Nat × Nat) (b : Nat) (hb : W.heap.size = b) :
    ∀ j v, (row p.data.toList).toList[j]? = some v → (W.alloc (.cells (bytesRow p cap) e fr)).cell? ((⟨b, 0, none⟩ : Addr).add j) = some v := by
  intro j v h
  subst hb
  have hadd : (⟨W.heap.size, 0, none⟩ : Addr).add j = ⟨W.heap.size, j, none⟩ := by unfold Addr.add; split <;> simp_all
  rw [hadd, cell_of_row _ _ j _ e fr (heap_alloc_new W _)]
  have hj : j < p.size := by
    have := (List.getElem?_eq_some_iff.1 h).1
    simpa [row] using this
  have hj2 : j < p.data.size := hj
  simp [row] at h
  obtain ⟨a, h1, h2⟩ := h
  subst h2
  unfold bytesRow
  rw [Array.getElem?_append_left (by simpa using hj2)]
  simp [h1]

theorem heap_old_drew (w : World) (A B : Obj) : ((w.alloc A).alloc B).drew.heap[w.heap.size]? = some A := heap_alloc2_old w A B

set_option maxRecDepth 50000 in
theorem digits_of (s z : ByteArray) (n : Int) (hn : (13 : Int) - (s.size : Int) = n) (h13 : (z ++ s).size = 13) (hs : s.size ≤ 13) (hR : ∀ w, Calls Tryz.prog 71 #[.string ⟨#[48]⟩, .int .i64 n] w fun e w' => e = .returned (.string z) ∧ w' = w) (w : World) :
    Calls Tryz.prog 61 #[.string s] w fun e w' => e = .returned (.agg (row (z ++ s).data.toList)) ∧ Below w.heap.size w w' := by
  have hcv := fun w => run_bytes_of_string (P := Tryz.prog) w 9 22 5 (z ++ s) Tryz.underlying9 Tryz.underlying22 Tryz.underlying5
  have hat := fun w a cap => run_arrayAt 117 _ 13 a 13 cap Tryz.underlying117 (by omega) w
  have hzs : z.size + s.size ≤ 9223372036854775807 := by have : z.size + s.size = 13 := by simpa using h13
                                                         omega
  have hadd := fun w => run_string_add_sum (P := Tryz.prog) w z s hzs
  clear hzs
  have hcb := fun W cap e fr b hb => cells_bytes W (z ++ s) cap e fr b hb
  have hi : (Tryz.prog.info? 117).map (·.size) = some (row (z ++ s).data.toList).toList.length := by rw [Array.length_toList, row_size]; exact info13.trans (congrArg some (by simpa using h13.symm))
  have hi' : (Tryz.prog.info? 117).map (·.size) = some (row (z ++ s).data.toList).toList.toArray.size := by rw [Array.toArray_toList, row_size]; exact info13.trans (congrArg some (by simpa using h13.symm))
  have ho : (row (z ++ s).data.toList).toList.toArray.all (·.oneCell') = true := by rw [Array.toArray_toList]; exact row_one _
  have HE : Hid ((row (z ++ s).data.toList).toList.toArray = row (z ++ s).data.toList) := by show _ = _; simp
  have HS : Hid ((row (z ++ s).data.toList).toList.toArray.size = 13) := by show _ = _; rw [Array.toArray_toList, row_size]; simpa using h13
  generalize row (z ++ s).data.toList = R at *
  generalize R.toList = r at *
  generalize z ++ s = p at *
  have hs' : (s.size : Int) ≤ 13 := by omega
  clear hs
  go_enter Tryz.func61, Tryz.ntmps61
  go_wp2_with fail
  go_at_call 71
  refine (hR _).mono ?_
  rintro e w1 ⟨rfl, hw1⟩
  subst hw1
  go_wp2_with (first | (refine wpList_load_part rfl 117 (.tmp 13) rfl _ rfl r _ ?_ Tryz.underlying117 rfl hi ?_; exact hcb _ _ _ _ _ (by simp)))
  rw [run_storeCells_from w.heap.size 117 r 0 _ _ (heap_old_drew w _ _) (by have := HS.out; simp at this; simp [this]) (by simpa using ho)]
  simp only [Result.andThen_ok, List.take_zero, List.nil_append]
  rw [Oper.upon_skip]
  go_wp2
  refine bodyPost_ret (results_cell_row rfl _ _ w.heap.size 117 _ (0, 0) _ rfl (setRow_heap _ _ _ _ _ _ (heap_old_drew w _ _)) Tryz.underlying117 rfl hi') rfl ?_
  exact ⟨by rw [HE.out], below_row ((((Below.refl _ _).alloc (Nat.le_refl _) _).alloc (by simp) _).drew) (Nat.le_refl _) _⟩

/-- The 13 digits of a code: one of 8 behind five noughts. -/
def padB (s : ByteArray) : ByteArray := if s.size = 8 then ⟨#[48, 48, 48, 48, 48]⟩ ++ s else ⟨#[]⟩ ++ s
def pad (s : ByteArray) : List UInt8 := (padB s).data.toList

theorem digitsOfScan_any (s : ByteArray) (h : s.size = 8 ∨ s.size = 13) (w : World) :
    Calls Tryz.prog 61 #[.string s] w fun e w' => e = .returned (.agg (row (pad s))) ∧ Below w.heap.size w w' := by
  unfold pad padB
  rcases h with h | h
  · rw [if_pos h]; exact digits_of s _ 5 (by omega) (by simp [h]; rfl) (by omega) repeat5 w
  · rw [if_neg (by omega)]; exact digits_of s _ 0 (by omega) (by simp [h]; rfl) (by omega) repeat0 w

theorem text_of (l : List UInt8) (f t : Nat) (h13 : l.length = 13) (hf : f < t) (ht : t ≤ 13) (w : World) :
    Calls Tryz.prog 64 #[.agg (row l), .int .i64 (f : Int), .int .i64 (t : Int)] w fun e w' => e = .returned (.string ⟨((l.drop f).take (t - f)).toArray⟩) ∧ Below w.heap.size w w' := by
  have hft : (f : Int) ≤ (t : Int) := by omega
  have ht' : (t : Int) ≤ 13 := by omega
  have hconv : (convert 22 9 (.slice (some ⟨w.heap.size, f, none⟩) (t - f) (13 - f))).run Tryz.prog (w.alloc (.cells (row l) 117)) = .ok (.string ⟨((l.drop f).take (t - f)).toArray⟩) (w.alloc (.cells (row l) 117)) := by
    have e : ((l.drop f).take (t - f)).length = t - f := by simp; omega
    have := run_convert_bytes_back (P := Tryz.prog) (w.alloc (.cells (row l) 117)) 22 9 5 ⟨w.heap.size, f, none⟩ (13 - f) ((l.drop f).take (t - f)) Tryz.underlying22 Tryz.underlying5 Tryz.underlying9
      (fun j hj => by
        have hadd : (⟨w.heap.size, f, none⟩ : Addr).add j = ⟨w.heap.size, f + j, none⟩ := by unfold Addr.add; split <;> simp_all
        rw [hadd, cell_of_row _ w.heap.size (f + j) (row l) _ (0, 0) (heap_alloc_new w _), row_at l (f + j) (by omega)]
        simp)
    rw [e] at this
    exact this
  generalize row l = V at *
  go_enter Tryz.func64, Tryz.ntmps64
  go_wp2
  go_ret
  exact ⟨rfl, below_alloc _ _⟩
end Go.Proofs.YtabpkfhbnendjaaGreat

/-
  Arrays of digits held against each other.
-/
namespace Go.Proofs.YtabpkfhbnendjaaGreat
open Go.ChangeShapes Go.WideShapes Go.ChangeAt Go.RowKit
set_option linter.unusedVariables false

theorem run_forIn_eq {P : Program} (f : Nat → Option Bool × Unit → Sem (ForInStep (Option Bool × Unit))) (q : Nat → Bool) : ∀ (m k : Nat) (w : World),
    (∀ i, k ≤ i → i < k + m → ∀ s w, (f i s).run P w = .ok (if q i = true then .yield (none, ()) else .done (some false, ())) w) →
    (forIn (List.range' k m) (none, ()) f).run P w = .ok (if (List.range' k m).all q = true then (none, ()) else (some false, ())) w := by
  intro m
  induction m with
  | zero => intro k w _; simp
  | succ m ih =>
    intro k w hf
    rw [List.range'_succ, List.forIn_cons, Sem.run_bind, hf k (Nat.le_refl _) (by omega)]
    cases hq : q k
    · simp [hq]
    · simp only [if_true, Result.andThen_ok]
      rw [ih (k + 1) w (fun i h1 h2 => hf i (by omega) (by omega)), List.all_cons, hq, Bool.true_and]

theorem all_range (l l' : List UInt8) (n : Nat) (h : l.length = n) (h' : l'.length = n) : (List.range' 0 n).all (fun i => ((l.getD i 0).toNat : Int) == ((l'.getD i 0).toNat : Int)) = decide (l = l') := by
  rw [Bool.eq_iff_iff, List.all_eq_true, decide_eq_true_iff]
  constructor
  · intro H
    refine List.ext_getElem (by omega) fun i h1 h2 => ?_
    have := H i (by simp; omega)
    simp only [beq_iff_eq] at this
    have e1 : l.getD i 0 = l[i] := by simp [List.getD_eq_getElem?_getD, h1]
    have e2 : l'.getD i 0 = l'[i] := by simp [List.getD_eq_getElem?_getD, h2]
    rw [e1, e2] at this
    exact u8_ext (by omega)
  · intro H i _; rw [H]; simp

theorem run_equal_rows (t : TypeId) (n : Nat) (l l' : List UInt8) (ht : Tryz.prog.underlying t = some (.array n 5)) (h : l.length = n) (h' : l'.length = n) (w : World) :
    (Op.equalIn 10000 t (.agg (row l)) (.agg (row l'))).run Tryz.prog w = .ok (decide (l = l')) w := by
  rw [← all_range l l' n h h']
  have e1 : ∀ i, i < n → (row l)[i]? = some (.int .u8 ((l.getD i 0).toNat : Int)) := fun i hi => by rw [row_at l i (by omega)]; simp [List.getD_eq_getElem?_getD, show i < l.length by omega]
  have e2 : ∀ i, i < n → (row l')[i]? = some (.int .u8 ((l'.getD i 0).toNat : Int)) := fun i hi => by rw [row_at l' i (by omega)]; simp [List.getD_eq_getElem?_getD, show i < l'.length by omega]
  generalize row l = V at *
  generalize row l' = V' at *
  unfold Op.equalIn
  simp [go_sem, run_underlying ht]
  rw [run_forIn_eq _ (fun i => ((l[i]?.getD 0).toNat : Int) == ((l'[i]?.getD 0).toNat : Int)) n 0 w (fun i _ hi s w => ?_)]
  · generalize (List.range' 0 n).all _ = b
    cases b <;> simp
  · have a1 := e1 i (by omega)
    have a2 := e2 i (by omega)
    simp only [List.getD_eq_getElem?_getD] at a1 a2
    simp [go_sem, a1, a2]
    split <;> rfl
theorem run_neq_rows (t : TypeId) (n : Nat) (l l' : List UInt8) (ht : Tryz.prog.underlying t = some (.array n 5)) (h : l.length = n) (h' : l'.length = n) (w : World) :
    (binOp BinOp.neq t (.agg (row l)) (.agg (row l'))).run Tryz.prog w = .ok (.bool (!(decide (l = l')))) w := by
  rw [run_neq_struct, run_equal_rows t n l l' ht h h' w]; rfl
theorem run_eql_rows (t : TypeId) (n : Nat) (l l' : List UInt8) (ht : Tryz.prog.underlying t = some (.array n 5)) (h : l.length = n) (h' : l'.length = n) (w : World) :
    (binOp BinOp.eql t (.agg (row l)) (.agg (row l'))).run Tryz.prog w = .ok (.bool (decide (l = l'))) w := by
  rw [run_eql_struct, run_equal_rows t n l l' ht h h' w]; rfl
end Go.Proofs.YtabpkfhbnendjaaGreat
