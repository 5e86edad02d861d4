/-
  Contracts of the program's digitsOfScan and text, for every text of 8 and of 13 bytes.
-/
import Derived.Test.YtnjciehnlemmlaaScan
import Derived.Test.YtnjciehnlemmlaaRepeat
namespace Go.Proofs.Ytnjciehnlemmlaa
open Go.ChangeShapes Go.WideShapes Go.ChangeAt Go.RowKit
set_option linter.unusedVariables false

theorem cells_bytes (W : World) (p : ByteArray) (cap : Nat) (e : TypeId) (fr : Nat × Nat) (b : Nat) (hb : W.heap.size = b) :
    ∀ j v, (row p.data.toList).toList[j]? = some v → (W.alloc (.cells (bytesRow p cap) e fr)).cell? ((⟨b, 0, none⟩ : Addr).add j) = some v := by
  intro j v h
  subst hb
  have hadd : (⟨W.heap.size, 0, none⟩ : Addr).add j = ⟨W.heap.size, j, none⟩ := by unfold Addr.add; split <;> simp_all
  rw [hadd, cell_of_row _ _ j _ e fr (heap_alloc_new W _)]
  have hj : j < p.size := by
    have := (List.getElem?_eq_some_iff.1 h).1
    simpa [row] using this
  have hj2 : j < p.data.size := hj
  simp [row] at h
  obtain ⟨a, h1, h2⟩ := h
  subst h2
  unfold bytesRow
  rw [Array.getElem?_append_left (by simpa using hj2)]
  simp [h1]

theorem heap_old_drew (w : World) (A B : Obj) : ((w.alloc A).alloc B).drew.heap[w.heap.size]? = some A := heap_alloc2_old w A B

set_option maxRecDepth 50000 in
theorem digits_of (s z : ByteArray) (n : Int) (hn : (13 : Int) - (s.size : Int) = n) (h13 : (z ++ s).size = 13) (hs : s.size ≤ 13) (hR : ∀ w, Calls Try.prog 36 #[.string ⟨#[48]⟩, .int .i64 n] w fun e w' => e = .returned (.string z) ∧ w' = w) (w : World) :
    Calls Try.prog 28 #[.string s] w fun e w' => e = .returned (.agg (row (z ++ s).data.toList)) ∧ Below w.heap.size w w' := by
  have hcv := fun w => run_bytes_of_string (P := Try.prog) w 9 60 5 (z ++ s) Try.underlying9 Try.underlying60 Try.underlying5
  have hat := fun w a cap => run_arrayAt 49 _ 13 a 13 cap Try.underlying49 (by omega) w
  have hzs : z.size + s.size ≤ 9223372036854775807 := by have : z.size + s.size = 13 := by simpa using h13
                                                         omega
  have hadd := fun w => run_string_add_sum (P := Try.prog) w z s hzs
  clear hzs
  have hcb := fun W cap e fr b hb => cells_bytes W (z ++ s) cap e fr b hb
  have hi : (Try.prog.info? 49).map (·.size) = some (row (z ++ s).data.toList).toList.length := by rw [Array.length_toList, row_size]; exact info13.trans (congrArg some (by simpa using h13.symm))
  have hi' : (Try.prog.info? 49).map (·.size) = some (row (z ++ s).data.toList).toList.toArray.size := by rw [Array.toArray_toList, row_size]; exact info13.trans (congrArg some (by simpa using h13.symm))
  have ho : (row (z ++ s).data.toList).toList.toArray.all (·.oneCell') = true := by rw [Array.toArray_toList]; exact row_one _
  have HE : Hid ((row (z ++ s).data.toList).toList.toArray = row (z ++ s).data.toList) := by show _ = _; simp
  have HS : Hid ((row (z ++ s).data.toList).toList.toArray.size = 13) := by show _ = _; rw [Array.toArray_toList, row_size]; simpa using h13
  generalize row (z ++ s).data.toList = R at *
  generalize R.toList = r at *
  generalize z ++ s = p at *
  have hs' : (s.size : Int) ≤ 13 := by omega
  clear hs
  go_enter Try.func28, Try.ntmps28
  go_wp2_with fail
  go_at_call 36
  refine (hR _).mono ?_
  rintro e w1 ⟨rfl, hw1⟩
  subst hw1
  go_wp2_with (first | (refine wpList_load_part rfl 49 (.tmp 13) rfl _ rfl r _ ?_ Try.underlying49 rfl hi ?_; exact hcb _ _ _ _ _ (by simp)))
  rw [run_storeCells_from w.heap.size 49 r 0 _ _ (heap_old_drew w _ _) (by have := HS.out; simp at this; simp [this]) (by simpa using ho)]
  simp only [Result.andThen_ok, List.take_zero, List.nil_append]
  rw [Oper.upon_skip]
  go_wp2
  refine bodyPost_ret (results_cell_row rfl _ _ w.heap.size 49 _ (0, 0) _ rfl (setRow_heap _ _ _ _ _ _ (heap_old_drew w _ _)) Try.underlying49 rfl hi') rfl ?_
  exact ⟨by rw [HE.out], below_row ((((Below.refl _ _).alloc (Nat.le_refl _) _).alloc (by simp) _).drew) (Nat.le_refl _) _⟩

/-- The 13 digits of a code: one of 8 behind five noughts. -/
def padB (s : ByteArray) : ByteArray := if s.size = 8 then ⟨#[48, 48, 48, 48, 48]⟩ ++ s else ⟨#[]⟩ ++ s
def pad (s : ByteArray) : List UInt8 := (padB s).data.toList

theorem digitsOfScan_any (s : ByteArray) (h : s.size = 8 ∨ s.size = 13) (w : World) :
    Calls Try.prog 28 #[.string s] w fun e w' => e = .returned (.agg (row (pad s))) ∧ Below w.heap.size w w' := by
  unfold pad padB
  rcases h with h | h
  · rw [if_pos h]; exact digits_of s _ 5 (by omega) (by simp [h]; rfl) (by omega) repeat5 w
  · rw [if_neg (by omega)]; exact digits_of s _ 0 (by omega) (by simp [h]; rfl) (by omega) repeat0 w

theorem text_of (l : List UInt8) (f t : Nat) (h13 : l.length = 13) (hf : f < t) (ht : t ≤ 13) (w : World) :
    Calls Try.prog 31 #[.agg (row l), .int .i64 (f : Int), .int .i64 (t : Int)] w fun e w' => e = .returned (.string ⟨((l.drop f).take (t - f)).toArray⟩) ∧ Below w.heap.size w w' := by
  have hft : (f : Int) ≤ (t : Int) := by omega
  have ht' : (t : Int) ≤ 13 := by omega
  have hconv : (convert 60 9 (.slice (some ⟨w.heap.size, f, none⟩) (t - f) (13 - f))).run Try.prog (w.alloc (.cells (row l) 49)) = .ok (.string ⟨((l.drop f).take (t - f)).toArray⟩) (w.alloc (.cells (row l) 49)) := by
    have e : ((l.drop f).take (t - f)).length = t - f := by simp; omega
    have := run_convert_bytes_back (P := Try.prog) (w.alloc (.cells (row l) 49)) 60 9 5 ⟨w.heap.size, f, none⟩ (13 - f) ((l.drop f).take (t - f)) Try.underlying60 Try.underlying5 Try.underlying9
      (fun j hj => by
        have hadd : (⟨w.heap.size, f, none⟩ : Addr).add j = ⟨w.heap.size, f + j, none⟩ := by unfold Addr.add; split <;> simp_all
        rw [hadd, cell_of_row _ w.heap.size (f + j) (row l) _ (0, 0) (heap_alloc_new w _), row_at l (f + j) (by omega)]
        simp)
    rw [e] at this
    exact this
  generalize row l = V at *
  go_enter Try.func31, Try.ntmps31
  go_wp2
  go_ret
  exact ⟨rfl, below_alloc _ _⟩
end Go.Proofs.Ytnjciehnlemmlaa
