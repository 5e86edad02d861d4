/-
  MakeScan of a code that tells a value: the program's.
-/
import Derived.Test.YtlejmjpjlbiojaaDoorMake2
namespace Go.Proofs.YtlejmjpjlbiojaaDoor
open Go.ChangeShapes Go.WideShapes Go.ChangeAt Go.RowKit
set_option linter.unusedVariables false

theorem keepT {W w1 : World} {b : Nat} {x y z : Value} (hb : Below W.heap.size W w1) (h : W.cell? ⟨b, 0, none⟩ = some x ∧ W.cell? ⟨b, 1, none⟩ = some y ∧ W.cell? ⟨b, 2, none⟩ = some z ∧ b < W.heap.size ∧ Tab W) :
    w1.cell? ⟨b, 0, none⟩ = some x ∧ w1.cell? ⟨b, 1, none⟩ = some y ∧ w1.cell? ⟨b, 2, none⟩ = some z ∧ b < w1.heap.size ∧ Tab w1 :=
  ⟨(hb.cell (p := ⟨b, 0, none⟩) h.2.2.2.1).trans h.1, (hb.cell (p := ⟨b, 1, none⟩) h.2.2.2.1).trans h.2.1, (hb.cell (p := ⟨b, 2, none⟩) h.2.2.2.1).trans h.2.2.1, Nat.lt_of_lt_of_le h.2.2.2.1 hb.size, h.2.2.2.2.below hb⟩

theorem implGrams (a : ByteArray) (v : Int) (t : ByteArray) (c : Int) (hV : ∀ w, Tab w → Calls Tryd.prog 27 #[.agg #[.int .u8 50, .int .u8 48], sv 2 a v] w fun e w' => e = .returned (.tuple #[.string t, .int .i64 c]) ∧ Below w.heap.size w w') (w : World) (ht : Tab w) :
    Calls Tryd.prog 8 #[sv 2 a v] w fun e w' => e = .returned (.tuple #[.string t, .int .i64 c]) ∧ Below w.heap.size w w' := by
  unfold sv at *
  go_enter Tryd.func8, Tryd.ntmps8
  go_wp2_with fail
  have m0 : (w.alloc (Obj.cells #[.int .i64 2, .string a, .int .i64 v] 25)).cell? ⟨w.heap.size, 0, none⟩ = some (.int .i64 2) := cell_of_row _ _ 0 _ _ _ (heap_alloc_new w _)
  have m1 : (w.alloc (Obj.cells #[.int .i64 2, .string a, .int .i64 v] 25)).cell? ⟨w.heap.size, 1, none⟩ = some (.string a) := cell_of_row _ _ 1 _ _ _ (heap_alloc_new w _)
  have m2 : (w.alloc (Obj.cells #[.int .i64 2, .string a, .int .i64 v] 25)).cell? ⟨w.heap.size, 2, none⟩ = some (.int .i64 v) := cell_of_row _ _ 2 _ _ _ (heap_alloc_new w _)
  have lt : w.heap.size < (w.alloc (Obj.cells #[.int .i64 2, .string a, .int .i64 v] 25)).heap.size := by simp
  have tb : Hid (Tab (w.alloc (Obj.cells #[.int .i64 2, .string a, .int .i64 v] 25))) := ht.below (below_alloc _ _)
  have bel : Hid (Below w.heap.size w (w.alloc (Obj.cells #[.int .i64 2, .string a, .int .i64 v] 25))) := below_alloc _ _
  clear ht
  generalize w.alloc (Obj.cells #[.int .i64 2, .string a, .int .i64 v] 25) = W1 at *
  have HV : Hid (∀ w, Tab w → Calls Tryd.prog 27 #[.agg #[.int .u8 50, .int .u8 48], .agg #[.int .i64 2, .string a, .int .i64 v]] w fun e w' => e = .returned (.tuple #[.string t, .int .i64 c]) ∧ Below w.heap.size w w') := hV
  clear hV
  go_region_held3 (fun W => W.cell? ⟨w.heap.size, 0, none⟩ = some (.int .i64 2) ∧ W.cell? ⟨w.heap.size, 1, none⟩ = some (.string a) ∧ W.cell? ⟨w.heap.size, 2, none⟩ = some (.int .i64 v) ∧ w.heap.size < W.heap.size ∧ Tab W) (first | exact ⟨m0, m1, m2, lt, tb.out.below (below_drew _)⟩ | exact keepT (by assumption) (by assumption)) (first | (go_at_call 21; refine (gramsHead_any _).mono ?_; rintro e w2 ⟨rfl, hb2⟩) | (go_at_call 27; refine (HV.out _ (by first | exact (tb.out.below (below_drew _)).below hb2 | assumption)).mono ?_; rintro e w3 ⟨rfl, hb3⟩))
  go_wp2
  go_ret2
  exact ⟨rfl, chain (chain bel.out.drew hb2) hb3⟩

theorem implPrice (a : ByteArray) (v : Int) (t : ByteArray) (c : Int) (hV : ∀ w, Tab w → Calls Tryd.prog 27 #[.agg #[.int .u8 50, .int .u8 49], sv 3 a v] w fun e w' => e = .returned (.tuple #[.string t, .int .i64 c]) ∧ Below w.heap.size w w') (w : World) (ht : Tab w) :
    Calls Tryd.prog 8 #[sv 3 a v] w fun e w' => e = .returned (.tuple #[.string t, .int .i64 c]) ∧ Below w.heap.size w w' := by
  unfold sv at *
  go_enter Tryd.func8, Tryd.ntmps8
  go_wp2_with fail
  have m0 : (w.alloc (Obj.cells #[.int .i64 3, .string a, .int .i64 v] 25)).cell? ⟨w.heap.size, 0, none⟩ = some (.int .i64 3) := cell_of_row _ _ 0 _ _ _ (heap_alloc_new w _)
  have m1 : (w.alloc (Obj.cells #[.int .i64 3, .string a, .int .i64 v] 25)).cell? ⟨w.heap.size, 1, none⟩ = some (.string a) := cell_of_row _ _ 1 _ _ _ (heap_alloc_new w _)
  have m2 : (w.alloc (Obj.cells #[.int .i64 3, .string a, .int .i64 v] 25)).cell? ⟨w.heap.size, 2, none⟩ = some (.int .i64 v) := cell_of_row _ _ 2 _ _ _ (heap_alloc_new w _)
  have lt : w.heap.size < (w.alloc (Obj.cells #[.int .i64 3, .string a, .int .i64 v] 25)).heap.size := by simp
  have tb : Hid (Tab (w.alloc (Obj.cells #[.int .i64 3, .string a, .int .i64 v] 25))) := ht.below (below_alloc _ _)
  have bel : Hid (Below w.heap.size w (w.alloc (Obj.cells #[.int .i64 3, .string a, .int .i64 v] 25))) := below_alloc _ _
  clear ht
  generalize w.alloc (Obj.cells #[.int .i64 3, .string a, .int .i64 v] 25) = W1 at *
  have HV : Hid (∀ w, Tab w → Calls Tryd.prog 27 #[.agg #[.int .u8 50, .int .u8 49], .agg #[.int .i64 3, .string a, .int .i64 v]] w fun e w' => e = .returned (.tuple #[.string t, .int .i64 c]) ∧ Below w.heap.size w w') := hV
  clear hV
  go_region_held3 (fun W => W.cell? ⟨w.heap.size, 0, none⟩ = some (.int .i64 3) ∧ W.cell? ⟨w.heap.size, 1, none⟩ = some (.string a) ∧ W.cell? ⟨w.heap.size, 2, none⟩ = some (.int .i64 v) ∧ w.heap.size < W.heap.size ∧ Tab W) (first | exact ⟨m0, m1, m2, lt, tb.out.below (below_drew _)⟩ | exact keepT (by assumption) (by assumption)) (first | (go_at_call 23; refine (priceHead_any _).mono ?_; rintro e w2 ⟨rfl, hb2⟩) | (go_at_call 27; refine (HV.out _ (by first | exact (tb.out.below (below_drew _)).below hb2 | assumption)).mono ?_; rintro e w3 ⟨rfl, hb3⟩))
  go_wp2
  go_ret2
  exact ⟨rfl, chain (chain bel.out.drew hb2) hb3⟩
end Go.Proofs.YtlejmjpjlbiojaaDoor
