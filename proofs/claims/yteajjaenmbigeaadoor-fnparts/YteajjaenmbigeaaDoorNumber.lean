/-
  Contracts of the specification's l00Number, for every text.
-/
import Derived.Test.YteajjaenmbigeaaDoorDigits
namespace Go.Proofs.YteajjaenmbigeaaDoor
open Go.ChangeShapes Go.WideShapes Go.ChangeAt Go.RowKit
set_option linter.unusedVariables false

theorem ret_ib {a b : Int} {c d : Bool} (h : a = b) (k : c = d) : Ending.returned (.tuple #[.int .i64 a, .bool c]) = .returned (.tuple #[.int .i64 b, .bool d]) := by rw [h, k]

def numV (l : List UInt8) : Int := if wt 18 l = true then num l else 0

theorem numV_bad {l : List UInt8} (h : wt 18 l = false) : numV l = 0 := by unfold numV; rw [h]; rfl
theorem numV_good {l : List UInt8} (h : wt 18 l = true) : numV l = num l := by unfold numV; rw [if_pos h]


def IsPair (e : Ending) : Prop := ∃ (x : Int) (ok : Bool), e = .returned (.tuple #[.int .i64 x, .bool ok])

/-- A text without its first byte. -/
theorem run_slice_rest (s : ByteArray) (h : 0 < s.size) (hs : s.size ≤ 9223372036854775807) (w : World) :
    (Instr.slice 9 (.string s) (some (.int .i64 1)) none none).run Tryd.prog w = .ok (.string (s.extract 1 s.size)) w := by
  simp [go_sem]
  omega


end Go.Proofs.YteajjaenmbigeaaDoor
