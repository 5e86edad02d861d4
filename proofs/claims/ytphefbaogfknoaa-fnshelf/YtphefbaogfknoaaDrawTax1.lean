/-
  Contracts of the source's pick and place.
-/
import Derived.Test.YtphefbaogfknoaaSrcSize
import Derived.Test.YtphefbaogfknoaaMark0
namespace Go.Proofs.Ytphefbaogfknoaa
open Go.ChangeShapes Go.WideShapes Go.ChangeAt Go.RowKit
set_option linter.unusedVariables false

theorem Src.allocT {w : World} {b : Nat} {a : Option Addr} {len cap : Nat} {x s : Int} (h : Src w b a len cap x s) (o : Obj) : Src (w.alloc o) b a len cap x s := by
  obtain ⟨h0, h1, h2, f1, f2, hb, r⟩ := h
  have hB := below_alloc w o
  exact ⟨(hB.cell (p := ⟨b, 0, none⟩) hb).trans h0, (hB.cell (p := ⟨b, 1, none⟩) hb).trans h1, (hB.cell (p := ⟨b, 2, none⟩) hb).trans h2, (hB.frozen (p := ⟨b, 1, none⟩) hb).trans f1, (hB.frozen (p := ⟨b, 2, none⟩) hb).trans f2, Nat.lt_of_lt_of_le hb hB.size, r⟩
theorem Apt.apart {b : Nat} {w w' : World} (h : Apt b w w') (hb : Below b w w') : Apart b w w' := ⟨hb.size, fun k hk _ => h k hk⟩
theorem Apart.trans {b : Nat} {w w' w'' : World} (h : Apart b w w') (k : Apart b w' w'') : Apart b w w'' := ⟨Nat.le_trans h.1 k.1, fun c hc hl => (k.2 c hc (Nat.lt_of_lt_of_le hl h.1)).trans (h.2 c hc hl)⟩
theorem apart_alloc (b : Nat) (w : World) (o : Obj) : Apart b w (w.alloc o) := ⟨by simp, fun k _ hl => Below.heap_alloc _ _ _ hl⟩

/-- The places that are drawn. -/
def plc : List ByteArray := [⟨#[]⟩, ⟨#[110, 111, 114, 116, 104]⟩, ⟨#[115, 111, 117, 116, 104]⟩, ⟨#[107, 195, 164, 115, 101]⟩, ⟨#[110, 111, 114, 116, 104]⟩]
theorem plc_cells (w : World) : ∀ j, j < plc.length → (w.alloc (Obj.cells #[.string ⟨#[]⟩, .string ⟨#[110, 111, 114, 116, 104]⟩, .string ⟨#[115, 111, 117, 116, 104]⟩, .string ⟨#[107, 195, 164, 115, 101]⟩, .string ⟨#[110, 111, 114, 116, 104]⟩] 9)).cell? ⟨w.heap.size, j, none⟩ = some (.string (plc.getD j ⟨#[]⟩)) := fun j hj => by
  have h := heapNew w (Obj.cells #[.string ⟨#[]⟩, .string ⟨#[110, 111, 114, 116, 104]⟩, .string ⟨#[115, 111, 117, 116, 104]⟩, .string ⟨#[107, 195, 164, 115, 101]⟩, .string ⟨#[110, 111, 114, 116, 104]⟩] 9)
  unfold World.cell?
  rw [h]
  match j, hj with
  | 0, _ => rfl
  | 1, _ => rfl
  | 2, _ => rfl
  | 3, _ => rfl
  | 4, _ => rfl

end Go.Proofs.Ytphefbaogfknoaa
