/-
  The kinds of acts, in the program's map.
-/
import Derived.Test.YtodncihjenlnjaaPpJ
namespace Go.Proofs.Ytodncihjenlnjaa
open Go.ChangeShapes Go.WideShapes Go.ChangeAt Go.RowKit Go.Deep
set_option linter.unusedVariables false

def fnV (k : Nat) : Value := .func (.func k) #[] #[]
def kindF (c : Int) : Option Value :=
  if c = 4 then some (fnV 33) else if c = 3 then some (fnV 32) else if c = 2 then some (fnV 31) else if c = 1 then some (fnV 30) else none
theorem run_made (t : TypeId) (w : World) : (Instr.makeMap t none).run Try.prog w = .ok (.map (some w.heap.size)) (w.alloc (.map #[] 0)) := rfl
theorem pointActs_any (w : World) :
    Calls Try.prog 19 #[] w fun e w' => e = .returned (.map (some w.heap.size)) ∧ MapV .nilFunc w' w.heap.size 4 kindF ∧ Below w.heap.size w w' := by
  have h0 := MapV.made .nilFunc w
  have hu := Try.underlying55
  obtain ⟨w1, r1, m1, g1⟩ := h0.put (t := 55) hu (by unfold maxLen; omega) (c := 1) (wfI_of _ (by omega) (by omega)) (fnV 30)
  obtain ⟨w2, r2, m2, g2⟩ := m1.put (t := 55) hu (by unfold maxLen; omega) (c := 2) (wfI_of _ (by omega) (by omega)) (fnV 31)
  obtain ⟨w3, r3, m3, g3⟩ := m2.put (t := 55) hu (by unfold maxLen; omega) (c := 3) (wfI_of _ (by omega) (by omega)) (fnV 32)
  obtain ⟨w4, r4, m4, g4⟩ := m3.put (t := 55) hu (by unfold maxLen; omega) (c := 4) (wfI_of _ (by omega) (by omega)) (fnV 33)
  have HE : Hid (MapV .nilFunc w4 w.heap.size 4 kindF ∧ Below w.heap.size w w4) := by
    refine ⟨m4.congr (fun c => by unfold kindF; rfl), ?_⟩
    have hb0 := below_alloc w (.map #[] 0)
    have hs0 : w.heap.size ≤ (w.alloc (.map #[] 0)).heap.size := hb0.size
    have b1 := hb0.grown g1 hs0 (fun k hk => by injection hk with hk; omega)
    have b2 := b1.grown g2 b1.size (fun k hk => by injection hk with hk; omega)
    have b3 := b2.grown g3 b2.size (fun k hk => by injection hk with hk; omega)
    exact b3.grown g4 b3.size (fun k hk => by injection hk with hk; omega)
  unfold fnV at r1 r2 r3 r4
  have hmk := run_made 55 w
  clear h0 m1 m2 m3 m4 g1 g2 g3 g4
  go_enter Try.func19, Try.ntmps19
  go_wp2
  go_ret
  exact ⟨rfl, HE.out⟩
end Go.Proofs.Ytodncihjenlnjaa
