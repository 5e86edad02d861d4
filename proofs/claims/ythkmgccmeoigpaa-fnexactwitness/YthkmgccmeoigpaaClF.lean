/-
  The laws' own eqClause, eqClauseS.
-/
import Derived.Test.YthkmgccmeoigpaaClE
import Derived.Test.YthkmgccmeoigpaaTmF
import Derived.Test.YthkmgccmeoigpaaStrA
namespace Go.Proofs.Ythkmgccmeoigpaa
open Go.ChangeShapes Go.WideShapes Go.ChangeAt Go.RowKit Go.Deep
set_option linter.unusedVariables false


set_option maxHeartbeats 2000000 in
theorem eqCl_any (c : CCl) (h k : Option Addr) (cp cq : Nat) (hn : c.ts.length ≤ 1048576) (w : World) (hr : ReadsTm w.heap.size w h c.ts) (kr : ReadsTm w.heap.size w k c.ts) :
    Calls Try.prog 22 #[.agg #[.string c.nm, .slice h c.ts.length cp, .int .i64 c.ac, .int .i64 c.nu], .agg #[.string c.nm, .slice k c.ts.length cq, .int .i64 c.ac, .int .i64 c.nu]] w fun e w' => e = .returned (.bool true) ∧ Below w.heap.size w w' := by
  have HR : Hid (ReadsTm w.heap.size w h c.ts) := hr
  have KR : Hid (ReadsTm w.heap.size w k c.ts) := kr
  have HT : Hid (∀ w, ReadsTm w.heap.size w h c.ts → ReadsTm w.heap.size w k c.ts → Calls Try.prog 50 #[.slice h c.ts.length cp, .slice k c.ts.length cq] w fun e w' => e = .returned (.bool true) ∧ Below w.heap.size w w') := fun w r s => eqTms_any h k cp cq c.ts hn w r s
  clear hr kr
  obtain ⟨nm, ts, ac, nu⟩ := c
  dsimp only at *
  have hs : (nm.toList == nm.toList) = true := by simp
  have HW : Hid (∀ W, Below w.heap.size w W → Calls Try.prog 50 #[.slice h ts.length cp, .slice k ts.length cq] W fun e w' => e = .returned (.bool true) ∧ Below W.heap.size W w') := fun W b => HT.out W (HR.out.later b) (KR.out.later b)
  generalize ts.length = n at *
  clear HR KR HT
  go_enter Try.func22, Try.ntmps22
  go_wp2_with fail
  (first | go_at_call 50 | skip)
  refine (HW.out _ (by repeat (first | exact Below.refl _ _ | refine chain ?_ (below_alloc _ _) | refine chain ?_ (below_drew _)))).mono ?_
  rintro e w2 ⟨rfl, hb2⟩
  have q2 : w2.cell? ⟨w.heap.size, 2, none⟩ = some (.int .i64 ac) := (hb2.cell (p := ⟨w.heap.size, 2, none⟩) (by simp only [World.size_alloc]; omega)).trans ((cellOld _ _ (by simp only [World.size_alloc]; omega)).trans (cellNew _ _ _ _ rfl rfl))
  have r2 : w2.cell? ⟨w.heap.size + 1, 2, none⟩ = some (.int .i64 ac) := (hb2.cell (p := ⟨w.heap.size + 1, 2, none⟩) (by simp only [World.size_alloc]; omega)).trans (cellNew _ _ _ _ (by simp) rfl)
  have q3 : w2.cell? ⟨w.heap.size, 3, none⟩ = some (.int .i64 nu) := (hb2.cell (p := ⟨w.heap.size, 3, none⟩) (by simp only [World.size_alloc]; omega)).trans ((cellOld _ _ (by simp only [World.size_alloc]; omega)).trans (cellNew _ _ _ _ rfl rfl))
  have r3 : w2.cell? ⟨w.heap.size + 1, 3, none⟩ = some (.int .i64 nu) := (hb2.cell (p := ⟨w.heap.size + 1, 3, none⟩) (by simp only [World.size_alloc]; omega)).trans (cellNew _ _ _ _ (by simp) rfl)
  have HB2 : Hid (Below w.heap.size w w2) := chain (chain (below_alloc _ _) (below_alloc _ _)) hb2
  clear hb2 HW
  go_wp2
  go_ret
  exact ⟨rfl, HB2.out⟩


end Go.Proofs.Ythkmgccmeoigpaa
