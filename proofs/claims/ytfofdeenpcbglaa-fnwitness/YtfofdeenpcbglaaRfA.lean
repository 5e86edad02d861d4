/-
  Contract of the program's clausesFault; what right rules are.
-/
import Derived.Test.YtfofdeenpcbglaaRuE
namespace Go.Proofs.Ytfofdeenpcbglaa
open Go.ChangeShapes Go.WideShapes Go.ChangeAt Go.RowKit Go.Deep
set_option linter.unusedVariables false

/-- The code that a list of rules has by itself. -/
def fltC (rs : List CCl) : Int := if 4096 < rs.length then 2 else if clAll rs = true then 0 else 1
theorem fltC_ways (rs : List CCl) : (4096 < (rs.length : Int) ∧ fltC rs = 2) ∨ ((rs.length : Int) ≤ 4096 ∧ clAll rs = false ∧ fltC rs = 1) ∨ ((rs.length : Int) ≤ 4096 ∧ clAll rs = true ∧ fltC rs = 0) := by
  unfold fltC
  rcases (by omega : 4096 < rs.length ∨ rs.length ≤ 4096) with h | h
  · exact .inl ⟨by omega, by rw [if_pos h]⟩
  · rw [if_neg (by omega)]
    cases hc : clAll rs
    · exact .inr (.inl ⟨by omega, rfl, by simp⟩)
    · exact .inr (.inr ⟨by omega, rfl, by simp⟩)
theorem clausesFault_any (a : Option Addr) (cap : Nat) (rs : List CCl) (hl : rs.length ≤ 100000000) (hp : ∀ r ∈ rs, ClOK r) (w : World) (hr : ReadsCl w.heap.size w a rs) :
    Calls Try.prog 16 #[.slice a rs.length cap] w fun e w' => e = .returned (.int .i64 (fltC rs)) ∧ Below w.heap.size w w' := by
  have hC := implClauses_any a cap rs hl hp w hr
  have hw := fltC_ways rs
  clear hr hp
  generalize fltC rs = c at *
  generalize clAll rs = b at *
  generalize rs.length = n at *
  rcases hw with ⟨h1, rfl⟩ | ⟨h1, rfl, rfl⟩ | ⟨h1, rfl, rfl⟩
  · go_enter Try.func16, Try.ntmps16
    go_wp2
    go_ret
    exact ⟨rfl, Below.refl _ _⟩
  · go_enter Try.func16, Try.ntmps16
    go_wp2_with (go_at_call 36; refine hC.mono ?_; rintro e w2 ⟨rfl, hb2⟩)
    go_ret
    exact ⟨rfl, hb2⟩
  · go_enter Try.func16, Try.ntmps16
    go_wp2_with (go_at_call 36; refine hC.mono ?_; rintro e w2 ⟨rfl, hb2⟩)
    go_ret
    exact ⟨rfl, hb2⟩
theorem clOne_terms {c : CCl} (h : clOne c = true) : c.ts.all tmB = true := by
  unfold clOne sayB at h
  simp only [Bool.and_eq_true] at h
  exact h.2.2
theorem clAll_mem {rs : List CCl} (h : clAll rs = true) : ∀ r ∈ rs, clOne r = true := by
  unfold clAll at h
  split at h
  · cases h
  · simp only [Bool.and_eq_true] at h
    exact List.all_eq_true.mp h.2
end Go.Proofs.Ytfofdeenpcbglaa
