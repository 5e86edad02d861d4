/-
  Contracts of the source's size and chance.
-/
import Derived.Test.YtjnlghngneonhaaSrcApt
namespace Go.Proofs.Ytjnlghngneonhaa
open Go.ChangeShapes Go.WideShapes Go.ChangeAt Go.RowKit
set_option linter.unusedVariables false


theorem size_src (b : Nat) (a : Option Addr) (len cap : Nat) (m at' seed : Int) (w : World) (hs : Src w b a len cap at' seed) (hl : len ≤ maxLen) (hm : 1 ≤ m) (hm' : m ≤ 1000) :
    Calls Try.prog 32 #[.pointer (some ⟨b, 0, none⟩), .int .i64 m] w fun e w' => (∃ x : Int, e = .returned (.int .i64 x) ∧ 1 ≤ x ∧ x ≤ m) ∧ w' = w := by
  obtain ⟨h0, h1, h2, f1, f2, hb, x0, s0, s1⟩ := hs
  unfold maxLen at hl
  have htd : ((len : Int)).tdiv 12 = (len : Int) / 12 := Int.tdiv_eq_ediv_of_nonneg (by omega)
  go_enter Try.func32, Try.ntmps32
  go_wp2
  all_goals
    go_ret
    exact ⟨⟨_, rfl, by omega, by omega⟩, rfl⟩

end Go.Proofs.Ytjnlghngneonhaa
