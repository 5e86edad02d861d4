/-
  Contract of the program's BestRoute, for all arguments.
-/
import Derived.Test.YtoogphkojofkfaaRwV
namespace Go.Proofs.Ytoogphkojofkfaa
open Go.ChangeShapes Go.WideShapes Go.ChangeAt Go.RowKit Go.Joins Go.Deep
set_option linter.unusedVariables false

theorem implBestRoute_any (ad : Option Addr) (cap : Nat) (rs : List RHp) (b : Int) (hl : rs.length ≤ 100000000) (w : World) (hr : ReadsHp w.heap.size w ad rs) :
    Calls Try.prog 6 #[.slice ad rs.length cap, .int .i64 b] w (AnsM (brC rs b) (brL rs b) (brA rs b) (brW rs b) (brE rs b) w) := by
  by_cases hf : rfC rs b = 0
  · obtain ⟨h7, hs, hb⟩ := rf_zero hf
    refine implBest_search ad cap rs b hl hf w hr (fun sb W h1 h2 h3 => ?_)
    have hno : ∀ x, ¬ wyX none 0 ([] : List Int).length none 0 ([] : List Int).length x := fun x hx => by
      rcases hx with e | e <;> simp [Value.ownBlock] at e
    have hst : GoS (sb + 1) sb (fun _ => False) none 0 ([] : List Int) none 0 ([] : List Int) W := ⟨fun x hx => by simp [Value.ownBlock] at hx, fun x hx => (hno x hx).elim, fun x hx => hx.elim, blkLt h3, blkLt h3⟩
    have hg := go_any w.heap.size (sb + 1) sb ad cap (leN b rs) rs b h7 hs hb rfl w rfl hr h1 rs.length [] 0 b zHp [] none (fun _ => False) none 0 none 0 0 0 W rfl rfl (by simp) .nil rfl hst (.inl ⟨rfl, h3⟩) (World.ownsRow_nil _ _ _ _) (World.ownsRow_nil _ _ _ _) h2
    refine hg.mono ?_
    rintro e w' ⟨he, hp, _, _, hfr⟩
    refine ⟨he.imp id (fun q => q.1), hp.dn, hfr.mono (fun k hk => ?_)⟩
    rcases hk with hk | hk
    · exact hk
    · exact (hno k hk).elim
  · exact implBest_fault ad cap rs b hl hf w hr
end Go.Proofs.Ytoogphkojofkfaa
