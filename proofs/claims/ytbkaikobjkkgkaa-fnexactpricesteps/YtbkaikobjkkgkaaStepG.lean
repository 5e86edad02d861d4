/-
  Contract of the specification's PriceSteps, for every list of rows, article, zone and stretch.
-/
import Derived.Test.YtbkaikobjkkgkaaStepF
namespace Go.Proofs.Ytbkaikobjkkgkaa
open Go.ChangeShapes Go.WideShapes Go.ChangeAt Go.RowKit
set_option linter.unusedVariables false

theorem prAll_len2 {rs : List RPr} (h : prAll rs = true) : rs.length ≤ 80 := by
  unfold prAll at h
  split at h
  · cases h
  · omega
set_option maxHeartbeats 2000000 in
set_option maxRecDepth 8000 in
theorem specSteps_any (a : Option Addr) (cap : Nat) (rs : List RPr) (hl : rs.length ≤ 100000000) (hp : ∀ r ∈ rs, PrOK r) (art zn : ByteArray) (ha : art.size ≤ 100000000) (hz : zn.size ≤ 100000000) (fr to : Int) (w : World) (hr : ReadsPr w.heap.size w a rs) :
    Calls Try.prog 14 #[.slice a rs.length cap, .string art, .string zn, .int .i64 fr, .int .i64 to] w (AnsS rs art zn fr to w) := by
  have hL := fun w => long_any a rs.length cap hl art zn ha hz w
  have hS := specPrices_any a cap rs hl hp w hr
  unfold AnsS
  rcases st_ways rs art zn fr to with ⟨h, e1, e2⟩ | ⟨h, h', e1, e2⟩ | ⟨h, h', e1, e2⟩
  · rw [e1, e2]
    rcases pf_ways rs art zn with ⟨f, g⟩ | ⟨f, g, g'⟩ | ⟨f, g, g'⟩
    · rw [f]
      rw [g] at hL
      clear e1 e2 hr hp f g h hS
      go_enter Try.func14, Try.ntmps14
      go_wp2_with (go_at_call 30; refine (hL _).mono ?_; rintro e w1 ⟨rfl, q1⟩; rw [q1]; clear q1 w1)
      go_ret2
      exact ⟨_, _, rfl, .inl rfl, below_alloc _ _⟩
    · rw [f]
      rw [g] at hL
      rw [g'] at hS
      clear e1 e2 hr hp f g h g'
      go_enter Try.func14, Try.ntmps14
      go_wp2_with (first
        | (go_at_call 30; refine (hL _).mono ?_; rintro e w1 ⟨rfl, q1⟩; rw [q1]; clear q1 w1)
        | (go_at_call 8; refine hS.mono ?_; rintro e w2 ⟨rfl, hb2⟩))
      go_ret2
      exact ⟨_, _, rfl, .inl rfl, chain hb2 (below_alloc _ _)⟩
    · exact absurd f h
  · rw [e1, e2]
    rcases pf_ways rs art zn with ⟨f, _⟩ | ⟨f, _, _⟩ | ⟨_, g, g'⟩
    · rw [h] at f; omega
    · rw [h] at f; omega
    rw [g] at hL
    rw [g'] at hS
    clear e1 e2 hr hp h g g'
    rcases rg_ways fr to with ⟨g1, _⟩ | ⟨g1, g2, _⟩ | ⟨g1, g2, g3, _⟩ | ⟨_, _, _, g⟩
    · go_enter Try.func14, Try.ntmps14
      go_wp2_with (first
        | (go_at_call 30; refine (hL _).mono ?_; rintro e w1 ⟨rfl, q1⟩; rw [q1]; clear q1 w1)
        | (go_at_call 8; refine hS.mono ?_; rintro e w2 ⟨rfl, hb2⟩))
      go_ret2
      exact ⟨_, _, rfl, .inl rfl, chain hb2 (below_alloc _ _)⟩
    · go_enter Try.func14, Try.ntmps14
      go_wp2_with (first
        | (go_at_call 30; refine (hL _).mono ?_; rintro e w1 ⟨rfl, q1⟩; rw [q1]; clear q1 w1)
        | (go_at_call 8; refine hS.mono ?_; rintro e w2 ⟨rfl, hb2⟩))
      go_ret2
      exact ⟨_, _, rfl, .inl rfl, chain hb2 (below_alloc _ _)⟩
    · go_enter Try.func14, Try.ntmps14
      go_wp2_with (first
        | (go_at_call 30; refine (hL _).mono ?_; rintro e w1 ⟨rfl, q1⟩; rw [q1]; clear q1 w1)
        | (go_at_call 8; refine hS.mono ?_; rintro e w2 ⟨rfl, hb2⟩))
      go_ret2
      exact ⟨_, _, rfl, .inl rfl, chain hb2 (below_alloc _ _)⟩
    · rw [h'] at g; cases g
  · rw [e1, e2]
    rcases rg_ways fr to with ⟨_, g⟩ | ⟨_, _, g⟩ | ⟨_, _, _, g⟩ | ⟨g1, g2, g3, _⟩
    · rw [h'] at g; cases g
    · rw [h'] at g; cases g
    · rw [h'] at g; cases g
    rcases pf_ways rs art zn with ⟨f, _⟩ | ⟨f, _, _⟩ | ⟨_, q, q'⟩
    · rw [h] at f; omega
    · rw [h] at f; omega
    rw [q] at hL
    rw [q'] at hS
    exact specSteps_main a cap rs (prAll_len2 q') art zn fr to g1 g2 g3 w hr hL hS
end Go.Proofs.Ytbkaikobjkkgkaa
