/-
  Contract of the program's PriceSteps, for every list of rows, article, zone and stretch.
-/
import Derived.Test.YtgfgecpgfcipnaaStepD
namespace Go.Proofs.Ytgfgecpgfcipnaa
open Go.ChangeShapes Go.WideShapes Go.ChangeAt Go.RowKit
set_option linter.unusedVariables false

set_option maxHeartbeats 2000000 in
theorem implSteps_any (a : Option Addr) (cap : Nat) (rs : List RPr) (hl : rs.length ≤ 100000000) (hp : ∀ r ∈ rs, PrOK r) (art zn : ByteArray) (ha : art.size ≤ 100000000) (hz : zn.size ≤ 100000000) (fr to : Int) (w : World) (hr : ReadsPr w.heap.size w a rs) :
    Calls Try.prog 6 #[.slice a rs.length cap, .string art, .string zn, .int .i64 fr, .int .i64 to] w (AnsS rs art zn fr to w) := by
  have hf := fault_any a cap rs hl hp art zn ha hz (w.alloc (Obj.cells #[.slice a rs.length cap] 23)) ((hr.below (below_alloc _ _)).mono (below_alloc _ _).size)
  unfold AnsS
  rcases st_ways rs art zn fr to with ⟨h, e1, e2⟩ | ⟨h, h', e1, e2⟩ | ⟨h, h', e1, e2⟩
  · rw [e1, e2]
    have hne : (pfCode rs art zn != 0) = true := by simp [h]
    clear e1 e2 hr hp
    generalize pfCode rs art zn = c at *
    go_enter Try.func6, Try.ntmps6
    go_wp2
    go_step3
    go_wp2_with (go_at_call 12; refine hf.mono ?_; rintro e w2 ⟨rfl, hb2⟩)
    first
    | go_ret2
    | (simp only [Exit.noGoto]; go_ret2)
    exact ⟨none, 0, rfl, .inl rfl, chain (below_alloc _ _) hb2⟩
  · rw [e1, e2]
    rw [h] at hf
    clear e1 e2 hr hp h
    rcases rg_ways fr to with ⟨g1, _⟩ | ⟨g1, g2, _⟩ | ⟨g1, g2, g3, _⟩ | ⟨_, _, _, g⟩
    · go_enter Try.func6, Try.ntmps6
      go_wp2
      go_step3
      go_wp2_with (go_at_call 12; refine hf.mono ?_; rintro e w2 ⟨rfl, hb2⟩)
      first
      | go_ret2
      | (simp only [Exit.noGoto]; go_ret2)
      exact ⟨none, 0, rfl, .inl rfl, chain (below_alloc _ _) hb2⟩
    · go_enter Try.func6, Try.ntmps6
      go_wp2
      go_step3
      go_wp2_with (go_at_call 12; refine hf.mono ?_; rintro e w2 ⟨rfl, hb2⟩)
      first
      | go_ret2
      | (simp only [Exit.noGoto]; go_ret2)
      exact ⟨none, 0, rfl, .inl rfl, chain (below_alloc _ _) hb2⟩
    · go_enter Try.func6, Try.ntmps6
      go_wp2
      go_step3
      go_wp2_with (go_at_call 12; refine hf.mono ?_; rintro e w2 ⟨rfl, hb2⟩)
      first
      | go_ret2
      | (simp only [Exit.noGoto]; go_ret2)
      exact ⟨none, 0, rfl, .inl rfl, chain (below_alloc _ _) hb2⟩
    · rw [h'] at g; cases g
  · rw [e1, e2]
    rw [h] at hf
    rcases rg_ways fr to with ⟨_, g⟩ | ⟨_, _, g⟩ | ⟨_, _, _, g⟩ | ⟨g1, g2, g3, _⟩
    · rw [h'] at g; cases g
    · rw [h'] at g; cases g
    · rw [h'] at g; cases g
    rcases pf_ways rs art zn with ⟨f, _⟩ | ⟨f, _, _⟩ | ⟨_, _, q⟩
    · rw [h] at f; omega
    · rw [h] at f; omega
    exact implSteps_main a cap rs (prAll_len q) art zn fr to g1 g2 g3 w hr hf
end Go.Proofs.Ytgfgecpgfcipnaa
