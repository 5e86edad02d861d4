/-
  Contract of the specification's PricesOK, for every list of rows.
-/
import Derived.Test.YtgfgecpgfcipnaaPriceC
namespace Go.Proofs.Ytgfgecpgfcipnaa
open Go.ChangeShapes Go.WideShapes Go.ChangeAt Go.RowKit
set_option linter.unusedVariables false

set_option maxHeartbeats 4000000 in
set_option maxRecDepth 4000 in
theorem specPrices_any (a : Option Addr) (cap : Nat) (rs : List RPr) (hl : rs.length ≤ 100000000) (hp : ∀ r ∈ rs, PrOK r) (w : World) (hr : ReadsPr w.heap.size w a rs) :
    Calls Try.prog 20 #[.slice a rs.length cap] w fun e w' => e = .returned (.bool (prAll rs)) ∧ Below w.heap.size w w' := by
  have HR : Hid (ReadsPr w.heap.size w a rs) := hr
  have HOK : Hid (∀ r ∈ rs, PrOK r) := hp
  clear hr hp
  by_cases h80 : (80 : Int) < (rs.length : Int)
  · have HA : Hid (prAll rs = false) := by show _ = _; unfold prAll; rw [if_pos (by omega)]
    go_enter Try.func20, Try.ntmps20
    go_wp2
    go_ret
    exact ⟨ret_bool HA.out.symm, Below.refl _ _⟩
  have HA : Hid (prAll rs = rs.all prOne) := by show _ = _; unfold prAll; rw [if_neg (by omega)]
  go_enter Try.func20, Try.ntmps20
  go_wp2
  go_loopw [3, 4] (fun c _ wr => ∃ k : Nat, k ≤ rs.length ∧ c = .int .i64 (k : Int) ∧ (rs.take k).all prOne = true ∧ Below w.heap.size w wr) (fun c _ _ => rs.length - (intOf c).toNat)
  case atStart => exact ⟨0, Nat.zero_le _, rfl, rfl, Below.refl _ _⟩
  case round =>
    obtain ⟨k, hk, rfl, hf, hb⟩ := hrel
    have HF : Hid ((rs.take k).all prOne = true) := hf
    have HB : Hid (Below w.heap.size w wr) := hb
    clear hf hb
    by_cases hlt : k < rs.length
    · have hlt' : (k : Int) < (rs.length : Int) := by omega
      rcases HR.out with h | ⟨b0, o0, ha, hB0, ia⟩
      · rw [h] at hlt; simp at hlt
      obtain ⟨c0, c1, c2, c3, c4, c5⟩ := (ia.below HB.out hB0) k hlt
      have hW : PrOK (rs.getD k zPr) := getPr HOK.out hlt
      have HX : Hid (prOne (rs.getD k zPr) = false → prAll rs = false) := fun h => HA.out.trans (prs_fail hlt h)
      have HN : Hid (prOne (rs.getD k zPr) = true → (rs.take (k + 1)).all prOne = true) := fun h => by rw [prs_take prOne rs k hlt, HF.out, h]; rfl
      rw [ha]
      clear ia
      generalize rs.getD k zPr = q at *
      obtain ⟨qa, qz, ql, qf, qt, qm⟩ := q
      dsimp only at c0 c1 c2 c3 c4 c5
      have ha' : qa.size ≤ 2000000 := hW.1
      have hz' : qz.size ≤ 2000000 := hW.2
      have HNa : Hid (∀ b, nameB qa = b → ∀ w, Calls Try.prog 32 #[.string qa] w fun e w' => e = .returned (.bool b) ∧ w' = w) := fun b h w => h ▸ specName_any qa (by unfold maxLen; omega) w
      have HNz : Hid (∀ b, nameB qz = b → ∀ w, Calls Try.prog 32 #[.string qz] w fun e w' => e = .returned (.bool b) ∧ w' = w) := fun b h w => h ▸ specName_any qz (by unfold maxLen; omega) w
      have HL : Hid (∀ b, inB ql 1 5 = b → ∀ w, Calls Try.prog 33 #[.int .i64 ql, .int .i64 1, .int .i64 5] w fun e w' => e = .returned (.bool b) ∧ w' = w) := fun b h w => h ▸ in_any ql 1 5 w
      have HM : Hid (∀ b, inB qm 0 1000000000 = b → ∀ w, Calls Try.prog 33 #[.int .i64 qm, .int .i64 0, .int .i64 1000000000] w fun e w' => e = .returned (.bool b) ∧ w' = w) := fun b h w => h ▸ in_any qm 0 1000000000 w
      clear hW
      rcases prOne_ways qa qz ql qf qt qm with ⟨h1, hE⟩ | ⟨h1, h2, h3, hE⟩ | ⟨h1, (h2 | ⟨h2, h3⟩), (⟨_, h4, hE⟩ | ⟨_, _, h4, hE⟩ | ⟨_, _, h4, (⟨h6, hE⟩ | ⟨h6, h7, hE⟩ | ⟨h6, h7, h8, hE⟩ | ⟨h6, h7, h8, (⟨_, h9, hE⟩ | ⟨_, _, h9, hE⟩ | ⟨_, _, h9, hE⟩)⟩)⟩)⟩
      all_goals
        have H1 : Hid _ := HNa.out _ h1
        clear h1 HNa
        try (have H3 : Hid _ := HNz.out _ h3; clear h3)
        try (have H4 : Hid _ := HL.out _ h4; clear h4)
        try (have H9 : Hid _ := HM.out _ h9; clear h9)
        first
        | (have HE : Hid (prAll rs = false) := HX.out hE
           clear hE
           go_wp2_with (first
             | (go_at_call 32; refine (H1.out _).mono ?_; rintro e w1 ⟨rfl, rfl⟩; clear H1)
             | (go_at_call 32; refine (H3.out _).mono ?_; rintro e w2 ⟨rfl, rfl⟩)
             | (go_at_call 33; refine (H4.out _).mono ?_; rintro e w3 ⟨rfl, rfl⟩; clear H4)
             | (go_at_call 33; refine (H9.out _).mono ?_; rintro e w4 ⟨rfl, rfl⟩))
           go_ret
           exact ⟨ret_bool HE.out.symm, chain HB.out (below_alloc _ _)⟩)
        | (have HE : Hid ((rs.take (k + 1)).all prOne = true) := HN.out hE
           clear hE
           go_wp2_with (first
             | (go_at_call 32; refine (H1.out _).mono ?_; rintro e w1 ⟨rfl, rfl⟩; clear H1)
             | (go_at_call 32; refine (H3.out _).mono ?_; rintro e w2 ⟨rfl, rfl⟩)
             | (go_at_call 33; refine (H4.out _).mono ?_; rintro e w3 ⟨rfl, rfl⟩; clear H4)
             | (go_at_call 33; refine (H9.out _).mono ?_; rintro e w4 ⟨rfl, rfl⟩))
           exact ⟨⟨k + 1, by omega, by go_num, HE.out, chain HB.out (below_alloc _ _)⟩, by simp [intOf]; omega⟩)
    · have hle : (rs.length : Int) ≤ (k : Int) := by omega
      have HE : Hid (prAll rs = true) := by have := HF.out; rw [List.take_of_length_le (by omega)] at this; exact HA.out.trans this
      go_wp2
      go_ret
      exact ⟨ret_bool HE.out.symm, HB.out⟩
end Go.Proofs.Ytgfgecpgfcipnaa
