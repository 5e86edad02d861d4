/-
  Contract of the specification's Share where it answers a code.
-/
import Derived.Test.YtaledfdhiimhdahShareC
namespace Go.Proofs.Ytaledfdhiimhdah
open Go.ChangeShapes Go.WideShapes Go.ChangeAt Go.RowKit
set_option linter.unusedVariables false

theorem sum_range' (ws : List Int) (k : Nat) (h : (ws.take k).all wOK = true) : 0 ≤ (ws.take k).sum ∧ (ws.take k).sum ≤ (k : Int) * 1000000 := by
  have h' : ∀ x ∈ ws.take k, 0 ≤ x ∧ x ≤ 1000000 := fun x hx => by
    have := List.all_eq_true.mp h x hx
    unfold wOK at this; simpa using this
  have := sum_range (ws.take k) h' k
  rw [List.take_take, Nat.min_self] at this
  exact this

set_option maxHeartbeats 4000000 in
theorem specShare_bad (a : Option Addr) (cap : Nat) (ws : List Int) (n : Int) (hl : ws.length ≤ 2000000) (w : World) (hr : Reads w.heap.size w a ws) (hbad : shCode n ws ≠ 0) :
    Calls Try.prog 17 #[.int .i64 n, .slice a ws.length cap] w fun e w' => ∃ g cp, e = .returned (.tuple #[.slice g (shList n ws).length cp, .int .i64 (shCode n ws)]) ∧ Owns w.heap.size w' g (shList n ws) ∧ Below w.heap.size w w' := by
  have HR : Hid (Reads w.heap.size w a ws) := hr
  have HX : Hid (shCode n ws ≠ 0) := hbad
  clear hr
  have HL : Hid (shList n ws = []) := shList_bad rfl hbad
  clear hbad
  by_cases h0 : 4096 < (ws.length : Int)
  · have HC : Hid (shCode n ws = 2) := by show _ = _; unfold shCode; rw [if_pos (by omega)]
    go_enter Try.func17, Try.ntmps17
    go_wp2
    go_ret2
    exact ⟨some ⟨w.heap.size, 0, none⟩, 0, by rw [HC.out, HL.out]; rfl, by rw [HL.out]; exact .inl rfl, below_alloc w _⟩
  by_cases hA : amtB n = true
  · rcases in_ways (ws.length : Int) 1 60 with h | ⟨h, h'⟩ | ⟨h, h'⟩
    · have HC : Hid (shCode n ws = 1) := by
        show _ = _; unfold shCode; rw [if_neg (by omega), if_neg (fun h => by have := ((wsOK_iff ws).mp h.2).2; omega)]
      go_enter Try.func17, Try.ntmps17
      go_wp2_with (go_at_call 28; refine (specMoney_any _ _).mono ?_; rintro e w' ⟨rfl, hw'⟩; rw [hA, hw']; clear hw')
      go_ret2
      exact ⟨some ⟨w.heap.size, 0, none⟩, 0, by rw [HC.out, HL.out]; rfl, by rw [HL.out]; exact .inl rfl, below_alloc w _⟩
    · have HC : Hid (shCode n ws = 1) := by
        show _ = _; unfold shCode; rw [if_neg (by omega), if_neg (fun h => by have := ((wsOK_iff ws).mp h.2).2; omega)]
      go_enter Try.func17, Try.ntmps17
      go_wp2_with (go_at_call 28; refine (specMoney_any _ _).mono ?_; rintro e w' ⟨rfl, hw'⟩; rw [hA, hw']; clear hw')
      go_ret2
      exact ⟨some ⟨w.heap.size, 0, none⟩, 0, by rw [HC.out, HL.out]; rfl, by rw [HL.out]; exact .inl rfl, below_alloc w _⟩
    · go_enter Try.func17, Try.ntmps17
      go_wp2_with (go_at_call 28; refine (specMoney_any _ _).mono ?_; rintro e w' ⟨rfl, hw'⟩; rw [hA, hw']; clear hw')
      go_loop [6, 7] (fun t c => ∃ k : Nat, k ≤ ws.length ∧ c = .int .i64 (k : Int) ∧ t = .int .i64 (ws.take k).sum ∧ (ws.take k).all wOK = true) (fun _ c => ws.length - (intOf c).toNat)
      case atStart => exact ⟨0, Nat.zero_le _, rfl, rfl, rfl⟩
      case round =>
        obtain ⟨k, hk, rfl, rfl, ht⟩ := hrel
        obtain ⟨hs1, hs2⟩ := sum_range' ws k ht
        have HT : Hid ((ws.take k).all wOK = true) := ht
        clear ht
        have hk6 : (k : Int) * 1000000 ≤ 60000000 := by omega
        by_cases hlt : k < ws.length
        · have hlt' : (k : Int) < (ws.length : Int) := by omega
          rcases HR.out with h | ⟨b0, o0, ha, hB0, ia⟩
          · rw [h] at hlt; simp at hlt
          have c0 := ia k hlt
          have HN : Hid ((ws.take (k + 1)).sum = (ws.take k).sum + ws.getD k 0) := sum_next ws k hlt
          have HW : Hid ((ws.take (k + 1)).all wOK = ((ws.take k).all wOK && wOK (ws.getD k 0))) := all_take_next hlt
          have HNo : Hid (wOK (ws.getD k 0) = false → ws.all wOK = false) := all_not hlt
          rw [ha]
          generalize ws.getD k 0 = x at *
          clear ia ha
          cases hx : inB x 0 1000000
          · have HC : Hid (shCode n ws = 1) := by
              show _ = _
              have e1 : wOK x = false := hx
              have e2 : wsOK ws = false := by unfold wsOK; rw [HNo.out e1]; rfl
              unfold shCode; rw [if_neg (by omega), if_neg (fun h => by rw [e2] at h; cases h.2)]
            go_wp2_with (go_at_call 27; refine (in_any _ _ _ _).mono ?_; rintro e w' ⟨rfl, hw'⟩; rw [hx, hw']; clear hw')
            go_ret2
            exact ⟨some ⟨w.heap.size, 0, none⟩, 0, by rw [HC.out, HL.out]; rfl, by rw [HL.out]; exact .inl rfl, below_alloc w _⟩
          · have hx' : 0 ≤ x ∧ x ≤ 1000000 := by simpa [inB] using hx
            obtain ⟨hx1, hx2⟩ := hx'
            have HWx : Hid (wOK x = true) := hx
            go_wp2_with (go_at_call 27; refine (in_any _ _ _ _).mono ?_; rintro e w' ⟨rfl, hw'⟩; rw [hx, hw']; clear hw')
            go_round
            case rel => exact ⟨k + 1, by omega, by go_num, by rw [HN.out]; try go_num, by rw [HW.out, HT.out, HWx.out]; rfl⟩
            case measure => simp [intOf]; omega
        · have hs : ws.take k = ws := by rw [List.take_of_length_le (by omega)]
          have hW : wsOK ws = true := by
            have h1 := HT.out
            rw [hs] at h1
            unfold wsOK; rw [h1, decide_eq_true (by omega)]; rfl
          have hz : ws.sum = 0 := by
            by_cases hz : ws.sum = 0
            · exact hz
            · exact absurd (by unfold shCode; rw [if_neg (by omega), if_pos ⟨hA, hW⟩, if_neg hz]) HX.out
          have HC : Hid (shCode n ws = 10) := by show _ = _; unfold shCode; rw [if_neg (by omega), if_pos ⟨hA, hW⟩, if_pos hz]
          have hkl : (ws.length : Int) ≤ (k : Int) := by omega
          rw [hs, hz]
          clear hs hs1 hs2 hW hz
          go_wp2
          go_ret2
          exact ⟨some ⟨w.heap.size, 0, none⟩, ⟨0, by rw [HC.out, HL.out]; rfl⟩, by rw [HL.out]; exact .inl rfl, below_alloc w _⟩
  · have HC : Hid (shCode n ws = 1) := by show _ = _; unfold shCode; rw [if_neg (by omega), if_neg (fun h => hA h.1)]
    rw [Bool.not_eq_true] at hA
    go_enter Try.func17, Try.ntmps17
    go_wp2_with (go_at_call 28; refine (specMoney_any _ _).mono ?_; rintro e w' ⟨rfl, hw'⟩; rw [hA, hw']; clear hw')
    go_ret2
    exact ⟨some ⟨w.heap.size, 0, none⟩, 0, by rw [HC.out, HL.out]; rfl, by rw [HL.out]; exact .inl rfl, below_alloc w _⟩
end Go.Proofs.Ytaledfdhiimhdah
