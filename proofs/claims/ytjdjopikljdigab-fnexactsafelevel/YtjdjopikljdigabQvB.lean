/-
  Contract of the specification's SafeLevel, for all arguments.
-/
import Derived.Test.YtjdjopikljdigabQvA
import Derived.Test.YtjdjopikljdigabQoC
namespace Go.Proofs.Ytjdjopikljdigab
open Go.ChangeShapes Go.WideShapes Go.ChangeAt Go.RowKit Go.Joins Go.Deep
set_option linter.unusedVariables false

set_option maxHeartbeats 8000000 in
set_option maxRecDepth 4000 in
theorem specSafe_any (a : Option Addr) (ca : Nat) (tb : List Int) (days num den : Int) (hl : tb.length ≤ 100000000) (w : World) (hr : Reads w.heap.size w a tb) :
    Calls Try.prog 4 #[.slice a tb.length ca, .int .i64 days, .int .i64 num, .int .i64 den] w fun e w' => e = .returned (.tuple #[.int .i64 (saN tb days num den), .int .i64 (saC tb days num den)]) ∧ Below w.heap.size w w' := by
  have H1 : Hid (Calls Try.prog 8 #[.slice a tb.length ca, .int .i64 days] w fun e w' => e = .returned (.bool (odB tb days)) ∧ w = w') := l16Table_any a ca tb days hl w hr
  have HP : Hid (∀ W, Calls Try.prog 9 #[.int .i64 den, .int .i64 1, .int .i64 1000] W fun e w' => e = .returned (.bool (inB den 1 1000)) ∧ W = w') := fun W => (in_any _ _ _ W).mono (fun e w' h => ⟨h.1, h.2.symm⟩)
  have HQ : Hid (∀ W, Calls Try.prog 9 #[.int .i64 num, .int .i64 1, .int .i64 den] W fun e w' => e = .returned (.bool (inB num 1 den)) ∧ W = w') := fun W => (in_any _ _ _ W).mono (fun e w' h => ⟨h.1, h.2.symm⟩)
  rcases od_ways tb days with ⟨h1, h2, h3⟩ | ⟨h1, h0, h2, h3⟩ | ⟨h1, h0, h2, h3⟩
  · have hc : odC tb days ≠ 0 := by rw [h2]; decide
    rw [(sa_fault num den hc).1, (sa_fault num den hc).2, h2]
    have h1' : (4096 : Int) < (tb.length : Int) := by omega
    clear hr H1 HP HQ h2 h3 hc
    go_enter Try.func4, Try.ntmps4
    go_wp2
    go_ret2
    exact ⟨rfl, Below.refl _ _⟩
  · have hc : odC tb days ≠ 0 := by rw [h2]; decide
    rw [(sa_fault num den hc).1, (sa_fault num den hc).2, h2]
    have h1' : ¬ (4096 : Int) < (tb.length : Int) := by omega
    rw [h0] at H1
    clear hr HP HQ h2 h3 hc h0
    go_enter Try.func4, Try.ntmps4
    go_wp2_with (go_at_call 8; refine H1.out.mono ?_; rintro e w2 ⟨rfl, rfl⟩)
    go_ret2
    exact ⟨rfl, Below.refl _ _⟩
  have h1' : ¬ (4096 : Int) < (tb.length : Int) := by omega
  have HO : Hid (Calls Try.prog 10 #[.slice a tb.length ca, .int .i64 days] w (AnsV w (odD tb days.toNat))) := by
    have r := od_right h0
    have e : ((days.toNat : Nat) : Int) = days := by have := r.d1; omega
    have := l16Odds_any a ca tb days.toNat (by rw [e]; exact r) w hr
    rwa [e] at this
  have hOK := odOK_of h0
  rw [h0] at H1
  clear hr h3
  cases hd : inB den 1 1000
  · have hpt : ptB 1 num den = false := by unfold ptB; rw [hd]; rfl
    rw [(sa_parts h2 hpt).1, (sa_parts h2 hpt).2]
    rw [hd] at HP
    clear HQ HO hOK h2 h0 hd hpt
    go_enter Try.func4, Try.ntmps4
    go_wp2_with (first | (go_at_call 8; refine H1.out.mono ?_; rintro e w2 ⟨rfl, rfl⟩) | (go_at_call 9; refine (HP.out _).mono ?_; rintro e w3 ⟨rfl, rfl⟩))
    go_ret2
    exact ⟨rfl, Below.refl _ _⟩
  rw [hd] at HP
  cases hq : inB num 1 den
  · have hpt : ptB 1 num den = false := by unfold ptB; rw [hd, hq]; rfl
    rw [(sa_parts h2 hpt).1, (sa_parts h2 hpt).2]
    rw [hq] at HQ
    clear HO hOK h2 h0 hd hpt hq
    go_enter Try.func4, Try.ntmps4
    go_wp2_with (go_at_call 8; refine H1.out.mono ?_; rintro e w2 ⟨rfl, rfl⟩)
    (first | go_at_call 9 | skip)
    refine (HP.out _).mono ?_
    rintro e w3 ⟨rfl, rfl⟩
    go_wp2_with (go_at_call 9; refine (HQ.out _).mono ?_; rintro e w3 ⟨rfl, rfl⟩)
    go_ret2
    exact ⟨rfl, Below.refl _ _⟩
  rw [hq] at HQ
  have hpt : ptB 1 num den = true := by unfold ptB; rw [hd, hq]; rfl
  have HZ : Hid (sL (odD tb days.toNat) = 0 → saC tb days num den = 10 ∧ saN tb days num den = 0) := sa_zero h2 hpt
  have HN : Hid (sL (odD tb days.toNat) ≠ 0 → saC tb days num den = 0 ∧ saN tb days num den = (slN (gF (odD tb days.toNat)) den (num * sL (odD tb days.toNat)) (odD tb days.toNat).length : Int)) := sa_right h2 hpt
  obtain ⟨⟨p1, p2⟩, p3, p4⟩ := pt_facts hpt
  clear hd hq hpt h2 h0
  generalize saC tb days num den = c at *
  generalize saN tb days num den = x at *
  generalize odD tb days.toNat = L at *
  have HPr : Hid (∀ k, k ≤ L.length → 0 ≤ sN (gF L) k ∧ sN (gF L) k ≤ 9022419900000 ∧ 0 ≤ sN (gF L) k * den ∧ sN (gF L) k * den ≤ 9022419900000000) := fun k hk => by
    have h := odOK_part hOK hk
    have m1 : sN (gF L) k * den ≤ sN (gF L) k * 1000 := Int.mul_le_mul_of_nonneg_left p2 h.1
    exact ⟨h.1, h.2, Int.mul_nonneg h.1 (by omega), by omega⟩
  have HC : Hid (∀ k, k < L.length → 0 ≤ gF L k ∧ gF L k ≤ 9022419900000) := odOK_cell hOK
  have hl2 := hOK.l2
  have hl1 := hOK.l1
  have hall := odOK_part hOK (Nat.le_refl L.length)
  have m2 : num * sL L ≤ sL L * den := by rw [Int.mul_comm]; exact Int.mul_le_mul_of_nonneg_left p4 hall.1
  have m3 : 0 ≤ num * sL L := Int.mul_nonneg (by omega) hall.1
  have hmx := HPr.out L.length (Nat.le_refl _)
  have HEnd : Hid (num * sL L ≤ sN (gF L) L.length * den) := m2
  have hen : num * sL L ≤ 9022419900000000 := Int.le_trans m2 hmx.2.2.2
  have HSl : Hid (∀ m, m < L.length → num * sL L ≤ sN (gF L) (m + 1) * den → (∀ i, i < m → sN (gF L) (i + 1) * den < num * sL L) → slN (gF L) den (num * sL L) L.length = m) := fun m hm h1 h2 => sl_is hm h1 h2
  have hwn : IntKind.i64.wrap (num * sL L) = num * sL L := wrap_id _ (by omega) (by omega)
  have HPos : Hid (sL L ≠ 0 → 0 < num * sL L) := fun h => Int.mul_pos (by omega) (by have : 0 ≤ sL L := hall.1; omega)
  have HSE : Hid (sL L = sN (gF L) L.length) := rfl
  clear hOK p1 p2 p3 p4 m2 hmx hall
  generalize slN (gF L) den (num * sL L) L.length = ans at *
  go_enter Try.func4, Try.ntmps4
  go_wp2_with (go_at_call 8; refine H1.out.mono ?_; rintro e w2 ⟨rfl, rfl⟩)
  (first | go_at_call 9 | skip)
  refine (HP.out _).mono ?_
  rintro e w3 ⟨rfl, rfl⟩
  go_wp2_with (first | (go_at_call 9; refine (HQ.out _).mono ?_; rintro e w3 ⟨rfl, rfl⟩) | (go_at_call 10; refine HO.out.mono ?_; rintro e w4 ⟨g, cp, rfl, ho4, hb4⟩; have HO4 : Hid (Own2 w.heap.size w4 g L) := ho4; have HB4 : Hid (Below w.heap.size w w4) := hb4; clear ho4 hb4))
  clear HO HP HQ H1
  obtain ⟨b0, rfl, hci⟩ : ∃ b0, g = some ⟨b0, 0, none⟩ ∧ ∀ k, k < L.length → w4.cell? ⟨b0, k, none⟩ = some (.int .i64 (gF L k)) := by
    rcases HO4.out with h | ⟨b, hg, hB, hlt, hi, hf⟩
    · rw [h] at hl1; simp at hl1
    · exact ⟨b, hg, fun k hk => by have := hi k hk; rw [Nat.zero_add] at this; exact this⟩
  have HI : Hid (∀ k, k < L.length → w4.cell? ⟨b0, k, none⟩ = some (.int .i64 (gF L k))) := hci
  clear HO4 hci
  go_loopw [11, 12] (fun s c wr => ∃ k : Nat, k ≤ L.length ∧ c = .int .i64 (k : Int) ∧ s = .int .i64 (sN (gF L) k) ∧ w4 = wr) (fun _ c _ => L.length - (intOf c).toNat)
  case atStart => exact ⟨0, Nat.zero_le _, rfl, rfl, rfl⟩
  case round =>
    obtain ⟨k, hk, rfl, rfl, rfl⟩ := hrel
    by_cases hlt : k < L.length
    · have hlt' : (k : Int) < (L.length : Int) := by omega
      have c0 := HI.out k hlt
      have h1 := HPr.out k hk
      have h2 := HC.out k hlt
      have HNx : Hid (sN (gF L) (k + 1) = sN (gF L) k + gF L k) := rfl
      generalize sN (gF L) k = s at *
      generalize gF L k = y at *
      have hwr : IntKind.i64.wrap (s + y) = s + y := wrap_id _ (by omega) (by omega)
      go_wp2_with fail
      exact ⟨⟨k + 1, by omega, by go_num, by rw [HNx.out], by first | rfl | trivial⟩, by simp [intOf]; omega⟩
    · have hlt' : ¬ (k : Int) < (L.length : Int) := by omega
      obtain rfl : k = L.length := by omega
      rw [← HSE.out]
      by_cases hz : sL L = 0
      · obtain ⟨rfl, rfl⟩ := HZ.out hz
        rw [hz]
        go_wp2_with fail
        go_ret2
        exact ⟨rfl, HB4.out⟩
      · obtain ⟨rfl, rfl⟩ := HN.out hz
        have hz' : (sL L == 0) = false := by simp [hz]
        have HP0 : Hid (0 < num * sL L) := HPos.out hz
        have hmi : IntKind.i64.wrap (0 * den) = 0 := by rw [Int.zero_mul]; rfl
        have HS0 : Hid (sN (gF L) 0 = 0) := rfl
        clear HZ HN HPos
        go_upto_region 15 with fail
        generalize sL L = s0 at *
        go_loopw [13, 14] (fun s u wr => ∃ m : Nat, m ≤ L.length ∧ u = .int .i64 ((m : Int) - 1) ∧ s = .int .i64 (sN (gF L) m) ∧ (∀ i, i < m → sN (gF L) i * den < num * s0) ∧ w4 = wr) (fun _ u _ => L.length - ((intOf u) + 1).toNat)
        case atStart => exact ⟨0, Nat.zero_le _, rfl, rfl, fun i hi => absurd hi (by omega), rfl⟩
        case round =>
          obtain ⟨m, hm, rfl, rfl, hbef, rfl⟩ := hrel
          have HBf : Hid (∀ i, i < m → sN (gF L) i * den < num * s0) := hbef
          clear hbef
          have hq := HPr.out m hm
          have hwe : IntKind.i64.wrap (sN (gF L) m * den) = sN (gF L) m * den := wrap_id _ (by omega) (by omega)
          by_cases hen2 : sN (gF L) m * den < num * s0
          · have hm1 : m < L.length := by
              rcases (by omega : m < L.length ∨ m = L.length) with h | h
              · exact h
              · rw [h] at hen2; have := HEnd.out; omega
            have hm1' : (m : Int) < (L.length : Int) := by omega
            have c1 := HI.out m hm1
            have hx := HC.out m hm1
            have HNx : Hid (sN (gF L) (m + 1) = sN (gF L) m + gF L m) := rfl
            have HBf2 : Hid (∀ i, i < m + 1 → sN (gF L) i * den < num * s0) := fun i hi => by
              rcases (by omega : i < m ∨ i = m) with h | h
              · exact HBf.out i h
              · rw [h]; exact hen2
            have e0 : IntKind.i64.wrap ((m : Int) - 1 + 1) = (m : Int) := by rw [wrap_id _ (by omega) (by omega)]; omega
            clear HBf
            generalize sN (gF L) m = s at *
            generalize gF L m = x at *
            have e1 : IntKind.i64.wrap (s + x) = s + x := wrap_id _ (by omega) (by omega)
            go_wp2_with fail
            exact ⟨⟨m + 1, by omega, by congr 1; omega, by rw [HNx.out], HBf2.out, by first | rfl | trivial⟩, by simp [intOf]; omega⟩
          · have hm0 : 1 ≤ m := by
              rcases (by omega : 1 ≤ m ∨ m = 0) with h | h
              · exact h
              · rw [h, HS0.out, Int.zero_mul] at hen2; have := HP0.out; omega
            have HAns : Hid (ans = m - 1) := HSl.out (m - 1) (by omega) (by rw [Nat.sub_add_cancel hm0]; omega) (fun i hi => HBf.out (i + 1) (by omega))
            have HAnsI : Hid ((m : Int) - 1 = (ans : Int)) := by have := HAns.out; show _ = _; omega
            generalize sN (gF L) m = s at *
            go_wp2_with fail
            go_ret2
            exact ⟨by rw [← HAnsI.out]; rfl, HB4.out⟩
end Go.Proofs.Ytjdjopikljdigab
