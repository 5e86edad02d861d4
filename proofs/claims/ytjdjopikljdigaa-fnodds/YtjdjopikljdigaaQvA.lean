/-
  The least number of units that is enough, as mathematics; contracts of the program's together, leastEnough, SafeLevel, for all arguments.
-/
import Derived.Test.YtjdjopikljdigaaQoB
import Derived.BigQuiet
import Derived.Deep.QuietTactic
namespace Go.Proofs.Ytjdjopikljdigaa
open Go.ChangeShapes Go.WideShapes Go.ChangeAt Go.RowKit Go.Joins Go.Deep
set_option linter.unusedVariables false

/-- The first m of n at which the first m + 1 together are enough. -/
def slN (f : Nat → Int) (den need : Int) (n : Nat) : Nat := ((List.range n).find? (fun m => decide (need ≤ sN f (m + 1) * den))).getD 0
theorem sl_is {f : Nat → Int} {den need : Int} {n m : Nat} (hm : m < n) (h1 : need ≤ sN f (m + 1) * den) (h2 : ∀ i, i < m → sN f (i + 1) * den < need) : slN f den need n = m := by
  unfold slN
  have : (List.range n).find? (fun m => decide (need ≤ sN f (m + 1) * den)) = some m := by
    rw [List.find?_range_eq_some]
    refine ⟨decide_eq_true h1, List.mem_range.2 hm, fun j hj => ?_⟩
    have := h2 j hj
    simp only [Bool.not_eq_true', decide_eq_false_iff_not]
    omega
  rw [this]; rfl
def saC (tb : List Int) (days num den : Int) : Int := if odC tb days = 0 then (if ptB 1 num den = true then (if sL (odD tb days.toNat) = 0 then 10 else 0) else 1) else odC tb days
def saN (tb : List Int) (days num den : Int) : Int := if saC tb days num den = 0 then (slN (gF (odD tb days.toNat)) den (num * sL (odD tb days.toNat)) (odD tb days.toNat).length : Int) else 0
theorem sa_fault {tb : List Int} {days : Int} (num den : Int) (h : odC tb days ≠ 0) : saC tb days num den = odC tb days ∧ saN tb days num den = 0 := by
  have e : saC tb days num den = odC tb days := if_neg h
  exact ⟨e, by unfold saN; rw [e, if_neg h]⟩
theorem sa_parts {tb : List Int} {days num den : Int} (h : odC tb days = 0) (h1 : ptB 1 num den = false) : saC tb days num den = 1 ∧ saN tb days num den = 0 := by
  have e : saC tb days num den = 1 := by unfold saC; rw [if_pos h, h1]; rfl
  exact ⟨e, by unfold saN; rw [e]; rfl⟩
theorem sa_zero {tb : List Int} {days num den : Int} (h : odC tb days = 0) (h1 : ptB 1 num den = true) (h2 : sL (odD tb days.toNat) = 0) : saC tb days num den = 10 ∧ saN tb days num den = 0 := by
  have e : saC tb days num den = 10 := by unfold saC; rw [if_pos h, if_pos h1, if_pos h2]
  exact ⟨e, by unfold saN; rw [e]; rfl⟩
theorem sa_right {tb : List Int} {days num den : Int} (h : odC tb days = 0) (h1 : ptB 1 num den = true) (h2 : sL (odD tb days.toNat) ≠ 0) : saC tb days num den = 0 ∧ saN tb days num den = (slN (gF (odD tb days.toNat)) den (num * sL (odD tb days.toNat)) (odD tb days.toNat).length : Int) := by
  have e : saC tb days num den = 0 := by unfold saC; rw [if_pos h, if_pos h1, if_neg h2]
  exact ⟨e, by unfold saN; rw [e]; rfl⟩
/-- A list of odds as it is told: no number below 0, at most 61 of them, all cases together no more than can be. -/
structure OdOK (L : List Int) : Prop where
  pos : ∀ x ∈ L, 0 ≤ x
  l1 : 1 ≤ L.length
  l2 : L.length ≤ 61
  sum : sL L ≤ 9022419900000
theorem odOK_of {tb : List Int} {days : Int} (h : odB tb days = true) : OdOK (odD tb days.toNat) := by
  obtain ⟨l1, l2, al, d1, d2⟩ := od_right h
  have hm := al_mem al
  have hl := od_len_le (tb := tb) (d := days.toNat) l1 l2 (by omega)
  have st := sL_table al l2
  have p2 := pw_bound st.1 st.2 days.toNat
  have b2 := bnd_five days.toNat (by omega)
  exact ⟨odD_nonneg (fun x hx => (hm x hx).1) _, hl.1, hl.2, by rw [sL_od l1]; omega⟩
theorem odC_zero {tb : List Int} {days : Int} (h : odC tb days = 0) : odB tb days = true := by
  rcases od_ways tb days with ⟨_, e, _⟩ | ⟨_, _, e, _⟩ | ⟨_, hb, _, _⟩
  · rw [e] at h; omega
  · rw [e] at h; omega
  · exact hb
theorem odOK_part {L : List Int} (h : OdOK L) {k : Nat} (hk : k ≤ L.length) : 0 ≤ sN (gF L) k ∧ sN (gF L) k ≤ 9022419900000 := by
  have h0 := gF_nonneg h.pos
  exact ⟨sN_nonneg h0 k, Int.le_trans (sN_mono h0 hk) h.sum⟩
theorem odOK_cell {L : List Int} (h : OdOK L) (k : Nat) (hk : k < L.length) : 0 ≤ gF L k ∧ gF L k ≤ 9022419900000 := ⟨gF_nonneg h.pos k, Int.le_trans (sN_at (gF_nonneg h.pos) hk) h.sum⟩
set_option maxHeartbeats 2000000 in
theorem togetherQ_any (a : Option Addr) (cap : Nat) (L : List Int) (hL : OdOK L) (w : World) (hr : Reads w.heap.size w a L) :
    Calls Try.prog 42 #[.slice a L.length cap] w fun e w' => e = .returned (.int .i64 (sL L)) ∧ w = w' := by
  have HR : Hid (Reads w.heap.size w a L) := hr
  have HP : Hid (∀ k, k ≤ L.length → 0 ≤ sN (gF L) k ∧ sN (gF L) k ≤ 9022419900000) := fun k hk => odOK_part hL hk
  have HC : Hid (∀ k, k < L.length → 0 ≤ gF L k ∧ gF L k ≤ 9022419900000) := odOK_cell hL
  have HE : Hid (sL L = sN (gF L) L.length) := rfl
  have hl := hL.l2
  clear hr hL
  generalize sL L = s0 at *
  go_enter Try.func42, Try.ntmps42
  go_wp2
  go_loopw [3, 5, 8] (fun s _ c wr => ∃ k : Nat, k ≤ L.length ∧ c = .int .i64 (k : Int) ∧ s = .int .i64 (sN (gF L) k) ∧ w = wr) (fun _ _ c _ => L.length - (intOf c).toNat)
  case atStart => exact ⟨0, Nat.zero_le _, rfl, rfl, rfl⟩
  case round =>
    obtain ⟨k, hk, rfl, rfl, rfl⟩ := hrel
    by_cases hlt : k < L.length
    · have hlt' : (k : Int) < (L.length : Int) := by omega
      rcases HR.out with h | ⟨b0, o0, ha, hB0, ia⟩
      · rw [h] at hlt; simp at hlt
      have c0 : w.cell? ⟨b0, o0 + k, none⟩ = some (.int .i64 (gF L k)) := ia k hlt
      have h1 := HP.out k hk
      have h2 := HC.out k hlt
      have HN : Hid (sN (gF L) (k + 1) = sN (gF L) k + gF L k) := rfl
      rw [ha]
      clear ia
      generalize sN (gF L) k = s at *
      generalize gF L k = x at *
      have hwr : IntKind.i64.wrap (s + x) = s + x := wrap_id _ (by omega) (by omega)
      go_wp2_with fail
      exact ⟨⟨k + 1, by omega, by go_num, by rw [HN.out], by first | rfl | trivial⟩, by simp [intOf]; omega⟩
    · have hlt' : ¬ (k : Int) < (L.length : Int) := by omega
      obtain rfl : k = L.length := by omega
      go_wp2_with fail
      go_ret
      exact ⟨ret_int HE.out.symm, by first | rfl | trivial⟩
set_option maxHeartbeats 4000000 in
set_option maxRecDepth 4000 in
theorem leastEnough_any (a : Option Addr) (cap : Nat) (L : List Int) (hL : OdOK L) (num den : Int) (hp : ptB 1 num den = true) (w : World) (hr : Reads w.heap.size w a L) :
    Calls Try.prog 43 #[.slice a L.length cap, .int .i64 (sL L), .int .i64 num, .int .i64 den] w fun e w' => e = .returned (.int .i64 (slN (gF L) den (num * sL L) L.length : Int)) ∧ Below w.heap.size w w' := by
  obtain ⟨⟨p1, p2⟩, p3, p4⟩ := pt_facts hp
  have HR : Hid (Reads w.heap.size w a L) := hr
  have HP : Hid (∀ k, k ≤ L.length → 0 ≤ sN (gF L) k ∧ sN (gF L) k ≤ 9022419900000 ∧ 0 ≤ sN (gF L) k * den ∧ sN (gF L) k * den ≤ 9022419900000000) := fun k hk => by
    have h := odOK_part hL hk
    have m1 : sN (gF L) k * den ≤ sN (gF L) k * 1000 := Int.mul_le_mul_of_nonneg_left p2 h.1
    exact ⟨h.1, h.2, Int.mul_nonneg h.1 (by omega), by omega⟩
  have HC : Hid (∀ k, k < L.length → 0 ≤ gF L k ∧ gF L k ≤ 9022419900000) := odOK_cell hL
  have hl := hL.l2
  have hl1 := hL.l1
  have hall := odOK_part hL (Nat.le_refl L.length)
  have m2 : sL L * num ≤ sL L * den := Int.mul_le_mul_of_nonneg_left p4 hall.1
  have m3 : 0 ≤ sL L * num := Int.mul_nonneg hall.1 (by omega)
  have hmx := HP.out L.length (Nat.le_refl _)
  have HEnd : Hid (sL L * num ≤ sN (gF L) L.length * den) := m2
  have hen : sL L * num ≤ 9022419900000000 := Int.le_trans m2 hmx.2.2.2
  have HSl : Hid (∀ m, m < L.length → sL L * num ≤ sN (gF L) (m + 1) * den → (∀ i, i < m → sN (gF L) (i + 1) * den < sL L * num) → slN (gF L) den (num * sL L) L.length = m) := fun m hm h1 h2 => by
    rw [Int.mul_comm num (sL L)]
    exact sl_is hm h1 h2
  have hwn : IntKind.i64.wrap (sL L * num) = sL L * num := wrap_id _ (by omega) (by omega)
  clear hr hL hp p1 p2 p3 p4 m2 m3 hmx hall
  generalize slN (gF L) den (num * sL L) L.length = ans at *
  generalize sL L = s0 at *
  rcases HR.out with h | ⟨b0, o0, ha, hB0, ia⟩
  · rw [h] at hl1; simp at hl1
  have HI : Hid (∀ k, k < L.length → w.cell? ⟨b0, o0 + k, none⟩ = some (.int .i64 (gF L k))) := ia
  have c0 := HI.out 0 (by omega)
  rw [Nat.add_zero] at c0
  have hl0 : (0 : Int) < (L.length : Int) := by omega
  have HE1 : Hid (gF L 0 = sN (gF L) (0 + 1)) := by show _ = sN (gF L) 0 + gF L 0; rw [sN]; omega
  rw [ha]
  clear ia HR ha
  go_enter Try.func43, Try.ntmps43
  go_wp2
  go_quiet (fail)
  go_wp2_with fail
  rw [HE1.out]
  clear c0 HE1
  go_loopw [9, 10] (fun u e wr => ∃ m : Nat, m < L.length ∧ u = .int .i64 (m : Int) ∧ e = .int .i64 (sN (gF L) (m + 1)) ∧ (∀ i, i < m → sN (gF L) (i + 1) * den < s0 * num) ∧ Below w.heap.size w wr) (fun u _ _ => L.length - (intOf u).toNat)
  case atStart => exact ⟨0, by omega, rfl, rfl, fun i hi => absurd hi (by omega), by first | exact below_drewN (Below.refl _ _) _ | exact below_drew _ | exact Below.refl _ _⟩
  case round =>
    obtain ⟨m, hm, rfl, rfl, hbef, hb⟩ := hrel
    have HBf : Hid (∀ i, i < m → sN (gF L) (i + 1) * den < s0 * num) := hbef
    have HB : Hid (Below w.heap.size w wr) := hb
    clear hbef hb
    have hq := HP.out (m + 1) (by omega)
    have hwe : IntKind.i64.wrap (sN (gF L) (m + 1) * den) = sN (gF L) (m + 1) * den := wrap_id _ (by omega) (by omega)
    by_cases hen2 : sN (gF L) (m + 1) * den < s0 * num
    · have hm1 : m + 1 < L.length := by
        rcases (by omega : m + 1 < L.length ∨ m + 1 = L.length) with h | h
        · exact h
        · rw [h] at hen2; have := HEnd.out; omega
      have hm1' : ((m + 1 : Nat) : Int) < (L.length : Int) := by omega
      have c1 : wr.cell? ⟨b0, o0 + (m + 1), none⟩ = some (.int .i64 (gF L (m + 1))) := (HB.out.cell (p := ⟨b0, o0 + (m + 1), none⟩) hB0).trans (HI.out (m + 1) hm1)
      have hx := HC.out (m + 1) hm1
      have HN : Hid (sN (gF L) (m + 1 + 1) = sN (gF L) (m + 1) + gF L (m + 1)) := rfl
      have HBf2 : Hid (∀ i, i < m + 1 → sN (gF L) (i + 1) * den < s0 * num) := fun i hi => by
        rcases (by omega : i < m ∨ i = m) with h | h
        · exact HBf.out i h
        · rw [h]; exact hen2
      have e0 : IntKind.i64.wrap ((m : Int) + 1) = ((m + 1 : Nat) : Int) := by rw [wrap_id _ (by omega) (by omega)]; omega
      clear HBf
      generalize sN (gF L) (m + 1) = s at *
      generalize gF L (m + 1) = x at *
      have e1 : IntKind.i64.wrap (s + x) = s + x := wrap_id _ (by omega) (by omega)
      generalize hm2 : m + 1 = m2 at *
      go_wp2_with fail
      exact ⟨⟨m2, by omega, by first | rfl | go_num, by rw [HN.out], HBf2.out, HB.out⟩, by simp [intOf]; omega⟩
    · have HAns : Hid (ans = m) := HSl.out m hm (by omega) HBf.out
      generalize sN (gF L) (m + 1) = s at *
      go_wp2_with fail
      go_ret
      exact ⟨ret_int (by rw [HAns.out]), HB.out⟩
set_option maxHeartbeats 2000000 in
theorem implSafe_any (a : Option Addr) (ca : Nat) (tb : List Int) (days num den : Int) (hl : tb.length ≤ 100000000) (w : World) (hr : Reads w.heap.size w a tb) :
    Calls Try.prog 18 #[.slice a tb.length ca, .int .i64 days, .int .i64 num, .int .i64 den] w fun e w' => e = .returned (.tuple #[.int .i64 (saN tb days num den), .int .i64 (saC tb days num den)]) ∧ Below w.heap.size w w' := by
  have H1 : Hid (Calls Try.prog 40 #[.slice a tb.length ca, .int .i64 days] w fun e w' => e = .returned (.int .i64 (odC tb days)) ∧ Below w.heap.size w w') := oddsFault_any a ca tb days hl w hr
  have HP : Hid (∀ W, Calls Try.prog 33 #[.int .i64 1, .int .i64 num, .int .i64 den] W fun e w' => e = .returned (.bool (ptB 1 num den)) ∧ Below W.heap.size W w') := fun W => partsOK_any 1 num den W
  by_cases hc : ¬ odC tb days = 0
  · rw [(sa_fault num den hc).1, (sa_fault num den hc).2]
    have hc' : (odC tb days != 0) = true := by simp [hc]
    generalize odC tb days = c at *
    clear hr HP
    go_enter Try.func18, Try.ntmps18
    go_wp2_with (go_at_call 40; refine H1.out.mono ?_; rintro e w2 ⟨rfl, hb2⟩)
    go_ret2
    exact ⟨rfl, hb2⟩
  replace hc : odC tb days = 0 := Classical.not_not.1 hc
  have hob := odC_zero hc
  have HO : Hid (∀ W, Below w.heap.size w W → Calls Try.prog 41 #[.slice a tb.length ca, .int .i64 days] W (AnsV W (odD tb days.toNat))) := fun W hW => by
    have r := od_right hob
    have e : ((days.toNat : Nat) : Int) = days := by have := r.d1; omega
    have := oddsOf_any a ca tb days.toNat (by rw [e]; exact r) W ((hr.below hW).mono hW.size)
    rw [e] at this
    exact this.mono (fun _ _ h => h.weak)
  have hOK := odOK_of hob
  cases hpt : ptB 1 num den
  · rw [(sa_parts hc hpt).1, (sa_parts hc hpt).2]
    rw [hc] at H1
    rw [hpt] at HP
    clear hr hc hpt HO hOK hob
    go_enter Try.func18, Try.ntmps18
    go_wp2_with (first | (go_at_call 40; refine H1.out.mono ?_; rintro e w2 ⟨rfl, hb2⟩) | (go_at_call 33; refine (HP.out _).mono ?_; rintro e w3 ⟨rfl, hb3⟩))
    go_ret2
    exact ⟨rfl, chain hb2 hb3⟩
  have HTg : Hid (∀ g cp W, Own2 w.heap.size W g (odD tb days.toNat) → Calls Try.prog 42 #[.slice g (odD tb days.toNat).length cp] W fun e w' => e = .returned (.int .i64 (sL (odD tb days.toNat))) ∧ W = w') := fun g cp W ho => togetherQ_any g cp _ hOK W ho.reads
  have HLe : Hid (∀ g cp W, Own2 w.heap.size W g (odD tb days.toNat) → Calls Try.prog 43 #[.slice g (odD tb days.toNat).length cp, .int .i64 (sL (odD tb days.toNat)), .int .i64 num, .int .i64 den] W fun e w' => e = .returned (.int .i64 (slN (gF (odD tb days.toNat)) den (num * sL (odD tb days.toNat)) (odD tb days.toNat).length : Int)) ∧ Below W.heap.size W w') := fun g cp W ho => leastEnough_any g cp _ hOK num den hpt W ho.reads
  have HZ : Hid (sL (odD tb days.toNat) = 0 → saC tb days num den = 10 ∧ saN tb days num den = 0) := sa_zero hc hpt
  have HN : Hid (sL (odD tb days.toNat) ≠ 0 → saC tb days num den = 0 ∧ saN tb days num den = (slN (gF (odD tb days.toNat)) den (num * sL (odD tb days.toNat)) (odD tb days.toNat).length : Int)) := sa_right hc hpt
  rw [hc] at H1
  rw [hpt] at HP
  clear hr hc hpt hOK hob
  generalize slN (gF (odD tb days.toNat)) den (num * sL (odD tb days.toNat)) (odD tb days.toNat).length = lvl at *
  generalize sL (odD tb days.toNat) = s0 at *
  generalize odD tb days.toNat = L at *
  generalize saC tb days num den = c at *
  generalize saN tb days num den = x at *
  by_cases hz : s0 = 0
  · obtain ⟨rfl, rfl⟩ := HZ.out hz
    subst hz
    clear HZ HN HLe
    go_enter Try.func18, Try.ntmps18
    go_wp2_with (first | (go_at_call 40; refine H1.out.mono ?_; rintro e w2 ⟨rfl, hb2⟩) | (go_at_call 33; refine (HP.out _).mono ?_; rintro e w3 ⟨rfl, hb3⟩) | (go_at_call 41; refine (HO.out _ (chain hb2 hb3)).mono ?_; rintro e w4 ⟨g, cp, rfl, ho4, hb4⟩; have HO4 : Hid (Own2 w.heap.size w4 g L) := own2_mono ho4 (chain hb2 hb3).size; clear ho4) | (go_at_call 42; refine (HTg.out _ _ _ HO4.out).mono ?_; rintro e w5 ⟨rfl, rfl⟩))
    go_ret2
    exact ⟨rfl, chain (chain hb2 hb3) hb4⟩
  · obtain ⟨rfl, rfl⟩ := HN.out hz
    have hz' : (s0 == 0) = false := by simp [hz]
    clear HZ HN
    go_enter Try.func18, Try.ntmps18
    go_wp2_with (first | (go_at_call 40; refine H1.out.mono ?_; rintro e w2 ⟨rfl, hb2⟩) | (go_at_call 33; refine (HP.out _).mono ?_; rintro e w3 ⟨rfl, hb3⟩) | (go_at_call 41; refine (HO.out _ (chain hb2 hb3)).mono ?_; rintro e w4 ⟨g, cp, rfl, ho4, hb4⟩; have HO4 : Hid (Own2 w.heap.size w4 g L) := own2_mono ho4 (chain hb2 hb3).size; clear ho4) | (go_at_call 42; refine (HTg.out _ _ _ HO4.out).mono ?_; rintro e w5 ⟨rfl, rfl⟩) | (go_at_call 43; refine (HLe.out _ _ _ HO4.out).mono ?_; rintro e w6 ⟨rfl, hb6⟩))
    go_ret2
    exact ⟨rfl, chain (chain (chain hb2 hb3) hb4) hb6⟩
end Go.Proofs.Ytjdjopikljdigaa
