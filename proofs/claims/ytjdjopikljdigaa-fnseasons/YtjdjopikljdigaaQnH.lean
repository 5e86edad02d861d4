/-
  What the law on seasons asks, as mathematics; the laws' own sum.
-/
import Derived.Test.YtjdjopikljdigaaQnB
import Derived.Test.YtjdjopikljdigaaQdB
namespace Go.Proofs.Ytjdjopikljdigaa
open Go.ChangeShapes Go.WideShapes Go.ChangeAt Go.RowKit Go.Joins Go.Deep
set_option linter.unusedVariables false

set_option maxHeartbeats 2000000 in
theorem sumR_any (a : Option Addr) (cap : Nat) (L : List Int) (hl : L.length ≤ 4096) (hx : ∀ i, 0 ≤ L.getD i 0 ∧ L.getD i 0 ≤ 100000) (w : World) (hr : Reads w.heap.size w a L) :
    Calls Try.prog 14 #[.slice a L.length cap] w fun e w' => e = .returned (.int .i64 (smP L 1 0 L.length)) ∧ w = w' := by
  have HR : Hid (Reads w.heap.size w a L) := hr
  have HX : Hid (∀ i, 0 ≤ L.getD i 0 ∧ L.getD i 0 ≤ 100000) := hx
  have HB : Hid (∀ j, j ≤ L.length → 0 ≤ smP L 1 0 j ∧ smP L 1 0 j ≤ 409600000) := fun j hj => by
    have a1 := smP_bound (n := 1) (k := 0) hx j
    exact ⟨a1.1, by omega⟩
  have HE : Hid (∀ s, s = smP L 1 0 L.length → s = smP L 1 0 L.length) := fun s h => h
  clear hr hx
  obtain ⟨s0, hs0⟩ : ∃ s0, s0 = smP L 1 0 L.length := ⟨_, rfl⟩
  have HS0 : Hid (smP L 1 0 L.length = s0) := hs0.symm
  rw [← hs0]
  clear hs0 HE
  go_enter Try.func14, Try.ntmps14
  go_wp2
  go_loopw [3, 4] (fun s c wr => ∃ k : Nat, k ≤ L.length ∧ c = .int .i64 (k : Int) ∧ s = .int .i64 (smP L 1 0 k) ∧ w = wr) (fun _ c _ => L.length - (intOf c).toNat)
  case atStart => exact ⟨0, Nat.zero_le _, rfl, rfl, rfl⟩
  case round =>
    obtain ⟨k, hk, rfl, rfl, rfl⟩ := hrel
    by_cases hlt : k < L.length
    · have hlt' : (k : Int) < (L.length : Int) := by omega
      rcases HR.out with h | ⟨b0, o0, ha, hB0, ia⟩
      · rw [h] at hlt; simp at hlt
      have c0 := ia k hlt
      have h1 := HB.out k hk
      have h2 := HX.out k
      have HN : Hid (smP L 1 0 (k + 1) = smP L 1 0 k + L.getD k 0) := smP_one L k
      rw [ha]
      clear ia
      generalize smP L 1 0 k = s at *
      generalize L.getD k 0 = x at *
      have hwr : IntKind.i64.wrap (s + x) = s + x := wrap_id _ (by omega) (by omega)
      go_wp2_with fail
      exact ⟨⟨k + 1, by omega, by go_num, by rw [HN.out], by first | rfl | trivial⟩, by simp [intOf]; omega⟩
    · have hlt' : ¬ (k : Int) < (L.length : Int) := by omega
      obtain rfl : k = L.length := by omega
      rw [HS0.out]
      go_wp2_with fail
      go_ret
      exact ⟨rfl, by first | rfl | trivial⟩
theorem smP_pos {L : List Int} (hx : ∀ i, 0 ≤ L.getD i 0 ∧ L.getD i 0 ≤ 100000) (h0 : 1 ≤ L.getD 0 0) : ∀ j, 1 ≤ j → 1 ≤ smP L 1 0 j
  | 1, _ => by rw [smP_one]; show 1 ≤ (0 : Int) + _; omega
  | j + 2, _ => by
    have i := smP_pos hx h0 (j + 1) (by omega)
    have := hx (j + 1)
    rw [smP_one]; omega
/-- All that the law asks of one ratio. -/
theorem seR_facts {x y : Nat} (hy : 1 ≤ y) : ∃ q1 q2 : Nat, lowT (x : Int) (y : Int) = ((q1 : Int), (q2 : Int)) ∧ q1 ≤ x ∧ q2 ≤ y ∧ 1 ≤ q2 ∧ q1 * y = q2 * x ∧ Nat.gcd q1 q2 = 1 := by
  have hg : 0 < Nat.gcd x y := Nat.gcd_pos_of_pos_right x hy
  refine ⟨x / Nat.gcd x y, y / Nat.gcd x y, by unfold lowT; rw [Int.toNat_natCast, Int.toNat_natCast], Nat.div_le_self _ _, Nat.div_le_self _ _, ?_, ?_, ?_⟩
  · exact Nat.div_pos (Nat.le_of_dvd hy (Nat.gcd_dvd_right x y)) hg
  · obtain ⟨p, hp⟩ := Nat.gcd_dvd_left x y
    obtain ⟨q, hq⟩ := Nat.gcd_dvd_right x y
    have e1 : x / Nat.gcd x y = p := Nat.div_eq_of_eq_mul_right hg hp
    have e2 : y / Nat.gcd x y = q := Nat.div_eq_of_eq_mul_right hg hq
    rw [e1, e2]
    generalize Nat.gcd x y = d at *
    rw [hp, hq]
    rw [Nat.mul_left_comm p d q, Nat.mul_left_comm q d p, Nat.mul_comm p q]
  · rw [Nat.gcd_div (Nat.gcd_dvd_left x y) (Nat.gcd_dvd_right x y), Nat.div_self hg]
theorem lowT_same {z : Int} (h : 1 ≤ z) : lowT z z = (1, 1) := by
  unfold lowT
  have hz : 0 < z.toNat := by omega
  rw [Nat.gcd_self, Nat.div_self hz]
  rfl
theorem smP_flat {F : List Int} {v : Int} {n k : Nat} : ∀ j, (∀ i, i < j → F.getD i 0 = v) → smP F n k j = v * ctP n k j
  | 0, _ => by simp [smP, ctP]
  | j + 1, h => by
    rw [smP, ctP, smP_flat j (fun i hi => h i (by omega)), Int.mul_add, h j (by omega)]
    split <;> simp
/-- Sales that are all the same have all ratios 1. -/
theorem seRs_flat {F : List Int} {v : Int} {n : Nat} (hv : 1 ≤ v) (hF : ∀ i, i < F.length → F.getD i 0 = v) (hn : n ≤ F.length) {k : Nat} (hk : k < n) : seR F n k = (1, 1) := by
  unfold seR
  have hc := ctP_pos hk hn
  have e1 : smP F n k F.length = v * ctP n k F.length := smP_flat _ hF
  have e2 : smP F 1 0 F.length = v * (F.length : Int) := by rw [smP_flat (n := 1) (k := 0) _ hF, ctP_one]
  rw [e1, e2]
  have e3 : v * ctP n k F.length * (F.length : Int) = ctP n k F.length * (v * (F.length : Int)) := by rw [Int.mul_comm v, Int.mul_assoc]
  rw [e3]
  refine lowT_same ?_
  have m1 : 1 * 1 ≤ v * (F.length : Int) := Int.mul_le_mul hv (by omega) (by omega) (by omega)
  have m2 : 1 * 1 ≤ ctP n k F.length * (v * (F.length : Int)) := Int.mul_le_mul hc (by omega) (by omega) (by omega)
  omega
theorem se_ok {L : List Int} {n : Nat} (hl : L.length ≤ 4096) (h1 : 1 ≤ n) (h60 : n ≤ 60) (hn : n ≤ L.length) (ha : ∀ x ∈ L, 0 ≤ x ∧ x ≤ 100000) (h0 : 1 ≤ L.getD 0 0) : seC L (n : Int) = 0 ∧ seL L (n : Int) = seRs L n n := by
  have hx : ∀ i, 0 ≤ L.getD i 0 ∧ L.getD i 0 ≤ 100000 := fun i => al_getD (al_of ha) (by omega) i
  have hb : seB L (n : Int) = true := by
    unfold seB
    rw [al_of ha]
    exact decide_eq_true (by omega)
  have hp := smP_pos hx h0 L.length (by omega)
  rcases se_ways L (n : Int) with ⟨q, _⟩ | ⟨_, q, _⟩ | ⟨_, _, q, _⟩ | ⟨_, _, _, q, _⟩ | ⟨_, _, _, _, q1, q2⟩
  · omega
  · rw [hb] at q; cases q
  · omega
  · omega
  · rw [Int.toNat_natCast] at q2
    exact ⟨q1, q2⟩
theorem seRs_at (L : List Int) (n : Nat) {m k : Nat} (h : k < m) : (seRs L n m).getD k (0, 0) = seR L n k := by simp [seRs, List.getD_eq_getElem?_getD, h]
end Go.Proofs.Ytjdjopikljdigaa
