/-
  Which size is taken next (the program's greatestWithin), and what Unpack answers, as functions of the sizes.
-/
import Derived.Test.YtaledfdhiimhdaaPackC
namespace Go.Proofs.Ytaledfdhiimhdaa
open Go.ChangeShapes Go.WideShapes Go.ChangeAt Go.RowKit
set_option linter.unusedVariables false

/-- One size more is looked at. -/
def gwStep (L : List Int) (m : Int) (i : Nat) (at' : Int) : Int := if L.getD i 0 ≤ m ∧ (at' < 0 ∨ L.getD at'.toNat 0 < L.getD i 0) then (i : Int) else at'
def gwGo (L : List Int) (m : Int) : Nat → Nat → Int → Int
  | 0, _, at' => at'
  | r + 1, i, at' => gwGo L m r (i + 1) (gwStep L m i at')
/-- The first of the greatest sizes that are not above m; -1 without one. -/
def gw (L : List Int) (m : Int) : Int := gwGo L m L.length 0 (-1)
theorem gwGo_step (L : List Int) (m : Int) (i : Nat) (at' : Int) (h : i < L.length) : gwGo L m (L.length - i) i at' = gwGo L m (L.length - (i + 1)) (i + 1) (gwStep L m i at') := by
  obtain ⟨r, hr⟩ : ∃ r, L.length - i = r + 1 := ⟨L.length - i - 1, by omega⟩
  rw [hr, show L.length - (i + 1) = r by omega]; rfl
/-- Where we are: nothing yet, or a size that fits. -/
def gwOK (L : List Int) (m : Int) (i : Nat) (at' : Int) : Prop := at' = -1 ∨ (0 ≤ at' ∧ at' < (i : Int) ∧ L.getD at'.toNat 0 ≤ m)
theorem gwStep_ok {L : List Int} {m : Int} {i : Nat} {at' : Int} (h : gwOK L m i at') : gwOK L m (i + 1) (gwStep L m i at') := by
  unfold gwStep gwOK at *
  split
  · rename_i hc
    right
    refine ⟨by omega, by omega, ?_⟩
    rw [Int.toNat_natCast]; exact hc.1
  · rcases h with h | ⟨h1, h2, h3⟩
    · exact .inl h
    · exact .inr ⟨h1, by omega, h3⟩
theorem gwGo_ok (L : List Int) (m : Int) : ∀ (r i : Nat) (at' : Int), gwOK L m i at' → gwOK L m (i + r) (gwGo L m r i at')
  | 0, i, at', h => h
  | r + 1, i, at', h => by
    have := gwGo_ok L m r (i + 1) _ (gwStep_ok h)
    rw [show i + (r + 1) = i + 1 + r by omega]; exact this
theorem gw_ok (L : List Int) (m : Int) : gw L m = -1 ∨ (0 ≤ gw L m ∧ gw L m < (L.length : Int) ∧ L.getD (gw L m).toNat 0 ≤ m) := by
  have := gwGo_ok L m L.length 0 (-1) (.inl rfl)
  rw [Nat.zero_add] at this; exact this

/-- How many of each are taken, what is left. -/
def upGo (L : List Int) : Nat → Int → List Int → List Int × Int
  | 0, left, out => (out, left)
  | f + 1, left, out => if gw L left < 0 then (out, left) else upGo L f (left % L.getD (gw L left).toNat 0) (out.set (gw L left).toNat (out.getD (gw L left).toNat 0 + left / L.getD (gw L left).toNat 0))
def upAll (L : List Int) (n : Int) : List Int × Int := upGo L n.toNat n (List.replicate L.length 0)
def UnOK (L : List Int) : Prop := ∀ x ∈ L, 1 ≤ x ∧ x ≤ 1000000
theorem gw_zero {L : List Int} (h : UnOK L) {m : Int} (hm : m ≤ 0) : gw L m = -1 := by
  rcases gw_ok L m with e | ⟨e1, e2, e3⟩
  · exact e
  · have := getD_bound h (gw L m).toNat (by omega)
    omega


set_option maxHeartbeats 2000000 in
theorem greatest_any (g : Option Addr) (cap : Nat) (L : List Int) (m : Int) (hl : L.length ≤ 100000000) (w : World) (hr : Reads w.heap.size w g L) :
    Calls Try.prog 41 #[.slice g L.length cap, .int .i64 m] w fun e w' => e = .returned (.int .i64 (gw L m)) ∧ w' = w := by
  have HR : Hid (Reads w.heap.size w g L) := hr
  clear hr
  go_enter Try.func41, Try.ntmps41
  go_wp2
  go_loop [5, 6, 7, 10] (fun t _ _ c => ∃ (k : Nat) (A : Int), k ≤ L.length ∧ c = .int .i64 (k : Int) ∧ t = .int .i64 A ∧ gwOK L m k A ∧ gw L m = gwGo L m (L.length - k) k A) (fun _ _ _ c => L.length - (intOf c).toNat)
  case atStart => exact ⟨0, -1, Nat.zero_le _, rfl, rfl, .inl rfl, rfl⟩
  case round =>
    obtain ⟨k, A, hk, rfl, rfl, hok, hgo⟩ := hrel
    have HGo : Hid (gw L m = gwGo L m (L.length - k) k A) := hgo
    have HOk : Hid (gwOK L m k A) := hok
    clear hgo hok
    by_cases hlt : k < L.length
    · have hlt' : (k : Int) < (L.length : Int) := by omega
      rcases HR.out with h | ⟨b0, o0, ha, hB0, ia⟩
      · rw [h] at hlt; simp at hlt
      have c0 := ia k hlt
      have HN : Hid (gw L m = gwGo L m (L.length - (k + 1)) (k + 1) (gwStep L m k A) ∧ gwOK L m (k + 1) (gwStep L m k A)) := ⟨HGo.out.trans (gwGo_step L m k A hlt), gwStep_ok HOk.out⟩
      rw [ha]
      by_cases h1 : L.getD k 0 ≤ m
      · rcases HOk.out with e | ⟨e1, e2, e3⟩
        · subst e
          have e : gwStep L m k (-1) = (k : Int) := by unfold gwStep; rw [if_pos ⟨h1, .inl (by omega)⟩]
          rw [e] at HN
          clear e ia
          generalize L.getD k 0 = x at *
          go_wp2
          exact ⟨⟨k + 1, (k : Int), by omega, by go_num, rfl, HN.out.2, HN.out.1⟩, by simp [intOf]; omega⟩
        · obtain ⟨t, ht⟩ : ∃ t : Nat, A = (t : Int) := ⟨A.toNat, by omega⟩
          subst ht
          have c1 := ia t (by omega)
          have ht' : (t : Int) < (L.length : Int) := by omega
          by_cases h2 : L.getD t 0 < L.getD k 0
          · have e : gwStep L m k (t : Int) = (k : Int) := by unfold gwStep; rw [if_pos ⟨h1, .inr (by rw [Int.toNat_natCast]; exact h2)⟩]
            rw [e] at HN
            clear e ia e3
            generalize L.getD k 0 = x at *
            generalize L.getD t 0 = y at *
            go_wp2
            exact ⟨⟨k + 1, (k : Int), by omega, by go_num, rfl, HN.out.2, HN.out.1⟩, by simp [intOf]; omega⟩
          · have e : gwStep L m k (t : Int) = (t : Int) := by unfold gwStep; rw [if_neg (fun h => h.2.elim (fun h => by omega) (fun h => h2 (by rw [Int.toNat_natCast] at h; exact h)))]
            rw [e] at HN
            clear e ia e3
            generalize L.getD k 0 = x at *
            generalize L.getD t 0 = y at *
            go_wp2
            exact ⟨⟨k + 1, (t : Int), by omega, by go_num, rfl, HN.out.2, HN.out.1⟩, by simp [intOf]; omega⟩
      · have e : gwStep L m k A = A := by unfold gwStep; rw [if_neg (fun h => h1 h.1)]
        rw [e] at HN
        clear e ia
        generalize L.getD k 0 = x at *
        go_wp2
        exact ⟨⟨k + 1, A, by omega, by go_num, rfl, HN.out.2, HN.out.1⟩, by simp [intOf]; omega⟩
    · obtain rfl : k = L.length := by omega
      have HE : Hid (gw L m = A) := by show _ = _; rw [HGo.out, Nat.sub_self]; rfl
      go_wp2
      go_ret
      exact ⟨ret_int HE.out.symm, rfl⟩

end Go.Proofs.Ytaledfdhiimhdaa
