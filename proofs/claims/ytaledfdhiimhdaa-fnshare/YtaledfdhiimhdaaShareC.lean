/-
  Contract of the program's Share, for every amount and every list that can be read.
-/
import Derived.Test.YtaledfdhiimhdaaShareB
import Derived.Test.YtaledfdhiimhdaaAmt
namespace Go.Proofs.Ytaledfdhiimhdaa
open Go.ChangeShapes Go.WideShapes Go.ChangeAt Go.RowKit
set_option linter.unusedVariables false

def sgn (x : Int) (b : Bool) : Int := if b = true then -x else x
theorem sgn_any (x : Int) (b : Bool) (w : World) (h1 : -9000000000000000000 ≤ x) (h2 : x ≤ 9000000000000000000) :
    Calls Try.prog 29 #[.int .i64 x, .bool b] w fun e w' => e = .returned (.int .i64 (sgn x b)) ∧ w' = w := by
  cases b
  all_goals
    go_enter Try.func29, Try.ntmps29
    go_wp2
    go_ret
    exact ⟨rfl, rfl⟩
theorem size_any (n : Int) (hn : -1000000000 ≤ n) (hn' : n ≤ 1000000000) (w : World) :
    Calls Try.prog 28 #[.int .i64 n] w fun e w' => e = .returned (.int .i64 (n.natAbs : Int)) ∧ w' = w := by
  by_cases h : n < 0
  · go_enter Try.func28, Try.ntmps28
    go_wp2
    go_ret
    exact ⟨ret_int (by omega), rfl⟩
  · go_enter Try.func28, Try.ntmps28
    go_wp2
    go_ret
    exact ⟨ret_int (by omega), rfl⟩

/-- The parts of |a|, behind what is left. -/
def shAbs (a : Int) (ws : List Int) : List Int := shl 0 (leftOf (a.natAbs : Int) ws.sum ws).toNat (p0 (a.natAbs : Int) ws.sum ws) (r0 (a.natAbs : Int) ws.sum ws)
def shCode (a : Int) (ws : List Int) : Int := if 4096 < ws.length then 2 else if amtB a = true ∧ wsOK ws = true then (if ws.sum = 0 then 10 else 0) else 1
def shList (a : Int) (ws : List Int) : List Int := if shCode a ws = 0 then (shAbs a ws).map (fun x => sgn x (decide (a < 0))) else []
/-- A slice of a block not below B, whose numbers are L. -/
def Owns (B : Nat) (w : World) (g : Option Addr) (L : List Int) : Prop := L = [] ∨ ∃ b, g = some ⟨b, 0, none⟩ ∧ B ≤ b ∧ w.rowIs b 3 L.length (fun i => .int .i64 (L.getD i 0))

theorem shl_length (z : Int) : ∀ n P R, (shl z n P R).length = P.length
  | 0, P, R => rfl
  | n + 1, P, R => by
    have h := shl_length z n (P.set (fg R) (P.getD (fg R) 0 + 1)) (R.set (fg R) z)
    rw [List.length_set] at h
    exact h
theorem shAbs_length (a : Int) (ws : List Int) : (shAbs a ws).length = ws.length := by unfold shAbs; rw [shl_length]; unfold p0; simp
theorem shList_bad {a : Int} {ws : List Int} {c : Int} (h : shCode a ws = c) (hc : c ≠ 0) : shList a ws = [] := by unfold shList; rw [if_neg (by rw [h]; exact hc)]

theorem wsOK_iff (ws : List Int) : wsOK ws = true ↔ (∀ x ∈ ws, 0 ≤ x ∧ x ≤ 1000000) ∧ 1 ≤ ws.length ∧ ws.length ≤ 60 := by
  unfold wsOK wOK
  rw [Bool.and_eq_true, List.all_eq_true, decide_eq_true_iff]
  simp

theorem sum_next (ws : List Int) (k : Nat) (h : k < ws.length) : (ws.take (k + 1)).sum = (ws.take k).sum + ws.getD k 0 := by
  rw [List.take_succ_eq_append_getElem h, List.sum_append, getD_int h]; simp
theorem sum_range (ws : List Int) (hw : ∀ x ∈ ws, 0 ≤ x ∧ x ≤ 1000000) : ∀ k, 0 ≤ (ws.take k).sum ∧ (ws.take k).sum ≤ (k : Int) * 1000000
  | 0 => by simp
  | k + 1 => by
    have ih := sum_range ws hw k
    by_cases h : k < ws.length
    · rw [sum_next ws k h]
      have := hw (ws.getD k 0) (by rw [getD_int h]; exact List.getElem_mem _)
      omega
    · rw [List.take_of_length_le (by omega)]
      rw [List.take_of_length_le (by omega)] at ih
      omega

theorem shl_bound (z : Int) : ∀ n P R (M : Int), 0 < R.length → R.length = P.length → (∀ i, i < P.length → 0 ≤ P.getD i 0 ∧ P.getD i 0 ≤ M) → ∀ i, i < P.length → 0 ≤ (shl z n P R).getD i 0 ∧ (shl z n P R).getD i 0 ≤ M + (n : Int)
  | 0, P, R, M, _, _, h, i, hi => by have := h i hi; unfold shl; omega
  | n + 1, P, R, M, h0, hl, h, i, hi => by
    have hm : fg R < P.length := by rw [← hl]; exact fg_lt R h0
    have ih := shl_bound z n (P.set (fg R) (P.getD (fg R) 0 + 1)) (R.set (fg R) z) (M + 1) (by simpa using h0) (by simpa using hl) (fun j hj => by
      have hj' : j < P.length := by simpa using hj
      rw [getD_set _ _ _ _ hj']
      have h1 := h j hj'
      have h2 := h (fg R) hm
      split <;> omega) i (by simpa using hi)
    unfold shl
    omega
theorem shAbs_bound (a : Int) (ws : List Int) (ha : -1000000000 ≤ a) (ha' : a ≤ 1000000000) (hS : 1 ≤ ws.sum) (h0 : 1 ≤ ws.length) (hw : ∀ x ∈ ws, 0 ≤ x ∧ x ≤ 1000000) (i : Nat) (hi : i < ws.length) : 0 ≤ (shAbs a ws).getD i 0 ∧ (shAbs a ws).getD i 0 ≤ 1000001000000000 := by
  have hlp : (p0 (a.natAbs : Int) ws.sum ws).length = ws.length := by unfold p0; simp
  have hlr : (r0 (a.natAbs : Int) ws.sum ws).length = ws.length := by unfold r0; simp
  have h := shl_bound 0 (leftOf (a.natAbs : Int) ws.sum ws).toNat (p0 (a.natAbs : Int) ws.sum ws) (r0 (a.natAbs : Int) ws.sum ws) 1000000000000000 (by omega) (by omega) (fun j hj => p0_bound _ _ _ (by omega) (by omega) hS hw j (by omega)) i (by omega)
  have hb := (sum_take_bound (a.natAbs : Int) ws.sum ws ws.length (by omega) hS hw).1
  rw [List.take_of_length_le (by omega)] at hb
  have hl : leftOf (a.natAbs : Int) ws.sum ws ≤ 1000000000 := by unfold leftOf; omega
  unfold shAbs
  omega
theorem shList_ok {a : Int} {ws : List Int} (h : shCode a ws = 0) : shList a ws = (shAbs a ws).map (fun x => sgn x (decide (a < 0))) := by unfold shList; rw [if_pos h]
theorem shList_getD {a : Int} {ws : List Int} (h : shCode a ws = 0) (i : Nat) (hi : i < ws.length) : (shList a ws).getD i 0 = sgn ((shAbs a ws).getD i 0) (decide (a < 0)) := by
  have hl := shAbs_length a ws
  rw [shList_ok h]
  simp [List.getD_eq_getElem?_getD, show i < (shAbs a ws).length by omega]

set_option maxHeartbeats 4000000 in
theorem implShare_any (a : Option Addr) (cap : Nat) (ws : List Int) (n : Int) (hl : ws.length ≤ 2000000) (w : World) (hr : Reads w.heap.size w a ws) :
    Calls Try.prog 9 #[.int .i64 n, .slice a ws.length cap] w fun e w' => ∃ g cp, e = .returned (.tuple #[.slice g (shList n ws).length cp, .int .i64 (shCode n ws)]) ∧ Owns w.heap.size w' g (shList n ws) ∧ Below w.heap.size w w' := by
  have hwo := fun w' (hb : Below w.heap.size w w') => weightsOK_any a cap ws (by omega) w.heap.size w' (hr.below hb)
  have HR : Hid (Reads w.heap.size w a ws) := hr
  clear hr
  by_cases h0 : 4096 < (ws.length : Int)
  · have hc : shCode n ws = 2 := by unfold shCode; rw [if_pos (by omega)]
    have hL := shList_bad hc (by decide)
    go_enter Try.func9, Try.ntmps9
    go_wp2
    go_ret2
    exact ⟨none, 0, by rw [hc, hL]; rfl, by rw [hL]; exact .inl rfl, Below.refl _ _⟩
  by_cases hA : amtB n = true
  · by_cases hW : wsOK ws = true
    · obtain ⟨hw, hw1, hw2⟩ := (wsOK_iff ws).mp hW
      have hwo' := hwo w (Below.refl _ _)
      rw [hW] at hwo'
      have HWs : Hid (∀ x ∈ ws, 0 ≤ x ∧ x ≤ 1000000) := hw
      obtain ⟨hn1, hn2⟩ := (amtB_iff n).mp hA
      go_enter Try.func9, Try.ntmps9
      go_wp2_with (first | (go_at_call 25; refine (implMoney_any _ _).mono ?_; rintro e w' ⟨rfl, rfl⟩; rw [hA]) | (go_at_call 26; refine hwo'.mono ?_; rintro e w' ⟨rfl, rfl⟩))
      clear hwo hwo'
      go_loop [6, 8, 25] (fun t _ c => ∃ k : Nat, k ≤ ws.length ∧ c = .int .i64 (k : Int) ∧ t = .int .i64 (ws.take k).sum) (fun _ _ c => ws.length - (intOf c).toNat)
      case atStart => exact ⟨0, Nat.zero_le _, rfl, rfl⟩
      case round =>
        obtain ⟨k, hk, rfl, rfl⟩ := hrel
        obtain ⟨hs1, hs2⟩ := sum_range ws HWs.out k
        have hk6 : (k : Int) * 1000000 ≤ 60000000 := by omega
        by_cases hlt : k < ws.length
        · have hlt' : (k : Int) < (ws.length : Int) := by omega
          rcases HR.out with h | ⟨b0, o0, ha, hB0, ia⟩
          · rw [h] at hlt; simp at hlt
          have c0 := ia k hlt
          have hx := HWs.out (ws.getD k 0) (by rw [getD_int hlt]; exact List.getElem_mem _)
          have HN : Hid ((ws.take (k + 1)).sum = (ws.take k).sum + ws.getD k 0) := sum_next ws k hlt
          rw [ha]
          generalize ws.getD k 0 = x at *
          obtain ⟨hx1, hx2⟩ := hx
          clear ia ha
          go_wp2
          go_round
          case rel => exact ⟨k + 1, by omega, by go_num, by rw [HN.out]; try go_num⟩
          case measure => simp [intOf]; omega
        · have hs : (ws.take k).sum = ws.sum := by rw [List.take_of_length_le (by omega)]
          rw [hs] at hs1 hs2 ⊢
          have hkl : (ws.length : Int) ≤ (k : Int) := by omega
          clear hs
          by_cases hz : ws.sum = 0
          · have hc : shCode n ws = 10 := by unfold shCode; rw [if_neg (by omega), if_pos ⟨hA, hW⟩, if_pos hz]
            have HL : Hid (shList n ws = []) := shList_bad hc (by decide)
            have HC : Hid (shCode n ws = 10) := hc
            clear hc
            go_wp2
            go_ret2
            exact ⟨none, ⟨0, by rw [HC.out, HL.out]; rfl⟩, by rw [HL.out]; exact .inl rfl, Below.refl _ _⟩
          · have hc : shCode n ws = 0 := by unfold shCode; rw [if_neg (by omega), if_pos ⟨hA, hW⟩, if_neg hz]
            have HC : Hid (shCode n ws = 0) := hc
            have hS1 : 1 ≤ ws.sum := by omega
            have hS2 : ws.sum ≤ 60000000 := by omega
            have hsz := fun w => size_any n hn1 hn2 w
            have hsh := shareSize_at w'.heap.size a cap ws (n.natAbs : Int) ws.sum hw2 hw1 (by omega) (by omega) hS1 hS2 HWs.out w' rfl HR.out
            have HSL : Hid ((shAbs n ws).length = ws.length) := shAbs_length n ws
            have HBd0 : Hid (∀ i, i < ws.length → 0 ≤ (shAbs n ws).getD i 0 ∧ (shAbs n ws).getD i 0 ≤ 1000001000000000) := fun i hi => shAbs_bound n ws hn1 hn2 hS1 hw1 HWs.out i hi
            have esh : shl 0 (leftOf (n.natAbs : Int) ws.sum ws).toNat (p0 (n.natAbs : Int) ws.sum ws) (r0 (n.natAbs : Int) ws.sum ws) = shAbs n ws := rfl
            rw [esh] at hsh
            clear hc esh
            generalize ws.sum = S at *
            go_wp2_with (first | (go_at_call 28; refine (hsz _).mono ?_; rintro e w2 ⟨rfl, rfl⟩) | (go_at_call 27; refine hsh.mono ?_; rintro e w3 ⟨g, rfl, hg, hrow, hb⟩))
            have HBd : Hid (∀ i, i < ws.length → 0 ≤ (shAbs n ws).getD i 0 ∧ (shAbs n ws).getD i 0 ≤ 1000001000000000) := HBd0
            have HG : Hid (∀ i, i < ws.length → (shList n ws).getD i 0 = sgn ((shAbs n ws).getD i 0) (decide (n < 0))) := fun i hi => shList_getD HC.out i hi
            have HLL : Hid ((shList n ws).length = ws.length) := by show _ = _; rw [shList_ok HC.out, List.length_map, HSL.out]
            have HRow : Hid (w3.rowIs g 3 ws.length fun i => .int .i64 ((shAbs n ws).getD i 0)) := hrow
            have HBl : Hid (Below w2.heap.size w2 w3) := hb
            clear hrow hb hsh hsz HWs hs1 hs2 hk6 hlt hkl hk
            go_loopw [10, 11, 42] (fun _ _ c wr => ∃ k : Nat, k ≤ ws.length ∧ c = .int .i64 (k : Int) ∧ wr.rowIs g 3 ws.length (fun i => .int .i64 (if i < k then (shList n ws).getD i 0 else (shAbs n ws).getD i 0)) ∧ Below w2.heap.size w2 wr) (fun _ _ c _ => ws.length - (intOf c).toNat)
            case atStart => exact ⟨0, Nat.zero_le _, rfl, HRow.out.congr (fun i hi => by simp), HBl.out⟩
            case round =>
              clear HRow HBl
              obtain ⟨k, hk, rfl, hr0, hb⟩ := hrel
              have H0 : Hid (wr.rowIs g 3 ws.length (fun i => .int .i64 (if i < k then (shList n ws).getD i 0 else (shAbs n ws).getD i 0))) := hr0
              have HB' : Hid (Below w2.heap.size w2 wr) := hb
              clear hr0 hb
              by_cases hlt : k < ws.length
              · have hlt' : (k : Int) < (ws.length : Int) := by omega
                have c0 : wr.cell? ⟨g, k, none⟩ = some (.int .i64 ((shAbs n ws).getD k 0)) := by
                  have h := H0.out.cell hlt
                  rw [if_neg (by omega)] at h; exact h
                have f0 : wr.frozen? ⟨g, k, none⟩ = false := H0.out.frozen k
                obtain ⟨hx1, hx2⟩ := HBd.out k hlt
                have HGk : Hid ((shList n ws).getD k 0 = sgn ((shAbs n ws).getD k 0) (decide (n < 0))) := HG.out k hlt
                have H2 : Hid ((wr.setCell ⟨g, k, none⟩ (.int .i64 ((shList n ws).getD k 0))).rowIs g 3 ws.length (fun i => .int .i64 (if i < k + 1 then (shList n ws).getD i 0 else (shAbs n ws).getD i 0))) := by
                  refine World.rowIs.congr (H0.out.set k _) fun i hi => ?_
                  by_cases e : i = k
                  · rw [e, if_pos rfl, if_pos (by omega)]
                  · rw [if_neg e]; congr 1; by_cases e' : i < k
                    · rw [if_pos e', if_pos (by omega)]
                    · rw [if_neg e', if_neg (by omega)]
                have HB2 : Hid (Below w2.heap.size w2 (wr.setCell ⟨g, k, none⟩ (.int .i64 ((shList n ws).getD k 0)))) := HB'.out.setCell (p := ⟨g, k, none⟩) hg _
                rw [HGk.out] at H2 HB2
                generalize (shAbs n ws).getD k 0 = x at *
                have hsg := fun b w => sgn_any x b w (by omega) (by omega)
                by_cases hneg : n < 0
                · rw [decide_eq_true hneg] at H2 HB2
                  go_wp2_with (go_at_call 29; refine (hsg _ _).mono ?_; rintro e w5 ⟨rfl, hw5⟩; rw [hw5]; clear hw5)
                  exact ⟨⟨k + 1, by omega, by go_num, H2.out, HB2.out⟩, by simp [intOf]; omega⟩
                · rw [decide_eq_false hneg] at H2 HB2
                  go_wp2_with (go_at_call 29; refine (hsg _ _).mono ?_; rintro e w5 ⟨rfl, hw5⟩; rw [hw5]; clear hw5)
                  exact ⟨⟨k + 1, by omega, by go_num, H2.out, HB2.out⟩, by simp [intOf]; omega⟩
              · have H1 : Hid (wr.rowIs g 3 (shList n ws).length (fun i => .int .i64 ((shList n ws).getD i 0))) := by
                  show wr.rowIs _ _ _ _
                  rw [HLL.out]
                  exact H0.out.congr fun i hi => by rw [if_pos (by omega)]
                have hkl : (ws.length : Int) ≤ (k : Int) := by omega
                go_wp2
                go_ret2
                exact ⟨some ⟨g, 0, none⟩, ws.length, by rw [HC.out, HLL.out]; rfl, .inr ⟨g, rfl, hg, H1.out⟩, HB'.out⟩
    · have hc : shCode n ws = 1 := by unfold shCode; rw [if_neg (by omega), if_neg (fun h => hW h.2)]
      have hL := shList_bad hc (by decide)
      rw [Bool.not_eq_true] at hW
      have hwo' := hwo w (Below.refl _ _)
      rw [hW] at hwo'
      go_enter Try.func9, Try.ntmps9
      go_wp2_with (first | (go_at_call 25; refine (implMoney_any _ _).mono ?_; rintro e w' ⟨rfl, rfl⟩; rw [hA]) | (go_at_call 26; refine hwo'.mono ?_; rintro e w' ⟨rfl, rfl⟩))
      go_ret2
      exact ⟨none, 0, by rw [hc, hL]; rfl, by rw [hL]; exact .inl rfl, Below.refl _ _⟩
  · have hc : shCode n ws = 1 := by unfold shCode; rw [if_neg (by omega), if_neg (fun h => hA h.1)]
    have hL := shList_bad hc (by decide)
    rw [Bool.not_eq_true] at hA
    go_enter Try.func9, Try.ntmps9
    go_wp2_with (go_at_call 25; refine (implMoney_any _ _).mono ?_; rintro e w' ⟨rfl, rfl⟩; rw [hA])
    go_ret2
    exact ⟨none, 0, by rw [hc, hL]; rfl, by rw [hL]; exact .inl rfl, Below.refl _ _⟩
end Go.Proofs.Ytaledfdhiimhdaa
