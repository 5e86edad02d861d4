/-
  Contracts of weightsOK and firstGreatest (the program's), for every list of numbers that can be read.
-/
import Derived.Test.YtaledfdhiimhdaaLists0
namespace Go.Proofs.Ytaledfdhiimhdaa
open Go.ChangeShapes Go.WideShapes Go.ChangeAt Go.RowKit
set_option linter.unusedVariables false

def wOK (x : Int) : Bool := decide (0 ≤ x ∧ x ≤ 1000000)
def wsOK (ws : List Int) : Bool := ws.all wOK && decide (1 ≤ ws.length ∧ ws.length ≤ 60)

theorem getD_int {l : List Int} {k : Nat} (h : k < l.length) : l.getD k 0 = l[k] := by simp [List.getD_eq_getElem?_getD, h]
theorem all_take_next {ws : List Int} {k : Nat} (h : k < ws.length) : (ws.take (k + 1)).all wOK = ((ws.take k).all wOK && wOK (ws.getD k 0)) := by
  rw [List.take_succ_eq_append_getElem h, getD_int h, List.all_append]; simp only [List.all_cons, List.all_nil, Bool.and_true]
theorem all_not {ws : List Int} {k : Nat} (h : k < ws.length) (hx : wOK (ws.getD k 0) = false) : ws.all wOK = false := by
  cases e : ws.all wOK with
  | false => rfl
  | true =>
    rw [List.all_eq_true] at e
    have := e _ (List.getElem_mem h)
    rw [getD_int h, this] at hx; cases hx

theorem weightsOK_any (a : Option Addr) (cap : Nat) (ws : List Int) (hn : ws.length ≤ 100000000) (B : Nat) (w : World) (hr : Reads B w a ws) :
    Calls Try.prog 26 #[.slice a ws.length cap] w fun e w' => e = .returned (.bool (wsOK ws)) ∧ w' = w := by
  have HR : Hid (Reads B w a ws) := hr
  clear hr
  go_enter Try.func26, Try.ntmps26
  go_wp2
  go_loop [4, 7] (fun x i => ∃ k : Nat, k ≤ ws.length ∧ i = .int .i64 (k : Int) ∧ (ws.take k).all wOK = true) (fun _ i => ws.length - (intOf i).toNat)
  case atStart => exact ⟨0, Nat.zero_le _, rfl, rfl⟩
  case round =>
    obtain ⟨k, hk, rfl, ht⟩ := hrel
    have HT : Hid ((ws.take k).all wOK = true) := ht
    clear ht
    by_cases hlt : k < ws.length
    · have hlt' : (k : Int) < (ws.length : Int) := by omega
      rcases HR.out with h | ⟨b0, o0, ha, hB0, ia⟩
      · rw [h] at hlt; simp at hlt
      have c0 := ia k hlt
      rw [ha]
      generalize hx0 : ws.getD k 0 = p at *
      have HP : Hid (ws.getD k 0 = p) := hx0
      clear hx0 ia ha
      rcases in_ways p 0 1000000 with hp | ⟨hp, hp'⟩ | ⟨hp, hp'⟩
      · have HF : Hid (wsOK ws = false) := by
          show wsOK ws = false
          unfold wsOK; rw [all_not hlt (by rw [HP.out]; exact decide_eq_false (by omega))]; rfl
        go_wp2
        go_ret
        exact ⟨ret_bool HF.out.symm, rfl⟩
      · have HF : Hid (wsOK ws = false) := by
          show wsOK ws = false
          unfold wsOK; rw [all_not hlt (by rw [HP.out]; exact decide_eq_false (by omega))]; rfl
        go_wp2
        go_ret
        exact ⟨ret_bool HF.out.symm, rfl⟩
      · go_wp2
        go_round
        case rel => exact ⟨k + 1, by omega, by go_num, by rw [all_take_next hlt, HT.out, HP.out]; exact decide_eq_true ⟨hp, hp'⟩⟩
        case measure => simp [intOf]; omega
    · have HA : Hid (wsOK ws = decide (1 ≤ ws.length ∧ ws.length ≤ 60)) := by
        show wsOK ws = _
        have h1 := HT.out
        rw [List.take_of_length_le (by omega)] at h1
        unfold wsOK; rw [h1]; rfl
      rcases in_ways (ws.length : Int) 1 60 with h | ⟨h, h'⟩ | ⟨h, h'⟩
      all_goals
        go_wp2
        go_ret
        exact ⟨ret_bool (by rw [HA.out]; first | exact (decide_eq_false (by omega)).symm | exact (decide_eq_true (by omega)).symm | exact decide_eq_decide.mpr (by omega)), rfl⟩

/-- The first of the greatest. -/
def fgTo (xs : List Int) (n : Nat) : Nat := (List.range n).foldl (fun m i => if xs.getD m 0 < xs.getD i 0 then i else m) 0
def fg (xs : List Int) : Nat := fgTo xs xs.length
theorem fgTo_next (xs : List Int) (n : Nat) : fgTo xs (n + 1) = if xs.getD (fgTo xs n) 0 < xs.getD n 0 then n else fgTo xs n := by
  unfold fgTo; rw [List.range_succ, List.foldl_append]; rfl
theorem fgTo_lt (xs : List Int) (n : Nat) (h : 0 < n) : fgTo xs n < n := by
  induction n with
  | zero => omega
  | succ n ih =>
    rw [fgTo_next]
    split
    · omega
    · by_cases h0 : n = 0
      · subst h0; show (0 : Nat) < 1; omega
      · have := ih (by omega); omega
theorem fg_lt (xs : List Int) (h : 0 < xs.length) : fg xs < xs.length := fgTo_lt xs _ h

theorem firstGreatest_any (b off cap : Nat) (xs : List Int) (hn : xs.length ≤ 100000000) (hp : 0 < xs.length) (w : World) (hi : IntsAt w b off xs) :
    Calls Try.prog 56 #[.slice (some ⟨b, off, none⟩) xs.length cap] w fun e w' => e = .returned (.int .i64 (fg xs : Int)) ∧ w' = w := by
  have HI : Hid (IntsAt w b off xs) := hi
  clear hi
  go_enter Try.func56, Try.ntmps56
  go_wp2
  go_loop [3, 4, 5, 8] (fun m x y i => ∃ k : Nat, k ≤ xs.length ∧ i = .int .i64 (k : Int) ∧ m = .int .i64 (fgTo xs k : Int)) (fun _ _ _ i => xs.length - (intOf i).toNat)
  case atStart => exact ⟨0, Nat.zero_le _, rfl, rfl⟩
  case round =>
    obtain ⟨k, hk, rfl, rfl⟩ := hrel
    by_cases hlt : k < xs.length
    · have hlt' : (k : Int) < (xs.length : Int) := by omega
      have hm : fgTo xs k < xs.length := by
        by_cases h0 : k = 0
        · subst h0; exact hp
        · have := fgTo_lt xs k (by omega); omega
      have hm' : (fgTo xs k : Int) < (xs.length : Int) := by omega
      have c0 := HI.out k hlt
      have c1 := HI.out (fgTo xs k) hm
      have HN : Hid (fgTo xs (k + 1) = if xs.getD (fgTo xs k) 0 < xs.getD k 0 then k else fgTo xs k) := fgTo_next xs k
      generalize xs.getD k 0 = p at *
      generalize xs.getD (fgTo xs k) 0 = q at *
      generalize fgTo xs k = m at *
      by_cases hpq : q < p
      · have HM : Hid (fgTo xs (k + 1) = k) := by show _ = _; rw [HN.out, if_pos hpq]
        go_wp2
        go_round
        case rel => exact ⟨k + 1, by omega, by go_num, by rw [HM.out]⟩
        case measure => simp [intOf]; omega
      · have HM : Hid (fgTo xs (k + 1) = m) := by show _ = _; rw [HN.out, if_neg hpq]
        go_wp2
        go_round
        case rel => exact ⟨k + 1, by omega, by go_num, by rw [HM.out]⟩
        case measure => simp [intOf]; omega
    · have e : k = xs.length := by omega
      have HE : Hid (fgTo xs k = fg xs) := by show _ = _; rw [e]; rfl
      clear e
      go_wp2
      go_ret
      exact ⟨ret_int (by rw [HE.out]), rfl⟩
end Go.Proofs.Ytaledfdhiimhdaa
