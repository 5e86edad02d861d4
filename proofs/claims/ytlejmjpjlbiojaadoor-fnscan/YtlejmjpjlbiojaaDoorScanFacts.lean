/-
  What a right code is read as, that it is made again of it, and that one digit changed is found.
-/
import Derived.Test.YtlejmjpjlbiojaaDoorDrawScan
import Derived.Test.YtlejmjpjlbiojaaDoorScanSame
import Derived.Test.YtlejmjpjlbiojaaDoorMakeMath
namespace Go.Proofs.YtlejmjpjlbiojaaDoor
open Go.ChangeShapes Go.WideShapes Go.ChangeAt Go.RowKit
set_option linter.unusedVariables false

theorem dec_back : ∀ (k : Nat) (m : List UInt8), m.length = k → allD m = true → ∀ u0, 1 ≤ u0 → Lib.decDigits (u0 * 10 ^ k + (num m).toNat) = Lib.decDigits u0 ++ m := by
  intro k
  induction k with
  | zero => intro m h _ u0 _; have : m = [] := List.length_eq_zero_iff.mp h; subst this; simp [num]
  | succ k ih =>
    intro m h ha u0 hu
    obtain ⟨m', c, rfl⟩ : ∃ m' c, m = m' ++ [c] := ⟨m.dropLast, m.getLast (by intro e; subst e; simp at h), (List.dropLast_concat_getLast _).symm⟩
    rw [allD_snoc] at ha
    simp only [Bool.and_eq_true] at ha
    have hl : m'.length = k := by simpa using h
    have hc := (dg_iff c).mp ha.2
    have hb := num_bound k m' hl ha.1
    have e : u0 * 10 ^ (k + 1) + (num (m' ++ [c])).toNat = 10 * (u0 * 10 ^ k + (num m').toNat) + (c.toNat - 48) := by
      rw [num_snoc, Nat.pow_succ]
      have : u0 * (10 ^ k * 10) = 10 * (u0 * 10 ^ k) := by rw [← Nat.mul_assoc, Nat.mul_comm]
      omega
    have hp : 1 ≤ 10 ^ k := Nat.pow_pos (by omega)
    have hge : 1 ≤ u0 * 10 ^ k := Nat.le_trans hp (Nat.le_mul_of_pos_left _ (by omega))
    rw [e]
    generalize hU : u0 * 10 ^ k + (num m').toNat = U at *
    rw [Lib.decDigits, dif_neg (by omega)]
    have e1 : (10 * U + (c.toNat - 48)) / 10 = U := by omega
    have e2 : (10 * U + (c.toNat - 48)) % 10 = c.toNat - 48 := by omega
    rw [e1, e2, ← hU, ih m' hl ha.1 u0 hu, List.append_assoc]
    congr 2
    have : UInt8.ofNat (48 + (c.toNat - 48)) = c := u8_ext (by rw [u8_toNat _ (by omega)]; omega)
    rw [this]

theorem cs_set (l : List UInt8) (j : Nat) (c : UInt8) (hj : j < l.length) : ∀ k, k ≤ l.length → cs (l.set j c) k = cs l k + (if l.length - 1 - j < k then tms (l.length - 1 - j) * ((c.toNat : Int) - ((l.getD j 0).toNat : Int)) else 0) := by
  intro k
  induction k with
  | zero => intro _; simp [cs]
  | succ k ih =>
    intro hk
    have e : ∀ m : List UInt8, cs m (k + 1) = cs m k + tms k * (((m.getD (m.length - 1 - k) 0).toNat : Int) - 48) := fun m => rfl
    rw [e, e, ih (by omega), List.length_set]
    by_cases h : l.length - 1 - k = j
    · have h1 : (l.set j c).getD (l.length - 1 - k) 0 = c := by rw [h]; simp [List.getD_eq_getElem?_getD, hj]
      have h2 : l.length - 1 - j = k := by omega
      rw [h1, h2, if_neg (by omega), if_pos (by omega), h]
      have : ∀ t a b : Int, t * (a - 48) = t * (b - 48) + t * (a - b) := fun t a b => by rw [← Int.mul_add]; congr 1; omega
      rw [this (tms k) (c.toNat : Int) ((l.getD j 0).toNat : Int)]; omega
    · have h1 : (l.set j c).getD (l.length - 1 - k) 0 = l.getD (l.length - 1 - k) 0 := by simp [List.getD_eq_getElem?_getD, Ne.symm h]
      rw [h1]
      by_cases h3 : l.length - 1 - j < k
      · rw [if_pos h3, if_pos (by omega)]; omega
      · rw [if_neg h3, if_neg (by omega)]; omega

theorem cd_set (l : List UInt8) (j : Nat) (c : UInt8) (hj : j < l.length) (hc : dg c = true) (hd : dg (l.getD j 0) = true) (hne : c ≠ l.getD j 0) : cd (l.set j c) ≠ cd l := by
  have h := cs_set l j c hj l.length (Nat.le_refl _)
  rw [if_pos (by omega)] at h
  have h1 := (dg_iff _).mp hc
  have h2 := (dg_iff _).mp hd
  have h3 : (c.toNat : Int) ≠ ((l.getD j 0).toNat : Int) := fun e => hne (u8_ext (by omega))
  unfold cd
  rw [List.length_set, h]
  generalize cs l l.length = s at *
  rcases tms_ways (l.length - 1 - j) with ⟨t, _⟩ | ⟨t, _⟩
  · rw [t]; omega
  · rw [t]; omega

def Full (t : ByteArray) : Prop := ∃ k a v c, (∀ w, Calls Tryd.prog 6 #[.string t] w fun e w' => e = scanV k a v c ∧ Below w.heap.size w w') ∧ (∀ w, Calls Tryd.prog 7 #[.string t] w fun e w' => e = scanV k a v c ∧ Below w.heap.size w w') ∧
  (c = 0 → ∀ w, Tab w → Calls Tryd.prog 8 #[sv k a v] w fun e w' => e = .returned (.tuple #[.string t, .int .i64 0]) ∧ Below w.heap.size w w')

theorem readBad (s : ByteArray) (n : Nat) (hn : s.size = n + 1) (hn' : n = 7 ∨ n = 12) (hd : allD s.data.toList = true) (hq : (cd (s.data.toList.take n) != (((s[n]'(by omega)).toNat : Int) - 48)) = true) (w : World) :
    Calls Tryd.prog 6 #[.string s] w fun e w' => e = scanV 0 ⟨#[]⟩ 0 15 ∧ Below w.heap.size w w' := by
  rcases hn' with rfl | rfl
  · have hl : s.data.toList.length = 8 := by simpa using hn
    have hL13 : (List.replicate 5 (48 : UInt8) ++ s.data.toList).length = 13 := by simp [hl]
    have ht : (List.replicate 5 (48 : UInt8) ++ s.data.toList).take 12 = List.replicate 5 48 ++ s.data.toList.take 7 := by
      rw [List.take_append]; simp
    have hL12 : allD ((List.replicate 5 (48 : UInt8) ++ s.data.toList).take 12) = true := by
      rw [ht, allD_append, allD_take _ 7 hd]; decide
    have hc : (List.replicate 5 (48 : UInt8) ++ s.data.toList)[12]? = some (s[7]'(by omega)) := by
      rw [List.getElem?_append_right (by simp)]; simp
      rw [Array.getElem?_eq_getElem (show 7 < s.size by omega)]; rfl
    have hk := chk_iff _ hL13 _ hc
    rw [ht, cd_zeros, hq] at hk
    exact rsSum s _ (.inl (by omega)) hd (pad8 s hn) hL13 hL12 hk w
  · have hl : s.data.toList.length = 13 := by simpa using hn
    have hat : s.data.toList[12]? = some (s[12]'(by omega)) := by rw [List.getElem?_eq_getElem (by omega)]; rfl
    have hk := chk_iff _ hl _ hat
    rw [hq] at hk
    exact rsSum s _ (.inr (by omega)) hd (pad13 s hn) hl (allD_take _ 12 hd) hk w

theorem split13 (l : List UInt8) (c0 c1 : UInt8) (h : l.length = 13) (h0 : l[0]? = some c0) (h1 : l[1]? = some c1) : [c0, c1] ++ ((l.drop 2).take 5 ++ (l.drop 7).take 5) = l.take 12 := by
  match l, h with
  | [a0, a1, a2, a3, a4, a5, a6, a7, a8, a9, a10, a11, a12], _ =>
    simp at h0 h1; subst h0; subst h1; rfl

theorem back13 (s : ByteArray) (c1 : UInt8) (k : Int) (h : s.size = 13) (hd : allD s.data.toList = true) (h0 : s.data.toList[0]? = some (s[0]'(by omega))) (e0 : s[0]'(by omega) = 50) (e1 : s[1]'(by omega) = c1) (hq : (cd (s.data.toList.take 12) != (((s[12]'(by omega)).toNat : Int) - 48)) = false) (w : World) (tb : Tab w) :
    Calls Tryd.prog 27 #[.agg #[.int .u8 50, .int .u8 (c1.toNat : Int)], sv k (s.extract 2 7) (num ((s.data.toList.drop 7).take 5))] w fun e w' => e = .returned (.tuple #[.string s, .int .i64 0]) ∧ Below w.heap.size w w' := by
  have hl : s.data.toList.length = 13 := by simpa using h
  rw [e0] at h0
  have h1 : s.data.toList[1]? = some c1 := by rw [List.getElem?_eq_getElem (by omega), ← e1]; rfl
  have h12 : s.data.toList[12]'(by omega) = s[12]'(by omega) := rfl
  have hm : ((s.data.toList.drop 7).take 5).length = 5 := by simp; omega
  have hmd : allD ((s.data.toList.drop 7).take 5) = true := allD_take _ _ (allD_drop _ 7 hd)
  have hb := num_bound 5 _ hm hmd
  have e5 : (10 : Int) ^ 5 = 100000 := by decide
  rw [e5] at hb
  have hdec := dec_back 5 _ hm hmd 1 (by omega)
  have e6 : Lib.decDigits 1 = [49] := by rw [Lib.decDigits_one (by omega)]; rfl
  rw [e6] at hdec
  have hsp := split13 s.data.toList 50 c1 hl h0 h1
  generalize hv : num ((s.data.toList.drop 7).take 5) = v at *
  have hu : 100000 + v = ((1 * 10 ^ 5 + v.toNat : Nat) : Int) := by omega
  generalize hU : 1 * 10 ^ 5 + v.toNat = u at *
  have hd6 : (decS u).size = 6 := by show (Lib.decDigits u).toArray.size = 6; rw [List.size_toArray, hdec, List.length_append, hm]; rfl
  have hDl : ((decS u).extract 1 (decS u).size).data.toList = (s.data.toList.drop 7).take 5 := by
    rw [Lib.extract_data, hd6]
    show ((Lib.decDigits u).toArray.toList.drop 1).take (6 - 1) = _
    rw [hdec]
    show ((s.data.toList.drop 7).take 5).take 5 = _
    exact List.take_of_length_le (by omega)
  have hDs : ((decS u).extract 1 (decS u).size).size = 5 := by simp; omega
  generalize hD : (decS u).extract 1 (decS u).size = D at *
  have hal : (s.extract 2 7).data.toList = (s.data.toList.drop 2).take 5 := by rw [Lib.extract_data]
  have has : (s.extract 2 7).size = 5 := by simp; omega
  have had : allD (s.extract 2 7).data.toList = true := by rw [hal]; exact allD_take _ _ (allD_drop _ 2 hd)
  generalize s.extract 2 7 = a at *
  have hml : (⟨#[50, c1]⟩ ++ (a ++ D) : ByteArray).data.toList = s.data.toList.take 12 := by
    rw [← hsp, ← hal, ← hDl]; simp [ByteArray.data_append]
  have hq' : cd (s.data.toList.take 12) = ((s[12]'(by omega)).toNat : Int) - 48 := by simpa using hq
  have hr := cd_range (s.data.toList.take 12)
  obtain ⟨x, hx⟩ : ∃ x : Nat, cd (⟨#[50, c1]⟩ ++ (a ++ D) : ByteArray).data.toList = (x : Int) := ⟨(cd (⟨#[50, c1]⟩ ++ (a ++ D) : ByteArray).data.toList).toNat, by rw [hml]; omega⟩
  have hx9 : x < 10 := by rw [hml] at hx; omega
  have hsz : (⟨#[50, c1]⟩ : ByteArray).size = 2 := rfl
  have hs1 : (⟨#[48]⟩ : ByteArray).size = 1 := rfl
  have h13 : (⟨#[50, c1]⟩ ++ a ++ D ++ ⟨#[48]⟩ : ByteArray).size = 13 := by simp only [ByteArray.size_append, hsz, hs1]; omega
  have hl13 : (pad (⟨#[50, c1]⟩ ++ a ++ D ++ ⟨#[48]⟩)).length = 13 := by rw [pad13 _ h13, Array.length_toList]; exact h13
  have hL12 : allD ((pad (⟨#[50, c1]⟩ ++ a ++ D ++ ⟨#[48]⟩)).take 12) = true := by
    rw [pad13 _ h13]
    have e1 : (⟨#[50, c1]⟩ ++ a ++ D ++ ⟨#[48]⟩ : ByteArray).data.toList = (⟨#[50, c1]⟩ ++ (a ++ D) : ByteArray).data.toList ++ [48] := by simp [ByteArray.data_append]
    rw [e1]; refine allD_take _ _ ?_
    rw [allD_append, hml, allD_take _ 12 hd]; decide
  have ht := make_text c1 a D has hDs x hx hx9
  have hfin : ⟨#[50, c1]⟩ ++ (a ++ D) ++ decS x = s := by
    refine bytes_inj ?_
    have e2 : (decS x).data.toList = [UInt8.ofNat (48 + x)] := by unfold decS; rw [Lib.decDigits_one hx9]
    have e3 : (⟨#[50, c1]⟩ ++ (a ++ D) ++ decS x : ByteArray).data.toList = (⟨#[50, c1]⟩ ++ (a ++ D) : ByteArray).data.toList ++ (decS x).data.toList := by
      rw [ByteArray.data_append, Array.toList_append]
    rw [e3, e2, hml]
    have e4 : UInt8.ofNat (48 + x) = s[12]'(by omega) := u8_ext (by rw [u8_toNat _ (by omega)]; rw [hml] at hx; omega)
    rw [e4, ← h12, ← List.take_succ_eq_append_getElem, List.take_of_length_le (by omega)]
  have hg := mvGood c1 k a D v u _ (by omega) had (by omega) (by omega) hu hD hd6 rfl h13 hl13 hL12 w tb
  rw [ht, hfin] at hg
  exact hg

theorem full13 (s : ByteArray) (h : s.size = 13) (hd : allD s.data.toList = true) (hq : (cd (s.data.toList.take 12) != (((s[12]'(by omega)).toNat : Int) - 48)) = false) : Full s := by
  have hl : s.data.toList.length = 13 := by simpa using h
  have h' : (s.size : Int) = 13 := by omega
  have hL12 : allD (s.data.toList.take 12) = true := allD_take _ 12 hd
  have hat : ∀ k (hk : k < 13), s.data.toList[k]? = some (s[k]'(by omega)) := fun k hk => by
    rw [List.getElem?_eq_getElem (by omega)]; rfl
  have hk := chk_iff _ hl _ (hat 12 (by omega))
  rw [hq] at hk
  cases h50 : ((((s[0]'(by omega)).toNat : Int)) != 50)
  · have e0 : (s[0]'(by omega)).toNat = 50 := by simp at h50; omega
    have e0' : s[0]'(by omega) = 50 := u8_ext e0
    have hV : ∀ k : Int, ∀ w, Calls Tryd.prog 22 #[.agg (rowL s.data.toList).toArray, .int .i64 k] w fun e w' => e = .returned (.agg #[.int .i64 k, .string (s.extract 2 7), .int .i64 (num ((s.data.toList.drop 7).take 5))]) ∧ Below w.heap.size w w' := fun k w => by
      have := valued_any s.data.toList hl hd k w
      rwa [extract_27] at this
    cases h48 : ((((s[1]'(by omega)).toNat : Int)) == 48)
    · have n48 : ¬ s[1]'(by omega) = 48 := fun e => by rw [e] at h48; exact absurd h48 (by decide)
      have hg := fun w => eql_heads (s[0]'(by omega)) (s[1]'(by omega)) 50 48 false (decide_eq_false (by simp [n48])) w
      cases h49 : ((((s[1]'(by omega)).toNat : Int)) == 49)
      · have n49 : ¬ s[1]'(by omega) = 49 := fun e => by rw [e] at h49; exact absurd h49 (by decide)
        have hp := fun w => eql_heads (s[0]'(by omega)) (s[1]'(by omega)) 50 49 false (decide_eq_false (by simp [n49])) w
        exact ⟨0, ⟨#[]⟩, 0, 13, fun w => rsKind s _ h' hd (pad13 s h) hl hL12 hk _ _ (hat 0 (by omega)) (hat 1 (by omega)) h50 hg hp w, fun w => ssKind s h' hd _ _ rfl rfl hq _ _ rfl rfl h50 h48 h49 w, fun h => absurd h (by decide)⟩
      · have e1 : s[1]'(by omega) = 49 := u8_ext (show _ = 49 by simp at h49; omega)
        have hp := fun w => eql_heads (s[0]'(by omega)) (s[1]'(by omega)) 50 49 true (decide_eq_true (by rw [e0', e1])) w
        exact ⟨3, _, _, 0, fun w => rsPrice s _ h' hd (pad13 s h) hl hL12 hk _ _ (hat 0 (by omega)) (hat 1 (by omega)) h50 _ _ (hV 3) hg hp w, fun w => ssPrice s h' hd _ _ rfl rfl hq _ _ rfl rfl h50 h48 h49 w, fun _ w tb => implPrice _ _ _ _ (fun w tb => back13 s 49 3 h hd (hat 0 (by omega)) e0' e1 hq w tb) w tb⟩
    · have e1 : s[1]'(by omega) = 48 := u8_ext (show _ = 48 by simp at h48; omega)
      have hg := fun w => eql_heads (s[0]'(by omega)) (s[1]'(by omega)) 50 48 true (decide_eq_true (by rw [e0', e1])) w
      exact ⟨2, _, _, 0, fun w => rsGrams s _ h' hd (pad13 s h) hl hL12 hk _ _ (hat 0 (by omega)) (hat 1 (by omega)) h50 _ _ (hV 2) hg w, fun w => ssGrams s h' hd _ _ rfl rfl hq _ _ rfl rfl h50 h48 w, fun _ w tb => implGrams _ _ _ _ (fun w tb => back13 s 48 2 h hd (hat 0 (by omega)) e0' e1 hq w tb) w tb⟩
  · exact ⟨1, s, 0, 0, fun w => rsUnit s _ (.inr h') hd (pad13 s h) hl hL12 hk _ _ (hat 0 (by omega)) (hat 1 (by omega)) h50 s ((0 : Nat) : Int) (by omega) (fun w => by
      have := text_of s.data.toList 0 13 hl (by omega) (by omega) w
      rwa [bytes_of s _ (by rw [List.drop_zero, List.take_of_length_le (by omega)])] at this) w, fun w => ssUnit13 s h' hd _ _ rfl rfl hq _ rfl h50 w, fun _ w tb => implUnit_any _ _ _ _ (fun w => makeUnit_good 1 s 0 (fun w => rsUnit s _ (.inr h') hd (pad13 s h) hl hL12 hk _ _ (hat 0 (by omega)) (hat 1 (by omega)) h50 s ((0 : Nat) : Int) (by omega) (fun w => by
      have := text_of s.data.toList 0 13 hl (by omega) (by omega) w
      rwa [bytes_of s _ (by rw [List.drop_zero, List.take_of_length_le (by omega)])] at this) w) w) w⟩


theorem full8 (s : ByteArray) (h : s.size = 8) (hd : allD s.data.toList = true) (hq : (cd (s.data.toList.take 7) != (((s[7]'(by omega)).toNat : Int) - 48)) = false) : Full s := by
  have hl : s.data.toList.length = 8 := by simpa using h
  have h' : (s.size : Int) = 8 := by omega
  have hL13 : (List.replicate 5 (48 : UInt8) ++ s.data.toList).length = 13 := by simp [hl]
  have ht : (List.replicate 5 (48 : UInt8) ++ s.data.toList).take 12 = List.replicate 5 48 ++ s.data.toList.take 7 := by
    rw [List.take_append]; simp
  have hL12 : allD ((List.replicate 5 (48 : UInt8) ++ s.data.toList).take 12) = true := by
    rw [ht, allD_append, allD_take _ 7 hd]; decide
  have hc : (List.replicate 5 (48 : UInt8) ++ s.data.toList)[12]? = some (s[7]'(by omega)) := by
    rw [List.getElem?_append_right (by simp)]; simp
    rw [Array.getElem?_eq_getElem (show 7 < s.size by omega)]; rfl
  have hk := chk_iff _ hL13 _ hc
  rw [ht, cd_zeros, hq] at hk
  have hI : ∀ w, Calls Tryd.prog 6 #[.string s] w fun e w' => e = scanV 1 s 0 0 ∧ Below w.heap.size w w' := fun w => rsUnit s _ (.inl h') hd (pad8 s h) hL13 hL12 hk 48 48 rfl rfl rfl s ((5 : Nat) : Int) (by omega) (fun w => by
      have := text_of (List.replicate 5 (48 : UInt8) ++ s.data.toList) 5 13 hL13 (by omega) (by omega) w
      rwa [bytes_of s _ (by rw [List.drop_left' (by simp), List.take_of_length_le (by omega)])] at this) w
  exact ⟨1, s, 0, 0, hI, fun w => ssUnit8 s h' hd _ _ rfl rfl hq w, fun _ w tb => implUnit_any _ _ _ _ (fun w => makeUnit_good 1 s 0 hI w) w⟩

/-- What is known of a right code t: n digits and their check digit. -/
theorem right_parts (t : ByteArray) (h : Right t) : ∃ n : Nat, ∃ hn : t.size = n + 1, (n = 7 ∨ n = 12) ∧ allD t.data.toList = true ∧ cd (t.data.toList.take n) = ((t[n]'(by omega)).toNat : Int) - 48 := by
  obtain ⟨M, x, hM, hd, hx, hx9, rfl⟩ := h
  have e2 : (decS x).data.toList = [UInt8.ofNat (48 + x)] := by unfold decS; rw [Lib.decDigits_one hx9]
  have e3 : (M ++ decS x).data.toList = M.data.toList ++ [UInt8.ofNat (48 + x)] := by rw [ByteArray.data_append, Array.toList_append, e2]
  have hs : (decS x).size = 1 := (dec_digit x hx9).1
  have hlM : M.data.toList.length = M.size := by simp
  refine ⟨M.size, by rw [ByteArray.size_append, hs], hM, allD_app _ _ hd (dec_digit x hx9).2, ?_⟩
  have e4 : (M ++ decS x)[M.size]'(by rw [ByteArray.size_append, hs]; omega) = UInt8.ofNat (48 + x) := by
    rw [← getD_byte (M ++ decS x) M.size (by rw [ByteArray.size_append, hs]; omega), e3, List.getD_eq_getElem?_getD, List.getElem?_append_right (by omega), hlM, Nat.sub_self]; rfl
  rw [e4, u8_toNat _ (by omega), e3, List.take_left' hlM, hx]; omega

theorem full_any (t : ByteArray) (h : Right t) : Full t := by
  obtain ⟨n, hn, hn', hd, hq⟩ := right_parts t h
  rcases hn' with rfl | rfl
  · exact full8 t hn hd (by simpa using hq)
  · exact full13 t hn hd (by simpa using hq)

/-- One digit changed. -/
theorem changed (t : ByteArray) (n : Nat) (hn : t.size = n + 1) (hd : allD t.data.toList = true) (hq : cd (t.data.toList.take n) = ((t[n]'(by omega)).toNat : Int) - 48) (j : Nat) (hj : j < t.size) (c : UInt8) (hc : dg c = true) (hne : c ≠ t[j])
    (s : ByteArray) (hs : s.data.toList = t.data.toList.set j c) (hsn : s.size = n + 1) : allD s.data.toList = true ∧ (cd (s.data.toList.take n) != (((s[n]'(by omega)).toNat : Int) - 48)) = true := by
  have hl : t.data.toList.length = n + 1 := by simpa using hn
  have hdj : dg t[j] = true := allD_at t j hj hd
  have hgj : t.data.toList.getD j 0 = t[j] := getD_byte t j hj
  constructor
  · rw [hs]; unfold allD at *; rw [List.all_eq_true] at *
    intro x hx
    rcases List.mem_or_eq_of_mem_set hx with h | h
    · exact hd x h
    · rw [h]; exact hc
  · rw [bne_iff_ne]
    have hsn' : (s[n]'(by omega)) = (t.data.toList.set j c)[n]'(by simp; omega) := by
      have : s.data.toList[n]'(by rw [hs]; simp; omega) = (t.data.toList.set j c)[n]'(by simp; omega) := by simp only [hs]
      exact this
    rw [hs, hsn']
    by_cases h : j = n
    · subst h
      have e1 : (t.data.toList.set j c)[j]'(by simp; omega) = c := by simp
      have e2 : (t.data.toList.set j c).take j = t.data.toList.take j := by rw [List.take_set, List.set_eq_of_length_le (by simp; omega)]
      rw [e1, e2, hq]
      have : t[j].toNat ≠ c.toNat := fun e => hne (u8_ext e.symm)
      omega
    · have e1 : (t.data.toList.set j c)[n]'(by simp; omega) = t[n]'(by omega) := by rw [List.getElem_set_ne h]; rfl
      have hjn : j < n := by omega
      rw [e1, List.take_set, ← hq]
      have hgj' : (t.data.toList.take n).getD j 0 = t[j] := by rw [← hgj]; simp [List.getD_eq_getElem?_getD, hjn]
      exact cd_set (t.data.toList.take n) j c (by simp; omega) hc (by rw [hgj']; exact hdj) (by rw [hgj']; exact hne)

theorem scanOf_any (a : Option Addr) (len cap : Nat) (zs : List Int) (w : World) (hr : RowB w.heap.size w a len zs) :
    Calls Tryd.prog 5 #[.slice a len cap] w fun e w' => ∃ t, e = .returned (.string t) ∧ Right t ∧ Below w.heap.size w w' := by
  have hs := source_any a len cap w hr.1
  go_enter Tryd.func5, Tryd.ntmps5
  go_wp2_with fail
  go_at_call 14
  refine hs.mono ?_
  rintro e w1 ⟨s', rfl, hsrc, hb1⟩
  have hsc := scan_any w.heap.size w.heap.size a len cap zs s' w1 (Nat.le_refl _) hsrc (hr.below hb1)
  clear hs hsrc hr
  go_wp2_with fail
  go_at_call 15
  refine hsc.mono ?_
  rintro e w2 ⟨t, rfl, hR, hb2⟩
  have HR : Hid (Right t) := hR
  clear hR hsc
  go_wp2
  go_ret
  exact ⟨t, rfl, HR.out, hb1.trans hb2⟩
end Go.Proofs.YtlejmjpjlbiojaaDoor
