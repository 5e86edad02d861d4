/-
  Texts of this claim laid together: ScanSame, TlR, Valued, Rate, ItA.
-/
import Derived.Test.YtabpkfhbnendjaaGreatM10
import Derived.Test.YtabpkfhbnendjaaGreatM4
import Derived.Test.YtabpkfhbnendjaaGreatM1
import Derived.Deep.Slices
/-
  For every text the program's ReadScan and the specification's answer the same.
-/
namespace Go.Proofs.YtabpkfhbnendjaaGreat
open Go.ChangeShapes Go.WideShapes Go.ChangeAt Go.RowKit
open Go.ChangeMaps (open_string shut_string)
set_option linter.unusedVariables false

theorem cs_tail (l l' : List UInt8) (k : Nat) (h : ∀ j, j < k → l.getD (l.length - 1 - j) 0 = l'.getD (l'.length - 1 - j) 0) : cs l k = cs l' k := by
  induction k with
  | zero => rfl
  | succ k ih =>
    show cs l k + _ * _ = cs l' k + _ * _
    rw [ih (fun j hj => h j (by omega)), h k (by omega)]
theorem cs_zeros (l : List UInt8) (m : Nat) : ∀ k, l.length ≤ k → k ≤ m + l.length → cs (List.replicate m 48 ++ l) k = cs l l.length := by
  intro k
  induction k with
  | zero => intro h _; have : l = [] := List.length_eq_zero_iff.mp (by omega); subst this; rfl
  | succ k ih =>
    intro h h'
    by_cases hk : l.length = k + 1
    · rw [hk]
      refine cs_tail _ _ _ fun j hj => ?_
      simp only [List.getD_eq_getElem?_getD, List.length_append, List.length_replicate]
      rw [List.getElem?_append_right (by simp; omega)]
      congr 2; simp; omega
    · show cs (List.replicate m 48 ++ l) k + _ * _ = _
      rw [ih (by omega) (by omega)]
      have : (List.replicate m (48 : UInt8) ++ l).getD ((List.replicate m (48 : UInt8) ++ l).length - 1 - k) 0 = 48 := by
        simp only [List.getD_eq_getElem?_getD, List.length_append, List.length_replicate]
        rw [List.getElem?_append_left (by simp; omega), List.getElem?_replicate_of_lt (by omega)]; rfl
      rw [this]
      have : ((48 : UInt8).toNat : Int) - 48 = 0 := by decide
      rw [this]; omega
theorem cd_zeros (l : List UInt8) (m : Nat) : cd (List.replicate m 48 ++ l) = cd l := by
  unfold cd; rw [cs_zeros l m _ (by simp) (by simp)]

theorem chk_iff (L : List UInt8) (h : L.length = 13) (c : UInt8) (hc : L[12]? = some c) : decide (L = chk L) = !(cd (L.take 12) != (c.toNat : Int) - 48) := by
  have hr := cd_range (L.take 12)
  have e : L[12]'(by omega) = c := by rw [List.getElem?_eq_getElem (by omega)] at hc; exact Option.some.inj hc
  unfold chk
  generalize cd (L.take 12) = x at *
  have hu := u8_toNat (48 + x.toNat) (by omega)
  rw [Bool.eq_iff_iff, decide_eq_true_iff]
  simp only [Bool.not_eq_true', bne_eq_false_iff_eq]
  constructor
  · intro h1
    have h2 : (L.set 12 (UInt8.ofNat (48 + x.toNat)))[12]? = some (UInt8.ofNat (48 + x.toNat)) := by rw [List.getElem?_set_self (by omega)]
    rw [← h1, hc] at h2
    have h3 := Option.some.inj h2
    rw [h3, hu]; omega
  · intro h1
    have h2 : UInt8.ofNat (48 + x.toNat) = c := u8_ext (by rw [hu]; omega)
    rw [h2, ← e, List.set_getElem_self]

theorem bytes_of (s : ByteArray) (l : List UInt8) (h : l = s.data.toList) : (⟨l.toArray⟩ : ByteArray) = s := by subst h; cases s; simp
theorem extract_27 (s : ByteArray) : (⟨((s.data.toList.drop 2).take 5).toArray⟩ : ByteArray) = s.extract 2 7 :=
  bytes_of _ _ (by rw [Lib.extract_data])

def Same (s : ByteArray) : Prop := ∃ k a v c, (∀ w, Calls Tryz.prog 54 #[.string s] w fun e w' => e = scanV k a v c ∧ Below w.heap.size w w') ∧ ∀ w, Calls Tryz.prog 51 #[.string s] w fun e w' => e = scanV k a v c ∧ Below w.heap.size w w'

theorem pad8 (s : ByteArray) (h : s.size = 8) : pad s = List.replicate 5 48 ++ s.data.toList := by
  unfold pad padB; rw [if_pos h]; simp [ByteArray.data_append]
theorem pad13 (s : ByteArray) (h : s.size = 13) : pad s = s.data.toList := by
  unfold pad padB; rw [if_neg (by omega)]; simp [ByteArray.data_append]
theorem allD_append (a b : List UInt8) : allD (a ++ b) = (allD a && allD b) := by unfold allD; simp

theorem same8 (s : ByteArray) (h : s.size = 8) (hd : allD s.data.toList = true) : Same s := by
  have hl : s.data.toList.length = 8 := by simpa using h
  have h' : (s.size : Int) = 8 := by omega
  have hL13 : (List.replicate 5 (48 : UInt8) ++ s.data.toList).length = 13 := by simp [hl]
  have ht : (List.replicate 5 (48 : UInt8) ++ s.data.toList).take 12 = List.replicate 5 48 ++ s.data.toList.take 7 := by
    rw [List.take_append]; simp
  have hL12 : allD ((List.replicate 5 (48 : UInt8) ++ s.data.toList).take 12) = true := by
    rw [ht, allD_append, allD_take _ 7 hd]; decide
  have hc : (List.replicate 5 (48 : UInt8) ++ s.data.toList)[12]? = some (s[7]'(by omega)) := by
    rw [List.getElem?_append_right (by simp)]; simp
    rw [Array.getElem?_eq_getElem (show 7 < s.size by omega)]; rfl
  have hk := chk_iff _ hL13 _ hc
  rw [ht, cd_zeros] at hk
  cases hq : (cd (s.data.toList.take 7) != (((s[7]'(by omega)).toNat : Int) - 48))
  · rw [hq] at hk
    exact ⟨1, s, 0, 0, fun w => rsUnit s _ (.inl h') hd (pad8 s h) hL13 hL12 hk 48 48 rfl rfl rfl s ((5 : Nat) : Int) (by omega) (fun w => by
      have := text_of (List.replicate 5 (48 : UInt8) ++ s.data.toList) 5 13 hL13 (by omega) (by omega) w
      rwa [bytes_of s _ (by rw [List.drop_left' (by simp), List.take_of_length_le (by omega)])] at this) w, fun w => ssUnit8 s h' hd _ _ rfl rfl hq w⟩
  · rw [hq] at hk
    exact ⟨0, ⟨#[]⟩, 0, 15, fun w => rsSum s _ (.inl h') hd (pad8 s h) hL13 hL12 hk w, fun w => ssSum8 s h' hd _ _ rfl rfl hq w⟩

theorem eql_heads (c0 c1 d0 d1 : UInt8) (b : Bool) (hb : decide ([c0, c1] = [d0, d1]) = b) (w : World) : (binOp BinOp.eql 121 (.agg #[.int .u8 (c0.toNat : Int), .int .u8 (c1.toNat : Int)]) (.agg #[.int .u8 (d0.toNat : Int), .int .u8 (d1.toNat : Int)])).run Tryz.prog w = .ok (.bool b) w := by
  rw [← hb]; exact run_eql_rows 121 2 [c0, c1] [d0, d1] Tryz.underlying121 rfl rfl w

theorem same13 (s : ByteArray) (h : s.size = 13) (hd : allD s.data.toList = true) : Same s := by
  have hl : s.data.toList.length = 13 := by simpa using h
  have h' : (s.size : Int) = 13 := by omega
  have hL12 : allD (s.data.toList.take 12) = true := allD_take _ 12 hd
  have hat : ∀ k (hk : k < 13), s.data.toList[k]? = some (s[k]'(by omega)) := fun k hk => by
    rw [List.getElem?_eq_getElem (by omega)]; rfl
  have hk := chk_iff _ hl _ (hat 12 (by omega))
  cases hq : (cd (s.data.toList.take 12) != (((s[12]'(by omega)).toNat : Int) - 48))
  · rw [hq] at hk
    cases h50 : ((((s[0]'(by omega)).toNat : Int)) != 50)
    · have e0 : (s[0]'(by omega)).toNat = 50 := by simp at h50; omega
      have e0' : s[0]'(by omega) = 50 := u8_ext e0
      have hV : ∀ k : Int, ∀ w, Calls Tryz.prog 66 #[.agg (rowL s.data.toList).toArray, .int .i64 k] w fun e w' => e = .returned (.agg #[.int .i64 k, .string (s.extract 2 7), .int .i64 (num ((s.data.toList.drop 7).take 5))]) ∧ Below w.heap.size w w' := fun k w => by
        have := valued_any s.data.toList hl hd k w
        rwa [extract_27] at this
      cases h48 : ((((s[1]'(by omega)).toNat : Int)) == 48)
      · have n48 : ¬ s[1]'(by omega) = 48 := fun e => by rw [e] at h48; exact absurd h48 (by decide)
        have hg := fun w => eql_heads (s[0]'(by omega)) (s[1]'(by omega)) 50 48 false (decide_eq_false (by simp [n48])) w
        cases h49 : ((((s[1]'(by omega)).toNat : Int)) == 49)
        · have n49 : ¬ s[1]'(by omega) = 49 := fun e => by rw [e] at h49; exact absurd h49 (by decide)
          have hp := fun w => eql_heads (s[0]'(by omega)) (s[1]'(by omega)) 50 49 false (decide_eq_false (by simp [n49])) w
          exact ⟨0, ⟨#[]⟩, 0, 13, fun w => rsKind s _ h' hd (pad13 s h) hl hL12 hk _ _ (hat 0 (by omega)) (hat 1 (by omega)) h50 hg hp w, fun w => ssKind s h' hd _ _ rfl rfl hq _ _ rfl rfl h50 h48 h49 w⟩
        · have e1 : s[1]'(by omega) = 49 := u8_ext (show _ = 49 by simp at h49; omega)
          have hp := fun w => eql_heads (s[0]'(by omega)) (s[1]'(by omega)) 50 49 true (decide_eq_true (by rw [e0', e1])) w
          exact ⟨3, _, _, 0, fun w => rsPrice s _ h' hd (pad13 s h) hl hL12 hk _ _ (hat 0 (by omega)) (hat 1 (by omega)) h50 _ _ (hV 3) hg hp w, fun w => ssPrice s h' hd _ _ rfl rfl hq _ _ rfl rfl h50 h48 h49 w⟩
      · have e1 : s[1]'(by omega) = 48 := u8_ext (show _ = 48 by simp at h48; omega)
        have hg := fun w => eql_heads (s[0]'(by omega)) (s[1]'(by omega)) 50 48 true (decide_eq_true (by rw [e0', e1])) w
        exact ⟨2, _, _, 0, fun w => rsGrams s _ h' hd (pad13 s h) hl hL12 hk _ _ (hat 0 (by omega)) (hat 1 (by omega)) h50 _ _ (hV 2) hg w, fun w => ssGrams s h' hd _ _ rfl rfl hq _ _ rfl rfl h50 h48 w⟩
    · exact ⟨1, s, 0, 0, fun w => rsUnit s _ (.inr h') hd (pad13 s h) hl hL12 hk _ _ (hat 0 (by omega)) (hat 1 (by omega)) h50 s ((0 : Nat) : Int) (by omega) (fun w => by
        have := text_of s.data.toList 0 13 hl (by omega) (by omega) w
        rwa [bytes_of s _ (by rw [List.drop_zero, List.take_of_length_le (by omega)])] at this) w, fun w => ssUnit13 s h' hd _ _ rfl rfl hq _ rfl h50 w⟩
  · rw [hq] at hk
    exact ⟨0, ⟨#[]⟩, 0, 15, fun w => rsSum s _ (.inr h') hd (pad13 s h) hl hL12 hk w, fun w => ssSum13 s h' hd _ _ rfl rfl hq w⟩

theorem same_any (s : ByteArray) : Same s := by
  by_cases hL : (65536 : Int) < (s.size : Int)
  · exact ⟨0, ⟨#[]⟩, 0, 2, rsLong s hL, ssLong s hL⟩
  · by_cases h8 : s.size = 8 ∨ s.size = 13
    · cases hd : allD s.data.toList
      · exact ⟨0, ⟨#[]⟩, 0, 4, rsSyntax s (by omega) (by omega) hd, ssSyntax s (by omega) hd⟩
      · rcases h8 with h | h
        · exact same8 s h hd
        · exact same13 s h hd
    · have n8 : ((s.size : Int) != 8) = true := by rw [bne_iff_ne]; omega
      have n13 : ((s.size : Int) != 13) = true := by rw [bne_iff_ne]; omega
      exact ⟨0, ⟨#[]⟩, 0, 4, rsOther s (by omega) n8 n13, ssOther s (by omega) n8 n13⟩

end Go.Proofs.YtabpkfhbnendjaaGreat

/-
  What ReadScan answers, the program's and the specification's, with the value's bounds; the answers of all texts as one function.
-/
namespace Go.Proofs.YtabpkfhbnendjaaGreat
open Go.ChangeShapes Go.WideShapes Go.ChangeAt Go.RowKit
set_option linter.unusedVariables false

def SameB (s : ByteArray) : Prop := ∃ k a v c, (∀ w, Calls Tryz.prog 54 #[.string s] w fun e w' => e = scanV k a v c ∧ Below w.heap.size w w') ∧ (∀ w, Calls Tryz.prog 51 #[.string s] w fun e w' => e = scanV k a v c ∧ Below w.heap.size w w') ∧ (0 ≤ v ∧ v ≤ 99999)
theorem num5 {l : List UInt8} (h : l.length = 13) (hd : allD l = true) : 0 ≤ num ((l.drop 7).take 5) ∧ num ((l.drop 7).take 5) ≤ 99999 := by
  have hd5 : allD ((l.drop 7).take 5) = true := by
    unfold allD at hd ⊢
    rw [List.all_eq_true] at hd ⊢
    exact fun x hx => hd x (List.mem_of_mem_drop (List.mem_of_mem_take hx))
  have := num_bound 5 ((l.drop 7).take 5) (by rw [List.length_take, List.length_drop]; omega) hd5
  omega
theorem sameB8 (s : ByteArray) (h : s.size = 8) (hd : allD s.data.toList = true) : SameB s := by
  have hl : s.data.toList.length = 8 := by simpa using h
  have h' : (s.size : Int) = 8 := by omega
  have hL13 : (List.replicate 5 (48 : UInt8) ++ s.data.toList).length = 13 := by simp [hl]
  have ht : (List.replicate 5 (48 : UInt8) ++ s.data.toList).take 12 = List.replicate 5 48 ++ s.data.toList.take 7 := by
    rw [List.take_append]; simp
  have hL12 : allD ((List.replicate 5 (48 : UInt8) ++ s.data.toList).take 12) = true := by
    rw [ht, allD_append, allD_take _ 7 hd]; decide
  have hc : (List.replicate 5 (48 : UInt8) ++ s.data.toList)[12]? = some (s[7]'(by omega)) := by
    rw [List.getElem?_append_right (by simp)]; simp
    rw [Array.getElem?_eq_getElem (show 7 < s.size by omega)]; rfl
  have hk := chk_iff _ hL13 _ hc
  rw [ht, cd_zeros] at hk
  cases hq : (cd (s.data.toList.take 7) != (((s[7]'(by omega)).toNat : Int) - 48))
  · rw [hq] at hk
    exact ⟨1, s, 0, 0, fun w => rsUnit s _ (.inl h') hd (pad8 s h) hL13 hL12 hk 48 48 rfl rfl rfl s ((5 : Nat) : Int) (by omega) (fun w => by
      have := text_of (List.replicate 5 (48 : UInt8) ++ s.data.toList) 5 13 hL13 (by omega) (by omega) w
      rwa [bytes_of s _ (by rw [List.drop_left' (by simp), List.take_of_length_le (by omega)])] at this) w, fun w => ssUnit8 s h' hd _ _ rfl rfl hq w, ⟨by decide, by decide⟩⟩
  · rw [hq] at hk
    exact ⟨0, ⟨#[]⟩, 0, 15, fun w => rsSum s _ (.inl h') hd (pad8 s h) hL13 hL12 hk w, fun w => ssSum8 s h' hd _ _ rfl rfl hq w, ⟨by decide, by decide⟩⟩

theorem sameB13 (s : ByteArray) (h : s.size = 13) (hd : allD s.data.toList = true) : SameB s := by
  have hl : s.data.toList.length = 13 := by simpa using h
  have h' : (s.size : Int) = 13 := by omega
  have hL12 : allD (s.data.toList.take 12) = true := allD_take _ 12 hd
  have hat : ∀ k (hk : k < 13), s.data.toList[k]? = some (s[k]'(by omega)) := fun k hk => by
    rw [List.getElem?_eq_getElem (by omega)]; rfl
  have hk := chk_iff _ hl _ (hat 12 (by omega))
  cases hq : (cd (s.data.toList.take 12) != (((s[12]'(by omega)).toNat : Int) - 48))
  · rw [hq] at hk
    cases h50 : ((((s[0]'(by omega)).toNat : Int)) != 50)
    · have e0 : (s[0]'(by omega)).toNat = 50 := by simp at h50; omega
      have e0' : s[0]'(by omega) = 50 := u8_ext e0
      have hV : ∀ k : Int, ∀ w, Calls Tryz.prog 66 #[.agg (rowL s.data.toList).toArray, .int .i64 k] w fun e w' => e = .returned (.agg #[.int .i64 k, .string (s.extract 2 7), .int .i64 (num ((s.data.toList.drop 7).take 5))]) ∧ Below w.heap.size w w' := fun k w => by
        have := valued_any s.data.toList hl hd k w
        rwa [extract_27] at this
      cases h48 : ((((s[1]'(by omega)).toNat : Int)) == 48)
      · have n48 : ¬ s[1]'(by omega) = 48 := fun e => by rw [e] at h48; exact absurd h48 (by decide)
        have hg := fun w => eql_heads (s[0]'(by omega)) (s[1]'(by omega)) 50 48 false (decide_eq_false (by simp [n48])) w
        cases h49 : ((((s[1]'(by omega)).toNat : Int)) == 49)
        · have n49 : ¬ s[1]'(by omega) = 49 := fun e => by rw [e] at h49; exact absurd h49 (by decide)
          have hp := fun w => eql_heads (s[0]'(by omega)) (s[1]'(by omega)) 50 49 false (decide_eq_false (by simp [n49])) w
          exact ⟨0, ⟨#[]⟩, 0, 13, fun w => rsKind s _ h' hd (pad13 s h) hl hL12 hk _ _ (hat 0 (by omega)) (hat 1 (by omega)) h50 hg hp w, fun w => ssKind s h' hd _ _ rfl rfl hq _ _ rfl rfl h50 h48 h49 w, ⟨by decide, by decide⟩⟩
        · have e1 : s[1]'(by omega) = 49 := u8_ext (show _ = 49 by simp at h49; omega)
          have hp := fun w => eql_heads (s[0]'(by omega)) (s[1]'(by omega)) 50 49 true (decide_eq_true (by rw [e0', e1])) w
          exact ⟨3, _, _, 0, fun w => rsPrice s _ h' hd (pad13 s h) hl hL12 hk _ _ (hat 0 (by omega)) (hat 1 (by omega)) h50 _ _ (hV 3) hg hp w, fun w => ssPrice s h' hd _ _ rfl rfl hq _ _ rfl rfl h50 h48 h49 w, num5 hl hd⟩
      · have e1 : s[1]'(by omega) = 48 := u8_ext (show _ = 48 by simp at h48; omega)
        have hg := fun w => eql_heads (s[0]'(by omega)) (s[1]'(by omega)) 50 48 true (decide_eq_true (by rw [e0', e1])) w
        exact ⟨2, _, _, 0, fun w => rsGrams s _ h' hd (pad13 s h) hl hL12 hk _ _ (hat 0 (by omega)) (hat 1 (by omega)) h50 _ _ (hV 2) hg w, fun w => ssGrams s h' hd _ _ rfl rfl hq _ _ rfl rfl h50 h48 w, num5 hl hd⟩
    · exact ⟨1, s, 0, 0, fun w => rsUnit s _ (.inr h') hd (pad13 s h) hl hL12 hk _ _ (hat 0 (by omega)) (hat 1 (by omega)) h50 s ((0 : Nat) : Int) (by omega) (fun w => by
        have := text_of s.data.toList 0 13 hl (by omega) (by omega) w
        rwa [bytes_of s _ (by rw [List.drop_zero, List.take_of_length_le (by omega)])] at this) w, fun w => ssUnit13 s h' hd _ _ rfl rfl hq _ rfl h50 w, ⟨by decide, by decide⟩⟩
  · rw [hq] at hk
    exact ⟨0, ⟨#[]⟩, 0, 15, fun w => rsSum s _ (.inr h') hd (pad13 s h) hl hL12 hk w, fun w => ssSum13 s h' hd _ _ rfl rfl hq w, ⟨by decide, by decide⟩⟩

theorem sameB_any (s : ByteArray) : SameB s := by
  by_cases hL : (65536 : Int) < (s.size : Int)
  · exact ⟨0, ⟨#[]⟩, 0, 2, rsLong s hL, ssLong s hL, ⟨by decide, by decide⟩⟩
  · by_cases h8 : s.size = 8 ∨ s.size = 13
    · cases hd : allD s.data.toList
      · exact ⟨0, ⟨#[]⟩, 0, 4, rsSyntax s (by omega) (by omega) hd, ssSyntax s (by omega) hd, ⟨by decide, by decide⟩⟩
      · rcases h8 with h | h
        · exact sameB8 s h hd
        · exact sameB13 s h hd
    · have n8 : ((s.size : Int) != 8) = true := by rw [bne_iff_ne]; omega
      have n13 : ((s.size : Int) != 13) = true := by rw [bne_iff_ne]; omega
      exact ⟨0, ⟨#[]⟩, 0, 4, rsOther s (by omega) n8 n13, ssOther s (by omega) n8 n13, ⟨by decide, by decide⟩⟩

def RsI (R : ByteArray → Int × ByteArray × Int × Int) : Prop := ∀ s w, Calls Tryz.prog 54 #[.string s] w fun e w' => e = scanV (R s).1 (R s).2.1 (R s).2.2.1 (R s).2.2.2 ∧ Below w.heap.size w w'
def RsS (R : ByteArray → Int × ByteArray × Int × Int) : Prop := ∀ s w, Calls Tryz.prog 51 #[.string s] w fun e w' => e = scanV (R s).1 (R s).2.1 (R s).2.2.1 (R s).2.2.2 ∧ Below w.heap.size w w'
theorem scans_both : ∃ R, RsI R ∧ RsS R ∧ ∀ s, 0 ≤ (R s).2.2.1 ∧ (R s).2.2.1 ≤ 99999 := by
  obtain ⟨f, hf⟩ := Classical.axiomOfChoice (r := fun (s : ByteArray) (p : Int × ByteArray × Int × Int) => (∀ w, Calls Tryz.prog 54 #[.string s] w fun e w' => e = scanV p.1 p.2.1 p.2.2.1 p.2.2.2 ∧ Below w.heap.size w w') ∧ (∀ w, Calls Tryz.prog 51 #[.string s] w fun e w' => e = scanV p.1 p.2.1 p.2.2.1 p.2.2.2 ∧ Below w.heap.size w w') ∧ (0 ≤ p.2.2.1 ∧ p.2.2.1 ≤ 99999)) (fun s => by
    obtain ⟨k, a, v, c, h1, h2, h3⟩ := sameB_any s
    exact ⟨(k, a, v, c), h1, h2, h3⟩)
  exact ⟨f, fun s => (hf s).1, fun s => (hf s).2.1, fun s => (hf s).2.2⟩
end Go.Proofs.YtabpkfhbnendjaaGreat

/-
  The program's valuedArticle: five digits.
-/
namespace Go.Proofs.YtabpkfhbnendjaaGreat
open Go.ChangeShapes Go.WideShapes Go.ChangeAt Go.RowKit
set_option linter.unusedVariables false

def five (s : ByteArray) : Bool := decide ((s.size : Int) = 5) && allD s.data.toList
theorem valuedArt_any (s : ByteArray) (w : World) :
    Calls Tryz.prog 53 #[.string s] w fun e w' => e = .returned (.bool (five s)) ∧ Below w.heap.size w w' := by
  have hA := fun w => allDigits_any s w
  by_cases h : (s.size : Int) = 5
  · have e : five s = allD s.data.toList := by unfold five; rw [decide_eq_true h, Bool.true_and]
    rw [e]
    go_enter Tryz.func53, Tryz.ntmps53
    go_wp2_with (go_at_call 60; refine (hA _).mono ?_; rintro e w1 ⟨rfl, hb1⟩)
    go_ret
    exact ⟨rfl, hb1⟩
  · have e : five s = false := by unfold five; rw [decide_eq_false h, Bool.false_and]
    have h' : ((s.size : Int) == 5) = false := by simpa using h
    rw [e]
    go_enter Tryz.func53, Tryz.ntmps53
    go_wp2
    go_ret
    exact ⟨rfl, Below.refl _ _⟩
end Go.Proofs.YtabpkfhbnendjaaGreat

/-
  Contracts of the small functions of chapter 2 that ask whether a rate is right (the specification's and the program's), each for every argument.
-/
namespace Go.Proofs.YtabpkfhbnendjaaGreat
open Go.ChangeShapes Go.WideShapes Go.ChangeAt Go.RowKit
set_option linter.unusedVariables false


theorem in_any (n lo hi : Int) (w : World) :
    Calls Tryz.prog 33 #[.int .i64 n, .int .i64 lo, .int .i64 hi] w fun e w' => e = .returned (.bool (inB n lo hi)) ∧ w' = w := by
  rcases in_ways n lo hi with h | ⟨h1, h2⟩ | ⟨h1, h2⟩
  all_goals
    go_enter Tryz.func33, Tryz.ntmps33
    go_wp2
    go_ret
    exact ⟨ret_bool (by first | exact (decide_eq_false (by omega)).symm | exact (decide_eq_true (by omega)).symm | exact decide_eq_decide.mpr (by omega) | (simp [inB]; omega)), rfl⟩





end Go.Proofs.YtabpkfhbnendjaaGreat

/-
  Lists of Item in memory.
-/
namespace Go.Proofs.YtabpkfhbnendjaaGreat
open Go.ChangeShapes Go.WideShapes Go.ChangeAt Go.RowKit Go.Deep
set_option linter.unusedVariables false

structure RIt where
  cd : ByteArray
  pr : Int
  dp : Int
  cl : Int
  ag : Int
def zIt : RIt := ⟨ByteArray.empty, 0, 0, 0, 0⟩
/-- One lies in block b from off on, 5 cells. -/
def ItAt (w : World) (b off : Nat) (r : RIt) : Prop :=
  w.cell? ⟨b, off, none⟩ = some (.string r.cd) ∧ w.cell? ⟨b, off + 1, none⟩ = some (.int .i64 r.pr) ∧ w.cell? ⟨b, off + 2, none⟩ = some (.int .i64 r.dp) ∧ w.cell? ⟨b, off + 3, none⟩ = some (.int .i64 r.cl) ∧ w.cell? ⟨b, off + 4, none⟩ = some (.int .i64 r.ag)
def ItsAt (w : World) (b off : Nat) (rs : List RIt) : Prop := ∀ i, i < rs.length → ItAt w b (off + i * 5) (rs.getD i zIt)
def ReadsIt (B : Nat) (w : World) (a : Option Addr) (rs : List RIt) : Prop := rs = [] ∨ ∃ b off, a = some ⟨b, off, none⟩ ∧ b < B ∧ ItsAt w b off rs
theorem ItAt.below {B : Nat} {w w' : World} {b off : Nat} {r : RIt} (h : ItAt w b off r) (hb : Below B w w') (hB : b < B) : ItAt w' b off r := by
  obtain ⟨h0, h1, h2, h3, h4⟩ := h
  exact ⟨(hb.cell (p := ⟨b, off, none⟩) hB).trans h0, (hb.cell (p := ⟨b, off + 1, none⟩) hB).trans h1, (hb.cell (p := ⟨b, off + 2, none⟩) hB).trans h2, (hb.cell (p := ⟨b, off + 3, none⟩) hB).trans h3, (hb.cell (p := ⟨b, off + 4, none⟩) hB).trans h4⟩
theorem ItsAt.below {B : Nat} {w w' : World} {b off : Nat} {rs : List RIt} (h : ItsAt w b off rs) (hb : Below B w w') (hB : b < B) : ItsAt w' b off rs := fun i hi => (h i hi).below hb hB
theorem ReadsIt.below {B : Nat} {w w' : World} {a : Option Addr} {rs : List RIt} (h : ReadsIt B w a rs) (hb : Below B w w') : ReadsIt B w' a rs := by
  rcases h with h | ⟨b, off, ha, hB, hi⟩
  · exact .inl h
  · exact .inr ⟨b, off, ha, hB, hi.below hb hB⟩
theorem ReadsIt.mono {B B' : Nat} {w : World} {a : Option Addr} {rs : List RIt} (h : ReadsIt B w a rs) (hb : B ≤ B') : ReadsIt B' w a rs := by
  rcases h with h | ⟨b, off, ha, hB, hi⟩
  · exact .inl h
  · exact .inr ⟨b, off, ha, by omega, hi⟩
theorem getIt {p : RIt → Prop} {rs : List RIt} (h : ∀ r ∈ rs, p r) {k : Nat} (hk : k < rs.length) : p (rs.getD k zIt) := by
  have e : rs.getD k zIt = rs[k] := by simp [List.getD_eq_getElem?_getD, hk]
  rw [e]; exact h _ (List.getElem_mem _)
theorem itNew (w : World) (r0 : ByteArray) (r1 : Int) (r2 : Int) (r3 : Int) (r4 : Int) : ItAt (w.alloc (Obj.cells #[.string r0, .int .i64 r1, .int .i64 r2, .int .i64 r3, .int .i64 r4] 60)) w.heap.size 0 ⟨r0, r1, r2, r3, r4⟩ :=
  ⟨by simp, by simp, by simp, by simp, by simp⟩
def ItOK (r : RIt) : Prop := r.cd.size ≤ 2000000
def ItWide (r : RIt) : Prop := r.cd.size ≤ maxLen ∧ (Lit.int .i64 r.pr).wf = true ∧ (Lit.int .i64 r.dp).wf = true ∧ (Lit.int .i64 r.cl).wf = true ∧ (Lit.int .i64 r.ag).wf = true
end Go.Proofs.YtabpkfhbnendjaaGreat
