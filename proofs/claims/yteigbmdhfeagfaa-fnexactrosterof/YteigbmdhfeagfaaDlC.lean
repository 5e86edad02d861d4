/-
  What asks whether a text is one of a list, and whether texts are names, none twice (the specification's l00Has; the library's slices.Contains; the program's differentNames), for every list of texts.
-/
import Derived.Test.YteigbmdhfeagfaaNameAny
import Derived.Test.YteigbmdhfeagfaaStrA
namespace Go.Proofs.Yteigbmdhfeagfaa
open Go.ChangeShapes Go.WideShapes Go.ChangeAt Go.RowKit
set_option linter.unusedVariables false

def hasB (ss : List ByteArray) (t : ByteArray) : Bool := ss.any fun s => s.toList == t.toList
theorem beq_comm' (a b : ByteArray) : (a.toList == b.toList) = (b.toList == a.toList) := by
  rw [Bool.eq_iff_iff]; simp only [beq_iff_eq]; exact eq_comm
theorem hasB_yes {ss : List ByteArray} {t : ByteArray} {k : Nat} (h : k < ss.length) (hp : ((ss.getD k ByteArray.empty).toList == t.toList) = true) : hasB ss t = true := by
  have e : ss.getD k ByteArray.empty = ss[k] := by simp [List.getD_eq_getElem?_getD, h]
  rw [e] at hp
  exact List.any_eq_true.mpr ⟨ss[k], List.getElem_mem _, hp⟩
theorem hasB_next {ss : List ByteArray} {t : ByteArray} {k : Nat} (h : k < ss.length) (h0 : hasB (ss.take k) t = false) (hp : ((ss.getD k ByteArray.empty).toList == t.toList) = false) : hasB (ss.take (k + 1)) t = false := by
  have e : ss.getD k ByteArray.empty = ss[k] := by simp [List.getD_eq_getElem?_getD, h]
  rw [e] at hp
  unfold hasB at *
  rw [List.take_succ_eq_append_getElem h, List.any_append, h0]
  simpa using hp


set_option maxHeartbeats 1000000 in
theorem has_any (a : Option Addr) (cap : Nat) (ss : List ByteArray) (hl : ss.length ≤ 100000000) (t : ByteArray) (w : World) (hr : ReadsS w.heap.size w a ss) :
    Calls Try.prog 65 #[.slice a ss.length cap, .string t] w fun e w' => e = .returned (.bool (hasB ss t)) ∧ w' = w := by
  have HR : Hid (ReadsS w.heap.size w a ss) := hr
  clear hr
  go_enter Try.func65, Try.ntmps65
  go_wp2
  go_loop [5] (fun c => ∃ k : Nat, k ≤ ss.length ∧ c = .int .i64 (k : Int) ∧ hasB (ss.take k) t = false) (fun c => ss.length - (intOf c).toNat)
  case atStart => exact ⟨0, Nat.zero_le _, rfl, rfl⟩
  case round =>
    obtain ⟨k, hk, rfl, hf⟩ := hrel
    have HF : Hid (hasB (ss.take k) t = false) := hf
    clear hf
    by_cases hlt : k < ss.length
    · have hlt' : (k : Int) < (ss.length : Int) := by omega
      rcases HR.out with h | ⟨b0, o0, ha, hB0, ia⟩
      · rw [h] at hlt; simp at hlt
      have c0 := ia k hlt
      have HY : Hid (((ss.getD k ByteArray.empty).toList == t.toList) = true → hasB ss t = true) := hasB_yes hlt
      have HN : Hid (((ss.getD k ByteArray.empty).toList == t.toList) = false → hasB (ss.take (k + 1)) t = false) := hasB_next hlt HF.out
      rw [ha]
      clear ia
      generalize ss.getD k ByteArray.empty = s at *
      cases hq : (s.toList == t.toList)
      · have H1 : Hid _ := HN.out hq
        go_wp2
        go_round
        case rel => exact ⟨k + 1, by omega, by go_num, H1.out⟩
        case measure => simp [intOf]; omega
      · have H1 : Hid _ := HY.out hq
        go_wp2
        go_ret
        exact ⟨ret_bool H1.out.symm, rfl⟩
    · have hle : (ss.length : Int) ≤ (k : Int) := by omega
      have HE : Hid (hasB ss t = false) := by have := HF.out; rwa [List.take_of_length_le (by omega)] at this
      go_wp2
      go_ret
      exact ⟨ret_bool HE.out.symm, rfl⟩



set_option maxHeartbeats 1000000 in
theorem strIndex_any (a : Option Addr) (cap : Nat) (ss : List ByteArray) (hl : ss.length ≤ 100000000) (t : ByteArray) (w : World) (hr : ReadsS w.heap.size w a ss) :
    Calls Try.prog 75 #[.slice a ss.length cap, .string t] w fun e w' => (∃ x : Int, e = .returned (.int .i64 x) ∧ decide (0 ≤ x) = hasB ss t) ∧ Below w.heap.size w w' := by
  have HR : Hid (ReadsS w.heap.size w a ss) := hr
  clear hr
  go_enter Try.func75, Try.ntmps75
  go_wp2
  go_loopw [5, 8] (fun _ c wr => ∃ k : Nat, k ≤ ss.length ∧ c = .int .i64 (k : Int) ∧ hasB (ss.take k) t = false ∧ Below w.heap.size w wr) (fun _ c _ => ss.length - (intOf c).toNat)
  case atStart => exact ⟨0, Nat.zero_le _, rfl, rfl, Below.refl _ _⟩
  case round =>
    obtain ⟨k, hk, rfl, hf, hb⟩ := hrel
    have HF : Hid (hasB (ss.take k) t = false) := hf
    have HB : Hid (Below w.heap.size w wr) := hb
    clear hf hb
    by_cases hlt : k < ss.length
    · have hlt' : (k : Int) < (ss.length : Int) := by omega
      rcases HR.out with h | ⟨b0, o0, ha, hB0, ia⟩
      · rw [h] at hlt; simp at hlt
      have c0 := (ia.below HB.out hB0) k hlt
      have HY : Hid ((t.toList == (ss.getD k ByteArray.empty).toList) = true → hasB ss t = true) := fun h => hasB_yes hlt ((beq_comm' _ _).trans h)
      have HN : Hid ((t.toList == (ss.getD k ByteArray.empty).toList) = false → hasB (ss.take (k + 1)) t = false) := fun h => hasB_next hlt HF.out ((beq_comm' _ _).trans h)
      rw [ha]
      clear ia
      generalize ss.getD k ByteArray.empty = s at *
      cases hq : (t.toList == s.toList)
      · have H1 : Hid _ := HN.out hq
        go_wp2
        go_roundw
        case rel => exact ⟨k + 1, by omega, by go_num, H1.out, HB.out⟩
        case measure => simp [intOf]; omega
      · have H1 : Hid _ := HY.out hq
        go_wp2
        go_ret
        exact ⟨⟨(k : Int), rfl, by rw [H1.out]; exact decide_eq_true (by omega)⟩, HB.out⟩
    · have hle : (ss.length : Int) ≤ (k : Int) := by omega
      have HE : Hid (hasB ss t = false) := by have := HF.out; rwa [List.take_of_length_le (by omega)] at this
      go_wp2
      go_ret
      exact ⟨⟨-1, rfl, by rw [HE.out]; rfl⟩, HB.out⟩
theorem strContains_any (a : Option Addr) (cap : Nat) (ss : List ByteArray) (hl : ss.length ≤ 100000000) (t : ByteArray) (w : World) (hr : ReadsS w.heap.size w a ss) :
    Calls Try.prog 60 #[.slice a ss.length cap, .string t] w fun e w' => e = .returned (.bool (hasB ss t)) ∧ Below w.heap.size w w' := by
  have hi := strIndex_any a cap ss hl t w hr
  clear hr
  go_enter Try.func60, Try.ntmps60
  go_wp2_with (go_at_call 75; refine hi.mono ?_; rintro e w2 ⟨⟨x, rfl, hx⟩, hb2⟩; have HX : Hid (decide (0 ≤ x) = hasB ss t) := hx; clear hx)
  go_ret
  exact ⟨ret_bool HX.out, hb2⟩


/-- Are the first k texts names, none of them twice? -/
def diffN (ss : List ByteArray) : Nat → Bool
  | 0 => true
  | k + 1 => diffN ss k && (nameB (ss.getD k ByteArray.empty) && !hasB (ss.take k) (ss.getD k ByteArray.empty))
def diffB (ss : List ByteArray) : Bool := diffN ss ss.length
theorem diffN_le (ss : List ByteArray) : ∀ k j, k ≤ j → diffN ss k = false → diffN ss j = false := fun k j h hf => by
  induction j with
  | zero => obtain rfl : k = 0 := by omega
            exact hf
  | succ j ih =>
    by_cases e : k = j + 1
    · subst e; exact hf
    · unfold diffN; rw [ih (by omega)]; rfl
theorem diffN_stop {ss : List ByteArray} {k : Nat} (h : k < ss.length) (hq : nameB (ss.getD k ByteArray.empty) = false ∨ hasB (ss.take k) (ss.getD k ByteArray.empty) = true) : diffB ss = false := by
  refine diffN_le ss (k + 1) ss.length h ?_
  unfold diffN
  rcases hq with h | h <;> rw [h] <;> simp
theorem diffN_next {ss : List ByteArray} {k : Nat} (h0 : diffN ss k = true) (h1 : nameB (ss.getD k ByteArray.empty) = true) (h2 : hasB (ss.take k) (ss.getD k ByteArray.empty) = false) : diffN ss (k + 1) = true := by
  unfold diffN; rw [h0, h1, h2]; rfl


set_option maxHeartbeats 1000000 in
theorem diff_any (a : Option Addr) (cap : Nat) (ss : List ByteArray) (hl : ss.length ≤ 100000000) (hcap : ss.length ≤ cap) (hp : ∀ s ∈ ss, s.size ≤ 2000000) (w : World) (hr : ReadsS w.heap.size w a ss) :
    Calls Try.prog 35 #[.slice a ss.length cap] w fun e w' => e = .returned (.bool (diffB ss)) ∧ Below w.heap.size w w' := by
  have HR : Hid (ReadsS w.heap.size w a ss) := hr
  have HP : Hid (∀ s ∈ ss, s.size ≤ 2000000) := hp
  clear hr hp
  go_enter Try.func35, Try.ntmps35
  go_wp2
  go_loopw [3, 4, 7] (fun _ _ c wr => ∃ k : Nat, k ≤ ss.length ∧ c = .int .i64 (k : Int) ∧ diffN ss k = true ∧ Below w.heap.size w wr) (fun _ _ c _ => ss.length - (intOf c).toNat)
  case atStart => exact ⟨0, Nat.zero_le _, rfl, rfl, Below.refl _ _⟩
  case round =>
    obtain ⟨k, hk, rfl, hf, hb⟩ := hrel
    have HF : Hid (diffN ss k = true) := hf
    have HB : Hid (Below w.heap.size w wr) := hb
    clear hf hb
    by_cases hlt : k < ss.length
    · have hlt' : (k : Int) < (ss.length : Int) := by omega
      have HC : Hid (∀ W, Below w.heap.size w W → Calls Try.prog 60 #[.slice a k cap, .string (ss.getD k ByteArray.empty)] W fun e w' => e = .returned (.bool (hasB (ss.take k) (ss.getD k ByteArray.empty))) ∧ Below W.heap.size W w') := fun W hb => by
        have := strContains_any a cap (ss.take k) (by rw [List.length_take]; omega) (ss.getD k ByteArray.empty) W ((HR.out.later hb).take k)
        rwa [List.length_take, Nat.min_eq_left hk] at this
      rcases HR.out with h | ⟨b0, o0, ha, hB0, ia⟩
      · rw [h] at hlt; simp at hlt
      have c0 := (ia.below HB.out hB0) k hlt
      have hW : (ss.getD k ByteArray.empty).size ≤ 2000000 := getS HP.out hlt
      have HNm : Hid (∀ W, Calls Try.prog 59 #[.string (ss.getD k ByteArray.empty)] W fun e w' => e = .returned (.bool (nameB (ss.getD k ByteArray.empty))) ∧ Below W.heap.size W w') := fun W => implName_any _ (by unfold maxLen; omega) W
      have HX : Hid (nameB (ss.getD k ByteArray.empty) = false ∨ hasB (ss.take k) (ss.getD k ByteArray.empty) = true → diffB ss = false) := diffN_stop hlt
      have HN : Hid (nameB (ss.getD k ByteArray.empty) = true → hasB (ss.take k) (ss.getD k ByteArray.empty) = false → diffN ss (k + 1) = true) := diffN_next HF.out
      have hcapi : ¬ (cap : Int) < (k : Int) := by omega
      rw [ha] at HC ⊢
      clear ia
      generalize hasB (ss.take k) (ss.getD k ByteArray.empty) = hb at *
      generalize nameB (ss.getD k ByteArray.empty) = nb at *
      generalize ss.getD k ByteArray.empty = s at *
      cases nb
      · have H1 : Hid _ := HX.out (.inl rfl)
        go_wp2_with (first | (go_at_call 59; refine (HNm.out _).mono ?_; rintro e w2 ⟨rfl, hb2⟩; have HB2 : Hid (Below w.heap.size w w2) := chain HB.out hb2; clear hb2))
        go_ret
        exact ⟨ret_bool H1.out.symm, HB2.out⟩
      · cases hb
        · have H1 : Hid _ := HN.out rfl rfl
          go_wp2_with (first | (go_at_call 59; refine (HNm.out _).mono ?_; rintro e w2 ⟨rfl, hb2⟩; have HB2 : Hid (Below w.heap.size w w2) := chain HB.out hb2; clear hb2) | (go_at_call 60; refine (HC.out _ HB2.out).mono ?_; rintro e w3 ⟨rfl, hb3⟩; have HB3 : Hid (Below w.heap.size w w3) := chain HB2.out hb3; clear hb3))
          go_roundw
          case rel => exact ⟨k + 1, by omega, by go_num, H1.out, HB3.out⟩
          case measure => simp [intOf]; omega
        · have H1 : Hid _ := HX.out (.inr rfl)
          go_wp2_with (first | (go_at_call 59; refine (HNm.out _).mono ?_; rintro e w2 ⟨rfl, hb2⟩; have HB2 : Hid (Below w.heap.size w w2) := chain HB.out hb2; clear hb2) | (go_at_call 60; refine (HC.out _ HB2.out).mono ?_; rintro e w3 ⟨rfl, hb3⟩; have HB3 : Hid (Below w.heap.size w w3) := chain HB2.out hb3; clear hb3))
          go_ret
          exact ⟨ret_bool H1.out.symm, HB3.out⟩
    · have hle : (ss.length : Int) ≤ (k : Int) := by omega
      have HE : Hid (diffB ss = true) := by have := HF.out; rwa [show k = ss.length by omega] at this
      go_wp2
      go_ret
      exact ⟨ret_bool HE.out.symm, HB.out⟩

end Go.Proofs.Yteigbmdhfeagfaa
