/-
  Texts of this claim laid together: NameAny, DlC.
-/
import Derived.Test.YtkfmifbffgbiiaaM6
import Derived.Test.YtkfmifbffgbiiaaM4
/-
  Contracts of NameOK (the specification's and the program's), for every text.
-/
namespace Go.Proofs.Ytkfmifbffgbiiaa
open Go.ChangeShapes Go.WideShapes Go.ChangeAt Go.RowKit
open Go.ChangeMaps (open_string shut_string)
set_option linter.unusedVariables false

/-- Is a text a name? -/
def nameB (s : ByteArray) : Bool := decide (1 ≤ s.size ∧ s.size ≤ 40) && goes s s.size 0

theorem specName_any (s : ByteArray) (hs : s.size ≤ maxLen) (w : World) :
    Calls Try.prog 51 #[.string s] w fun e w' => e = .returned (.bool (nameB s)) ∧ w' = w := by
  have hs' := hs
  unfold maxLen at hs
  rcases in_ways (s.size : Int) 1 40 with h | ⟨h, h'⟩ | ⟨h, h'⟩
  · have e : nameB s = false := by unfold nameB; rw [decide_eq_false (by omega)]; rfl
    rw [e]
    have hz : (s.size : Int) ≤ 0 := by omega
    go_enter Try.func51, Try.ntmps51
    go_wp2
    go_ret
    exact ⟨rfl, rfl⟩
  · have e : nameB s = false := by unfold nameB; rw [decide_eq_false (by omega)]; rfl
    rw [e]
    have hz : (0 : Int) < (s.size : Int) := by omega
    go_enter Try.func51, Try.ntmps51
    go_wp2
    go_ret
    exact ⟨rfl, rfl⟩
  · have e : nameB s = goes s s.size 0 := by unfold nameB; rw [decide_eq_true (by omega)]; rfl
    rw [e]
    have hz : (0 : Int) < (s.size : Int) := by omega
    have hw := fun w => word_any s hs' w
    go_enter Try.func51, Try.ntmps51
    go_wp2_with (go_at_call 61; refine (hw _).mono ?_; rintro e w' ⟨k, rfl, hk, hi, rfl⟩)
    go_ret
    refine ⟨ret_bool ?_, rfl⟩
    rw [Bool.eq_iff_iff, ← hi]
    simp; omega

set_option maxHeartbeats 1000000 in
theorem implName_any (s : ByteArray) (hs : s.size ≤ maxLen) (w : World) :
    Calls Try.prog 45 #[.string s] w fun e w' => e = .returned (.bool (nameB s)) ∧ Below w.heap.size w w' := by
  have hs' := hs
  unfold maxLen at hs
  rcases in_ways (s.size : Int) 1 40 with h | ⟨h, h'⟩ | ⟨h, h'⟩
  · have e : nameB s = false := by unfold nameB; rw [decide_eq_false (by omega)]; rfl
    rw [e]
    go_enter Try.func45, Try.ntmps45
    go_wp2
    go_ret
    exact ⟨rfl, Below.refl _ _⟩
  · have e : nameB s = false := by unfold nameB; rw [decide_eq_false (by omega)]; rfl
    rw [e]
    go_enter Try.func45, Try.ntmps45
    go_wp2
    go_ret
    exact ⟨rfl, Below.refl _ _⟩
  · have e : nameB s = goes s s.size 0 := by unfold nameB; rw [decide_eq_true (by omega)]; rfl
    rw [e]
    go_enter Try.func45, Try.ntmps45
    go_wp2
    go_loopw [3, 4] (fun a r w' => ∃ pos f : Nat, w' = w.iter s pos ∧ pos ≤ s.size ∧ goes s f pos = goes s s.size 0 ∧ s.size ≤ pos + f) (fun _ _ w' => s.size - w'.iterPos w.heap.size)
    case atStart => exact ⟨0, s.size, rfl, Nat.zero_le _, rfl, by omega⟩
    case round =>
      obtain ⟨pos, f, rfl, hpos, hg, hf⟩ := hrel
      have HG : Hid (goes s f pos = goes s s.size 0) := hg
      clear hg
      by_cases hp : pos < s.size
      · obtain ⟨f, rfl⟩ : ∃ g, f = g + 1 := ⟨f - 1, by omega⟩
        have hnx : ∀ ty, (Instr.next (.pointer (some ⟨w.heap.size, 0, none⟩)) true ty).run Try.prog (w.iter s pos) = _ := fun ty => run_next_any w s pos ty hp
        have hle := stepA_le s pos hp
        have hst := goes_step s f pos hp
        have hsp := goes_stop s f pos hp
        have HW := dec_ways s pos hp
        generalize ((Utf8.decode s pos).1 : Int) = r at *
        generalize (Utf8.decode s pos).2 = wd at *
        rcases HW with ⟨h0, rfl, hr | ⟨hr, hp0, hd⟩⟩ | ⟨h0, hr, hd⟩
        · have H' : Hid (goes s f (pos + stepA s pos) = goes s s.size 0) := (hst h0).symm.trans HG.out
          have hpp : Hid (stepA s pos ≠ 0) := h0
          clear hst hsp h0
          go_wp2_with (first | (go_at_call 58; refine (letR_any _ _).mono ?_; rintro e w' ⟨rfl, rfl⟩) | (go_at_call 59; refine (digR_any _ _).mono ?_; rintro e w' ⟨rfl, rfl⟩))
          go_roundw
          case rel => exact ⟨pos + stepA s pos, f, rfl, hle, H'.out, by have := hpp.out; omega⟩
          case measure => simp; have := hpp.out; omega
        · have H' : Hid (goes s f (pos + stepA s pos) = goes s s.size 0) := (hst h0).symm.trans HG.out
          have hpp : Hid (stepA s pos ≠ 0) := h0
          have hp1 : ((pos : Int) == 0) = false := by simp; omega
          clear hst hsp h0
          go_wp2_with (first | (go_at_call 58; refine (letR_any _ _).mono ?_; rintro e w' ⟨rfl, rfl⟩) | (go_at_call 59; refine (digR_any _ _).mono ?_; rintro e w' ⟨rfl, rfl⟩))
          go_roundw
          case rel => exact ⟨pos + stepA s pos, f, rfl, hle, H'.out, by have := hpp.out; omega⟩
          case measure => simp; have := hpp.out; omega
        · have H' : Hid (false = goes s s.size 0) := (hsp h0).symm.trans HG.out
          clear hst hsp h0
          by_cases hz : pos = 0
          · subst hz
            go_wp2_with (first | (go_at_call 58; refine (letR_any _ _).mono ?_; rintro e w' ⟨rfl, rfl⟩) | (go_at_call 59; refine (digR_any _ _).mono ?_; rintro e w' ⟨rfl, rfl⟩))
            go_ret
            exact ⟨ret_bool H'.out, below_alloc _ _⟩
          · have hd' : digR r = false := by rcases hd with h | h; exact absurd h hz; exact h
            have hp1 : ((pos : Int) == 0) = false := by simp; omega
            clear hd
            go_wp2_with (first | (go_at_call 58; refine (letR_any _ _).mono ?_; rintro e w' ⟨rfl, rfl⟩) | (go_at_call 59; refine (digR_any _ _).mono ?_; rintro e w' ⟨rfl, rfl⟩))
            go_ret
            exact ⟨ret_bool H'.out, below_alloc _ _⟩
      · have hnx : ∀ ty, (Instr.next (.pointer (some ⟨w.heap.size, 0, none⟩)) true ty).run Try.prog (w.iter s pos) = _ := fun ty => run_next_end w s pos ty hp
        have H' : Hid (true = goes s s.size 0) := (goes_end s f pos (by omega)).symm.trans HG.out
        go_wp2
        go_ret
        exact ⟨ret_bool H'.out, below_alloc _ _⟩

end Go.Proofs.Ytkfmifbffgbiiaa

/-
  What asks whether a text is one of a list, and whether texts are names, none twice (the specification's l00Has; the library's slices.Contains; the program's differentNames), for every list of texts.
-/
namespace Go.Proofs.Ytkfmifbffgbiiaa
open Go.ChangeShapes Go.WideShapes Go.ChangeAt Go.RowKit
set_option linter.unusedVariables false

def hasB (ss : List ByteArray) (t : ByteArray) : Bool := ss.any fun s => s.toList == t.toList
theorem beq_comm' (a b : ByteArray) : (a.toList == b.toList) = (b.toList == a.toList) := by
  rw [Bool.eq_iff_iff]; simp only [beq_iff_eq]; exact eq_comm
theorem hasB_yes {ss : List ByteArray} {t : ByteArray} {k : Nat} (h : k < ss.length) (hp : ((ss.getD k ByteArray.empty).toList == t.toList) = true) : hasB ss t = true := by
  have e : ss.getD k ByteArray.empty = ss[k] := by simp [List.getD_eq_getElem?_getD, h]
  rw [e] at hp
  exact List.any_eq_true.mpr ⟨ss[k], List.getElem_mem _, hp⟩
theorem hasB_next {ss : List ByteArray} {t : ByteArray} {k : Nat} (h : k < ss.length) (h0 : hasB (ss.take k) t = false) (hp : ((ss.getD k ByteArray.empty).toList == t.toList) = false) : hasB (ss.take (k + 1)) t = false := by
  have e : ss.getD k ByteArray.empty = ss[k] := by simp [List.getD_eq_getElem?_getD, h]
  rw [e] at hp
  unfold hasB at *
  rw [List.take_succ_eq_append_getElem h, List.any_append, h0]
  simpa using hp


set_option maxHeartbeats 1000000 in
theorem has_any (a : Option Addr) (cap : Nat) (ss : List ByteArray) (hl : ss.length ≤ 100000000) (t : ByteArray) (w : World) (hr : ReadsS w.heap.size w a ss) :
    Calls Try.prog 26 #[.slice a ss.length cap, .string t] w fun e w' => e = .returned (.bool (hasB ss t)) ∧ w' = w := by
  have HR : Hid (ReadsS w.heap.size w a ss) := hr
  clear hr
  go_enter Try.func26, Try.ntmps26
  go_wp2
  go_loop [5] (fun c => ∃ k : Nat, k ≤ ss.length ∧ c = .int .i64 (k : Int) ∧ hasB (ss.take k) t = false) (fun c => ss.length - (intOf c).toNat)
  case atStart => exact ⟨0, Nat.zero_le _, rfl, rfl⟩
  case round =>
    obtain ⟨k, hk, rfl, hf⟩ := hrel
    have HF : Hid (hasB (ss.take k) t = false) := hf
    clear hf
    by_cases hlt : k < ss.length
    · have hlt' : (k : Int) < (ss.length : Int) := by omega
      rcases HR.out with h | ⟨b0, o0, ha, hB0, ia⟩
      · rw [h] at hlt; simp at hlt
      have c0 := ia k hlt
      have HY : Hid (((ss.getD k ByteArray.empty).toList == t.toList) = true → hasB ss t = true) := hasB_yes hlt
      have HN : Hid (((ss.getD k ByteArray.empty).toList == t.toList) = false → hasB (ss.take (k + 1)) t = false) := hasB_next hlt HF.out
      rw [ha]
      clear ia
      generalize ss.getD k ByteArray.empty = s at *
      cases hq : (s.toList == t.toList)
      · have H1 : Hid _ := HN.out hq
        go_wp2
        go_round
        case rel => exact ⟨k + 1, by omega, by go_num, H1.out⟩
        case measure => simp [intOf]; omega
      · have H1 : Hid _ := HY.out hq
        go_wp2
        go_ret
        exact ⟨ret_bool H1.out.symm, rfl⟩
    · have hle : (ss.length : Int) ≤ (k : Int) := by omega
      have HE : Hid (hasB ss t = false) := by have := HF.out; rwa [List.take_of_length_le (by omega)] at this
      go_wp2
      go_ret
      exact ⟨ret_bool HE.out.symm, rfl⟩



set_option maxHeartbeats 1000000 in
theorem strIndex_any (a : Option Addr) (cap : Nat) (ss : List ByteArray) (hl : ss.length ≤ 100000000) (t : ByteArray) (w : World) (hr : ReadsS w.heap.size w a ss) :
    Calls Try.prog 60 #[.slice a ss.length cap, .string t] w fun e w' => (∃ x : Int, e = .returned (.int .i64 x) ∧ decide (0 ≤ x) = hasB ss t) ∧ Below w.heap.size w w' := by
  have HR : Hid (ReadsS w.heap.size w a ss) := hr
  clear hr
  go_enter Try.func60, Try.ntmps60
  go_wp2
  go_loopw [5, 8] (fun _ c wr => ∃ k : Nat, k ≤ ss.length ∧ c = .int .i64 (k : Int) ∧ hasB (ss.take k) t = false ∧ Below w.heap.size w wr) (fun _ c _ => ss.length - (intOf c).toNat)
  case atStart => exact ⟨0, Nat.zero_le _, rfl, rfl, Below.refl _ _⟩
  case round =>
    obtain ⟨k, hk, rfl, hf, hb⟩ := hrel
    have HF : Hid (hasB (ss.take k) t = false) := hf
    have HB : Hid (Below w.heap.size w wr) := hb
    clear hf hb
    by_cases hlt : k < ss.length
    · have hlt' : (k : Int) < (ss.length : Int) := by omega
      rcases HR.out with h | ⟨b0, o0, ha, hB0, ia⟩
      · rw [h] at hlt; simp at hlt
      have c0 := (ia.below HB.out hB0) k hlt
      have HY : Hid ((t.toList == (ss.getD k ByteArray.empty).toList) = true → hasB ss t = true) := fun h => hasB_yes hlt ((beq_comm' _ _).trans h)
      have HN : Hid ((t.toList == (ss.getD k ByteArray.empty).toList) = false → hasB (ss.take (k + 1)) t = false) := fun h => hasB_next hlt HF.out ((beq_comm' _ _).trans h)
      rw [ha]
      clear ia
      generalize ss.getD k ByteArray.empty = s at *
      cases hq : (t.toList == s.toList)
      · have H1 : Hid _ := HN.out hq
        go_wp2
        go_roundw
        case rel => exact ⟨k + 1, by omega, by go_num, H1.out, HB.out⟩
        case measure => simp [intOf]; omega
      · have H1 : Hid _ := HY.out hq
        go_wp2
        go_ret
        exact ⟨⟨(k : Int), rfl, by rw [H1.out]; exact decide_eq_true (by omega)⟩, HB.out⟩
    · have hle : (ss.length : Int) ≤ (k : Int) := by omega
      have HE : Hid (hasB ss t = false) := by have := HF.out; rwa [List.take_of_length_le (by omega)] at this
      go_wp2
      go_ret
      exact ⟨⟨-1, rfl, by rw [HE.out]; rfl⟩, HB.out⟩
theorem strContains_any (a : Option Addr) (cap : Nat) (ss : List ByteArray) (hl : ss.length ≤ 100000000) (t : ByteArray) (w : World) (hr : ReadsS w.heap.size w a ss) :
    Calls Try.prog 46 #[.slice a ss.length cap, .string t] w fun e w' => e = .returned (.bool (hasB ss t)) ∧ Below w.heap.size w w' := by
  have hi := strIndex_any a cap ss hl t w hr
  clear hr
  go_enter Try.func46, Try.ntmps46
  go_wp2_with (go_at_call 60; refine hi.mono ?_; rintro e w2 ⟨⟨x, rfl, hx⟩, hb2⟩; have HX : Hid (decide (0 ≤ x) = hasB ss t) := hx; clear hx)
  go_ret
  exact ⟨ret_bool HX.out, hb2⟩


/-- Are the first k texts names, none of them twice? -/
def diffN (ss : List ByteArray) : Nat → Bool
  | 0 => true
  | k + 1 => diffN ss k && (nameB (ss.getD k ByteArray.empty) && !hasB (ss.take k) (ss.getD k ByteArray.empty))
def diffB (ss : List ByteArray) : Bool := diffN ss ss.length
theorem diffN_le (ss : List ByteArray) : ∀ k j, k ≤ j → diffN ss k = false → diffN ss j = false := fun k j h hf => by
  induction j with
  | zero => obtain rfl : k = 0 := by omega
            exact hf
  | succ j ih =>
    by_cases e : k = j + 1
    · subst e; exact hf
    · unfold diffN; rw [ih (by omega)]; rfl
theorem diffN_stop {ss : List ByteArray} {k : Nat} (h : k < ss.length) (hq : nameB (ss.getD k ByteArray.empty) = false ∨ hasB (ss.take k) (ss.getD k ByteArray.empty) = true) : diffB ss = false := by
  refine diffN_le ss (k + 1) ss.length h ?_
  unfold diffN
  rcases hq with h | h <;> rw [h] <;> simp
theorem diffN_next {ss : List ByteArray} {k : Nat} (h0 : diffN ss k = true) (h1 : nameB (ss.getD k ByteArray.empty) = true) (h2 : hasB (ss.take k) (ss.getD k ByteArray.empty) = false) : diffN ss (k + 1) = true := by
  unfold diffN; rw [h0, h1, h2]; rfl


set_option maxHeartbeats 1000000 in
theorem diff_any (a : Option Addr) (cap : Nat) (ss : List ByteArray) (hl : ss.length ≤ 100000000) (hcap : ss.length ≤ cap) (hp : ∀ s ∈ ss, s.size ≤ 2000000) (w : World) (hr : ReadsS w.heap.size w a ss) :
    Calls Try.prog 17 #[.slice a ss.length cap] w fun e w' => e = .returned (.bool (diffB ss)) ∧ Below w.heap.size w w' := by
  have HR : Hid (ReadsS w.heap.size w a ss) := hr
  have HP : Hid (∀ s ∈ ss, s.size ≤ 2000000) := hp
  clear hr hp
  go_enter Try.func17, Try.ntmps17
  go_wp2
  go_loopw [3, 4, 7] (fun _ _ c wr => ∃ k : Nat, k ≤ ss.length ∧ c = .int .i64 (k : Int) ∧ diffN ss k = true ∧ Below w.heap.size w wr) (fun _ _ c _ => ss.length - (intOf c).toNat)
  case atStart => exact ⟨0, Nat.zero_le _, rfl, rfl, Below.refl _ _⟩
  case round =>
    obtain ⟨k, hk, rfl, hf, hb⟩ := hrel
    have HF : Hid (diffN ss k = true) := hf
    have HB : Hid (Below w.heap.size w wr) := hb
    clear hf hb
    by_cases hlt : k < ss.length
    · have hlt' : (k : Int) < (ss.length : Int) := by omega
      have HC : Hid (∀ W, Below w.heap.size w W → Calls Try.prog 46 #[.slice a k cap, .string (ss.getD k ByteArray.empty)] W fun e w' => e = .returned (.bool (hasB (ss.take k) (ss.getD k ByteArray.empty))) ∧ Below W.heap.size W w') := fun W hb => by
        have := strContains_any a cap (ss.take k) (by rw [List.length_take]; omega) (ss.getD k ByteArray.empty) W ((HR.out.later hb).take k)
        rwa [List.length_take, Nat.min_eq_left hk] at this
      rcases HR.out with h | ⟨b0, o0, ha, hB0, ia⟩
      · rw [h] at hlt; simp at hlt
      have c0 := (ia.below HB.out hB0) k hlt
      have hW : (ss.getD k ByteArray.empty).size ≤ 2000000 := getS HP.out hlt
      have HNm : Hid (∀ W, Calls Try.prog 45 #[.string (ss.getD k ByteArray.empty)] W fun e w' => e = .returned (.bool (nameB (ss.getD k ByteArray.empty))) ∧ Below W.heap.size W w') := fun W => implName_any _ (by unfold maxLen; omega) W
      have HX : Hid (nameB (ss.getD k ByteArray.empty) = false ∨ hasB (ss.take k) (ss.getD k ByteArray.empty) = true → diffB ss = false) := diffN_stop hlt
      have HN : Hid (nameB (ss.getD k ByteArray.empty) = true → hasB (ss.take k) (ss.getD k ByteArray.empty) = false → diffN ss (k + 1) = true) := diffN_next HF.out
      have hcapi : ¬ (cap : Int) < (k : Int) := by omega
      rw [ha] at HC ⊢
      clear ia
      generalize hasB (ss.take k) (ss.getD k ByteArray.empty) = hb at *
      generalize nameB (ss.getD k ByteArray.empty) = nb at *
      generalize ss.getD k ByteArray.empty = s at *
      cases nb
      · have H1 : Hid _ := HX.out (.inl rfl)
        go_wp2_with (first | (go_at_call 45; refine (HNm.out _).mono ?_; rintro e w2 ⟨rfl, hb2⟩; have HB2 : Hid (Below w.heap.size w w2) := chain HB.out hb2; clear hb2))
        go_ret
        exact ⟨ret_bool H1.out.symm, HB2.out⟩
      · cases hb
        · have H1 : Hid _ := HN.out rfl rfl
          go_wp2_with (first | (go_at_call 45; refine (HNm.out _).mono ?_; rintro e w2 ⟨rfl, hb2⟩; have HB2 : Hid (Below w.heap.size w w2) := chain HB.out hb2; clear hb2) | (go_at_call 46; refine (HC.out _ HB2.out).mono ?_; rintro e w3 ⟨rfl, hb3⟩; have HB3 : Hid (Below w.heap.size w w3) := chain HB2.out hb3; clear hb3))
          go_roundw
          case rel => exact ⟨k + 1, by omega, by go_num, H1.out, HB3.out⟩
          case measure => simp [intOf]; omega
        · have H1 : Hid _ := HX.out (.inr rfl)
          go_wp2_with (first | (go_at_call 45; refine (HNm.out _).mono ?_; rintro e w2 ⟨rfl, hb2⟩; have HB2 : Hid (Below w.heap.size w w2) := chain HB.out hb2; clear hb2) | (go_at_call 46; refine (HC.out _ HB2.out).mono ?_; rintro e w3 ⟨rfl, hb3⟩; have HB3 : Hid (Below w.heap.size w w3) := chain HB2.out hb3; clear hb3))
          go_ret
          exact ⟨ret_bool H1.out.symm, HB3.out⟩
    · have hle : (ss.length : Int) ≤ (k : Int) := by omega
      have HE : Hid (diffB ss = true) := by have := HF.out; rwa [show k = ss.length by omega] at this
      go_wp2
      go_ret
      exact ⟨ret_bool HE.out.symm, HB.out⟩

end Go.Proofs.Ytkfmifbffgbiiaa
