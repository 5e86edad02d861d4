/-
  Contracts of NameOK (the specification's and the program's): for every text both answer the same.
-/
import Derived.Test.YteigbmdhfeagfaaName
namespace Go.Proofs.Yteigbmdhfeagfaa
open Go.ChangeShapes Go.WideShapes Go.ChangeAt Go.RowKit
set_option linter.unusedVariables false

/-- How many bytes the letter at i has, 0 if there is none. -/
def letA (s : ByteArray) (i : Nat) : Int :=
  if h : i + 1 < s.size then letV (s[i].toNat : Int) (s[i + 1].toNat : Int) true else if h : i < s.size then letV (s[i].toNat : Int) 0 false else 0
def digA (s : ByteArray) (i : Nat) : Bool := if h : i < s.size then digR (s[i].toNat : Int) else false
/-- How far a name goes on from i. -/
def stepA (s : ByteArray) (i : Nat) : Nat := if letA s i ≠ 0 then (letA s i).toNat else if 0 < i ∧ digA s i = true then 1 else 0
/-- Does a name that has come to i go on to the end? -/
def goes (s : ByteArray) : Nat → Nat → Bool
  | 0, i => decide (s.size ≤ i)
  | f + 1, i => if s.size ≤ i then true else if stepA s i = 0 then false else goes s f (i + stepA s i)

theorem letV_cases (c d : Int) (nx : Bool) : letV c d nx = 0 ∨ letV c d nx = 1 ∨ (letV c d nx = 2 ∧ nx = true) := by
  unfold letV
  split
  · exact .inr (.inl rfl)
  · split
    · rename_i h; exact .inr (.inr ⟨rfl, by simp at h; exact h.1⟩)
    · exact .inl rfl

theorem letA_cases (s : ByteArray) (i : Nat) : letA s i = 0 ∨ letA s i = 1 ∨ (letA s i = 2 ∧ i + 1 < s.size) := by
  unfold letA
  split
  · rename_i h
    rcases letV_cases (s[i].toNat : Int) (s[i + 1].toNat : Int) true with e | e | ⟨e, _⟩
    · exact .inl e
    · exact .inr (.inl e)
    · exact .inr (.inr ⟨e, h⟩)
  · split
    · rcases letV_cases (s[i].toNat : Int) 0 false with e | e | ⟨_, e⟩
      · exact .inl e
      · exact .inr (.inl e)
      · cases e
    · exact .inl rfl

theorem stepA_le (s : ByteArray) (i : Nat) (h : i < s.size) : i + stepA s i ≤ s.size := by
  unfold stepA
  rcases letA_cases s i with e | e | ⟨e, hn⟩
  · rw [e, if_neg (by simp)]; split <;> omega
  · rw [e]; simp; omega
  · rw [e]; simp; omega

theorem goes_step (s : ByteArray) (f i : Nat) (hi : i < s.size) (h : stepA s i ≠ 0) : goes s (f + 1) i = goes s f (i + stepA s i) := by
  show (if s.size ≤ i then true else if stepA s i = 0 then false else goes s f (i + stepA s i)) = _
  rw [if_neg (by omega), if_neg h]
theorem goes_stop (s : ByteArray) (f i : Nat) (hi : i < s.size) (h : stepA s i = 0) : goes s (f + 1) i = false := by
  show (if s.size ≤ i then true else if stepA s i = 0 then false else goes s f (i + stepA s i)) = _
  rw [if_neg (by omega), if_pos h]
theorem goes_end (s : ByteArray) (f i : Nat) (hi : s.size ≤ i) : goes s f i = true := by
  cases f with
  | zero => exact decide_eq_true hi
  | succ f => show (if s.size ≤ i then true else _) = _; rw [if_pos hi]

theorem letter_any (s : ByteArray) (i : Nat) (hi : i < s.size) (hs : s.size ≤ maxLen) (w : World) :
    Calls Try.prog 69 #[.string s, .int .i64 (i : Int)] w fun e w' => e = .returned (.int .i64 (letA s i)) ∧ w' = w := by
  unfold letA
  by_cases h : i + 1 < s.size
  · rw [dif_pos h]; exact letter_two s i _ _ h hs rfl rfl w
  · rw [dif_neg h, dif_pos hi]; exact letter_last s i _ 0 hi h hs rfl w

set_option maxHeartbeats 1000000 in
theorem word_any (s : ByteArray) (hs : s.size ≤ maxLen) (w : World) :
    Calls Try.prog 51 #[.string s, .int .i64 0] w fun e w' => ∃ k : Nat, e = .returned (.int .i64 (k : Int)) ∧ k ≤ s.size ∧ (k = s.size ↔ goes s s.size 0 = true) ∧ w' = w := by
  have hs' := hs
  unfold maxLen at hs
  go_enter Try.func51, Try.ntmps51
  go_wp2
  go_loop [5, 6] (fun i n => ∃ k f : Nat, k ≤ s.size ∧ i = .int .i64 (k : Int) ∧ goes s f k = goes s s.size 0 ∧ s.size ≤ k + f) (fun i _ => s.size - (intOf i).toNat)
  case atStart => exact ⟨0, s.size, Nat.zero_le _, rfl, rfl, by omega⟩
  case round =>
    obtain ⟨k, f, hk, rfl, hg, hf⟩ := hrel
    have HG : Hid (goes s f k = goes s s.size 0) := hg
    clear hg
    by_cases hlt : k < s.size
    · obtain ⟨f, rfl⟩ : ∃ g, f = g + 1 := ⟨f - 1, by omega⟩
      have hlet := fun w => letter_any s k hlt hs' w
      have hidx : ∀ w, (Instr.index 9 (.string s) (.int .i64 (k : Int))).run Try.prog w = .ok (.int .u8 (s[k].toNat : Int)) w := fun w => by simp [go_sem, hlt]
      have hdig : digA s k = digR (s[k].toNat : Int) := by unfold digA; rw [dif_pos hlt]
      have hc0 : 0 ≤ (s[k].toNat : Int) ∧ (s[k].toNat : Int) ≤ 255 := by have := s[k].toNat_lt; omega
      generalize (s[k].toNat : Int) = c at *
      have hle := stepA_le s k hlt
      rcases letA_cases s k with e0 | e1 | ⟨e2, hn⟩
      · rw [e0] at hlet
        by_cases h0 : k = 0
        · have hst : stepA s k = 0 := by unfold stepA; rw [e0, h0]; simp
          have HF := (goes_stop s f k hlt hst).symm.trans HG.out
          have H' : Hid (false = goes s s.size 0) := HF
          subst h0
          clear HF hdig hst hle e0
          go_wp2_with (go_at_call 69; refine (hlet _).mono ?_; rintro e w' ⟨rfl, rfl⟩)
          go_ret
          exact ⟨0, rfl, by omega, ⟨fun h => by omega, fun h => by rw [← H'.out] at h; cases h⟩, rfl⟩
        · have h0' : (0 : Int) < (k : Int) := by omega
          rcases in_ways c 48 57 with hc | ⟨hc, hc'⟩ | ⟨hc, hc'⟩
          · have hst : stepA s k = 0 := by unfold stepA; rw [e0, hdig, show digR c = false from decide_eq_false (by omega)]; simp
            have H' : Hid (false = goes s s.size 0) := (goes_stop s f k hlt hst).symm.trans HG.out
            clear hdig hst hle e0
            go_wp2_with (go_at_call 69; refine (hlet _).mono ?_; rintro e w' ⟨rfl, rfl⟩)
            go_ret
            exact ⟨k, rfl, by omega, ⟨fun h => by omega, fun h => by rw [← H'.out] at h; cases h⟩, rfl⟩
          · have hst : stepA s k = 0 := by unfold stepA; rw [e0, hdig, show digR c = false from decide_eq_false (by omega)]; simp
            have H' : Hid (false = goes s s.size 0) := (goes_stop s f k hlt hst).symm.trans HG.out
            clear hdig hst hle e0
            go_wp2_with (go_at_call 69; refine (hlet _).mono ?_; rintro e w' ⟨rfl, rfl⟩)
            go_ret
            exact ⟨k, rfl, by omega, ⟨fun h => by omega, fun h => by rw [← H'.out] at h; cases h⟩, rfl⟩
          · have hst : stepA s k = 1 := by unfold stepA; rw [e0, hdig, show digR c = true from decide_eq_true (by omega)]; simp; omega
            have H' : Hid (goes s f (k + 1) = goes s s.size 0) := by
              have := goes_step s f k hlt (by omega)
              rw [hst] at this; exact this.symm.trans HG.out
            clear hdig hst hle e0
            go_wp2_with (go_at_call 69; refine (hlet _).mono ?_; rintro e w' ⟨rfl, rfl⟩)
            go_round
            case rel => exact ⟨k + 1, f, by omega, by go_num, H'.out, by omega⟩
            case measure => simp [intOf]; omega
      · rw [e1] at hlet
        have hst : stepA s k = 1 := by unfold stepA; rw [e1]; simp
        have H' : Hid (goes s f (k + 1) = goes s s.size 0) := by
          have := goes_step s f k hlt (by omega)
          rw [hst] at this; exact this.symm.trans HG.out
        clear hdig hst hle e1
        go_wp2_with (go_at_call 69; refine (hlet _).mono ?_; rintro e w' ⟨rfl, rfl⟩)
        go_round
        case rel => exact ⟨k + 1, f, by omega, by go_num, H'.out, by omega⟩
        case measure => simp [intOf]; omega
      · rw [e2] at hlet
        have hst : stepA s k = 2 := by unfold stepA; rw [e2]; simp
        have H' : Hid (goes s f (k + 2) = goes s s.size 0) := by
          have := goes_step s f k hlt (by omega)
          rw [hst] at this; exact this.symm.trans HG.out
        clear hdig hst hle e2
        go_wp2_with (go_at_call 69; refine (hlet _).mono ?_; rintro e w' ⟨rfl, rfl⟩)
        go_round
        case rel => exact ⟨k + 2, f, by omega, by go_num, H'.out, by omega⟩
        case measure => simp [intOf]; omega
    · go_wp2
      go_ret
      exact ⟨k, rfl, hk, ⟨fun _ => by rw [← HG.out]; exact goes_end s f k (by omega), fun _ => by omega⟩, rfl⟩

theorem get_in (s : ByteArray) (k : Nat) (h : k < s.size) : s.get! k = s[k] := by
  simp [ByteArray.get!, getElem!_pos, h]
  rfl

theorem dec_two (s : ByteArray) (pos : Nat) (h : pos + 1 < s.size) (hc : 194 ≤ s[pos].toNat ∧ s[pos].toNat ≤ 223) (hd : 128 ≤ s[pos + 1].toNat ∧ s[pos + 1].toNat ≤ 191) :
    Utf8.decode s pos = ((s[pos].toNat - 192) * 64 + (s[pos + 1].toNat - 128), 2) := by
  have e0 : s.get! (pos + 0) = s[pos] := get_in s pos (by omega)
  have e1 : s.get! (pos + 1) = s[pos + 1] := get_in s (pos + 1) h
  simp only [Utf8.decode, e0, e1]
  rw [if_neg (by omega), if_pos (by simp [h]; omega), if_pos (by omega)]
  simp; omega

theorem dec_far (s : ByteArray) (pos : Nat) (h : pos < s.size) (hc : 128 ≤ s[pos].toNat) (hn : ∀ h' : pos + 1 < s.size, ¬ ((194 ≤ s[pos].toNat ∧ s[pos].toNat ≤ 223) ∧ 128 ≤ s[pos + 1].toNat ∧ s[pos + 1].toNat ≤ 191)) :
    2048 ≤ (Utf8.decode s pos).1 := by
  have e0 : s.get! (pos + 0) = s[pos] := get_in s pos h
  simp only [Utf8.decode, e0]
  rw [if_neg (by omega)]
  split
  · rename_i h2
    simp at h2
    obtain ⟨h3, h4, h5⟩ := h2
    have := hn h4
    rw [get_in s (pos + 1) h4] at h5 ⊢
    rw [if_neg (by omega)]
    simp [Utf8.runeError]
  · split
    · split
      · rename_i h6; simp at h6; simp; omega
      · simp [Utf8.runeError]
    · split
      · split
        · rename_i h6; simp at h6; simp; omega
        · simp [Utf8.runeError]
      · simp [Utf8.runeError]

/-- What the program's loop sees at a place is what the specification's sees. -/
theorem dec_ways (s : ByteArray) (pos : Nat) (h : pos < s.size) :
    (stepA s pos ≠ 0 ∧ (Utf8.decode s pos).2 = stepA s pos ∧ (letR ((Utf8.decode s pos).1 : Int) = true ∨ (letR ((Utf8.decode s pos).1 : Int) = false ∧ 0 < pos ∧ digR ((Utf8.decode s pos).1 : Int) = true))) ∨
    (stepA s pos = 0 ∧ letR ((Utf8.decode s pos).1 : Int) = false ∧ (pos = 0 ∨ digR ((Utf8.decode s pos).1 : Int) = false)) := by
  have hdig : digA s pos = digR (s[pos].toNat : Int) := by unfold digA; rw [dif_pos h]
  by_cases ha : s[pos].toNat < 128
  · rw [decode_ascii s pos h ha]
    have hl : letA s pos = if letR (s[pos].toNat : Int) = true then 1 else 0 := by
      have h1 : let1 (s[pos].toNat : Int) = letR (s[pos].toNat : Int) := by unfold let1 letR; exact decide_eq_decide.mpr (by omega)
      have h2 : ∀ d, let2 (s[pos].toNat : Int) d = false := fun d => by unfold let2; rw [decide_eq_false (by omega)]; rfl
      unfold letA letV
      split
      · rw [h1, h2]; simp
      · rw [h1, h2]; simp
    unfold stepA
    rw [hl, hdig]
    by_cases hr : letR (s[pos].toNat : Int) = true
    · left; simp [hr]
    · rw [Bool.not_eq_true] at hr
      by_cases hp : 0 < pos ∧ digR (s[pos].toNat : Int) = true
      · left; simp [hr, hp]
      · right; simp [hr, hp]; simp at hp
        by_cases h0 : pos = 0
        · exact .inl h0
        · exact .inr (hp (by omega))
  · have hh := decode_high s pos h (by omega)
    have hdr : digR ((Utf8.decode s pos).1 : Int) = false := by unfold digR; exact decide_eq_false (by omega)
    have hdc : digR (s[pos].toNat : Int) = false := by unfold digR; exact decide_eq_false (by omega)
    have h1 : let1 (s[pos].toNat : Int) = false := by unfold let1; exact decide_eq_false (by omega)
    by_cases ht : ∃ h' : pos + 1 < s.size, (194 ≤ s[pos].toNat ∧ s[pos].toNat ≤ 223) ∧ 128 ≤ s[pos + 1].toNat ∧ s[pos + 1].toNat ≤ 191
    · obtain ⟨h', hc, hd⟩ := ht
      have hD := dec_two s pos h' hc hd
      have e : ((((s[pos].toNat - 192) * 64 + (s[pos + 1].toNat - 128) : Nat)) : Int) = rune2 (s[pos].toNat : Int) (s[pos + 1].toNat : Int) := by unfold rune2; omega
      have hl : letA s pos = if letR (rune2 (s[pos].toNat : Int) (s[pos + 1].toNat : Int)) = true then 2 else 0 := by
        unfold letA letV
        rw [dif_pos h', h1]
        unfold let2
        rw [decide_eq_true (by omega)]; simp
      unfold stepA
      rw [hl, hdig, hdc, hdr, hD]
      simp only [e]
      by_cases hr : letR (rune2 (s[pos].toNat : Int) (s[pos + 1].toNat : Int)) = true
      · left; simp [hr]
      · rw [Bool.not_eq_true] at hr
        right; simp [hr]
    · have hF := dec_far s pos h (by omega) (fun h' hx => ht ⟨h', hx⟩)
      have hrl : letR ((Utf8.decode s pos).1 : Int) = false := by unfold letR; exact decide_eq_false (by omega)
      have hl : letA s pos = 0 := by
        unfold letA letV
        split
        · rename_i h'
          rw [h1]
          have : let2 (s[pos].toNat : Int) (s[pos + 1].toNat : Int) = false := by
            unfold let2
            rw [decide_eq_false (fun hx => ht ⟨h', by omega⟩)]; rfl
          rw [this]; simp
        · rw [h1]; simp
      right
      unfold stepA
      rw [hl, hdig, hdc, hrl, hdr]
      simp
end Go.Proofs.Yteigbmdhfeagfaa
