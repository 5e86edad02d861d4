/-
  Contract of the specification's WarmMinutes, for all arguments.
-/
import Derived.Test.YtillkllkekhmfaaFlF
import Derived.Test.YtillkllkekhmfaaFlX
namespace Go.Proofs.Ytillkllkekhmfaa
open Go.ChangeShapes Go.WideShapes Go.ChangeAt Go.RowKit Go.Joins Go.Deep Go.Shelf
set_option linter.unusedVariables false

theorem trC_ways (xs : List Nat) : (4096 < xs.length ∧ trC xs = 2) ∨ (xs.length ≤ 4096 ∧ trB xs = false ∧ trC xs = 1) ∨ (xs.length ≤ 4096 ∧ trB xs = true ∧ trC xs = 0) := by
  unfold trC
  by_cases h : 4096 < xs.length
  · rw [if_pos h]; exact .inl ⟨h, rfl⟩
  · rw [if_neg h]
    cases trB xs
    · exact .inr (.inl ⟨by omega, rfl, rfl⟩)
    · exact .inr (.inr ⟨by omega, rfl, rfl⟩)
set_option maxHeartbeats 4000000 in
theorem specWarm_bad (a : Option Addr) (cap : Nat) (xs : List Nat) (lim bs : Nat) (hl : xs.length ≤ 100000000) (w : World) (hr : ReadsF w.heap.size w a xs) (c : Int)
    (h : (trC xs ≠ 0 ∧ c = trC xs) ∨ (trC xs = 0 ∧ dgF lim = false ∧ c = 1) ∨ (trC xs = 0 ∧ dgF lim = true ∧ bsG bs = false ∧ c = 1)) :
    Calls Try.prog 27 #[.slice a xs.length cap, .float .f64 lim, .float .f32 bs] w (AnsWm w 0 c) := by
  have HT : Hid (∀ W, Below w.heap.size w W → Calls Try.prog 35 #[.slice a xs.length cap] W fun e w' => e = .returned (.bool (trB xs)) ∧ Below W.heap.size W w') := fun W hb => specTrace_any a cap xs hl W (hr.later hb)
  have HD : Hid (∀ W, Calls Try.prog 41 #[.float .f64 lim, .float .f64 13875379345695965184, .float .f64 4652007308841189376] W fun e w' => e = .returned (.bool (dgF lim)) ∧ Below W.heap.size W w') := fun W => specIn_any lim loF hiF W
  unfold AnsWm
  rcases trC_ways xs with ⟨h1, h2⟩ | ⟨h1, h2, h3⟩ | ⟨h1, h2, h3⟩
  · obtain rfl : c = 2 := by
      rw [h2] at h
      rcases h with h | h | h
      · exact h.2
      · exact absurd h.1 (by decide)
      · exact absurd h.1 (by decide)
    have h1' : (4096 : Int) < (xs.length : Int) := by omega
    clear hr h
    go_enter Try.func27, Try.ntmps27
    go_wp2
    go_ret2
    exact ⟨rfl, Below.refl _ _⟩
  · obtain rfl : c = 1 := by
      rw [h3] at h
      rcases h with h | h | h
      · exact h.2
      · exact absurd h.1 (by decide)
      · exact absurd h.1 (by decide)
    have h1' : ¬ (4096 : Int) < (xs.length : Int) := by omega
    rw [h2] at HT
    clear hr h
    go_enter Try.func27, Try.ntmps27
    go_wp2_with (go_at_call 35; refine (HT.out _ (Below.refl _ _)).mono ?_; rintro e w1 ⟨rfl, hb1⟩)
    go_ret2
    exact ⟨rfl, hb1⟩
  · rw [h3] at h
    have h1' : ¬ (4096 : Int) < (xs.length : Int) := by omega
    rw [h2] at HT
    clear hr
    cases hd : dgF lim
    · rw [hd] at h HD
      obtain rfl : c = 1 := by
        rcases h with h | h | h
        · exact absurd rfl h.1
        · exact h.2.2
        · exact absurd h.2.1 (by simp)
      clear h
      go_enter Try.func27, Try.ntmps27
      go_wp2_with (first | (go_at_call 41; refine (HD.out _).mono ?_; rintro e w2 ⟨rfl, hb2⟩) | (go_at_call 35; refine (HT.out _ (Below.refl _ _)).mono ?_; rintro e w1 ⟨rfl, hb1⟩))
      go_ret2
      exact ⟨rfl, chain hb1 hb2⟩
    · rw [hd] at h HD
      obtain ⟨hb, rfl⟩ : bsG bs = false ∧ c = 1 := by
        rcases h with h | h | h
        · exact absurd rfl h.1
        · exact absurd h.2.1 (by simp)
        · exact h.2.2
      have g1 := w_ge (FloatKind.format .f32) bs 1065353216
      have g2 := w_le (FloatKind.format .f32) bs 1082130432
      have g3 : (leW (FloatKind.format .f32) 1065353216 bs && leW (FloatKind.format .f32) bs 1082130432) = false := hb
      clear h hb
      generalize leW (FloatKind.format .f32) 1065353216 bs = b1 at *
      generalize leW (FloatKind.format .f32) bs 1082130432 = b2 at *
      go_enter Try.func27, Try.ntmps27
      cases b1
      · clear g3
        go_wp2_with (first | (go_at_call 41; refine (HD.out _).mono ?_; rintro e w2 ⟨rfl, hb2⟩) | (go_at_call 35; refine (HT.out _ (Below.refl _ _)).mono ?_; rintro e w1 ⟨rfl, hb1⟩))
        go_ret2
        exact ⟨rfl, chain hb1 hb2⟩
      · obtain rfl : b2 = false := g3
        go_wp2_with (first | (go_at_call 41; refine (HD.out _).mono ?_; rintro e w2 ⟨rfl, hb2⟩) | (go_at_call 35; refine (HT.out _ (Below.refl _ _)).mono ?_; rintro e w1 ⟨rfl, hb1⟩))
        go_ret2
        exact ⟨rfl, chain hb1 hb2⟩
/-- Minutes at place k + 1. -/
theorem wm_next {xs : List Nat} {k : Nat} (lim bs : Nat) (hk : k < xs.length) (hl : xs.length ≤ 200) (hok : oksF xs = true) (hm : msF (xs.getD k 0) = false) :
    dgF (xs.getD k 0) = true ∧ wmS lim bs (thT xs (k + 1)) = wmN lim bs (wmS lim bs (thT xs k)) (xs.getD k 0) := by
  have hD := oks_get hok hk
  unfold okF at hD
  rw [hm, Bool.false_or] at hD
  have hok1 : ThOK (k, xs.getD k 0) := ⟨by show k < 4096; omega, hD⟩
  rw [thT_next hok1]
  exact ⟨hD, wmS_snoc _ _ _ _⟩
set_option maxHeartbeats 16000000 in
theorem specWarm_right (a : Option Addr) (cap : Nat) (xs : List Nat) (lim bs : Nat) (h : trC xs = 0) (hlim : dgF lim = true) (hbs : bsG bs = true) (w : World) (hr : ReadsF w.heap.size w a xs) :
    Calls Try.prog 27 #[.slice a xs.length cap, .float .f64 lim, .float .f32 bs] w (AnsWm w (wmS lim bs (thT xs xs.length)) 0) := by
  obtain ⟨hlen, hok⟩ := trC_right h
  have htr : trB xs = true := by unfold trB; rw [decide_eq_true hlen, hok]; rfl
  have HT : Hid (∀ W, Below w.heap.size w W → Calls Try.prog 35 #[.slice a xs.length cap] W fun e w' => e = .returned (.bool true) ∧ Below W.heap.size W w') := fun W hb => by rw [← htr]; exact specTrace_any a cap xs (by omega) W (hr.later hb)
  have HD : Hid (∀ W, Calls Try.prog 41 #[.float .f64 lim, .float .f64 13875379345695965184, .float .f64 4652007308841189376] W fun e w' => e = .returned (.bool true) ∧ Below W.heap.size W w') := fun W => by rw [← hlim]; exact specIn_any lim loF hiF W
  have HR : Hid (ReadsF w.heap.size w a xs) := hr
  have h1' : ¬ (4096 : Int) < (xs.length : Int) := by omega
  have g1 := w_ge (FloatKind.format .f32) bs 1065353216
  have g2 := w_le (FloatKind.format .f32) bs 1082130432
  have g3 : (leW (FloatKind.format .f32) 1065353216 bs && leW (FloatKind.format .f32) bs 1082130432) = true := hbs
  rw [Bool.and_eq_true] at g3
  rw [g3.1] at g1
  rw [g3.2] at g2
  have HL : Hid (msF lim = false) := in_there hlim
  clear hr h htr g3
  go_enter Try.func27, Try.ntmps27
  go_wp2_with (first | (go_at_call 41; refine (HD.out _).mono ?_; rintro e w2 ⟨rfl, hb2⟩) | (go_at_call 35; refine (HT.out _ (Below.refl _ _)).mono ?_; rintro e w1 ⟨rfl, hb1⟩))
  have HB2 : Hid (Below w.heap.size w w2) := chain hb1 hb2
  clear hb1 hb2 g1 g2
  go_loopw [8, 9, 10, 11] (fun s i _ _ wr => ∃ k : Nat, k ≤ xs.length ∧ i = .int .i64 (k : Int) ∧ s = .float .f32 (wmS lim bs (thT xs k)) ∧ Below w.heap.size w wr) (fun _ i _ _ _ => xs.length - (intOf i).toNat)
  case atStart => exact ⟨0, Nat.zero_le _, rfl, rfl, HB2.out⟩
  case round =>
    obtain ⟨k, hk, rfl, rfl, hb⟩ := hrel
    have HB : Hid (Below w.heap.size w wr) := hb
    clear hb
    by_cases hlt : k < xs.length
    · have hlt' : (k : Int) < (xs.length : Int) := by omega
      rcases HR.out with h | ⟨b0, o0, ha, hB0, ia⟩
      · rw [h] at hlt; simp at hlt
      have HC : Hid (∀ W, Below w.heap.size w W → W.cell? ⟨b0, o0 + k, none⟩ = some (.float .f64 (xs.getD k 0))) := fun W hb => (ia.below hb hB0) k hlt
      have HT : Hid (∀ W, Calls Try.prog 36 #[.float .f64 (xs.getD k 0)] W fun e' w' => e' = .returned (.bool (!msF (xs.getD k 0))) ∧ Below W.heap.size W w') := fun W => there_any _ W
      have c0 := HC.out wr HB.out
      rw [ha]
      clear ia
      cases hms : msF (xs.getD k 0) with
      | true =>
        have HF : Hid (wmS lim bs (thT xs (k + 1)) = wmS lim bs (thT xs k)) := by show _ = _; rw [thT_skip hms]
        rw [hms] at HT
        clear hms
        generalize xs.getD k 0 = xv at *
        generalize wmS lim bs (thT xs k) = m at *
        go_wp2_with (go_at_call 36; refine (HT.out _).mono ?_; rintro e w3 ⟨rfl, hb3⟩)
        go_roundw
        case rel => exact ⟨k + 1, by omega, by go_num, by rw [HF.out], chain HB.out hb3⟩
        case measure => simp [intOf]; omega
      | false =>
        obtain ⟨hdx, e2⟩ := wm_next lim bs hlt hlen hok hms
        have HF0 : Hid (wmS lim bs (thT xs (k + 1)) = wmN lim bs (wmS lim bs (thT xs k)) (xs.getD k 0)) := e2
        have hL := o_le (xs.getD k 0) lim
        rw [not_le hms HL.out] at hL
        rw [hms] at HT
        clear hms e2
        unfold wmN at HF0
        by_cases hb : ltF lim (xs.getD k 0) = true
        · obtain ⟨e1, e2, e3, e4⟩ := wm_step hlim hbs (wmS_nonneg hlim hbs (thT xs k)) hdx hb
          have r1 := fun t W => run_float_arith (P := Try.prog) W .sub t .f64 _ _ _ e1
          have r2 := fun W => run_convert_float_float (P := Try.prog) W 24 31 .f64 .f32 _ _ (by rw [Try.underlying24]; rfl) Try.underlying31 e2
          have r3 := fun t W => run_float_arith (P := Try.prog) W .mul t .f32 _ _ _ e3
          have r4 := fun t W => run_float_arith (P := Try.prog) W .add t .f32 _ _ _ e4
          rw [if_pos hb] at HF0
          rw [hb] at hL
          clear e1 e2 e3 e4 hb hdx
          generalize gadd (wmS lim bs (thT xs k)) (gmul (toG (fsub (xs.getD k 0) lim)) bs) = s4 at *
          generalize gmul (toG (fsub (xs.getD k 0) lim)) bs = s3 at *
          generalize toG (fsub (xs.getD k 0) lim) = s2 at *
          generalize fsub (xs.getD k 0) lim = s1 at *
          generalize wmS lim bs (thT xs k) = m at *
          generalize xs.getD k 0 = xv at *
          go_wp2_with fail
          (first | go_at_call 36 | skip)
          refine (HT.out _).mono ?_
          rintro e w3 ⟨rfl, hb3⟩
          have HB3 : Hid (Below w.heap.size w w3) := chain HB.out hb3
          have c3 := HC.out w3 HB3.out
          clear hb3 c0
          go_wp2
          go_roundw
          case rel => exact ⟨k + 1, by omega, by go_num, by rw [HF0.out], HB3.out⟩
          case measure => simp [intOf]; omega
        · rw [if_neg hb] at HF0
          have hb' : ltF lim (xs.getD k 0) = false := by simpa using hb
          rw [hb'] at hL
          clear hb hb' hdx
          generalize wmS lim bs (thT xs k) = m at *
          generalize xs.getD k 0 = xv at *
          go_wp2_with fail
          (first | go_at_call 36 | skip)
          refine (HT.out _).mono ?_
          rintro e w3 ⟨rfl, hb3⟩
          have HB3 : Hid (Below w.heap.size w w3) := chain HB.out hb3
          have c3 := HC.out w3 HB3.out
          clear hb3 c0
          go_wp2
          go_roundw
          case rel => exact ⟨k + 1, by omega, by go_num, by rw [HF0.out], HB3.out⟩
          case measure => simp [intOf]; omega
    · have hlt' : ¬ (k : Int) < (xs.length : Int) := by omega
      obtain rfl : k = xs.length := by omega
      go_wp2
      go_ret2
      exact ⟨rfl, HB.out⟩
theorem specWarm_any (a : Option Addr) (cap : Nat) (xs : List Nat) (lim bs : Nat) (hl : xs.length ≤ 100000000) (w : World) (hr : ReadsF w.heap.size w a xs) :
    Calls Try.prog 27 #[.slice a xs.length cap, .float .f64 lim, .float .f32 bs] w (AnsWm w (wmA xs lim bs) (wmC xs lim bs)) := by
  rcases warm_ways xs lim bs with ⟨h1, h2, h3⟩ | ⟨h1, h2, h3, h4⟩ | ⟨h1, h2, h3, h4, h5⟩ | ⟨h1, h2, h3, h4, h5⟩
  · rw [h2, h3]; exact specWarm_bad a cap xs lim bs hl w hr _ (.inl ⟨h1, rfl⟩)
  · rw [h3, h4]; exact specWarm_bad a cap xs lim bs hl w hr _ (.inr (.inl ⟨h1, h2, rfl⟩))
  · rw [h4, h5]; exact specWarm_bad a cap xs lim bs hl w hr _ (.inr (.inr ⟨h1, h2, h3, rfl⟩))
  · rw [h4, h5]; exact specWarm_right a cap xs lim bs h1 h2 h3 w hr
end Go.Proofs.Ytillkllkekhmfaa
