/-
  Contracts of traceOK, traceFault, of the library's functions at a trace; of the specification's l22Trace.
-/
import Derived.Test.YtillkllkekhmfaaFlB
namespace Go.Proofs.Ytillkllkekhmfaa
open Go.ChangeShapes Go.WideShapes Go.ChangeAt Go.RowKit Go.Joins Go.Deep
set_option linter.unusedVariables false

theorem trNot_any (x : Nat) (w : World) :
    Calls Try.prog 61 #[.float .f64 x] w fun e' w' => e' = .returned (.bool (!okF x)) ∧ Below w.heap.size w w' := by
  have HN : Hid (∀ X, Calls Try.prog 55 #[.float .f64 x] X fun e' w' => e' = .returned (.bool (msF x)) ∧ Below X.heap.size X w') := fun X => isNaN_any x X
  have HD : Hid (∀ X, Calls Try.prog 37 #[.float .f64 x] X fun e' w' => e' = .returned (.bool (dgF x)) ∧ Below X.heap.size X w') := fun X => degree_any x X
  unfold okF
  generalize msF x = b1 at *
  generalize dgF x = b2 at *
  go_enter Try.func61, Try.ntmps61
  cases b1
  · go_wp2_with fail
    (first | go_at_call 55 | skip)
    refine (HN.out _).mono ?_
    rintro e' w2 ⟨rfl, hb2⟩
    go_wp2_with fail
    (first | go_at_call 37 | skip)
    refine (HD.out _).mono ?_
    rintro e' w3 ⟨rfl, hb3⟩
    go_wp2_with fail
    go_ret
    exact ⟨ret_bool (by simp), chain hb2 hb3⟩
  · go_wp2_with (go_at_call 55; refine (HN.out _).mono ?_; rintro e' w2 ⟨rfl, hb2⟩)
    go_ret
    exact ⟨rfl, hb2⟩
set_option maxHeartbeats 2000000 in
theorem flIndex_any (a : Option Addr) (cap : Nat) (rs : List Nat) (hl : rs.length ≤ 100000000) (w : World) (hr : ReadsF w.heap.size w a rs) :
    Calls Try.prog 63 #[.slice a rs.length cap, .func (.func 61) #[] #[]] w fun e w' => (∃ x : Int, e = .returned (.int .i64 x) ∧ decide (0 ≤ x) = !oksF rs) ∧ Below w.heap.size w w' := by
  have HR : Hid (ReadsF w.heap.size w a rs) := hr
  clear hr
  go_enter Try.func63, Try.ntmps63
  go_wp2
  go_loopw [5, 8] (fun _ c wr => ∃ k : Nat, k ≤ rs.length ∧ c = .int .i64 (k : Int) ∧ oksF (rs.take k) = true ∧ Below w.heap.size w wr) (fun _ c _ => rs.length - (intOf c).toNat)
  case atStart => exact ⟨0, Nat.zero_le _, rfl, rfl, Below.refl _ _⟩
  case round =>
    obtain ⟨k, hk, rfl, hf, hb⟩ := hrel
    have HF : Hid (oksF (rs.take k) = true) := hf
    have HB : Hid (Below w.heap.size w wr) := hb
    clear hf hb
    by_cases hlt : k < rs.length
    · have hlt' : (k : Int) < (rs.length : Int) := by omega
      rcases HR.out with h | ⟨b0, o0, ha, hB0, ia⟩
      · rw [h] at hlt; simp at hlt
      have c0 := (ia.below HB.out hB0) k hlt
      have HX : Hid (okF (rs.getD k 0) = false → oksF rs = false) := fun h => oks_fail hlt h
      have HN : Hid (oksF (rs.take (k + 1)) = (oksF (rs.take k) && okF (rs.getD k 0))) := oks_take rs k hlt
      have hm : Hid (∀ W, Calls Try.prog 61 #[.float .f64 (rs.getD k 0)] W fun e' w' => e' = .returned (.bool (!okF (rs.getD k 0))) ∧ Below W.heap.size W w') := fun W => trNot_any _ W
      rw [ha]
      clear ia
      generalize okF (rs.getD k 0) = mb at *
      generalize rs.getD k 0 = p at *
      cases mb
      · go_wp2_with (go_at_call 61; refine (hm.out _).mono ?_; rintro e w2 ⟨rfl, hb2⟩)
        go_ret
        exact ⟨⟨(k : Int), rfl, by rw [HX.out trivial]; exact decide_eq_true (by omega)⟩, chain HB.out hb2⟩
      · go_wp2_with (go_at_call 61; refine (hm.out _).mono ?_; rintro e w2 ⟨rfl, hb2⟩)
        exact ⟨⟨k + 1, by omega, by go_num, by rw [HN.out, HF.out]; rfl, chain HB.out hb2⟩, by simp [intOf]; omega⟩
    · have hle : (rs.length : Int) ≤ (k : Int) := by omega
      have HE : Hid (oksF rs = true) := by have := HF.out; rwa [List.take_of_length_le (by omega)] at this
      go_wp2
      go_ret
      exact ⟨⟨-1, rfl, by rw [HE.out]; rfl⟩, HB.out⟩
theorem flContains_any (a : Option Addr) (cap : Nat) (rs : List Nat) (hl : rs.length ≤ 100000000) (w : World) (hr : ReadsF w.heap.size w a rs) :
    Calls Try.prog 60 #[.slice a rs.length cap, .func (.func 61) #[] #[]] w fun e w' => e = .returned (.bool (!oksF rs)) ∧ Below w.heap.size w w' := by
  have hi := flIndex_any a cap rs hl w hr
  clear hr
  go_enter Try.func60, Try.ntmps60
  go_wp2_with (go_at_call 63; refine hi.mono ?_; rintro e w2 ⟨⟨x, rfl, hx⟩, hb2⟩; have HX : Hid (decide (0 ≤ x) = !oksF rs) := hx; clear hx)
  go_ret
  exact ⟨ret_bool HX.out, hb2⟩
theorem traceOK_any (a : Option Addr) (cap : Nat) (rs : List Nat) (hl : rs.length ≤ 100000000) (w : World) (hr : ReadsF w.heap.size w a rs) :
    Calls Try.prog 53 #[.slice a rs.length cap] w fun e w' => e = .returned (.bool (trB rs)) ∧ Below w.heap.size w w' := by
  have hCF := flContains_any a cap rs hl w hr
  clear hr
  have HT : Hid (trB rs = (decide (rs.length ≤ 200) && oksF rs)) := rfl
  by_cases h12 : 200 < rs.length
  · have l1 : ¬ (rs.length : Int) ≤ 200 := by omega
    rw [tr_bad (.inl h12)]
    clear hCF
    go_enter Try.func53, Try.ntmps53
    go_wp2
    go_ret
    exact ⟨rfl, Below.refl _ _⟩
  have l1 : (rs.length : Int) ≤ 200 := by omega
  rw [decide_eq_true (show rs.length ≤ 200 by omega)] at HT
  generalize oksF rs = b at *
  generalize trB rs = c at *
  go_enter Try.func53, Try.ntmps53
  go_wp2_with (go_at_call 60; refine hCF.mono ?_; rintro e w2 ⟨rfl, hb2⟩)
  go_ret
  exact ⟨ret_bool (by rw [HT.out]; simp), hb2⟩
theorem traceFault_any (a : Option Addr) (cap : Nat) (rs : List Nat) (hl : rs.length ≤ 100000000) (w : World) (hr : ReadsF w.heap.size w a rs) :
    Calls Try.prog 33 #[.slice a rs.length cap] w fun e w' => e = .returned (.int .i64 (trC rs)) ∧ Below w.heap.size w w' := by
  have hCF := traceOK_any a cap rs hl w hr
  clear hr
  have HT : Hid (trC rs = if 4096 < rs.length then 2 else if trB rs = true then 0 else 1) := rfl
  generalize trC rs = c at *
  by_cases h12 : 4096 < rs.length
  · have l1 : (4096 : Int) < (rs.length : Int) := by omega
    rw [if_pos h12] at HT
    clear hCF
    go_enter Try.func33, Try.ntmps33
    go_wp2
    go_ret
    exact ⟨ret_int HT.out.symm, Below.refl _ _⟩
  have l1 : ¬ (4096 : Int) < (rs.length : Int) := by omega
  rw [if_neg h12] at HT
  generalize trB rs = b at *
  go_enter Try.func33, Try.ntmps33
  cases b
  all_goals
    go_wp2_with (go_at_call 53; refine hCF.mono ?_; rintro e w2 ⟨rfl, hb2⟩)
    go_ret
    exact ⟨ret_int (by rw [HT.out]; rfl), hb2⟩
set_option maxHeartbeats 2000000 in
theorem specTrace_any (a : Option Addr) (cap : Nat) (rs : List Nat) (hl : rs.length ≤ 100000000) (w : World) (hr : ReadsF w.heap.size w a rs) :
    Calls Try.prog 35 #[.slice a rs.length cap] w fun e w' => e = .returned (.bool (trB rs)) ∧ Below w.heap.size w w' := by
  have HR : Hid (ReadsF w.heap.size w a rs) := hr
  clear hr
  by_cases h12 : 200 < rs.length
  · have l1 : (200 : Int) < (rs.length : Int) := by omega
    rw [tr_bad (.inl h12)]
    go_enter Try.func35, Try.ntmps35
    go_wp2
    go_ret
    exact ⟨rfl, Below.refl _ _⟩
  have l1 : ¬ (200 : Int) < (rs.length : Int) := by omega
  have HT : Hid (trB rs = oksF rs) := by show trB rs = _; unfold trB; rw [decide_eq_true (show rs.length ≤ 200 by omega), Bool.true_and]
  go_enter Try.func35, Try.ntmps35
  go_wp2
  go_loopw [3] (fun c wr => ∃ k : Nat, k ≤ rs.length ∧ c = .int .i64 (k : Int) ∧ oksF (rs.take k) = true ∧ Below w.heap.size w wr) (fun c _ => rs.length - (intOf c).toNat)
  case atStart => exact ⟨0, Nat.zero_le _, rfl, rfl, Below.refl _ _⟩
  case round =>
    obtain ⟨k, hk, rfl, hf, hb⟩ := hrel
    have HF : Hid (oksF (rs.take k) = true) := hf
    have HB : Hid (Below w.heap.size w wr) := hb
    clear hf hb
    by_cases hlt : k < rs.length
    · have hlt' : (k : Int) < (rs.length : Int) := by omega
      rcases HR.out with h | ⟨b0, o0, ha, hB0, ia⟩
      · rw [h] at hlt; simp at hlt
      have HC : Hid (∀ W, Below w.heap.size w W → W.cell? ⟨b0, o0 + k, none⟩ = some (.float .f64 (rs.getD k 0))) := fun W hb => (ia.below hb hB0) k hlt
      have HX : Hid (okF (rs.getD k 0) = false → oksF rs = false) := fun h => oks_fail hlt h
      have HN : Hid (oksF (rs.take (k + 1)) = (oksF (rs.take k) && okF (rs.getD k 0))) := oks_take rs k hlt
      have hm : Hid (∀ W, Calls Try.prog 36 #[.float .f64 (rs.getD k 0)] W fun e' w' => e' = .returned (.bool (!msF (rs.getD k 0))) ∧ Below W.heap.size W w') := fun W => there_any _ W
      have hi : Hid (∀ W, Calls Try.prog 41 #[.float .f64 (rs.getD k 0), .float .f64 13875379345695965184, .float .f64 4652007308841189376] W fun e' w' => e' = .returned (.bool (dgF (rs.getD k 0))) ∧ Below W.heap.size W w') := fun W => specIn_any _ loF hiF W
      have c0 := HC.out wr HB.out
      rw [ha]
      clear ia
      unfold okF at HX HN
      generalize msF (rs.getD k 0) = mb at *
      generalize dgF (rs.getD k 0) = db at *
      generalize rs.getD k 0 = p at *
      cases mb
      · go_wp2_with fail
        (first | go_at_call 36 | skip)
        refine (hm.out _).mono ?_
        rintro e w2 ⟨rfl, hb2⟩
        have HB2 : Hid (Below w.heap.size w w2) := chain HB.out hb2
        have c2 := HC.out w2 HB2.out
        clear hb2 c0
        go_wp2_with fail
        (first | go_at_call 41 | skip)
        refine (hi.out _).mono ?_
        rintro e w3 ⟨rfl, hb3⟩
        have HB3 : Hid (Below w.heap.size w w3) := chain HB2.out hb3
        clear hb3 c2
        cases db
        · go_wp2_with fail
          go_ret
          exact ⟨ret_bool (HT.out.trans (HX.out rfl)).symm, HB3.out⟩
        · go_wp2_with fail
          exact ⟨⟨k + 1, by omega, by go_num, by rw [HN.out, HF.out]; rfl, HB3.out⟩, by simp [intOf]; omega⟩
      · go_wp2_with (go_at_call 36; refine (hm.out _).mono ?_; rintro e w2 ⟨rfl, hb2⟩)
        exact ⟨⟨k + 1, by omega, by go_num, by rw [HN.out, HF.out]; rfl, chain HB.out hb2⟩, by simp [intOf]; omega⟩
    · have hle : (rs.length : Int) ≤ (k : Int) := by omega
      have HE : Hid (oksF rs = true) := by have := HF.out; rwa [List.take_of_length_le (by omega)] at this
      go_wp2
      go_ret
      exact ⟨ret_bool (HT.out.trans HE.out).symm, HB.out⟩
end Go.Proofs.Ytillkllkekhmfaa
