/-
  Contracts of Power.right, powersOK, the library's functions at powers, the specification's l22Power; of powerOf.
-/
import Derived.Test.YtillkllkekhmfaaPwM
import Derived.Test.YtillkllkekhmfaaFlB
import Derived.Test.YtillkllkekhmfaaRowG
namespace Go.Proofs.Ytillkllkekhmfaa
open Go.ChangeShapes Go.WideShapes Go.ChangeAt Go.RowKit Go.Joins Go.Deep
set_option linter.unusedVariables false
attribute [local go_sem] run_store_float

theorem pwRight_any (x y : Nat) (w : World) :
    Calls Try.prog 59 #[.agg #[.float .f64 x, .float .f64 y]] w fun e' w' => e' = .returned (.bool (pwB ⟨x, y⟩)) ∧ Below w.heap.size w w' := by
  have H1 : Hid (∀ W, Calls Try.prog 56 #[.float .f64 x, .float .f64 13920209183539462144, .float .f64 4696837146684686336] W fun e w' => e = .returned (.bool (inF x loP hiP)) ∧ Below W.heap.size W w') := fun W => within_any x loP hiP W
  have H2 : Hid (∀ W, Calls Try.prog 56 #[.float .f64 y, .float .f64 13920209183539462144, .float .f64 4696837146684686336] W fun e w' => e = .returned (.bool (inF y loP hiP)) ∧ Below W.heap.size W w') := fun W => within_any y loP hiP W
  have HP : Hid (pwB ⟨x, y⟩ = (inF x loP hiP && inF y loP hiP)) := rfl
  generalize pwB ⟨x, y⟩ = p at *
  generalize inF x loP hiP = b1 at *
  generalize inF y loP hiP = b2 at *
  have HC : Hid (∀ W, Below (w.alloc (Obj.cells #[.float .f64 x, .float .f64 y] 43)).heap.size (w.alloc (Obj.cells #[.float .f64 x, .float .f64 y] 43)) W → W.cell? ⟨w.heap.size, 1, none⟩ = some (.float .f64 y)) := fun W hb =>
    blkCell ((hb.block _ (by simp)).trans (heapNew _ _)) 1 _ rfl
  go_enter Try.func59, Try.ntmps59
  go_wp2_with fail
  (first | go_at_call 56 | skip)
  refine (H1.out _).mono ?_
  rintro e' w2 ⟨rfl, hb2⟩
  have c2 := HC.out w2 hb2
  have HB2 : Hid (Below w.heap.size w w2) := chain (below_alloc _ _) hb2
  clear hb2
  cases b1
  · go_wp2
    go_ret
    exact ⟨ret_bool (by rw [HP.out]; rfl), HB2.out⟩
  · go_wp2_with fail
    (first | go_at_call 56 | skip)
    refine (H2.out _).mono ?_
    rintro e' w3 ⟨rfl, hb3⟩
    go_wp2
    go_ret
    exact ⟨ret_bool (by rw [HP.out, Bool.true_and]), chain HB2.out hb3⟩
theorem pwNot_any (x y : Nat) (w : World) :
    Calls Try.prog 58 #[.agg #[.float .f64 x, .float .f64 y]] w fun e' w' => e' = .returned (.bool (!pwB ⟨x, y⟩)) ∧ Below w.heap.size w w' := by
  have HC : Hid (∀ X, Calls Try.prog 59 #[.agg #[.float .f64 x, .float .f64 y]] X fun e' w' => e' = .returned (.bool (pwB ⟨x, y⟩)) ∧ Below X.heap.size X w') := fun X => pwRight_any x y X
  generalize pwB ⟨x, y⟩ = b1 at *
  go_enter Try.func58, Try.ntmps58
  go_wp2_with (go_at_call 59; refine (HC.out _).mono ?_; rintro e' w2 ⟨rfl, hb2⟩)
  go_ret
  exact ⟨rfl, chain (below_alloc _ _) hb2⟩
set_option maxHeartbeats 2000000 in
theorem pwIndex_any (a : Option Addr) (cap : Nat) (rs : List RPw) (hl : rs.length ≤ 100000000) (w : World) (hr : ReadsPw w.heap.size w a rs) :
    Calls Try.prog 62 #[.slice a rs.length cap, .func (.func 58) #[] #[]] w fun e w' => (∃ x : Int, e = .returned (.int .i64 x) ∧ decide (0 ≤ x) = !pwsB rs) ∧ Below w.heap.size w w' := by
  have HR : Hid (ReadsPw w.heap.size w a rs) := hr
  clear hr
  go_enter Try.func62, Try.ntmps62
  go_wp2
  go_loopw [5, 8] (fun _ c wr => ∃ k : Nat, k ≤ rs.length ∧ c = .int .i64 (k : Int) ∧ pwsB (rs.take k) = true ∧ Below w.heap.size w wr) (fun _ c _ => rs.length - (intOf c).toNat)
  case atStart => exact ⟨0, Nat.zero_le _, rfl, rfl, Below.refl _ _⟩
  case round =>
    obtain ⟨k, hk, rfl, hf, hb⟩ := hrel
    have HF : Hid (pwsB (rs.take k) = true) := hf
    have HB : Hid (Below w.heap.size w wr) := hb
    clear hf hb
    by_cases hlt : k < rs.length
    · have hlt' : (k : Int) < (rs.length : Int) := by omega
      rcases HR.out with h | ⟨b0, o0, ha, hB0, ia⟩
      · rw [h] at hlt; simp at hlt
      obtain ⟨c0, c1⟩ := (ia.below HB.out hB0) k hlt
      have HX : Hid (pwB (rs.getD k zPw) = false → pwsB rs = false) := fun h => pws_fail hlt h
      have HN : Hid (pwsB (rs.take (k + 1)) = (pwsB (rs.take k) && pwB (rs.getD k zPw))) := pws_take rs k hlt
      have hm : Hid (∀ W, Calls Try.prog 58 #[.agg #[.float .f64 (rs.getD k zPw).re, .float .f64 (rs.getD k zPw).im]] W fun e' w' => e' = .returned (.bool (!pwB (rs.getD k zPw))) ∧ Below W.heap.size W w') := fun W => pwNot_any _ _ W
      rw [ha]
      clear ia
      generalize pwB (rs.getD k zPw) = mb at *
      generalize (rs.getD k zPw).re = p at *
      generalize (rs.getD k zPw).im = q at *
      cases mb
      · go_wp2_with (go_at_call 58; refine (hm.out _).mono ?_; rintro e w2 ⟨rfl, hb2⟩)
        go_ret
        exact ⟨⟨(k : Int), rfl, by rw [HX.out trivial]; exact decide_eq_true (by omega)⟩, chain HB.out hb2⟩
      · go_wp2_with (go_at_call 58; refine (hm.out _).mono ?_; rintro e w2 ⟨rfl, hb2⟩)
        exact ⟨⟨k + 1, by omega, by go_num, by rw [HN.out, HF.out]; rfl, chain HB.out hb2⟩, by simp [intOf]; omega⟩
    · have hle : (rs.length : Int) ≤ (k : Int) := by omega
      have HE : Hid (pwsB rs = true) := by have := HF.out; rwa [List.take_of_length_le (by omega)] at this
      go_wp2
      go_ret
      exact ⟨⟨-1, rfl, by rw [HE.out]; rfl⟩, HB.out⟩
theorem pwContains_any (a : Option Addr) (cap : Nat) (rs : List RPw) (hl : rs.length ≤ 100000000) (w : World) (hr : ReadsPw w.heap.size w a rs) :
    Calls Try.prog 57 #[.slice a rs.length cap, .func (.func 58) #[] #[]] w fun e w' => e = .returned (.bool (!pwsB rs)) ∧ Below w.heap.size w w' := by
  have hi := pwIndex_any a cap rs hl w hr
  clear hr
  go_enter Try.func57, Try.ntmps57
  go_wp2_with (go_at_call 62; refine hi.mono ?_; rintro e w2 ⟨⟨x, rfl, hx⟩, hb2⟩; have HX : Hid (decide (0 ≤ x) = !pwsB rs) := hx; clear hx)
  go_ret
  exact ⟨ret_bool HX.out, hb2⟩
theorem powersOK_any (a : Option Addr) (cap : Nat) (rs : List RPw) (hl : rs.length ≤ 100000000) (w : World) (hr : ReadsPw w.heap.size w a rs) :
    Calls Try.prog 43 #[.slice a rs.length cap] w fun e w' => e = .returned (.bool (pwR rs)) ∧ Below w.heap.size w w' := by
  have hCF := pwContains_any a cap rs hl w hr
  clear hr
  have HT : Hid (pwR rs = (decide (rs.length ≤ 12) && pwsB rs)) := rfl
  by_cases h12 : 12 < rs.length
  · have l1 : ¬ (rs.length : Int) ≤ 12 := by omega
    rw [pwR_bad (.inl h12)]
    clear hCF
    go_enter Try.func43, Try.ntmps43
    go_wp2
    go_ret
    exact ⟨rfl, Below.refl _ _⟩
  have l1 : (rs.length : Int) ≤ 12 := by omega
  rw [decide_eq_true (show rs.length ≤ 12 by omega)] at HT
  generalize pwsB rs = b at *
  generalize pwR rs = c at *
  go_enter Try.func43, Try.ntmps43
  go_wp2_with (go_at_call 57; refine hCF.mono ?_; rintro e w2 ⟨rfl, hb2⟩)
  go_ret
  exact ⟨ret_bool (by rw [HT.out]; simp), hb2⟩
set_option maxHeartbeats 2000000 in
theorem specPower_any (a : Option Addr) (cap : Nat) (rs : List RPw) (hl : rs.length ≤ 100000000) (w : World) (hr : ReadsPw w.heap.size w a rs) :
    Calls Try.prog 48 #[.slice a rs.length cap] w fun e w' => e = .returned (.bool (pwR rs)) ∧ Below w.heap.size w w' := by
  have HR : Hid (ReadsPw w.heap.size w a rs) := hr
  clear hr
  by_cases h12 : 12 < rs.length
  · have l1 : (12 : Int) < (rs.length : Int) := by omega
    rw [pwR_bad (.inl h12)]
    go_enter Try.func48, Try.ntmps48
    go_wp2
    go_ret
    exact ⟨rfl, Below.refl _ _⟩
  have l1 : ¬ (12 : Int) < (rs.length : Int) := by omega
  have HT : Hid (pwR rs = pwsB rs) := by show pwR rs = _; unfold pwR; rw [decide_eq_true (show rs.length ≤ 12 by omega), Bool.true_and]
  go_enter Try.func48, Try.ntmps48
  go_wp2
  go_loopw [3] (fun c wr => ∃ k : Nat, k ≤ rs.length ∧ c = .int .i64 (k : Int) ∧ pwsB (rs.take k) = true ∧ Below w.heap.size w wr) (fun c _ => rs.length - (intOf c).toNat)
  case atStart => exact ⟨0, Nat.zero_le _, rfl, rfl, Below.refl _ _⟩
  case round =>
    obtain ⟨k, hk, rfl, hf, hb⟩ := hrel
    have HF : Hid (pwsB (rs.take k) = true) := hf
    have HB : Hid (Below w.heap.size w wr) := hb
    clear hf hb
    by_cases hlt : k < rs.length
    · have hlt' : (k : Int) < (rs.length : Int) := by omega
      rcases HR.out with h | ⟨b0, o0, ha, hB0, ia⟩
      · rw [h] at hlt; simp at hlt
      have HC : Hid (∀ W, Below w.heap.size w W → PwAt W b0 (o0 + k * 2) (rs.getD k zPw)) := fun W hb => (ia.below hb hB0) k hlt
      have HX : Hid (pwB (rs.getD k zPw) = false → pwsB rs = false) := fun h => pws_fail hlt h
      have HN : Hid (pwsB (rs.take (k + 1)) = (pwsB (rs.take k) && pwB (rs.getD k zPw))) := pws_take rs k hlt
      have h1 : Hid (∀ W, Calls Try.prog 41 #[.float .f64 (rs.getD k zPw).re, .float .f64 13920209183539462144, .float .f64 4696837146684686336] W fun e' w' => e' = .returned (.bool (inF (rs.getD k zPw).re loP hiP)) ∧ Below W.heap.size W w') := fun W => specIn_any _ loP hiP W
      have h2 : Hid (∀ W, Calls Try.prog 41 #[.float .f64 (rs.getD k zPw).im, .float .f64 13920209183539462144, .float .f64 4696837146684686336] W fun e' w' => e' = .returned (.bool (inF (rs.getD k zPw).im loP hiP)) ∧ Below W.heap.size W w') := fun W => specIn_any _ loP hiP W
      obtain ⟨c0, c1⟩ := HC.out wr HB.out
      rw [ha]
      clear ia
      unfold pwB at HX HN
      generalize rs.getD k zPw = r at *
      generalize inF r.re loP hiP = b1 at *
      generalize inF r.im loP hiP = b2 at *
      obtain ⟨p, q⟩ := r
      dsimp only at h1 h2 c0 c1
      go_wp2_with fail
      (first | go_at_call 41 | skip)
      refine (h1.out _).mono ?_
      rintro e w2 ⟨rfl, hb2⟩
      have HB2 : Hid (Below w.heap.size w w2) := chain HB.out hb2
      obtain ⟨d0, d1⟩ := HC.out w2 HB2.out
      dsimp only at d0 d1
      clear hb2 c0 c1
      cases b1
      · go_wp2
        go_ret
        exact ⟨ret_bool (HT.out.trans (HX.out rfl)).symm, HB2.out⟩
      · go_wp2_with fail
        (first | go_at_call 41 | skip)
        refine (h2.out _).mono ?_
        rintro e w3 ⟨rfl, hb3⟩
        have HB3 : Hid (Below w.heap.size w w3) := chain HB2.out hb3
        clear hb3 d0 d1
        cases b2
        · go_wp2
          go_ret
          exact ⟨ret_bool (HT.out.trans (HX.out rfl)).symm, HB3.out⟩
        · go_wp2
          exact ⟨⟨k + 1, by omega, by go_num, by rw [HN.out, HF.out]; rfl, HB3.out⟩, by simp [intOf]; omega⟩
    · have hle : (rs.length : Int) ≤ (k : Int) := by omega
      have HE : Hid (pwsB rs = true) := by have := HF.out; rwa [List.take_of_length_le (by omega)] at this
      go_wp2
      go_ret
      exact ⟨ret_bool (HT.out.trans HE.out).symm, HB.out⟩
theorem powerOf_any (x y : Nat) (w : World) :
    Calls Try.prog 47 #[.complex .f64 x y] w fun e' w' => e' = .returned (.agg #[.float .f64 x, .float .f64 y]) ∧ Below w.heap.size w w' := by
  go_enter Try.func47, Try.ntmps47
  go_wp2
  refine bodyPost_ret (v := .agg #[.float .f64 x, .float .f64 y]) (by simp [results, Try.results47, go_sem]) rfl ⟨rfl, ?_⟩
  repeat (first | exact Below.refl _ _ | exact below_alloc _ _ | refine chain ?_ (below_alloc _ _) | refine Below.setCell ?_ (by dsimp only; omega) _)
end Go.Proofs.Ytillkllkekhmfaa
