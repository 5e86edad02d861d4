/-
  For every text the law FnExactNameOK answers true: the program's NameOK answers as the specification's, at every argument, with no condition.
-/
import Derived.Test.YtbppfncpkcojgahName2
namespace Go.Proofs.Ytbppfncpkcojgah
open Go.ChangeShapes Go.WideShapes Go.ChangeAt Go.RowKit
open Go.ChangeMaps (open_string shut_string)
set_option linter.unusedVariables false

/-- Is a text a name? -/
def nameB (s : ByteArray) : Bool := decide (1 ≤ s.size ∧ s.size ≤ 40) && goes s s.size 0

theorem specName_any (s : ByteArray) (hs : s.size ≤ maxLen) (w : World) :
    Calls Try.prog 7 #[.string s] w fun e w' => e = .returned (.bool (nameB s)) ∧ w' = w := by
  have hs' := hs
  unfold maxLen at hs
  rcases in_ways (s.size : Int) 1 40 with h | ⟨h, h'⟩ | ⟨h, h'⟩
  · have e : nameB s = false := by unfold nameB; rw [decide_eq_false (by omega)]; rfl
    rw [e]
    have hz : (s.size : Int) ≤ 0 := by omega
    go_enter Try.func7, Try.ntmps7
    go_wp2
    go_ret
    exact ⟨rfl, rfl⟩
  · have e : nameB s = false := by unfold nameB; rw [decide_eq_false (by omega)]; rfl
    rw [e]
    have hz : (0 : Int) < (s.size : Int) := by omega
    go_enter Try.func7, Try.ntmps7
    go_wp2
    go_ret
    exact ⟨rfl, rfl⟩
  · have e : nameB s = goes s s.size 0 := by unfold nameB; rw [decide_eq_true (by omega)]; rfl
    rw [e]
    have hz : (0 : Int) < (s.size : Int) := by omega
    have hw := fun w => word_any s hs' w
    go_enter Try.func7, Try.ntmps7
    go_wp2_with (go_at_call 20; refine (hw _).mono ?_; rintro e w' ⟨k, rfl, hk, hi, rfl⟩)
    go_ret
    refine ⟨ret_bool ?_, rfl⟩
    rw [Bool.eq_iff_iff, ← hi]
    simp; omega

set_option maxHeartbeats 1000000 in
theorem implName_any (s : ByteArray) (hs : s.size ≤ maxLen) (w : World) :
    Calls Try.prog 8 #[.string s] w fun e w' => e = .returned (.bool (nameB s)) ∧ Below w.heap.size w w' := by
  have hs' := hs
  unfold maxLen at hs
  rcases in_ways (s.size : Int) 1 40 with h | ⟨h, h'⟩ | ⟨h, h'⟩
  · have e : nameB s = false := by unfold nameB; rw [decide_eq_false (by omega)]; rfl
    rw [e]
    go_enter Try.func8, Try.ntmps8
    go_wp2
    go_ret
    exact ⟨rfl, Below.refl _ _⟩
  · have e : nameB s = false := by unfold nameB; rw [decide_eq_false (by omega)]; rfl
    rw [e]
    go_enter Try.func8, Try.ntmps8
    go_wp2
    go_ret
    exact ⟨rfl, Below.refl _ _⟩
  · have e : nameB s = goes s s.size 0 := by unfold nameB; rw [decide_eq_true (by omega)]; rfl
    rw [e]
    go_enter Try.func8, Try.ntmps8
    go_wp2
    go_loopw [3, 4] (fun a r w' => ∃ pos f : Nat, w' = w.iter s pos ∧ pos ≤ s.size ∧ goes s f pos = goes s s.size 0 ∧ s.size ≤ pos + f) (fun _ _ w' => s.size - w'.iterPos w.heap.size)
    case atStart => exact ⟨0, s.size, rfl, Nat.zero_le _, rfl, by omega⟩
    case round =>
      obtain ⟨pos, f, rfl, hpos, hg, hf⟩ := hrel
      have HG : Hid (goes s f pos = goes s s.size 0) := hg
      clear hg
      by_cases hp : pos < s.size
      · obtain ⟨f, rfl⟩ : ∃ g, f = g + 1 := ⟨f - 1, by omega⟩
        have hnx : ∀ ty, (Instr.next (.pointer (some ⟨w.heap.size, 0, none⟩)) true ty).run Try.prog (w.iter s pos) = _ := fun ty => run_next_any w s pos ty hp
        have hle := stepA_le s pos hp
        have hst := goes_step s f pos hp
        have hsp := goes_stop s f pos hp
        have HW := dec_ways s pos hp
        generalize ((Utf8.decode s pos).1 : Int) = r at *
        generalize (Utf8.decode s pos).2 = wd at *
        rcases HW with ⟨h0, rfl, hr | ⟨hr, hp0, hd⟩⟩ | ⟨h0, hr, hd⟩
        · have H' : Hid (goes s f (pos + stepA s pos) = goes s s.size 0) := (hst h0).symm.trans HG.out
          have hpp : Hid (stepA s pos ≠ 0) := h0
          clear hst hsp h0
          go_wp2_with (first | (go_at_call 21; refine (letR_any _ _).mono ?_; rintro e w' ⟨rfl, rfl⟩) | (go_at_call 22; refine (digR_any _ _).mono ?_; rintro e w' ⟨rfl, rfl⟩))
          go_roundw
          case rel => exact ⟨pos + stepA s pos, f, rfl, hle, H'.out, by have := hpp.out; omega⟩
          case measure => simp; have := hpp.out; omega
        · have H' : Hid (goes s f (pos + stepA s pos) = goes s s.size 0) := (hst h0).symm.trans HG.out
          have hpp : Hid (stepA s pos ≠ 0) := h0
          have hp1 : ((pos : Int) == 0) = false := by simp; omega
          clear hst hsp h0
          go_wp2_with (first | (go_at_call 21; refine (letR_any _ _).mono ?_; rintro e w' ⟨rfl, rfl⟩) | (go_at_call 22; refine (digR_any _ _).mono ?_; rintro e w' ⟨rfl, rfl⟩))
          go_roundw
          case rel => exact ⟨pos + stepA s pos, f, rfl, hle, H'.out, by have := hpp.out; omega⟩
          case measure => simp; have := hpp.out; omega
        · have H' : Hid (false = goes s s.size 0) := (hsp h0).symm.trans HG.out
          clear hst hsp h0
          by_cases hz : pos = 0
          · subst hz
            go_wp2_with (first | (go_at_call 21; refine (letR_any _ _).mono ?_; rintro e w' ⟨rfl, rfl⟩) | (go_at_call 22; refine (digR_any _ _).mono ?_; rintro e w' ⟨rfl, rfl⟩))
            go_ret
            exact ⟨ret_bool H'.out, below_alloc _ _⟩
          · have hd' : digR r = false := by rcases hd with h | h; exact absurd h hz; exact h
            have hp1 : ((pos : Int) == 0) = false := by simp; omega
            clear hd
            go_wp2_with (first | (go_at_call 21; refine (letR_any _ _).mono ?_; rintro e w' ⟨rfl, rfl⟩) | (go_at_call 22; refine (digR_any _ _).mono ?_; rintro e w' ⟨rfl, rfl⟩))
            go_ret
            exact ⟨ret_bool H'.out, below_alloc _ _⟩
      · have hnx : ∀ ty, (Instr.next (.pointer (some ⟨w.heap.size, 0, none⟩)) true ty).run Try.prog (w.iter s pos) = _ := fun ty => run_next_end w s pos ty hp
        have H' : Hid (true = goes s s.size 0) := (goes_end s f pos (by omega)).symm.trans HG.out
        go_wp2
        go_ret
        exact ⟨ret_bool H'.out, below_alloc _ _⟩

namespace NameLaw
theorem walk (s : ByteArray) (hs : s.size ≤ maxLen) (w : World) :
    Calls Try.prog 3 #[.string s] w fun e w' => e = .returned (.bool true) ∧ Below w.heap.size w w' := by
  have hs' := hs
  unfold maxLen at hs
  by_cases h : (1048576 : Int) < (s.size : Int)
  · go_enter Try.func3, Try.ntmps3
    go_wp2
    go_ret
    exact ⟨rfl, Below.refl _ _⟩
  · have h1 := fun w => specName_any s hs' w
    have h2 := fun w => implName_any s hs' w
    go_enter Try.func3, Try.ntmps3
    go_wp2_with (first | (go_at_call 7; refine (h1 _).mono ?_; rintro e w' ⟨rfl, rfl⟩) | (go_at_call 8; refine (h2 _).mono ?_; rintro e w2 ⟨rfl, hb2⟩))
    go_ret
    exact ⟨rfl, hb2⟩

theorem own : ownKnob Try.prog.godebug = none := by kernel_rfl
theorem laidOut : laidOutB Try.prog = true := by kernel_rfl

set_option maxRecDepth 100000 in
theorem lifted (os : Os) (started : os.Started) (H : Type) (enc : TypeId × Value → H) :
    ReturnsInHanded {} Try.checked os 3 .any (Rows.fnExactNameOKSpec.pre6 enc Try.prog Try.f3 Rows.fnExactNameOKRow.domain false) (Rows.fnExactNameOKSpec.post enc Try.prog Try.f3 false true false false) := by
  refine returnsInHanded_of_change (C := Try.checked) own started (by kernel_rfl) Try.func3
    (ChangeSpec.witness6 (enc := enc) (C := Try.checked) false ⟨#[], #[.string ByteArray.empty], []⟩ 8 (by kernel_rfl) (by kernel_rfl) (by kernel_rfl) (by kernel_rfl)) ?_
  intro W base args ds gs before hval0 hW hcnd _
  have hval : ∀ (j : Nat) t v, Try.f3.params[j]? = some t → args[j]? = some v → Value.okWide Try.prog W .any base t v := hval0
  have hW' := hW
  obtain ⟨p, q, hA0, hV, rfl, hfz, hnd⟩ := hW
  have hA : DataW.TrodAll enc Try.prog W 0 (fun _ => true) true Try.f3.params.toList args.toList ds p := hA0
  rw [Try.params3] at hA hval
  obtain ⟨v0, vs0, d0, ds0, p0, q0, hargs, rfl, rfl, h0, r0⟩ := trodAll_cons hA
  obtain ⟨rfl, rfl, rfl⟩ := trodAll_nil r0
  obtain rfl : args = #[v0] := by cases args; simp_all
  obtain ⟨rfl, rfl⟩ := trodVars_none hV
  have k0 := h0
  have lt0 : ∀ x ∈ p0, x.block < W.heap.size := by obtain ⟨m, hm⟩ := k0; exact DataW.trod_lt m _ _ _ hm
  obtain ⟨a0, rfl, rfl, rfl, w0⟩ := open_string Try.underlying9 (hval 0 9 v0 rfl rfl) h0
  clear hA0 hval0
  refine (walk a0 w0 W ).mono fun e W' ⟨he, bel⟩ => ?_
  subst he
  exact ⟨_, rfl, _, _, _, [], _, [], hW', trodAll_mk1 (shut_bool Try.underlying4 _), (trodAll_cons_mk (Below.trod laidOut (by kernel_rfl) (of_decide_eq_true (by kernel_rfl)) k0 bel lt0) trodAll_mk0), rfl, bel.frame _, fun h => by cases h⟩

theorem over : Rows.fnExactNameOKRow.holds Try.pinned (OpenSpec.ofChange Rows.fnExactNameOKSpec) :=
  OpenClaim.holds_of_wide 3 Try.f3 rfl rfl rfl rfl rfl rfl rfl ⟨rfl, rfl, rfl, rfl, rfl⟩ rfl rfl rfl rfl rfl (by kernel_rfl) Try.func3 (by kernel_rfl)
    (of_decide_eq_true (by kernel_rfl)) (by unfold Func.isWrapper; first | (rw [if_pos (by decide +kernel)]; kernel_rfl) | (rw [if_neg (by decide +kernel)]; exact ⟨rfl, rfl⟩))
    (fun os started H enc _ => lifted os started H enc)
end NameLaw

theorem fnExactNameOK_holds : Rows.FnExactNameOKSaid := NameLaw.over
end Go.Proofs.Ytbppfncpkcojgah
