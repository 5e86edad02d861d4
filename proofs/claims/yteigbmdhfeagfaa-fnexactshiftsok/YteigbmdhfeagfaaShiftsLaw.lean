/-
  For all lists of shifts and workers the law FnExactShiftsOK answers true: the program's ShiftsOK answers as the specification's and writes into no argument; with no condition.
-/
import Derived.Test.YteigbmdhfeagfaaWrC
import Derived.Test.YteigbmdhfeagfaaSfF
import Derived.Test.YteigbmdhfeagfaaWkF
import Derived.Test.YteigbmdhfeagfaaWkO
namespace Go.Proofs.Yteigbmdhfeagfaa
open Go.ChangeShapes Go.WideShapes Go.ChangeAt Go.RowKit Go.Joins
set_option linter.unusedVariables false

namespace ShiftsLaw
theorem _root_.Go.Proofs.Yteigbmdhfeagfaa.ReadsSf.later {w w' : World} {a : Option Addr} {rs : List RSf} (h : ReadsSf w.heap.size w a rs) (hb : Below w.heap.size w w') : ReadsSf w'.heap.size w' a rs := (h.below hb).mono hb.size
/-- Shifts of one's own in a band. -/
structure SfOw (lo : Nat) (W : World) (g : Nat) (cs : List RSf) : Prop where
  band : lo ≤ g ∧ g < W.heap.size
  at' : SfsAt W g 0 cs
  free : FreeSf W g cs.length
theorem SfOw.later {lo : Nat} {W W' : World} {g : Nat} {cs : List RSf} (h : SfOw lo W g cs) (hb : Below W.heap.size W W') : SfOw lo W' g cs :=
  ⟨⟨h.band.1, Nat.lt_of_lt_of_le h.band.2 hb.size⟩, h.at'.below hb h.band.2, h.free.below hb h.band.2⟩
theorem SfOw.reads {lo : Nat} {W : World} {g : Nat} {cs : List RSf} (h : SfOw lo W g cs) : ReadsSf W.heap.size W (some ⟨g, 0, none⟩) cs := .inr ⟨g, 0, rfl, h.band.2, h.at'⟩
set_option maxHeartbeats 8000000 in
set_option maxRecDepth 4000 in
theorem walk' (a : Option Addr) (cap : Nat) (rs : List RSf) (b : Option Addr) (cb : Nat) (ws : List CWk) (hl : rs.length ≤ maxLen) (hp : ∀ r ∈ rs, SfWide r) (hl2 : ws.length ≤ maxLen) (hp2 : ∀ r ∈ ws, WkWide r) (w : World) (hr : ReadsSf w.heap.size w a rs) (hw : ReadsWk w.heap.size w b ws) :
    Calls Try.prog 3 #[.slice a rs.length cap, .slice b ws.length cb] w fun e w' => e = .returned (.bool true) ∧ Below w.heap.size w w' := by
  have HR : Hid (ReadsSf w.heap.size w a rs) := hr
  have HW : Hid (ReadsWk w.heap.size w b ws) := hw
  have HZ : Hid (∀ w, ReadsSf w.heap.size w a rs → Calls Try.prog 5 #[.slice a rs.length cap, .int .i64 1048576] w (SzSf rs w)) := fun w h => szSfs_any a cap rs hl hp 1048576 (by omega) (by omega) w h
  have HZ2 : Hid (∀ x w, 0 ≤ x → x ≤ 1048576 → ReadsWk w.heap.size w b ws → Calls Try.prog 6 #[.slice b ws.length cb, .int .i64 x] w (SzWks ws w)) := fun x w h0 h1 h => szWks_any b cb ws hl2 hp2 x h0 h1 w h
  clear hr hw hp hp2
  go_enter Try.func3, Try.ntmps3
  go_wp2_with fail
  (first | go_at_call 5 | skip)
  refine (HZ.out _ HR.out).mono ?_
  rintro e w1 ⟨x, rfl, hx, hb1⟩
  have HX : Hid (x < 0 ∨ (0 ≤ x ∧ x ≤ 1048576 ∧ rs.length ≤ 1048576 ∧ ∀ r ∈ rs, SfOK r)) := hx
  have B1 : Hid (Below w.heap.size w w1) := hb1
  clear hx hb1 HZ
  by_cases hx0 : x < 0
  · go_wp2
    go_ret
    exact ⟨rfl, B1.out⟩
  obtain ⟨hxa, hxb, hlen, hok⟩ := HX.out.resolve_left hx0
  have HOK : Hid (∀ r ∈ rs, SfOK r) := hok
  clear hok HX
  go_wp2_with fail
  (first | go_at_call 6 | skip)
  refine (HZ2.out x w1 hxa hxb (HW.out.later B1.out)).mono ?_
  rintro e w1b ⟨y, rfl, hy, hb1b⟩
  have HY : Hid (y < 0 ∨ (0 ≤ y ∧ y ≤ 1048576 ∧ ws.length ≤ 1048576 ∧ totWk ws ≤ 1048576 ∧ ∀ r ∈ ws, WkOK r)) := hy
  have B1b : Hid (Below w.heap.size w w1b) := chain B1.out hb1b
  clear hy hb1b HZ2 hxa hxb hx0 B1
  by_cases hy0 : y < 0
  · go_wp2
    go_ret
    exact ⟨rfl, B1b.out⟩
  obtain ⟨hya, hyb, hlen2, _, hok2⟩ := HY.out.resolve_left hy0
  have HOK2 : Hid (∀ r ∈ ws, WkOK r) := hok2
  clear hok2 HY
  have hS : Hid (∀ a c b d w, ReadsSf w.heap.size w a rs → ReadsWk w.heap.size w b ws → Calls Try.prog 7 #[.slice a rs.length c, .slice b ws.length d] w fun e w' => e = .returned (.bool (roB rs ws)) ∧ Below w.heap.size w w') := fun a c b d w h h2 => specShifts_any a c rs b d ws (by omega) (by omega) HOK.out HOK2.out w h h2
  have hI : Hid (∀ a c b d w, ReadsSf w.heap.size w a rs → ReadsWk w.heap.size w b ws → Calls Try.prog 10 #[.slice a rs.length c, .slice b ws.length d] w fun e w' => e = .returned (.bool (roB rs ws)) ∧ Below w.heap.size w w') := fun a c b d w h h2 => impShifts_any a c rs b d ws (by omega) (by omega) HOK.out HOK2.out w h h2
  have hT : Hid (∀ w, ReadsSf w.heap.size w a rs → Calls Try.prog 8 #[.slice a rs.length cap] w fun e w' => ∃ g, e = .returned (.slice (some ⟨g, 0, none⟩) rs.length rs.length) ∧ Below w.heap.size w w' ∧ SfOw w.heap.size w' g rs) := fun w h => (toSfs_any a cap rs hlen w h).mono fun e w' ⟨h1, h2, h3, h4, h5⟩ => ⟨_, h1, h2, ⟨Nat.le_refl _, h3⟩, h4, h5⟩
  have hT2 : Hid (∀ w, ReadsWk w.heap.size w b ws → Calls Try.prog 9 #[.slice b ws.length cb] w fun e w' => ∃ g, e = .returned (.slice (some ⟨g, 0, none⟩) ws.length ws.length) ∧ Below w.heap.size w w' ∧ OwnWk w.heap.size w' g ws) := fun w h => (toWks_any b cb ws hlen2 HOK2.out w h).mono fun e w' ⟨h1, h2, h3⟩ => ⟨_, h1, h2, h3⟩
  generalize roB rs ws = ob at *
  have hbb : (ob != ob) = false := by simp
  go_wp2_with fail
  (first | go_at_call 8 | skip)
  refine (hT.out w1b (HR.out.later B1b.out)).mono ?_
  rintro e w2 ⟨g2, rfl, hb2, ho2⟩
  have B2 : Hid (Below w.heap.size w w2) := chain B1b.out hb2
  have X2 : Hid (SfOw w1b.heap.size w2 g2 rs) := ho2
  clear hb2 ho2
  go_wp2_with fail
  (first | go_at_call 9 | skip)
  refine (hT2.out w2 (HW.out.later B2.out)).mono ?_
  rintro e w3 ⟨g3, rfl, hb3, ho3⟩
  have B3 : Hid (Below w.heap.size w w3) := chain B2.out hb3
  have X3 : Hid (SfOw w1b.heap.size w3 g2 rs ∧ OwnWk w2.heap.size w3 g3 ws) := ⟨X2.out.later hb3, ho3⟩
  clear hb3 ho3 X2
  go_wp2_with fail
  (first | go_at_call 7 | skip)
  refine (hS.out _ _ _ _ w3 X3.out.1.reads X3.out.2.reads).mono ?_
  rintro e w4 ⟨rfl, hb4⟩
  have B4 : Hid (Below w.heap.size w w4) := chain B3.out hb4
  clear hb4 X3
  go_wp2_with fail
  (first | go_at_call 8 | skip)
  refine (hT.out w4 (HR.out.later B4.out)).mono ?_
  rintro e w5 ⟨g5, rfl, hb5, ho5⟩
  have B5 : Hid (Below w.heap.size w w5) := chain B4.out hb5
  have X5 : Hid (SfOw w4.heap.size w5 g5 rs) := ho5
  clear hb5 ho5
  go_wp2_with fail
  (first | go_at_call 9 | skip)
  refine (hT2.out w5 (HW.out.later B5.out)).mono ?_
  rintro e w6 ⟨g6, rfl, hb6, ho6⟩
  have B6 : Hid (Below w.heap.size w w6) := chain B5.out hb6
  have X6 : Hid (SfOw w4.heap.size w6 g5 rs ∧ OwnWk w5.heap.size w6 g6 ws) := ⟨X5.out.later hb6, ho6⟩
  clear hb6 ho6 X5
  go_wp2_with fail
  (first | go_at_call 10 | skip)
  refine (hI.out _ _ _ _ w6 X6.out.1.reads X6.out.2.reads).mono ?_
  rintro e w7 ⟨rfl, hb7⟩
  have B7 : Hid (Below w.heap.size w w7) := chain B6.out hb7
  have X7 : Hid (SfOw w4.heap.size w7 g5 rs ∧ OwnWk w5.heap.size w7 g6 ws) := ⟨X6.out.1.later hb7, X6.out.2.below hb7 (Nat.le_refl _)⟩
  clear hb7 X6
  go_wp2_with fail
  (first | go_at_call 8 | skip)
  refine (hT.out w7 (HR.out.later B7.out)).mono ?_
  rintro e w8 ⟨g8, rfl, hb8, ho8⟩
  have B8 : Hid (Below w.heap.size w w8) := chain B7.out hb8
  have X8 : Hid ((SfOw w4.heap.size w8 g5 rs ∧ OwnWk w5.heap.size w8 g6 ws) ∧ SfOw w7.heap.size w8 g8 rs) := ⟨⟨X7.out.1.later hb8, X7.out.2.below hb8 (Nat.le_refl _)⟩, ho8⟩
  clear hb8 ho8 X7
  go_wp2_with fail
  (first | go_at_call 11 | skip)
  refine (eqSfs_any _ _ _ _ rs hlen w8 X8.out.1.1.reads X8.out.2.reads).mono ?_
  rintro e w9 ⟨rfl, hb9⟩
  have B9 : Hid (Below w.heap.size w w9) := chain B8.out hb9
  have X9 : Hid (OwnWk w5.heap.size w9 g6 ws) := X8.out.1.2.below hb9 (Nat.le_refl _)
  clear hb9 X8
  go_wp2_with fail
  (first | go_at_call 9 | skip)
  refine (hT2.out w9 (HW.out.later B9.out)).mono ?_
  rintro e w10 ⟨g10, rfl, hb10, ho10⟩
  have B10 : Hid (Below w.heap.size w w10) := chain B9.out hb10
  have X10 : Hid (OwnWk w5.heap.size w10 g6 ws ∧ OwnWk w9.heap.size w10 g10 ws) := ⟨X9.out.below hb10 (Nat.le_refl _), ho10⟩
  clear hb10 ho10 X9
  go_wp2_with fail
  (first | go_at_call 12 | skip)
  refine (eqWks_any _ _ _ _ ws hlen2 HOK2.out w10 X10.out.1.reads X10.out.2.reads).mono ?_
  rintro e w11 ⟨rfl, hb11⟩
  have B11 : Hid (Below w.heap.size w w11) := chain B10.out hb11
  clear hb11
  go_wp2
  go_ret
  exact ⟨rfl, B11.out⟩

theorem walk (a : Option Addr) (len cap : Nat) (rs : List RSf) (b : Option Addr) (len2 cap2 : Nat) (ws : List CWk) (w : World) (h : IsSfs w a len cap rs) (h2 : IsWks w b len2 cap2 ws) :
    Calls Try.prog 3 #[.slice a len cap, .slice b len2 cap2] w fun e w' => e = .returned (.bool true) ∧ Below w.heap.size w w' := by
  obtain ⟨rfl, h2a, h3, h4, h5⟩ := h
  obtain ⟨rfl, k2, k3, k4, k5⟩ := h2
  exact walk' a cap rs b cap2 ws (Nat.le_trans h2a h3) h4 (Nat.le_trans k2 k3) k4 w h5 k5

theorem own : ownKnob Try.prog.godebug = none := by kernel_rfl
theorem laidOut : laidOutB Try.prog = true := by kernel_rfl

set_option maxRecDepth 100000 in
theorem lifted (os : Os) (started : os.Started) (H : Type) (enc : TypeId × Value → H) :
    ReturnsInHanded {} Try.checked os 3 .any (Rows.fnExactShiftsOKSpec.pre6 enc Try.prog Try.f3 Rows.fnExactShiftsOKRow.domain false) (Rows.fnExactShiftsOKSpec.post enc Try.prog Try.f3 false true false false) := by
  refine returnsInHanded_of_change (C := Try.checked) own started (by kernel_rfl) Try.func3
    (ChangeSpec.witness6 (enc := enc) (C := Try.checked) false ⟨#[], #[.slice none 0 0, .slice none 0 0], []⟩ 8 (by kernel_rfl) (by kernel_rfl) (by kernel_rfl) (by kernel_rfl)) ?_
  intro W base args ds gs before hval0 hW hcnd _
  have hval : ∀ (j : Nat) t v, Try.f3.params[j]? = some t → args[j]? = some v → Value.okWide Try.prog W .any base t v := hval0
  have hW' := hW
  obtain ⟨p, q, hA0, hV, rfl, hfz, hnd⟩ := hW
  have hA : DataW.TrodAll enc Try.prog W 0 (fun _ => true) true Try.f3.params.toList args.toList ds p := hA0
  rw [Try.params3] at hA hval
  obtain ⟨v0, vs0, d0, ds0, p0, q0, hargs, rfl, rfl, h0, r0⟩ := trodAll_cons hA
  obtain ⟨v1, vs1, d1, ds1, p1, q1, rfl, rfl, rfl, h1, r1⟩ := trodAll_cons r0
  obtain ⟨rfl, rfl, rfl⟩ := trodAll_nil r1
  obtain rfl : args = #[v0, v1] := by cases args; simp_all
  obtain ⟨rfl, rfl⟩ := trodVars_none hV
  have k0 := h0
  have lt0 : ∀ x ∈ p0, x.block < W.heap.size := by obtain ⟨m, hm⟩ := k0; exact DataW.trod_lt m _ _ _ hm
  have k1 := h1
  have lt1 : ∀ x ∈ p1, x.block < W.heap.size := by obtain ⟨m, hm⟩ := k1; exact DataW.trod_lt m _ _ _ hm
  obtain ⟨a0, len0, cap0, rfl⟩ := okWide_slice Try.underlying22 (hval 0 22 v0 rfl rfl)
  obtain ⟨z0, w0⟩ : ∃ zs, IsSfs W a0 len0 cap0 zs := by
    obtain ⟨fuel, hf⟩ := h0
    exact openSfs (by simpa [Value.cells] using hf)
  obtain ⟨a1, len1, cap1, rfl⟩ := okWide_slice Try.underlying23 (hval 1 23 v1 rfl rfl)
  obtain ⟨z1, w1⟩ : ∃ zs, IsWks W a1 len1 cap1 zs := by
    obtain ⟨fuel, hf⟩ := h1
    exact openWks (by simpa [Value.cells] using hf)
  clear hA0 hval0
  refine (walk a0 len0 cap0 z0 a1 len1 cap1 z1 W w0 w1).mono fun e W' ⟨he, bel⟩ => ?_
  subst he
  exact ⟨_, rfl, _, _, _, [], _, [], hW', trodAll_mk1 (shut_bool Try.underlying4 _), (trodAll_cons_mk (Below.trod laidOut (by kernel_rfl) (of_decide_eq_true (by kernel_rfl)) k0 bel lt0) (trodAll_cons_mk (Below.trod laidOut (by kernel_rfl) (of_decide_eq_true (by kernel_rfl)) k1 bel lt1) trodAll_mk0)), rfl, bel.frame _, fun h => by cases h⟩

theorem over : Rows.fnExactShiftsOKRow.holds Try.pinned (OpenSpec.ofChange Rows.fnExactShiftsOKSpec) :=
  OpenClaim.holds_of_wide 3 Try.f3 rfl rfl rfl rfl rfl rfl rfl ⟨rfl, rfl, rfl, rfl, rfl⟩ rfl rfl rfl rfl rfl (by kernel_rfl) Try.func3 (by kernel_rfl)
    (of_decide_eq_true (by kernel_rfl)) (by unfold Func.isWrapper; first | (rw [if_pos (by decide +kernel)]; kernel_rfl) | (rw [if_neg (by decide +kernel)]; exact ⟨rfl, rfl⟩))
    (fun os started H enc _ => lifted os started H enc)
end ShiftsLaw

theorem fnExactShiftsOK_holds : Rows.FnExactShiftsOKSaid := ShiftsLaw.over
end Go.Proofs.Yteigbmdhfeagfaa
