/-
  For every list of rules the law FnExactRulesText answers true: the program's RulesText answers as the specification's and writes into no argument; the library's tables hold what its text lays (the card ties them to the program's text).
-/
import Derived.Test.YthkfaiokigmjeaaDoorCards
import Derived.Test.YthkfaiokigmjeaaDoorTie
import Derived.Test.YthkfaiokigmjeaaDoorRtE
import Derived.Test.YthkfaiokigmjeaaDoorClF
import Derived.Test.YthkfaiokigmjeaaDoorClO
import Derived.Deep.DeepHandedRow
import Derived.Lib.LaidTab
import Derived.WalkSmall
namespace Go.Proofs.YthkfaiokigmjeaaDoor
open Go.ChangeShapes Go.WideShapes Go.ChangeAt Go.RowKit Go.Joins
set_option linter.unusedVariables false

theorem cellsPow : Tryd.prog.cellsOf 102 = 20 := by kernel_rfl
theorem cellsU64 : Tryd.prog.cellsOf 93 = 1 := by kernel_rfl
theorem gPowType : (Tryd.prog.globals[(Tryd.prog.globalNamed "internal/strconv.uint64pow10").get!]?).map (·.type) = some 102 := by kernel_rfl
theorem powData : Rows.laid_internal_strconv_uint64pow10 = Lib.tabData (H := Unit) .u64 Lib.pow10Tab := by kernel_rfl
theorem tab_third {n1 n2 : String} {d1 d2 : DataW Unit} {rest : List (String × DataW Unit)} {W : World}
    (h : laidMet Tryd.prog ((n1, d1) :: (n2, d2) :: ("internal/strconv.uint64pow10", Lib.tabData .u64 Lib.pow10Tab) :: rest) W) : Tab W := by
  obtain ⟨ps, ⟨g1, t1, cs1, f1, p1, q1, _, _, _, _, h2, _⟩, _⟩ := h
  obtain ⟨g2, t2, cs2, f2, p2, q2, _, _, _, _, h3, _⟩ := h2
  obtain ⟨g', t', cs, fuel, p, q, hg', ht', hvar, hd, _, _⟩ := h3
  obtain rfl := Option.some.inj (gPow.symm.trans hg')
  obtain rfl := Option.some.inj (gPowType.symm.trans ht')
  unfold Tab Lib.TabIs
  rw [hvar, ← Lib.cells_of_tab Tryd.underlying102 Tryd.underlying93 cellsU64 cellsPow hd]

namespace RulesLaw
set_option maxHeartbeats 4000000 in
theorem walk' (a : Option Addr) (cap : Nat) (rs : List CCl) (hl : rs.length ≤ maxLen) (hp : ∀ r ∈ rs, ClWide r) (w : World) (hTab : Tab w) (hr : ReadsCl w.heap.size w a rs) :
    Calls Tryd.prog 3 #[.slice a rs.length cap] w fun e w' => e = .returned (.bool true) ∧ Below w.heap.size w w' := by
  have HR : Hid (ReadsCl w.heap.size w a rs) := hr
  have HTab : Hid (Tab w) := hTab
  have HZ : Hid (∀ w, ReadsCl w.heap.size w a rs → Calls Tryd.prog 4 #[.slice a rs.length cap, .int .i64 1048576] w (SzCls rs w)) := fun w h => szCls_any a cap rs hl hp 1048576 (by omega) (by omega) w h
  clear hr hp hTab
  go_enter Tryd.func3, Tryd.ntmps3
  go_wp2_with (go_at_call 4; refine (HZ.out _ HR.out).mono ?_; rintro e w1 ⟨x, rfl, hx, hb1⟩; have HX : Hid (x < 0 ∨ (0 ≤ x ∧ x ≤ 1048576 ∧ rs.length ≤ 1048576 ∧ totCl rs ≤ 1048576 ∧ ∀ r ∈ rs, ClOK r)) := hx; have B1 : Hid (Below w.heap.size w w1) := hb1; clear hx hb1)
  · go_ret
    exact ⟨rfl, B1.out⟩
  rcases HX.out with h | ⟨h, _, hlen, _, hok⟩
  · omega
  have HOK : Hid (∀ r ∈ rs, ClOK r) := hok
  have hS : Hid (∀ a c w, rs.length ≤ c → ReadsCl w.heap.size w a rs → Calls Tryd.prog 5 #[.slice a rs.length c] w fun e w' => e = .returned (.tuple #[.string ⟨(rtS rs).toArray⟩, .int .i64 (fltC rs)]) ∧ Below w.heap.size w w') := fun a c w hc h => specRules_any a c rs hc hlen HOK.out w h
  have hI : Hid (∀ a c w, Tab w → ReadsCl w.heap.size w a rs → Calls Tryd.prog 7 #[.slice a rs.length c] w fun e w' => e = .returned (.tuple #[.string ⟨(rtS rs).toArray⟩, .int .i64 (fltC rs)]) ∧ Below w.heap.size w w') := fun a c w ht h => implRules_any a c rs hlen HOK.out w ht h
  have hT : Hid (∀ w, ReadsCl w.heap.size w a rs → Calls Tryd.prog 6 #[.slice a rs.length cap] w fun e w' => ∃ g, e = .returned (.slice (some ⟨g, 0, none⟩) rs.length rs.length) ∧ Below w.heap.size w w' ∧ OwnCl w.heap.size w' g rs) := fun w h => (toCls_any a cap rs hlen HOK.out w h).mono fun e w' ⟨h1, h2, h3⟩ => ⟨_, h1, h2, h3⟩
  generalize (⟨(rtS rs).toArray⟩ : ByteArray) = T at *
  generalize fltC rs = c at *
  have hd1 : (c != c) = false := by simp
  clear hok HX HZ
  go_wp2_with fail
  (first | go_at_call 6 | skip)
  refine (hT.out w1 (HR.out.later B1.out)).mono ?_
  rintro e w2 ⟨g2, rfl, hb2, ho2⟩
  have B2 : Hid (Below w.heap.size w w2) := chain B1.out hb2
  have X2 : Hid (OwnCl w1.heap.size w2 g2 rs) := ho2
  clear hb2 ho2
  go_wp2_with fail
  (first | go_at_call 5 | skip)
  refine (hS.out _ _ w2 (Nat.le_refl _) X2.out.reads).mono ?_
  rintro e w3 ⟨rfl, hb3⟩
  have B3 : Hid (Below w.heap.size w w3) := chain B2.out hb3
  clear hb3 X2
  go_wp2_with fail
  (first | go_at_call 6 | skip)
  refine (hT.out w3 (HR.out.later B3.out)).mono ?_
  rintro e w4 ⟨g4, rfl, hb4, ho4⟩
  have B4 : Hid (Below w.heap.size w w4) := chain B3.out hb4
  have X4 : Hid (OwnCl w3.heap.size w4 g4 rs) := ho4
  clear hb4 ho4
  go_wp2_with fail
  (first | go_at_call 7 | skip)
  refine (hI.out _ _ w4 (HTab.out.below B4.out) X4.out.reads).mono ?_
  rintro e w5 ⟨rfl, hb5⟩
  have B5 : Hid (Below w.heap.size w w5) := chain B4.out hb5
  have X5 : Hid (OwnCl w3.heap.size w5 g4 rs) := X4.out.below hb5 (Nat.le_refl _)
  clear hb5
  go_wp2_with fail
  (first | go_at_call 6 | skip)
  refine (hT.out w5 (HR.out.later B5.out)).mono ?_
  rintro e w6 ⟨g6, rfl, hb6, ho6⟩
  have B6 : Hid (Below w.heap.size w w6) := chain B5.out hb6
  have X6 : Hid (OwnCl w3.heap.size w6 g4 rs) := X5.out.below hb6 (Nat.le_refl _)
  have Y6 : Hid (OwnCl w5.heap.size w6 g6 rs) := ho6
  clear hb6 ho6
  go_wp2_with fail
  (first | go_at_call 8 | skip)
  refine (eqCls_any _ _ _ _ rs hlen HOK.out w6 X6.out.reads Y6.out.reads).mono ?_
  rintro e w7 ⟨rfl, hb7⟩
  have B7 : Hid (Below w.heap.size w w7) := chain B6.out hb7
  clear hb7
  go_wp2
  go_ret
  exact ⟨rfl, B7.out⟩

theorem walk (a : Option Addr) (len cap : Nat) (rs : List CCl) (w : World) (h : IsCls w a len cap rs) (hL : laidMetH Tryd.prog Rows.fnExactRulesTextRow.laid w) :
    Calls Tryd.prog 3 #[.slice a len cap] w fun e w' => e = .returned (.bool true) ∧ Below w.heap.size w w' := by
  have hL' : laidMet Tryd.prog [("math/bits.deBruijn32tab", Rows.laid_math_bits_deBruijn32tab), ("math/bits.deBruijn64tab", Rows.laid_math_bits_deBruijn64tab), ("internal/strconv.uint64pow10", Rows.laid_internal_strconv_uint64pow10)] w := hL
  rw [powData] at hL'
  have hT := tab_third hL'
  obtain ⟨rfl, h2, h3, h4, h5⟩ := h
  exact walk' a cap rs (Nat.le_trans h2 h3) h4 w hT h5

theorem own : ownKnob Tryd.prog.godebug = none := by kernel_rfl
theorem laidOut : laidOutB Tryd.prog = true := by kernel_rfl

set_option maxRecDepth 100000 in
theorem contract (H : Type) (enc : TypeId × Value → H) (W : World) (base : Nat) (args : Array Value) (ds gs : List (DataW H)) (before : List MemPlace)
    (hval : ∀ (j : Nat) t v, Tryd.f3.params[j]? = some t → args[j]? = some v → Value.okWide Tryd.prog W .any base t v)
    (hW : DataW.Whole enc Tryd.prog Tryd.f3.params.toList Rows.fnExactRulesTextSpec.vars false W args.toList ds gs before) (hL : laidMetH Tryd.prog Rows.fnExactRulesTextRow.laid W) :
    Calls Tryd.prog 3 args W fun e W' => ∃ v, e = .returned v ∧ Rows.fnExactRulesTextSpec.post enc Tryd.prog Tryd.f3 false true false false W args v W' := by
  have hW' := hW
  obtain ⟨p, q, hA0, hV, rfl, hfz, hnd⟩ := hW
  have hA : DataW.TrodAll enc Tryd.prog W 0 (fun _ => true) true Tryd.f3.params.toList args.toList ds p := hA0
  rw [Tryd.params3] at hA hval
  obtain ⟨v0, vs0, d0, ds0, p0, q0, hargs, rfl, rfl, h0, r0⟩ := trodAll_cons hA
  obtain ⟨rfl, rfl, rfl⟩ := trodAll_nil r0
  obtain rfl : args = #[v0] := by cases args; simp_all
  obtain ⟨rfl, rfl⟩ := trodVars_none hV
  have k0 := h0
  have lt0 : ∀ x ∈ p0, x.block < W.heap.size := by obtain ⟨m, hm⟩ := k0; exact DataW.trod_lt m _ _ _ hm
  obtain ⟨a0, len0, cap0, rfl⟩ := okWide_slice Tryd.underlying22 (hval 0 22 v0 rfl rfl)
  obtain ⟨z0, w0⟩ : ∃ zs, IsCls W a0 len0 cap0 zs := by
    obtain ⟨fuel, hf⟩ := h0
    exact openCls (by simpa [Value.cells] using hf)
  clear hA0
  refine (walk a0 len0 cap0 z0 W w0 hL).mono fun e W' ⟨he, bel⟩ => ?_
  subst he
  exact ⟨_, rfl, _, _, _, [], _, [], hW', trodAll_mk1 (shut_bool Tryd.underlying4 _), (trodAll_cons_mk (Below.trod laidOut (by kernel_rfl) (of_decide_eq_true (by kernel_rfl)) k0 bel lt0) trodAll_mk0), rfl, bel.frame _, fun h => by cases h⟩


def valsOf (d : DataW Unit) : Array Value := match d with
  | .agg l => (l.map fun | .lit (.int k n) => Value.int k n | _ => .int .i64 0).toArray
  | _ => #[]
theorem laid_met (os : Os) : laidMet Tryd.prog Rows.fnExactRulesTextRow.laid (({ (World.holding Tryd.prog os ⟨#[], #[], []⟩) with heap := ((((World.holding Tryd.prog os ⟨#[], #[], []⟩).heap.modify 2 fun | .cells _ t frozen => .cells (valsOf Rows.laid_math_bits_deBruijn32tab) t frozen | o => o).modify 3 fun | .cells _ t frozen => .cells (valsOf Rows.laid_math_bits_deBruijn64tab) t frozen | o => o).modify 1 fun | .cells _ t frozen => .cells (valsOf Rows.laid_internal_strconv_uint64pow10) t frozen | o => o) }).forCall (fun _ _ => 0) ⟨#[], #[.slice none 0 0], []⟩).memory :=
  laidMet_of_run' 8 (by kernel_rfl) (by kernel_rfl)
theorem reads (os : Os) {H : Type} (enc : TypeId × Value → H) : ∃ places, DataW.whole enc Tryd.prog (({ (World.holding Tryd.prog os ⟨#[], #[], []⟩) with heap := ((((World.holding Tryd.prog os ⟨#[], #[], []⟩).heap.modify 2 fun | .cells _ t frozen => .cells (valsOf Rows.laid_math_bits_deBruijn32tab) t frozen | o => o).modify 3 fun | .cells _ t frozen => .cells (valsOf Rows.laid_math_bits_deBruijn64tab) t frozen | o => o).modify 1 fun | .cells _ t frozen => .cells (valsOf Rows.laid_internal_strconv_uint64pow10) t frozen | o => o) }).forCall (fun _ _ => 0) ⟨#[], #[.slice none 0 0], []⟩).memory Tryd.f3.params.toList Rows.fnExactRulesTextSpec.vars false #[.slice none 0 0].toList 8 = some ([.nil], [], places) :=
  ⟨[], by kernel_rfl⟩

set_option maxRecDepth 100000 in
theorem lifted (os : Os) (started : os.Started) (H : Type) (enc : TypeId × Value → H) (F : Stop.Interp) :
    ReturnsInHanded {} Tryd.checked os 3 .any ((OpenSpec.ofChange Rows.fnExactRulesTextSpec).preRow enc Tryd.prog Tryd.f3 Rows.fnExactRulesTextRow.domain false Rows.fnExactRulesTextRow.laid) (((OpenSpec.ofChange Rows.fnExactRulesTextSpec).at F).post enc Tryd.prog Tryd.f3 false true false false) := by
  obtain ⟨places, hx⟩ := reads os enc
  refine returnsInHanded_of_row (C := Tryd.checked) (s := OpenSpec.ofChange Rows.fnExactRulesTextSpec) own started (by kernel_rfl) Tryd.func3
    (witness_row_at (enc := enc) (C := Tryd.checked) false ({ (World.holding Tryd.prog os ⟨#[], #[], []⟩) with heap := ((((World.holding Tryd.prog os ⟨#[], #[], []⟩).heap.modify 2 fun | .cells _ t frozen => .cells (valsOf Rows.laid_math_bits_deBruijn32tab) t frozen | o => o).modify 3 fun | .cells _ t frozen => .cells (valsOf Rows.laid_math_bits_deBruijn64tab) t frozen | o => o).modify 1 fun | .cells _ t frozen => .cells (valsOf Rows.laid_internal_strconv_uint64pow10) t frozen | o => o) }) #[.slice none 0 0] rfl (by kernel_rfl) (by kernel_rfl) (by kernel_rfl)
      (OpenSpec.preRow_of_cond 8 hx (by kernel_rfl) (fun k hk => by cases hk) (by kernel_rfl) (laid_met os))) ?_
  intro W base args ds gs before hval hW _ _ _ hL _ _
  exact contract H enc W base args ds gs before hval hW hL

theorem said : Rows.FnExactRulesTextSaid :=
  OpenClaim.holds_of_cond 3 Tryd.f3 rfl rfl rfl rfl rfl rfl rfl ⟨rfl, rfl, rfl, rfl, rfl⟩ rfl rfl rfl rfl rfl (by kernel_rfl) Tryd.func3 (by kernel_rfl)
    (of_decide_eq_true (by kernel_rfl)) (by unfold Func.isWrapper; first | (rw [if_pos (by decide +kernel)]; kernel_rfl) | (rw [if_neg (by decide +kernel)]; exact ⟨rfl, rfl⟩))
    (fun os started H enc _ F => by rw [OpenClaim.pre_eq_preRow]; exact lifted os started H enc F)

theorem plain (f : FuncId) (fn : Func) (hf : Tryd.pinned.checked.prog.funcNamed "loop.example/g00067/laws.FnExactRulesText" = some f) (hfn : Tryd.pinned.checked.prog.funcs[f]? = some fn) :
    false = Tryd.pinned.checked.prog.looks [] ∧ ∀ (j : Nat) t, fn.params[j]? = some t → Tryd.pinned.checked.prog.wantsStandIn t = false := by
  obtain rfl : f = 3 := Option.some.inj ((show Tryd.prog.funcNamed "loop.example/g00067/laws.FnExactRulesText" = some 3 by kernel_rfl).symm.trans hf) |>.symm
  obtain rfl : fn = Tryd.f3 := (Option.some.inj (Tryd.func3.symm.trans hfn)).symm
  refine ⟨by kernel_rfl, fun j t ht => ?_⟩
  rw [Tryd.params3] at ht
  have ht' : t = 22 := by simpa using Array.mem_of_getElem? ht
  obtain rfl := ht'
  all_goals first | exact (show Tryd.prog.wantsStandIn 22 = false by kernel_rfl)

theorem card : Rows.FnExactRulesTextCardSaid :=
  Claim7.holds_tied_plain_at .later [] _ _ _ _ said (fun _ h => by cases h) (by kernel_rfl) (fun _ h => by cases h) fnExactRulesText_row_tie rfl ⟨rfl, rfl⟩ (by kernel_rfl) rfl plain (by kernel_rfl)
end RulesLaw

theorem fnExactRulesText_holds : Rows.FnExactRulesTextCardSaid := RulesLaw.card
end Go.Proofs.YthkfaiokigmjeaaDoor
