/-
  For every code the law FnExactMakeScan answers true: the program's MakeScan answers as the specification's, at every argument; the library's tables hold what its text lays (the card ties them to the program's text).
-/
import Derived.Test.YtlejmjpjlbiojaaDoorCards
import Derived.Test.YtlejmjpjlbiojaaDoorTie
import Derived.Test.YtlejmjpjlbiojaaDoorMake4
import Derived.Test.YtlejmjpjlbiojaaDoorMakeMath
import Derived.Deep.DeepHandedRow
namespace Go.Proofs.YtlejmjpjlbiojaaDoor
open Go.ChangeShapes Go.WideShapes Go.ChangeAt Go.RowKit Go.Joins
set_option linter.unusedVariables false

def SameM (k : Int) (a : ByteArray) (v : Int) : Prop := ∃ t c, (∀ w, Tab w → Calls Tryd.prog 8 #[sv k a v] w fun e w' => e = .returned (.tuple #[.string t, .int .i64 c]) ∧ Below w.heap.size w w') ∧ ∀ w, Calls Tryd.prog 12 #[sv k a v] w fun e w' => e = .returned (.tuple #[.string t, .int .i64 c]) ∧ Below w.heap.size w w'

theorem sameUnit (a : ByteArray) (v : Int) : SameM 1 a v := by
  obtain ⟨k', a', v', c, h1, h2⟩ := same_any a
  cases hc : (c != 0)
  · have hc0 : c = 0 := by simpa using hc
    by_cases hq : k' = 1 ∧ a' = a ∧ v' = v
    · obtain ⟨rfl, rfl, rfl⟩ := hq
      subst hc0
      exact ⟨a', 0, fun w _ => implUnit_any _ _ _ _ (fun w => makeUnit_good 1 a' v' h1 w) w, fun w => specUnit_good a' v' h2 w⟩
    · have hq' : (!(decide (k' = 1 ∧ a' = a ∧ v' = v))) = true := by rw [decide_eq_false hq]; rfl
      exact ⟨⟨#[]⟩, 1, fun w _ => implUnit_any _ _ _ _ (fun w => makeUnit_bad 1 a v k' a' v' c h1 (.inr ⟨hc, hq'⟩) w) w, fun w => specUnit_bad a v k' a' v' c h2 (.inr ⟨hc, hq'⟩) w⟩
  · exact ⟨⟨#[]⟩, 1, fun w _ => implUnit_any _ _ _ _ (fun w => makeUnit_bad 1 a v k' a' v' c h1 (.inl hc) w) w, fun w => specUnit_bad a v k' a' v' c h2 (.inl hc) w⟩

theorem valued_ways (c1 : UInt8) (k : Int) (hk : (k = 2 ∧ c1 = 48) ∨ (k = 3 ∧ c1 = 49)) (a : ByteArray) (v : Int) (hs : a.size ≤ maxLen) :
    ∃ t c, (∀ w, Tab w → Calls Tryd.prog 27 #[.agg #[.int .u8 50, .int .u8 (c1.toNat : Int)], sv k a v] w fun e w' => e = .returned (.tuple #[.string t, .int .i64 c]) ∧ Below w.heap.size w w') ∧ ∀ w, Calls Tryd.prog 12 #[sv k a v] w fun e w' => e = .returned (.tuple #[.string t, .int .i64 c]) ∧ Below w.heap.size w w' := by
  have hk' : k = 2 ∨ k = 3 := by omega
  by_cases h5 : (a.size : Int) = 5
  · cases hd : allD a.data.toList
    · exact ⟨⟨#[]⟩, 1, fun w _ => mvBad _ k a v (.inr (.inl ⟨h5, hd⟩)) w, fun w => svBad k a v hk' hs (.inr (.inl ⟨h5, hd⟩)) w⟩
    · rcases in_ways v 0 99999 with hv | ⟨hv, hv'⟩ | ⟨hv, hv'⟩
      · exact ⟨⟨#[]⟩, 1, fun w _ => mvBad _ k a v (.inr (.inr (.inl ⟨h5, hd, hv⟩))) w, fun w => svBad k a v hk' hs (.inr (.inr ⟨h5, hd, decide_eq_false (by omega)⟩)) w⟩
      · exact ⟨⟨#[]⟩, 1, fun w _ => mvBad _ k a v (.inr (.inr (.inr ⟨h5, hd, hv, by omega⟩))) w, fun w => svBad k a v hk' hs (.inr (.inr ⟨h5, hd, decide_eq_false (by omega)⟩)) w⟩
      · obtain ⟨u, hu⟩ : ∃ u : Nat, 100000 + v = (u : Int) := ⟨(100000 + v).toNat, by omega⟩
        have hl6 : (Lib.decDigits u).length = 6 := dec_len 5 u (show 100000 ≤ u by omega) (show u < 1000000 by omega)
        have hd6 : (decS u).size = 6 := by show (Lib.decDigits u).toArray.size = 6; simpa using hl6
        have hDs : ((decS u).extract 1 (decS u).size).size = 5 := by simp; omega
        have hDd : allD ((decS u).extract 1 (decS u).size).data.toList = true := by
          rw [Lib.extract_data]; exact allD_take _ _ (allD_drop _ 1 (by unfold decS; simpa using dec_digits u))
        generalize hD : (decS u).extract 1 (decS u).size = D at *
        have hc1 : dg c1 = true := by rcases hk with ⟨_, rfl⟩ | ⟨_, rfl⟩ <;> decide
        have hdd : allD (⟨#[50, c1]⟩ ++ (a ++ D) : ByteArray).data.toList = true := by
          simp only [ByteArray.data_append, Array.toList_append]
          rw [allD_append, allD_append, hd, hDd]
          have : allD [50, c1] = true := by unfold allD; simp [hc1]; decide
          simpa using this
        have hr := cd_range (⟨#[50, c1]⟩ ++ (a ++ D) : ByteArray).data.toList
        obtain ⟨x, hx⟩ : ∃ x : Nat, cd (⟨#[50, c1]⟩ ++ (a ++ D) : ByteArray).data.toList = (x : Int) := ⟨(cd (⟨#[50, c1]⟩ ++ (a ++ D) : ByteArray).data.toList).toNat, by omega⟩
        have hx9 : x < 10 := by omega
        have hsz : (⟨#[50, c1]⟩ : ByteArray).size = 2 := rfl
        have hs1 : (⟨#[48]⟩ : ByteArray).size = 1 := rfl
        have h13 : (⟨#[50, c1]⟩ ++ a ++ D ++ ⟨#[48]⟩ : ByteArray).size = 13 := by simp only [ByteArray.size_append, hsz, hs1]; omega
        have hl13 : (pad (⟨#[50, c1]⟩ ++ a ++ D ++ ⟨#[48]⟩)).length = 13 := by rw [pad13 _ h13, Array.length_toList]; exact h13
        have hL12 : allD ((pad (⟨#[50, c1]⟩ ++ a ++ D ++ ⟨#[48]⟩)).take 12) = true := by
          rw [pad13 _ h13]
          have e1 : (⟨#[50, c1]⟩ ++ a ++ D ++ ⟨#[48]⟩ : ByteArray).data.toList = (⟨#[50, c1]⟩ ++ (a ++ D) : ByteArray).data.toList ++ [48] := by simp [ByteArray.data_append]
          rw [e1]; refine allD_take _ _ ?_
          rw [allD_append, hdd]; decide
        have ht := make_text c1 a D (by omega) hDs x hx hx9
        refine ⟨⟨#[50, c1]⟩ ++ (a ++ D) ++ decS x, 0, fun w tb => ?_, fun w => svGood k c1 a D v u hk hs h5 hd (decide_eq_true ⟨hv, hv'⟩) hu (by omega) hD hd6 x hx hx9 hdd w⟩
        rw [← ht]
        exact mvGood c1 k a D v u _ h5 hd hv (by omega) hu hD hd6 rfl h13 hl13 hL12 w tb
  · have n5 : ((a.size : Int) != 5) = true := by rw [bne_iff_ne]; exact h5
    exact ⟨⟨#[]⟩, 1, fun w _ => mvBad _ k a v (.inl n5) w, fun w => svBad k a v hk' hs (.inl n5) w⟩

theorem sameM_any (k : Int) (a : ByteArray) (v : Int) (hs : a.size ≤ maxLen) : SameM k a v := by
  by_cases h1 : k = 1
  · subst h1; exact sameUnit a v
  by_cases h2 : k = 2
  · subst h2
    obtain ⟨t, c, hi, hsp⟩ := valued_ways 48 2 (.inl ⟨rfl, rfl⟩) a v hs
    exact ⟨t, c, fun w tb => implGrams a v t c hi w tb, hsp⟩
  by_cases h3 : k = 3
  · subst h3
    obtain ⟨t, c, hi, hsp⟩ := valued_ways 49 3 (.inr ⟨rfl, rfl⟩) a v hs
    exact ⟨t, c, fun w tb => implPrice a v t c hi w tb, hsp⟩
  · have b1 : (k == 1) = false := by rw [beq_eq_false_iff_ne]; exact h1
    have b2 : (k == 2) = false := by rw [beq_eq_false_iff_ne]; exact h2
    have b3 : (k == 3) = false := by rw [beq_eq_false_iff_ne]; exact h3
    have n2 : (k != 2) = true := by rw [bne_iff_ne]; exact h2
    have n3 : (k != 3) = true := by rw [bne_iff_ne]; exact h3
    exact ⟨⟨#[]⟩, 1, fun w _ => implOther k a v b1 b2 b3 w, fun w => specOther k a v b1 n2 n3 w⟩
theorem szScan_any (k : Int) (a : ByteArray) (v : Int) (hs : a.size ≤ maxLen) (w : World) :
    Calls Tryd.prog 11 #[sv k a v, .int .i64 1048576] w fun e w' => e = .returned (.int .i64 (if (1048576 : Int) < (a.size : Int) then -1 else 1048576 - (a.size : Int))) ∧ Below w.heap.size w w' := by
  unfold sv
  unfold maxLen at hs
  by_cases h : (1048576 : Int) < (a.size : Int)
  · rw [if_pos h]
    have hlt : (1048576 : Int) - (a.size : Int) < 0 := by omega
    have ha : (a.size : Int) ≤ 9223372036854775807 := by omega
    go_enter Tryd.func11, Tryd.ntmps11
    go_wp2
    go_ret
    exact ⟨rfl, below_alloc _ _⟩
  · rw [if_neg h]
    have hlt : (0 : Int) ≤ (1048576 : Int) - (a.size : Int) := by omega
    go_enter Tryd.func11, Tryd.ntmps11
    go_wp2
    go_ret
    exact ⟨rfl, below_alloc _ _⟩

theorem toScan_any (k : Int) (a : ByteArray) (v : Int) (w : World) :
    Calls Tryd.prog 13 #[sv k a v] w fun e w' => e = .returned (sv k a v) ∧ Below w.heap.size w w' := by
  unfold sv
  go_enter Tryd.func13, Tryd.ntmps13
  go_wp2
  refine bodyPost_ret (results_cell_row rfl _ _ (w.heap.size + 1) 25 _ (0, 0) _ rfl ((heap_alloc_old _ _ (by simp)).trans (heap_alloc2_new w _ _)) Tryd.underlying25 rfl info3) rfl ?_
  exact ⟨rfl, chain (chain (below_alloc _ _) (below_alloc _ _)) (below_alloc _ _)⟩

namespace MakeLaw
theorem walk (k : Int) (wk : (Lit.int .i64 k).wf = true) (a : ByteArray) (wa : a.size ≤ maxLen) (v : Int) (wv : (Lit.int .i64 v).wf = true) (w : World) (hL : laidMetH Tryd.prog Rows.fnExactMakeScanRow.laid w) :
    Calls Tryd.prog 4 #[.agg #[.int .i64 k, .string a, .int .i64 v]] w fun e w' => e = .returned (.bool true) ∧ Below w.heap.size w w' := by
  have hL' : laidMet Tryd.prog [("math/bits.deBruijn32tab", Rows.laid_math_bits_deBruijn32tab), ("math/bits.deBruijn64tab", Rows.laid_math_bits_deBruijn64tab), ("internal/strconv.uint64pow10", Rows.laid_internal_strconv_uint64pow10)] w := hL
  rw [powData] at hL'
  have hT := tab_third hL'
  clear hL hL' wk wv
  obtain ⟨t, c, hi, hsp⟩ := sameM_any k a v wa
  have hz := fun w => szScan_any k a v wa w
  have hto := fun w => toScan_any k a v w
  unfold sv at *
  by_cases h : (1048576 : Int) < (a.size : Int)
  · rw [if_pos h] at hz
    go_enter Tryd.func4, Tryd.ntmps4
    go_wp2_with (go_at_call 11; refine (hz _).mono ?_; rintro e w1 ⟨rfl, hb1⟩)
    go_ret
    exact ⟨rfl, chain (below_alloc _ _) hb1⟩
  · rw [if_neg h] at hz
    have hlt : (0 : Int) ≤ (1048576 : Int) - (a.size : Int) := by omega
    generalize (1048576 : Int) - (a.size : Int) = left at *
    clear h
    go_enter Tryd.func4, Tryd.ntmps4
    go_wp2_with fail
    go_at_call 11
    refine (hz _).mono ?_
    rintro e w1 ⟨rfl, hb1⟩
    have K1 : Hid _ := below_heap hb1 w.heap.size (by simp) _ (heap_alloc_new w _)
    obtain ⟨p0, p1, p2, pf⟩ := kc K1.out
    clear hz
    go_wp2_with fail
    clear p0 p1 p2 pf
    go_at_call 13
    refine (hto _).mono ?_
    rintro e w2 ⟨rfl, hb2⟩
    go_wp2_with fail
    go_at_call 12
    refine (hsp _).mono ?_
    rintro e w3 ⟨rfl, hb3⟩
    have sz1 : w.heap.size < w1.heap.size := by have := hb1.size; simp at this; omega
    have K3 := below_heap hb3 w.heap.size (by have := hb2.size; omega) _ (below_heap hb2 w.heap.size sz1 _ K1.out)
    obtain ⟨p0, p1, p2, pf⟩ := kc K3
    clear hsp K3
    go_wp2_with fail
    go_at_call 13
    refine (hto _).mono ?_
    rintro e w4 ⟨rfl, hb4⟩
    go_wp2_with fail
    have bel : Below w.heap.size w w4 := chain (chain (chain (chain (below_alloc _ _) hb1) hb2) hb3) hb4
    go_at_call 8
    refine (hi _ (hT.below bel)).mono ?_
    rintro e w5 ⟨rfl, hb5⟩
    go_wp2
    go_ret
    exact ⟨rfl, chain bel hb5⟩

theorem own : ownKnob Tryd.prog.godebug = none := by kernel_rfl
theorem laidOut : laidOutB Tryd.prog = true := by kernel_rfl

set_option maxRecDepth 100000 in
theorem contract (H : Type) (enc : TypeId × Value → H) (W : World) (base : Nat) (args : Array Value) (ds gs : List (DataW H)) (before : List MemPlace)
    (hval : ∀ (j : Nat) t v, Tryd.f4.params[j]? = some t → args[j]? = some v → Value.okWide Tryd.prog W .any base t v)
    (hW : DataW.Whole enc Tryd.prog Tryd.f4.params.toList Rows.fnExactMakeScanSpec.vars false W args.toList ds gs before) (hL : laidMetH Tryd.prog Rows.fnExactMakeScanRow.laid W) :
    Calls Tryd.prog 4 args W fun e W' => ∃ v, e = .returned v ∧ Rows.fnExactMakeScanSpec.post enc Tryd.prog Tryd.f4 false true false false W args v W' := by
  have hW' := hW
  obtain ⟨p, q, hA0, hV, rfl, hfz, hnd⟩ := hW
  have hA : DataW.TrodAll enc Tryd.prog W 0 (fun _ => true) true Tryd.f4.params.toList args.toList ds p := hA0
  rw [Tryd.params4] at hA hval
  obtain ⟨v0, vs0, d0, ds0, p0, q0, hargs, rfl, rfl, h0, r0⟩ := trodAll_cons hA
  obtain ⟨rfl, rfl, rfl⟩ := trodAll_nil r0
  obtain rfl : args = #[v0] := by cases args; simp_all
  obtain ⟨rfl, rfl⟩ := trodVars_none hV
  have k0 := h0
  have lt0 : ∀ x ∈ p0, x.block < W.heap.size := by obtain ⟨m, hm⟩ := k0; exact DataW.trod_lt m _ _ _ hm
  obtain ⟨c0_0, c0_1, c0_2, y0_0, y0_1, y0_2, m0, rfl, rfl, rfl, hy0_0, hy0_1, hy0_2⟩ := open_agg3 Tryd.underlying34 (by kernel_rfl) (by kernel_rfl) (hval 0 34 v0 rfl rfl) h0
  obtain ⟨a0_0, ea0_0, rfl, wa0_0⟩ := DataW.trod_int Tryd.underlying3 hy0_0
  simp at ea0_0
  subst ea0_0
  obtain ⟨a0_1, ea0_1, rfl, wa0_1⟩ := DataW.trod_string Tryd.underlying9 hy0_1
  simp at ea0_1
  subst ea0_1
  obtain ⟨a0_2, ea0_2, rfl, wa0_2⟩ := DataW.trod_int Tryd.underlying3 hy0_2
  simp at ea0_2
  subst ea0_2
  clear hA0
  refine (walk a0_0 wa0_0 a0_1 wa0_1 a0_2 wa0_2 W hL).mono fun e W' ⟨he, bel⟩ => ?_
  subst he
  exact ⟨_, rfl, _, _, _, [], _, [], hW', trodAll_mk1 (shut_bool Tryd.underlying4 _), (trodAll_cons_mk (Below.trod laidOut (by kernel_rfl) (of_decide_eq_true (by kernel_rfl)) k0 bel lt0) trodAll_mk0), rfl, bel.frame _, fun h => by cases h⟩


def valsOf (d : DataW Unit) : Array Value := match d with
  | .agg l => (l.map fun | .lit (.int k n) => Value.int k n | _ => .int .i64 0).toArray
  | _ => #[]
theorem laid_met (os : Os) : laidMet Tryd.prog Rows.fnExactMakeScanRow.laid (({ (World.holding Tryd.prog os ⟨#[], #[], []⟩) with heap := ((((World.holding Tryd.prog os ⟨#[], #[], []⟩).heap.modify 2 fun | .cells _ t frozen => .cells (valsOf Rows.laid_math_bits_deBruijn32tab) t frozen | o => o).modify 3 fun | .cells _ t frozen => .cells (valsOf Rows.laid_math_bits_deBruijn64tab) t frozen | o => o).modify 1 fun | .cells _ t frozen => .cells (valsOf Rows.laid_internal_strconv_uint64pow10) t frozen | o => o) }).forCall (fun _ _ => 0) ⟨#[], #[.agg #[.int .i64 0, .string ByteArray.empty, .int .i64 0]], []⟩).memory :=
  laidMet_of_run' 8 (by kernel_rfl) (by kernel_rfl)
theorem reads (os : Os) {H : Type} (enc : TypeId × Value → H) : ∃ places, DataW.whole enc Tryd.prog (({ (World.holding Tryd.prog os ⟨#[], #[], []⟩) with heap := ((((World.holding Tryd.prog os ⟨#[], #[], []⟩).heap.modify 2 fun | .cells _ t frozen => .cells (valsOf Rows.laid_math_bits_deBruijn32tab) t frozen | o => o).modify 3 fun | .cells _ t frozen => .cells (valsOf Rows.laid_math_bits_deBruijn64tab) t frozen | o => o).modify 1 fun | .cells _ t frozen => .cells (valsOf Rows.laid_internal_strconv_uint64pow10) t frozen | o => o) }).forCall (fun _ _ => 0) ⟨#[], #[.agg #[.int .i64 0, .string ByteArray.empty, .int .i64 0]], []⟩).memory Tryd.f4.params.toList Rows.fnExactMakeScanSpec.vars false #[.agg #[.int .i64 0, .string ByteArray.empty, .int .i64 0]].toList 8 = some ([.agg [.lit (.int .i64 0), .lit (.string []), .lit (.int .i64 0)]], [], places) :=
  ⟨[], by kernel_rfl⟩

set_option maxRecDepth 100000 in
theorem lifted (os : Os) (started : os.Started) (H : Type) (enc : TypeId × Value → H) (F : Stop.Interp) :
    ReturnsInHanded {} Tryd.checked os 4 .any ((OpenSpec.ofChange Rows.fnExactMakeScanSpec).preRow enc Tryd.prog Tryd.f4 Rows.fnExactMakeScanRow.domain false Rows.fnExactMakeScanRow.laid) (((OpenSpec.ofChange Rows.fnExactMakeScanSpec).at F).post enc Tryd.prog Tryd.f4 false true false false) := by
  obtain ⟨places, hx⟩ := reads os enc
  refine returnsInHanded_of_row (C := Tryd.checked) (s := OpenSpec.ofChange Rows.fnExactMakeScanSpec) own started (by kernel_rfl) Tryd.func4
    (witness_row_at (enc := enc) (C := Tryd.checked) false ({ (World.holding Tryd.prog os ⟨#[], #[], []⟩) with heap := ((((World.holding Tryd.prog os ⟨#[], #[], []⟩).heap.modify 2 fun | .cells _ t frozen => .cells (valsOf Rows.laid_math_bits_deBruijn32tab) t frozen | o => o).modify 3 fun | .cells _ t frozen => .cells (valsOf Rows.laid_math_bits_deBruijn64tab) t frozen | o => o).modify 1 fun | .cells _ t frozen => .cells (valsOf Rows.laid_internal_strconv_uint64pow10) t frozen | o => o) }) #[.agg #[.int .i64 0, .string ByteArray.empty, .int .i64 0]] rfl (by kernel_rfl) (by kernel_rfl) (by kernel_rfl)
      (OpenSpec.preRow_of_cond 8 hx (by kernel_rfl) (fun k hk => by cases hk) (by kernel_rfl) (laid_met os))) ?_
  intro W base args ds gs before hval hW _ _ _ hL _ _
  exact contract H enc W base args ds gs before hval hW hL

theorem said : Rows.FnExactMakeScanSaid :=
  OpenClaim.holds_of_cond 4 Tryd.f4 rfl rfl rfl rfl rfl rfl rfl ⟨rfl, rfl, rfl, rfl, rfl⟩ rfl rfl rfl rfl rfl (by kernel_rfl) Tryd.func4 (by kernel_rfl)
    (of_decide_eq_true (by kernel_rfl)) (by unfold Func.isWrapper; first | (rw [if_pos (by decide +kernel)]; kernel_rfl) | (rw [if_neg (by decide +kernel)]; exact ⟨rfl, rfl⟩))
    (fun os started H enc _ F => by rw [OpenClaim.pre_eq_preRow]; exact lifted os started H enc F)

theorem plain (f : FuncId) (fn : Func) (hf : Tryd.pinned.checked.prog.funcNamed "loop.example/g00067/laws.FnExactMakeScan" = some f) (hfn : Tryd.pinned.checked.prog.funcs[f]? = some fn) :
    false = Tryd.pinned.checked.prog.looks [] ∧ ∀ (j : Nat) t, fn.params[j]? = some t → Tryd.pinned.checked.prog.wantsStandIn t = false := by
  obtain rfl : f = 4 := Option.some.inj ((show Tryd.prog.funcNamed "loop.example/g00067/laws.FnExactMakeScan" = some 4 by kernel_rfl).symm.trans hf) |>.symm
  obtain rfl : fn = Tryd.f4 := (Option.some.inj (Tryd.func4.symm.trans hfn)).symm
  refine ⟨by kernel_rfl, fun j t ht => ?_⟩
  rw [Tryd.params4] at ht
  have ht' : t = 34 := by simpa using Array.mem_of_getElem? ht
  obtain rfl := ht'
  all_goals first | exact (show Tryd.prog.wantsStandIn 34 = false by kernel_rfl)

theorem card : Rows.FnExactMakeScanCardSaid :=
  Claim7.holds_tied_plain_at .later [] _ _ _ _ said (fun _ h => by cases h) (by kernel_rfl) (fun _ h => by cases h) fnExactMakeScan_row_tie rfl ⟨rfl, rfl⟩ (by kernel_rfl) rfl plain (by kernel_rfl)
end MakeLaw

theorem fnExactMakeScan_holds : Rows.FnExactMakeScanCardSaid := MakeLaw.card
end Go.Proofs.YtlejmjpjlbiojaaDoor
