/-
  For every number the law FnExactCodeWord answers true: the program's CodeWord answers as the specification's, at every argument, with no condition.
-/
import Derived.Test.YtbfmnjnndohojahBase
import Derived.Deep.WholeRow
import Derived.Laws.Tables
namespace Go.Proofs.Ytbfmnjnndohojah
open Go.ChangeShapes Go.WideShapes Go.ChangeAt Go.RowKit
set_option linter.unusedVariables false

def wordsB : Array ByteArray := #[⟨#[111, 107]⟩, ⟨#[98, 97, 100]⟩, ⟨#[108, 111, 110, 103]⟩, ⟨#[102, 111, 114, 109]⟩, ⟨#[115, 121, 110, 116, 97, 120]⟩, ⟨#[114, 97, 110, 103, 101]⟩, ⟨#[110, 97, 109, 101]⟩, ⟨#[116, 119, 105, 99, 101]⟩, ⟨#[110, 111, 110, 101]⟩, ⟨#[109, 97, 110, 121]⟩, ⟨#[122, 101, 114, 111]⟩, ⟨#[111, 118, 101, 114]⟩, ⟨#[115, 116, 97, 116, 101]⟩, ⟨#[107, 105, 110, 100]⟩, ⟨#[102, 117, 108, 108]⟩, ⟨#[115, 117, 109]⟩, ⟨#[97, 103, 101]⟩, ⟨#[108, 97, 116, 101]⟩, ⟨#[104, 101, 108, 100]⟩, ⟨#[115, 104, 111, 114, 116]⟩]
def wd (n : Int) : ByteArray := wordsB.getD n.toNat ⟨#[]⟩
theorem code_ways (n : Int) (h : 0 ≤ n) (h' : n ≤ 19) : n = 0 ∨ n = 1 ∨ n = 2 ∨ n = 3 ∨ n = 4 ∨ n = 5 ∨ n = 6 ∨ n = 7 ∨ n = 8 ∨ n = 9 ∨ n = 10 ∨ n = 11 ∨ n = 12 ∨ n = 13 ∨ n = 14 ∨ n = 15 ∨ n = 16 ∨ n = 17 ∨ n = 18 ∨ n = 19 := by omega
theorem ret_str {a b : ByteArray} (h : a = b) : Ending.returned (.string a) = .returned (.string b) := by rw [h]

theorem specWord_in (k : Nat) (h : k < 20) (w : World) :
    Calls Try.prog 10 #[.int .i64 (k : Int)] w fun e w' => e = .returned (.string (wd k)) ∧ Below w.heap.size w w' := by
  have h' : (k : Int) < 20 := by omega
  have h0 : (0 : Int) ≤ (k : Int) := by omega
  go_enter Try.func10, Try.ntmps10
  go_wp2
  go_ret
  refine ⟨congrArg Ending.returned ?_, below_alloc _ _⟩
  match k, h with
  | 0, _ | 1, _ | 2, _ | 3, _ | 4, _ | 5, _ | 6, _ | 7, _ | 8, _ | 9, _ | 10, _ | 11, _ | 12, _ | 13, _ | 14, _ | 15, _ | 16, _ | 17, _ | 18, _ | 19, _ => rfl
theorem info20 : (Try.prog.info? 44).map (·.size) = some 20 := by kernel_rfl
theorem res20 : Try.f26.results = #[.cell 0 44] := rfl
def wordsV : Array Value := #[.string ⟨#[111, 107]⟩, .string ⟨#[98, 97, 100]⟩, .string ⟨#[108, 111, 110, 103]⟩, .string ⟨#[102, 111, 114, 109]⟩, .string ⟨#[115, 121, 110, 116, 97, 120]⟩, .string ⟨#[114, 97, 110, 103, 101]⟩, .string ⟨#[110, 97, 109, 101]⟩, .string ⟨#[116, 119, 105, 99, 101]⟩, .string ⟨#[110, 111, 110, 101]⟩, .string ⟨#[109, 97, 110, 121]⟩, .string ⟨#[122, 101, 114, 111]⟩, .string ⟨#[111, 118, 101, 114]⟩, .string ⟨#[115, 116, 97, 116, 101]⟩, .string ⟨#[107, 105, 110, 100]⟩, .string ⟨#[102, 117, 108, 108]⟩, .string ⟨#[115, 117, 109]⟩, .string ⟨#[97, 103, 101]⟩, .string ⟨#[108, 97, 116, 101]⟩, .string ⟨#[104, 101, 108, 100]⟩, .string ⟨#[115, 104, 111, 114, 116]⟩]
def partsV : Array (Nat × Value) := #[(0, .string ⟨#[111, 107]⟩), (1, .string ⟨#[98, 97, 100]⟩), (2, .string ⟨#[108, 111, 110, 103]⟩), (3, .string ⟨#[102, 111, 114, 109]⟩), (4, .string ⟨#[115, 121, 110, 116, 97, 120]⟩), (5, .string ⟨#[114, 97, 110, 103, 101]⟩), (6, .string ⟨#[110, 97, 109, 101]⟩), (7, .string ⟨#[116, 119, 105, 99, 101]⟩), (8, .string ⟨#[110, 111, 110, 101]⟩), (9, .string ⟨#[109, 97, 110, 121]⟩), (10, .string ⟨#[122, 101, 114, 111]⟩), (11, .string ⟨#[111, 118, 101, 114]⟩), (12, .string ⟨#[115, 116, 97, 116, 101]⟩), (13, .string ⟨#[107, 105, 110, 100]⟩), (14, .string ⟨#[102, 117, 108, 108]⟩), (15, .string ⟨#[115, 117, 109]⟩), (16, .string ⟨#[97, 103, 101]⟩), (17, .string ⟨#[108, 97, 116, 101]⟩), (18, .string ⟨#[104, 101, 108, 100]⟩), (19, .string ⟨#[115, 104, 111, 114, 116]⟩)]
theorem built20 : Try.prog.built 44 partsV.toList = some wordsV := by kernel_rfl
theorem wordsV_at (k : Nat) (hk : k < 20) : wordsV[k]? = some (.string (wd k)) := by
  match k, hk with
  | 0, _ | 1, _ | 2, _ | 3, _ | 4, _ | 5, _ | 6, _ | 7, _ | 8, _ | 9, _ | 10, _ | 11, _ | 12, _ | 13, _ | 14, _ | 15, _ | 16, _ | 17, _ | 18, _ | 19, _ => rfl
  | n + 20, h => exact absurd h (by omega)
theorem wpList_built {P : Program} {ops : Array Oper} {rest : List Oper} {o : Oper} {a : Act} {w : World} {Q : Exit → Act → World → Prop} (hg : o.guard = none) (t : TypeId) (parts : Array (Nat × Operand)) (ho : o.op = .build t parts)
    (pv : Array (Nat × Value)) (V : Array Value) (hp : (parts.map fun (i, x) => (i, a.eval x)).toList = pv.toList) (hb : P.built t pv.toList = some V)
    (h : wpList P ops Q rest (a.put o.dst (.agg V)) w) : wpList P ops Q (o :: rest) a w :=
  wpList_build hg t parts ho (by rw [hp, hb]; rfl) (by rw [hp, hb]; exact h)
theorem wordsOf_any (w : World) :
    Calls Try.prog 26 #[] w fun e w' => (∃ V, e = .returned (.agg V) ∧ ∀ k : Nat, k < 20 → V[k]? = some (.string (wd k))) ∧ Below w.heap.size w w' := by
  have hb : Hid (Try.prog.built 44 partsV.toList = some wordsV) := built20
  have hsz : some 20 = some wordsV.size := rfl
  have hall : wordsV.all (·.oneCell') = true := by kernel_rfl
  have HV : Hid (∀ k : Nat, k < 20 → wordsV[k]? = some (.string (wd k))) := wordsV_at
  have HI := info20.trans hsz
  have HS : Hid (wordsV.size = 20) := rfl
  generalize wordsV = V at *
  go_enter Try.func26, Try.ntmps26
  go_wp2_with (first | (refine wpList_built rfl 44 _ rfl partsV V ?_ hb.out ?_; simp only [List.map_toArray, List.map_cons, List.map_nil]; rfl) | (refine wpList_store_row rfl 44 (.tmp 0) (.tmp 1) rfl w.heap.size V rfl rfl 44 _ (heap_alloc_new _ _) HI HS.out.symm hall ?_; rw [World.setRow_alloc_new]))
  refine bodyPost_ret (results_cell_row res20 _ _ w.heap.size 44 _ (0, 0) _ rfl (heap_alloc_new _ _) Try.underlying44 rfl HI) rfl ?_
  exact ⟨⟨_, rfl, HV.out⟩, below_alloc _ _⟩
theorem run_index_word (V : Array Value) (k : Nat) (s : ByteArray) (hk20 : k < 20) (h : V[k]? = some (.string s)) (w : World) : (Instr.index 44 (.agg V) (.int .i64 (k : Int))).run Try.prog w = .ok (.string s) w := by
  have hk : k < V.size := by
    rcases Nat.lt_or_ge k V.size with h1 | h1
    · exact h1
    · rw [Array.getElem?_eq_none h1] at h; cases h
  rw [Array.getElem?_eq_getElem hk] at h
  have h' := Option.some.inj h
  simp [go_sem, Instr.index]
  rw [if_pos hk20, Array.getElem?_eq_getElem hk, h']
  rfl
theorem implWord_in (k : Nat) (h : k < 20) (w : World) :
    Calls Try.prog 11 #[.int .i64 (k : Int)] w fun e w' => e = .returned (.string (wd k)) ∧ Below w.heap.size w w' := by
  have h' : (k : Int) ≤ 19 := by omega
  have h0 : (0 : Int) ≤ (k : Int) := by omega
  go_enter Try.func11, Try.ntmps11
  go_wp2_with fail
  go_at_call 26
  refine (wordsOf_any _).mono ?_
  rintro e w1 ⟨⟨V, rfl, hV⟩, hb1⟩
  have hidx := fun w => run_index_word V k _ h (hV k h) w
  clear hV
  go_wp2
  go_ret
  exact ⟨rfl, hb1⟩
theorem outWord (n : Int) (h : n < 0 ∨ (0 ≤ n ∧ 19 < n)) (w : World) :
    Calls Try.prog 11 #[.int .i64 n] w fun e w' => e = .returned (.string ⟨#[]⟩) ∧ Below w.heap.size w w' := by
  rcases h with h | ⟨h, h'⟩
  all_goals
    go_enter Try.func11, Try.ntmps11
    go_wp2
    go_ret
    exact ⟨rfl, Below.refl _ _⟩
theorem outSpec (n : Int) (h : n < 0 ∨ (0 ≤ n ∧ 19 < n)) (w : World) :
    Calls Try.prog 10 #[.int .i64 n] w fun e w' => e = .returned (.string ⟨#[]⟩) ∧ Below w.heap.size w w' := by
  rcases h with h | ⟨h, h'⟩
  all_goals
    try (have h20 : (20 : Int) ≤ n := by omega)
    go_enter Try.func10, Try.ntmps10
    go_wp2
    go_ret
    exact ⟨rfl, below_alloc _ _⟩

def wdAll (n : Int) : ByteArray := if 0 ≤ n ∧ n ≤ 19 then wd n else ⟨#[]⟩
theorem implWord_any (n : Int) (w : World) :
    Calls Try.prog 11 #[.int .i64 n] w fun e w' => e = .returned (.string (wdAll n)) ∧ Below w.heap.size w w' := by
  unfold wdAll
  by_cases h : 0 ≤ n ∧ n ≤ 19
  · rw [if_pos h]
    obtain ⟨k, rfl⟩ : ∃ k : Nat, n = (k : Int) := ⟨n.toNat, by omega⟩
    exact implWord_in k (by omega) w
  · rw [if_neg h]; exact outWord n (by omega) w
theorem specWord_any (n : Int) (w : World) :
    Calls Try.prog 10 #[.int .i64 n] w fun e w' => e = .returned (.string (wdAll n)) ∧ Below w.heap.size w w' := by
  unfold wdAll
  by_cases h : 0 ≤ n ∧ n ≤ 19
  · rw [if_pos h]
    obtain ⟨k, rfl⟩ : ∃ k : Nat, n = (k : Int) := ⟨n.toNat, by omega⟩
    exact specWord_in k (by omega) w
  · rw [if_neg h]; exact outSpec n (by omega) w

namespace WordLaw
theorem walk (n : Int) (wn : (Lit.int .i64 n).wf = true) (w : World) :
    Calls Try.prog 4 #[.int .i64 n] w fun e w' => e = .returned (.bool true) ∧ Below w.heap.size w w' := by
  clear wn
  have h1 := fun w => specWord_any n w
  have h2 := fun w => implWord_any n w
  generalize wdAll n = s at *
  go_enter Try.func4, Try.ntmps4
  go_wp2_with fail
  go_at_call 10
  refine (h1 _).mono ?_
  rintro e w1 ⟨rfl, hb1⟩
  go_wp2_with fail
  go_at_call 11
  refine (h2 _).mono ?_
  rintro e w2 ⟨rfl, hb2⟩
  go_wp2
  go_ret
  exact ⟨rfl, chain hb1 hb2⟩

theorem own : ownKnob Try.prog.godebug = none := by kernel_rfl
theorem laidOut : laidOutB Try.prog = true := by kernel_rfl

set_option maxRecDepth 100000 in
theorem lifted (os : Os) (started : os.Started) (H : Type) (enc : TypeId × Value → H) :
    ReturnsInHanded {} Try.checked os 4 .any (Rows.fnExactCodeWordSpec.pre6 enc Try.prog Try.f4 Rows.fnExactCodeWordRow.domain false) (Rows.fnExactCodeWordSpec.post enc Try.prog Try.f4 false true false false) := by
  refine returnsInHanded_of_change (C := Try.checked) own started (by kernel_rfl) Try.func4
    (ChangeSpec.witness6 (enc := enc) (C := Try.checked) false ⟨#[], #[.int .i64 0], []⟩ 8 (by kernel_rfl) (by kernel_rfl) (by kernel_rfl) (by kernel_rfl)) ?_
  intro W base args ds gs before hval0 hW hcnd _
  have hval : ∀ (j : Nat) t v, Try.f4.params[j]? = some t → args[j]? = some v → Value.okWide Try.prog W .any base t v := hval0
  have hW' := hW
  obtain ⟨p, q, hA0, hV, rfl, hfz, hnd⟩ := hW
  have hA : DataW.TrodAll enc Try.prog W 0 (fun _ => true) true Try.f4.params.toList args.toList ds p := hA0
  rw [Try.params4] at hA hval
  obtain ⟨v0, vs0, d0, ds0, p0, q0, hargs, rfl, rfl, h0, r0⟩ := trodAll_cons hA
  obtain ⟨rfl, rfl, rfl⟩ := trodAll_nil r0
  obtain rfl : args = #[v0] := by cases args; simp_all
  obtain ⟨rfl, rfl⟩ := trodVars_none hV
  have k0 := h0
  have lt0 : ∀ x ∈ p0, x.block < W.heap.size := by obtain ⟨m, hm⟩ := k0; exact DataW.trod_lt m _ _ _ hm
  obtain ⟨a0, rfl, rfl, rfl, w0⟩ := open_int Try.underlying3 (hval 0 3 v0 rfl rfl) h0
  clear hA0 hval0
  refine (walk a0 w0 W ).mono fun e W' ⟨he, bel⟩ => ?_
  subst he
  exact ⟨_, rfl, _, _, _, [], _, [], hW', trodAll_mk1 (shut_bool Try.underlying4 _), (trodAll_cons_mk (Below.trod laidOut (by kernel_rfl) (of_decide_eq_true (by kernel_rfl)) k0 bel lt0) trodAll_mk0), rfl, bel.frame _, fun h => by cases h⟩

theorem over : Rows.fnExactCodeWordRow.holds Try.pinned (OpenSpec.ofChange Rows.fnExactCodeWordSpec) :=
  OpenClaim.holds_of_wide 4 Try.f4 rfl rfl rfl rfl rfl rfl rfl ⟨rfl, rfl, rfl, rfl, rfl⟩ rfl rfl rfl rfl rfl (by kernel_rfl) Try.func4 (by kernel_rfl)
    (of_decide_eq_true (by kernel_rfl)) (by unfold Func.isWrapper; first | (rw [if_pos (by decide +kernel)]; kernel_rfl) | (rw [if_neg (by decide +kernel)]; exact ⟨rfl, rfl⟩))
    (fun os started H enc _ => lifted os started H enc)
end WordLaw

theorem fnExactCodeWord_holds : Rows.FnExactCodeWordSaid := WordLaw.over
end Go.Proofs.Ytbfmnjnndohojah
