/-
  How far the marks on uses and deals go; the marks on a bargain turn blocks of its own alone.
-/
import Derived.Test.YtlnhnocegfnllaaUsM
import Derived.Test.YtlnhnocegfnllaaDlM
namespace Go.Proofs.Ytlnhnocegfnllaa
open Go.ChangeShapes Go.WideShapes Go.ChangeAt Go.RowKit Go.Deep
set_option linter.unusedVariables false

theorem totU_next (cs : List CUs) (k : Nat) (h : k < cs.length) : totU (cs.take (k + 1)) = totU (cs.take k) + (cs.getD k zUs).us.length := by
  have e : cs.getD k zUs = cs[k] := by simp [List.getD_eq_getElem?_getD, h]
  unfold totU
  rw [List.take_succ_eq_append_getElem h, e, List.map_append, List.sum_append]; simp only [List.map_cons, List.map_nil, List.sum_cons, List.sum_nil, Nat.add_zero]
theorem kAt_take (k0 : Nat) (cs : List CUs) : ∀ k, k ≤ cs.length → kAt k0 (fun i => (cs.getD i zUs).us.length) k = k0 + 2 * k + totU (cs.take k) := fun k hk => by
  induction k with
  | zero => simp [kAt, totU]
  | succ k ih =>
    have h1 := ih (by omega)
    have h2 := totU_next cs k hk
    show kAt k0 (fun i => (cs.getD i zUs).us.length) k + 2 + (cs.getD k zUs).us.length = _
    omega
theorem kAt_all (k0 : Nat) (cs : List CUs) : kAt k0 (fun i => (cs.getD i zUs).us.length) cs.length = k0 + 2 * cs.length + totU cs := by
  have := kAt_take k0 cs cs.length (Nat.le_refl _)
  rwa [List.take_length] at this
theorem totD_next (cs : List CDl) (k : Nat) (h : k < cs.length) : totD (cs.take (k + 1)) = totD (cs.take k) + (cs.getD k zDl).arts.length := by
  have e : cs.getD k zDl = cs[k] := by simp [List.getD_eq_getElem?_getD, h]
  unfold totD
  rw [List.take_succ_eq_append_getElem h, e, List.map_append, List.sum_append]; simp only [List.map_cons, List.map_nil, List.sum_cons, List.sum_nil, Nat.add_zero]
theorem kAtD_take (k0 : Nat) (cs : List CDl) : ∀ k, k ≤ cs.length → kAtD k0 (fun i => (cs.getD i zDl).arts.length) k = k0 + 5 * k + totD (cs.take k) := fun k hk => by
  induction k with
  | zero => simp [kAtD, totD]
  | succ k ih =>
    have h1 := ih (by omega)
    have h2 := totD_next cs k hk
    show kAtD k0 (fun i => (cs.getD i zDl).arts.length) k + 5 + (cs.getD k zDl).arts.length = _
    omega
theorem kAtD_all (k0 : Nat) (cs : List CDl) : kAtD k0 (fun i => (cs.getD i zDl).arts.length) cs.length = k0 + 5 * cs.length + totD cs := by
  have := kAtD_take k0 cs cs.length (Nat.le_refl _)
  rwa [List.take_length] at this


theorem markBg_span (x y : Int) (lo hi : Nat) (g : Option Addr) (n cap : Nat) (F : Nat → CUs) (hn : n ≤ 1048576) (k0 : Nat) (hk : kAt k0 (fun i => (F i).us.length) n ≤ 100000000) (w : World) (hM : RowUs lo hi w g n F) (hlo : hi ≤ w.heap.size) (hl2 : lo ≤ hi) :
    Calls Try.prog 19 #[.agg #[.int .i64 x, .int .i64 y, .slice g n cap], .int .i64 (k0 : Int)] w fun e w' => e = .returned (.int .i64 (kAt k0 (fun i => (F i).us.length) n : Int)) ∧ Span lo hi w w' ∧ RowUs lo hi w' g n (mkU k0 (fun i => (F i).us.length)) := by
  have HT : Hid (∀ W, Below w.heap.size w W → Calls Try.prog 18 #[.slice g n cap, .int .i64 (k0 : Int)] W fun e w' => e = .returned (.int .i64 (kAt k0 (fun i => (F i).us.length) n : Int)) ∧ Span lo hi W w' ∧ RowUs lo hi w' g n (mkU k0 (fun i => (F i).us.length))) := fun W hb => markUss_own lo hi g n cap F hn k0 hk W (hM.below hb hlo)
  clear hM
  generalize kAt k0 (fun i => (F i).us.length) n = kk at *
  go_enter Try.func19, Try.ntmps19
  go_wp2_with (go_at_call 18; refine (HT.out _ (below_alloc _ _)).mono ?_; rintro e w2 ⟨rfl, hs2, hr2⟩; have HS2 : Hid _ := hs2; have HR2 : Hid _ := hr2; clear hs2 hr2)
  go_ret
  exact ⟨rfl, ((Span.refl lo hi w).later (by omega) (below_alloc _ _)).trans HS2.out, HR2.out⟩

end Go.Proofs.Ytlnhnocegfnllaa
