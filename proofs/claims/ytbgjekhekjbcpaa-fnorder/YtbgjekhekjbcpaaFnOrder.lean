/-
  For every list of bytes the law FnOrder answers true: what the program orders for a drawn need is whole packs, has room, is at least the minimum, and, unless it is cut short, what is missing; with no condition.
-/
import Derived.Test.YtbgjekhekjbcpaaOrC
import Derived.Test.YtbgjekhekjbcpaaOrD
import Derived.Test.YtbgjekhekjbcpaaOrE
namespace Go.Proofs.Ytbgjekhekjbcpaa
open Go.ChangeShapes Go.WideShapes Go.ChangeAt Go.RowKit Go.Joins Go.Deep
set_option linter.unusedVariables false

namespace FnOrder
set_option maxHeartbeats 16000000 in
set_option maxRecDepth 8000 in
theorem walk' (a0 : Option Addr) (len0 cap0 : Nat) (w : World) (h0 : (len0 : Int) ≤ 1048576) (hN : Calls Try.prog 9 #[.slice a0 len0 cap0] w (PostNd w)) :
    Calls Try.prog 3 #[.slice a0 len0 cap0] w fun e w' => e = .returned (.bool true) ∧ Below w.heap.size w w' := by
  go_enter Try.func3, Try.ntmps3
  go_wp2_with fail
  (first | go_at_call 9 | skip)
  refine hN.mono ?_
  rintro e' w1 ⟨a, b, c, d, e, f, rfl, hdr, hb1⟩
  clear hN
  have HB1 : Hid (Below w.heap.size w w1) := hb1
  obtain ⟨⟨a1, a2⟩, ⟨b1, b2⟩, ⟨c1', c2'⟩, ⟨d1, d2⟩, ⟨e1', e2'⟩, f1, f2⟩ := hdr
  have hnd : ndB a b c d e f = true := nd_of ⟨⟨a1, by omega⟩, ⟨b1, by omega⟩, ⟨c1', by omega⟩, ⟨d1, by omega⟩, ⟨e1', by omega⟩, by omega, by omega⟩
  have HI : Hid (∀ W, Calls Try.prog 10 #[.agg #[.int .i64 a, .int .i64 b, .int .i64 c, .int .i64 d, .int .i64 e, .int .i64 f]] W (AnsO W.heap.size (odU a b c d e f) (odT a b c d e f) (odC a b c d e f) W)) := fun W => implOrder_any a b c d e f W
  have HS : Hid (∀ W, Calls Try.prog 11 #[.agg #[.int .i64 a, .int .i64 b, .int .i64 c, .int .i64 d, .int .i64 e, .int .i64 f]] W (AnsO W.heap.size (odU a b c d e f) (odT a b c d e f) (odC a b c d e f) W)) := fun W => specOrder_any a b c d e f W
  have HD : Hid (∀ W, Calls Try.prog 12 #[.agg #[.int .i64 a, .int .i64 b, .int .i64 c, .int .i64 d, .int .i64 e, .int .i64 f]] W fun e' w' => e' = .returned (.bool true) ∧ Below W.heap.size W w') := fun W => by have := implNeed_any a b c d e f W; rwa [hnd] at this
  have HW : Hid (_) := od_ways a b c d e f
  have HNm : Hid (b + c < a → _) := fun (hlt : b + c < a) => od_nums (a := a) (th := b + c) (d := d) (e := e) (f := f) (by omega) (by omega) ⟨d1, by omega⟩ ⟨e1', by omega⟩ ⟨by omega, by omega⟩
  have HND : Hid (ndB a b c d e f = true) := hnd
  clear hb1 hnd
  have HN0 : Hid (NdAt (w1.alloc (Obj.cells #[.int .i64 a, .int .i64 b, .int .i64 c, .int .i64 d, .int .i64 e, .int .i64 f] 24)) w1.heap.size a b c d e f) := ndNew w1 a b c d e f _
  have HB0 : Hid (Below w.heap.size w (w1.alloc (Obj.cells #[.int .i64 a, .int .i64 b, .int .i64 c, .int .i64 d, .int .i64 e, .int .i64 f] 24))) := chain HB1.out (below_alloc _ _)
  go_upto_region 4 with fail
  generalize (w1.alloc (Obj.cells #[.int .i64 a, .int .i64 b, .int .i64 c, .int .i64 d, .int .i64 e, .int .i64 f] 24)) = W0 at *
  generalize w1.heap.size = bk at *
  clear HB1
  obtain ⟨c0, c1, c2, c3, c4, c5, lt⟩ := HN0.out
  go_wp2_with fail
  (first | go_at_call 10 | skip)
  refine (HI.out _).mono ?_
  rintro e' w2 ⟨rfl, hb2⟩
  have HN2 : Hid (NdAt w2 bk a b c d e f) := NdAt.later ⟨c0, c1, c2, c3, c4, c5, lt⟩ hb2
  have HB2 : Hid (Below w.heap.size w w2) := chain HB0.out hb2
  clear c0 c1 c2 c3 c4 c5 lt hb2 HN0 HB0 HI
  obtain ⟨c0, c1, c2, c3, c4, c5, lt⟩ := HN2.out
  go_wp2_with fail
  (first | go_at_call 11 | skip)
  refine (HS.out _).mono ?_
  rintro e' w3 ⟨rfl, hb3⟩
  have HN3 : Hid (NdAt w3 bk a b c d e f) := NdAt.later ⟨c0, c1, c2, c3, c4, c5, lt⟩ hb3
  have HB3 : Hid (Below w.heap.size w w3) := chain HB2.out hb3
  clear c0 c1 c2 c3 c4 c5 lt hb3 HN2 HB2 HS
  obtain ⟨c0, c1, c2, c3, c4, c5, lt⟩ := HN3.out
  go_wp2_with fail
  (first | go_at_call 12 | skip)
  refine (HD.out _).mono ?_
  rintro e' w4 ⟨rfl, hb4⟩
  have HN4 : Hid (NdAt w4 bk a b c d e f) := NdAt.later ⟨c0, c1, c2, c3, c4, c5, lt⟩ hb4
  have HB4 : Hid (Below w.heap.size w w4) := chain HB3.out hb4
  clear c0 c1 c2 c3 c4 c5 lt hb4 HN3 HB3 HD
  obtain ⟨c0, c1, c2, c3, c4, c5, lt⟩ := HN4.out
  obtain ⟨th, hth⟩ : ∃ th, b + c = th := ⟨_, rfl⟩
  have wth : IntKind.i64.wrap (b + c) = th := by rw [← hth]; exact wrap_id _ (by omega) (by omega)
  have htb : 0 ≤ th ∧ th ≤ 60 := by omega
  have z0 : (d == 0) = false := by simp; omega
  have z1 : ¬ d = 0 := by omega
  rcases HW.out with ⟨h, _⟩ | ⟨_, hle, k1, k2, k3⟩ | ⟨_, hlt, hw⟩
  · rw [HND.out] at h; cases h
  · rw [k1, k2, k3]
    rw [hth] at hle
    clear k1 k2 k3 HW HNm HND hth
    have m0 : Int.tmod 0 d = 0 := Int.zero_tmod d
    go_wp2
    go_ret
    exact ⟨ret_bool (by first | rfl | (simp; done) | (simp; omega)), HB4.out⟩
  · obtain ⟨n1, n2, n3, n4, n5, n6, n7, n9, n11⟩ := HNm.out hlt
    rw [hth] at hlt hw n1 n2 n3 n4 n5 n6 n7 n9 n11
    clear HW HNm HND hth
    rcases hw with ⟨g1, k1, k2, k3⟩ | ⟨g1, g2, k1, k2, k3⟩ | ⟨g1, g2, k1, k2, k3⟩ <;> rw [k1, k2, k3] <;> clear k1 k2 k3
    · obtain ⟨u, hu⟩ : ∃ u, odP a th d e * d = u := ⟨_, rfl⟩
      have m0 : Int.tmod u d = 0 := by rw [← hu]; exact Int.mul_tmod_left _ _
      have m1 : u % d = 0 := by rw [← hu]; exact Int.mul_emod_left _ _
      have hu2 := n9.2 g1
      rw [hu] at n6 hu2 ⊢
      have q1 : 1 ≤ u ∧ e ≤ u ∧ a ≤ th + u ∧ (th + u - d < a ∨ u - d < e) ∧ u ≤ 1000 := by omega
      obtain ⟨q1, q2, q3, q4, q5⟩ := q1
      have y0 : (u == 0) = false := by simp; omega
      have y1 : ¬ u = 0 := by omega
      have y2 : ¬ u < 0 := by omega
      have y3 : ¬ u < e := by omega
      have y4 : ¬ f < th + u := by omega
      have HQ4 : Hid (th + u - d < a ∨ u - d < e) := q4
      obtain ⟨t1, t2⟩ := htb
      clear n1 n2 n3 n4 n5 n6 n7 n9 n11 hu q4 g1
      go_wp2
      all_goals
        go_ret
        exact ⟨ret_bool (by have := HQ4.out; first | rfl | (simp; done) | (simp; omega)), HB4.out⟩
    · have HG : Hid (th < a ∧ f - (max 0 (f - th)).tmod d < th + max e d) := by
        have e1 : max (f - th) 0 = max 0 (f - th) := by omega
        rw [e1] at n11
        refine ⟨hlt, ?_⟩
        rw [n11]
        obtain ⟨n7a, n7b, n7c⟩ := n7
        generalize odR th d f * d = rd at *
        omega
      have HM : Hid (0 ≤ (max 0 (f - th)).tmod d ∧ (max 0 (f - th)).tmod d ≤ 1000) := by
        have e1 : max (f - th) 0 = max 0 (f - th) := by omega
        rw [e1] at n11
        rw [n11]
        obtain ⟨n7a, n7b, n7c⟩ := n7
        generalize odR th d f * d = rd at *
        show _ ∧ _
        omega
      obtain ⟨t1, t2⟩ := htb
      clear n1 n2 n3 n4 n5 n6 n7 n9 n11 g1 g2
      have l1 : decide (th < a) = true := decide_eq_true hlt
      obtain ⟨df, hdf⟩ : ∃ df, f - th = df := ⟨_, rfl⟩
      have wF : IntKind.i64.wrap (f - th) = df := by rw [← hdf]; exact wrap_id _ (by omega) (by omega)
      rw [hdf] at HG HM
      obtain ⟨r, hr⟩ : ∃ r, max 0 df = r := ⟨_, rfl⟩
      have hmf : (if 0 < df then df else 0) = r := by split <;> omega
      rw [hr] at HG HM
      have hr0 : 0 ≤ r := by omega
      obtain ⟨q, hq⟩ : ∃ q, Int.tmod r d = q := ⟨_, rfl⟩
      have hq2 : r % d = q := by rw [← hq]; exact (Int.tmod_eq_emod_of_nonneg hr0).symm
      rw [hq] at HG HM
      obtain ⟨hg1, hg2⟩ := HG.out
      obtain ⟨hm1, hm2⟩ := HM.out
      have wq : IntKind.i64.wrap q = q := wrap_id _ (by omega) (by omega)
      obtain ⟨x, hx⟩ : ∃ x, f - q = x := ⟨_, rfl⟩
      have wx : IntKind.i64.wrap (f - q) = x := by rw [← hx]; exact wrap_id _ (by omega) (by omega)
      obtain ⟨m, hm⟩ : ∃ m, max e d = m := ⟨_, rfl⟩
      have hme : (if e < d then d else e) = m := by split <;> omega
      rw [hm, hx] at hg2
      obtain ⟨y, hy⟩ : ∃ y, th + m = y := ⟨_, rfl⟩
      have wy : IntKind.i64.wrap (th + m) = y := by rw [← hy]; exact wrap_id _ (by omega) (by omega)
      rw [hy] at hg2
      have l2 : decide (x < y) = true := decide_eq_true hg2
      clear hdf hr hx hm hy HG HM hm1 hm2 hg1
      go_upto_region 10 with fail
      go_region_held3 (fun W => W.cell? ⟨bk, 0, none⟩ = some (.int .i64 a) ∧ W.cell? ⟨bk, 1, none⟩ = some (.int .i64 b) ∧ W.cell? ⟨bk, 2, none⟩ = some (.int .i64 c) ∧ W.cell? ⟨bk, 3, none⟩ = some (.int .i64 d) ∧ W.cell? ⟨bk, 4, none⟩ = some (.int .i64 e) ∧ W.cell? ⟨bk, 5, none⟩ = some (.int .i64 f) ∧ bk < W.heap.size) (first | exact keepNd (below_drew _) ⟨c0, c1, c2, c3, c4, c5, lt⟩ | exact keepNd (by assumption) (by assumption)) (fail)
      all_goals
        (try go_wp2)
        all_goals
          go_ret
          exact ⟨ret_bool (by first | rfl | (simp; done) | (simp; omega)), HB4.out.drew⟩
    · obtain ⟨u, hu⟩ : ∃ u, odR th d f * d = u := ⟨_, rfl⟩
      have m0 : Int.tmod u d = 0 := by rw [← hu]; exact Int.mul_tmod_left _ _
      have m1 : u % d = 0 := by rw [← hu]; exact Int.mul_emod_left _ _
      rw [hu] at n7 g2 ⊢
      have q1 : 1 ≤ u ∧ e ≤ u ∧ th + u ≤ f ∧ f < th + u + d ∧ u ≤ 1000 := by omega
      obtain ⟨q1, q2, q3, q4, q5⟩ := q1
      have y0 : (u == 0) = false := by simp; omega
      have y1 : ¬ u = 0 := by omega
      have y2 : ¬ u < 0 := by omega
      have y3 : ¬ u < e := by omega
      have y4 : ¬ f < th + u := by omega
      obtain ⟨t1, t2⟩ := htb
      clear n1 n2 n3 n4 n5 n6 n7 n9 n11 hu g1 g2
      go_wp2
      go_ret
      exact ⟨ret_bool (by first | rfl | (simp; done) | (simp; omega)), HB4.out⟩
theorem walk (a0 : Option Addr) (len0 cap0 : Nat) (z0 : List Int) (w : World) (r0 : RowB w.heap.size w a0 len0 z0) :
    Calls Try.prog 3 #[.slice a0 len0 cap0] w fun e w' => e = .returned (.bool true) ∧ Below w.heap.size w w' := by
  by_cases hbig : (1048576 : Int) < (len0 : Int)
  · clear r0
    go_enter Try.func3, Try.ntmps3
    go_wp2
    go_ret
    exact ⟨rfl, Below.refl _ _⟩
  · exact walk' a0 len0 cap0 w (by omega) (needOf_any a0 len0 cap0 z0 w r0)

theorem own : ownKnob Try.prog.godebug = none := by kernel_rfl
theorem laidOut : laidOutB Try.prog = true := by kernel_rfl

set_option maxRecDepth 100000 in
theorem lifted (os : Os) (started : os.Started) (H : Type) (enc : TypeId × Value → H) :
    ReturnsInHanded {} Try.checked os 3 .any (Rows.fnOrderSpec.pre6 enc Try.prog Try.f3 Rows.fnOrderRow.domain false) (Rows.fnOrderSpec.post enc Try.prog Try.f3 false true false false) := by
  refine returnsInHanded_of_change (C := Try.checked) own started (by kernel_rfl) Try.func3
    (ChangeSpec.witness6 (enc := enc) (C := Try.checked) false ⟨#[], #[.slice none 0 0], []⟩ 8 (by kernel_rfl) (by kernel_rfl) (by kernel_rfl) (by kernel_rfl)) ?_
  intro W base args ds gs before hval0 hW hcnd _
  have hval : ∀ (j : Nat) t v, Try.f3.params[j]? = some t → args[j]? = some v → Value.okWide Try.prog W .any base t v := hval0
  have hW' := hW
  obtain ⟨p, q, hA0, hV, rfl, hfz, hnd⟩ := hW
  have hA : DataW.TrodAll enc Try.prog W 0 (fun _ => true) true Try.f3.params.toList args.toList ds p := hA0
  rw [Try.params3] at hA hval
  obtain ⟨v0, vs0, d0, ds0, p0, q0, hargs, rfl, rfl, h0, r0⟩ := trodAll_cons hA
  obtain ⟨rfl, rfl, rfl⟩ := trodAll_nil r0
  obtain rfl : args = #[v0] := by cases args; simp_all
  obtain ⟨rfl, rfl⟩ := trodVars_none hV
  have k0 := h0
  have lt0 : ∀ x ∈ p0, x.block < W.heap.size := by obtain ⟨m, hm⟩ := k0; exact DataW.trod_lt m _ _ _ hm
  obtain ⟨a0, len0, cap0, rfl⟩ := okWide_slice Try.underlying22 (hval 0 22 v0 rfl rfl)
  obtain ⟨z0, w0⟩ : ∃ zs, IsRow .u8 W a0 len0 cap0 zs := by
    obtain ⟨fuel, hf⟩ := h0
    rcases open_ints Try.underlying22 Try.underlying5 (by kernel_rfl) hf with ⟨hcs, _⟩ | ⟨x, l, c, zs, hcs, _, hl, hm, hz, _, hcell, hwz⟩
    · simp [Value.cells] at hcs
      obtain ⟨rfl, rfl, rfl⟩ := hcs
      exact ⟨[], .inl ⟨rfl, rfl, rfl, rfl⟩⟩
    · simp [Value.cells] at hcs
      obtain ⟨rfl, rfl, rfl⟩ := hcs
      exact ⟨zs, .inr ⟨_, rfl, hl, hm, by simpa using hz, hcell, hwz⟩⟩
  clear hA0 hval0
  refine (walk a0 len0 cap0 z0 W (rowB_of _ _ _ _ _ w0)).mono fun e W' ⟨he, bel⟩ => ?_
  subst he
  exact ⟨_, rfl, _, _, _, [], _, [], hW', trodAll_mk1 (shut_bool Try.underlying4 _), (trodAll_cons_mk (Below.trod laidOut (by kernel_rfl) (of_decide_eq_true (by kernel_rfl)) k0 bel lt0) trodAll_mk0), rfl, bel.frame _, fun h => by cases h⟩

theorem over : Rows.fnOrderRow.holds Try.pinned (OpenSpec.ofChange Rows.fnOrderSpec) :=
  OpenClaim.holds_of_wide 3 Try.f3 rfl rfl rfl rfl rfl rfl rfl ⟨rfl, rfl, rfl, rfl, rfl⟩ rfl rfl rfl rfl rfl (by kernel_rfl) Try.func3 (by kernel_rfl)
    (of_decide_eq_true (by kernel_rfl)) (by unfold Func.isWrapper; first | (rw [if_pos (by decide +kernel)]; kernel_rfl) | (rw [if_neg (by decide +kernel)]; exact ⟨rfl, rfl⟩))
    (fun os started H enc _ => lifted os started H enc)
end FnOrder

theorem fnOrder_holds : Rows.FnOrderSaid := FnOrder.over
end Go.Proofs.Ytbgjekhekjbcpaa
