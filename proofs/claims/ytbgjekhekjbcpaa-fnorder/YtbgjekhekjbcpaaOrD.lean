/-
  Contract of the specification's OrderFor, for every need.
-/
import Derived.Test.YtbgjekhekjbcpaaOrB
namespace Go.Proofs.Ytbgjekhekjbcpaa
open Go.ChangeShapes Go.WideShapes Go.ChangeAt Go.RowKit Go.Joins Go.Deep
set_option linter.unusedVariables false

set_option maxHeartbeats 4000000 in
theorem specOrder_any (a b c d e f : Int) (w : World) :
    Calls Try.prog 11 #[.agg #[.int .i64 a, .int .i64 b, .int .i64 c, .int .i64 d, .int .i64 e, .int .i64 f]] w (AnsO w.heap.size (odU a b c d e f) (odT a b c d e f) (odC a b c d e f) w) := by
  have HNd : Hid (∀ W, Calls Try.prog 21 #[.agg #[.int .i64 a, .int .i64 b, .int .i64 c, .int .i64 d, .int .i64 e, .int .i64 f]] W fun e' w' => e' = .returned (.bool (ndB a b c d e f)) ∧ Below W.heap.size W w') := fun W => specNeed_any a b c d e f W
  rcases od_ways a b c d e f with ⟨h0, e1, e2, e3⟩ | ⟨h0, hle, e1, e2, e3⟩ | ⟨h0, hlt, hw⟩
  · rw [e1, e2, e3]
    rw [h0] at HNd
    clear h0 e1 e2 e3
    have HN0 : Hid (NdAt (w.alloc (Obj.cells #[.int .i64 a, .int .i64 b, .int .i64 c, .int .i64 d, .int .i64 e, .int .i64 f] 24)) w.heap.size a b c d e f) := ndNew w a b c d e f _
    have HB0 : Hid (Below w.heap.size w (w.alloc (Obj.cells #[.int .i64 a, .int .i64 b, .int .i64 c, .int .i64 d, .int .i64 e, .int .i64 f] 24))) := below_alloc _ _
    go_enter Try.func11, Try.ntmps11
    go_upto_region 1 with fail
    generalize (w.alloc (Obj.cells #[.int .i64 a, .int .i64 b, .int .i64 c, .int .i64 d, .int .i64 e, .int .i64 f] 24)) = W0 at *
    generalize w.heap.size = bk at *
    obtain ⟨c0, c1, c2, c3, c4, c5, lt⟩ := HN0.out
    go_wp2_with fail
    (first | go_at_call 21 | skip)
    refine (HNd.out _).mono ?_
    rintro e' w2 ⟨rfl, hb2⟩
    have HN2 : Hid (NdAt w2 bk a b c d e f) := (NdAt.later ⟨c0, c1, c2, c3, c4, c5, lt⟩ hb2)
    have HB2 : Hid (Below bk w w2) := HB0.out.trans (hb2.mono (Nat.le_of_lt lt))
    clear c0 c1 c2 c3 c4 c5 lt hb2 HN0 HB0 HNd
    obtain ⟨c0, c1, c2, c3, c4, c5, lt⟩ := HN2.out
    go_wp2
    go_ret3
    exact ⟨rfl, HB2.out⟩
  · obtain ⟨⟨a1, a2⟩, ⟨b1, b2⟩, ⟨c1', c2'⟩, ⟨d1, d2⟩, ⟨e1', e2'⟩, f1, f2⟩ := nd_facts h0
    have wA : IntKind.i64.wrap (b + c) = b + c := wrap_id _ (by omega) (by omega)
    rw [e1, e2, e3]
    rw [h0] at HNd
    clear h0 e1 e2 e3
    have HN0 : Hid (NdAt (w.alloc (Obj.cells #[.int .i64 a, .int .i64 b, .int .i64 c, .int .i64 d, .int .i64 e, .int .i64 f] 24)) w.heap.size a b c d e f) := ndNew w a b c d e f _
    have HB0 : Hid (Below w.heap.size w (w.alloc (Obj.cells #[.int .i64 a, .int .i64 b, .int .i64 c, .int .i64 d, .int .i64 e, .int .i64 f] 24))) := below_alloc _ _
    go_enter Try.func11, Try.ntmps11
    go_upto_region 1 with fail
    generalize (w.alloc (Obj.cells #[.int .i64 a, .int .i64 b, .int .i64 c, .int .i64 d, .int .i64 e, .int .i64 f] 24)) = W0 at *
    generalize w.heap.size = bk at *
    obtain ⟨c0, c1, c2, c3, c4, c5, lt⟩ := HN0.out
    go_wp2_with fail
    (first | go_at_call 21 | skip)
    refine (HNd.out _).mono ?_
    rintro e' w2 ⟨rfl, hb2⟩
    have HN2 : Hid (NdAt w2 bk a b c d e f) := (NdAt.later ⟨c0, c1, c2, c3, c4, c5, lt⟩ hb2)
    have HB2 : Hid (Below bk w w2) := HB0.out.trans (hb2.mono (Nat.le_of_lt lt))
    clear c0 c1 c2 c3 c4 c5 lt hb2 HN0 HB0 HNd
    obtain ⟨c0, c1, c2, c3, c4, c5, lt⟩ := HN2.out
    go_wp2
    go_ret3
    exact ⟨rfl, HB2.out⟩
  · obtain ⟨⟨a1, a2⟩, ⟨b1, b2⟩, ⟨c1', c2'⟩, ⟨d1, d2⟩, ⟨e1', e2'⟩, f1, f2⟩ := nd_facts h0
    obtain ⟨n1, n2, n3, ⟨n4, n4'⟩, ⟨n5, n5'⟩, ⟨n6, n6'⟩, ⟨n7, n8, n10⟩, n9, n11⟩ := od_nums (a := a) (th := b + c) (d := d) (e := e) (f := f) (by omega) (by omega) ⟨d1, d2⟩ ⟨e1', e2'⟩ ⟨f1, f2⟩
    rw [h0] at HNd
    have z0 : (d == 0) = false := by simp; omega
    have z1 : ¬ d = 0 := by omega
    have hth : 0 ≤ b + c ∧ b + c ≤ 200000 := by omega
    obtain ⟨th, hth0⟩ : ∃ th, b + c = th := ⟨_, rfl⟩
    have wA : IntKind.i64.wrap (b + c) = th := by rw [← hth0]; exact wrap_id _ (by omega) (by omega)
    rw [hth0] at hlt hw n1 n2 n3 n4 n4' n5 n5' n6 n6' n7 n8 n9 n10 n11 hth
    clear hth0 h0
    have l0 : ¬ a ≤ th := by omega
    obtain ⟨ms, hms⟩ : ∃ ms, a - th = ms := ⟨_, rfl⟩
    have wB : IntKind.i64.wrap (a - th) = ms := by rw [← hms]; exact wrap_id _ (by omega) (by omega)
    obtain ⟨m, hm⟩ : ∃ m, max ms e = m := ⟨_, rfl⟩
    have hme : (if ms < e then e else ms) = m := by split <;> omega
    rw [hms, hm] at n1
    have hmb : 1 ≤ m ∧ m ≤ 100000 := by omega
    obtain ⟨s1, hs1⟩ : ∃ s1, m + d = s1 := ⟨_, rfl⟩
    have wC : IntKind.i64.wrap (m + d) = s1 := by rw [← hs1]; exact wrap_id _ (by omega) (by omega)
    obtain ⟨s2, hs2⟩ : ∃ s2, s1 - 1 = s2 := ⟨_, rfl⟩
    have wD : IntKind.i64.wrap (s1 - 1) = s2 := by rw [← hs2]; exact wrap_id _ (by omega) (by omega)
    rw [hs1, hs2] at n1
    obtain ⟨df, hdf⟩ : ∃ df, f - th = df := ⟨_, rfl⟩
    have wF : IntKind.i64.wrap (f - th) = df := by rw [← hdf]; exact wrap_id _ (by omega) (by omega)
    obtain ⟨r, hr⟩ : ∃ r, max 0 df = r := ⟨_, rfl⟩
    have hmf : (if 0 < df then df else 0) = r := by split <;> omega
    rw [hdf, hr] at n2
    have hrb : 0 ≤ r ∧ r ≤ 100000 := by omega
    generalize odP a th d e = P at *
    generalize odR th d f = R at *
    have q1 : s2 / d = P := by rw [← n1]; exact (Int.tdiv_eq_ediv_of_nonneg (by omega)).symm
    have q2 : r / d = R := by rw [← n2]; exact (Int.tdiv_eq_ediv_of_nonneg (by omega)).symm
    have wP : IntKind.i64.wrap P = P := wrap_id _ (by omega) (by omega)
    have wR : IntKind.i64.wrap R = R := wrap_id _ (by omega) (by omega)
    obtain ⟨pd, hpd⟩ : ∃ pd, P * d = pd := ⟨_, rfl⟩
    have wG : IntKind.i64.wrap (P * d) = pd := by rw [← hpd]; exact wrap_id _ (by omega) (by omega)
    obtain ⟨rd, hrd⟩ : ∃ rd, R * d = rd := ⟨_, rfl⟩
    have wH : IntKind.i64.wrap (R * d) = rd := by rw [← hrd]; exact wrap_id _ (by omega) (by omega)
    obtain ⟨m1, hm1⟩ : ∃ m1, max e 1 = m1 := ⟨_, rfl⟩
    have hmg : (if e < 1 then 1 else e) = m1 := by split <;> omega
    rw [hpd, hrd, hm1] at hw
    clear n3 n4 n4' n5 n5' n6 n6' n7 n8 n9 n10 n11 hms hm hs1 hs2 hdf hr hpd hrd hm1 hlt
    have HW : Hid _ := hw
    clear hw
    rcases HW.out with ⟨l1, r1, r2, r3⟩ | ⟨l1, l2, r1, r2, r3⟩ | ⟨l1, l2, r1, r2, r3⟩ <;> rw [r1, r2, r3] <;> clear r1 r2 r3 HW
    · obtain ⟨t1, t2⟩ := hth
      obtain ⟨t3, t4⟩ := hmb
      obtain ⟨t5, t6⟩ := hrb
      have HN0 : Hid (NdAt (w.alloc (Obj.cells #[.int .i64 a, .int .i64 b, .int .i64 c, .int .i64 d, .int .i64 e, .int .i64 f] 24)) w.heap.size a b c d e f) := ndNew w a b c d e f _
      have HB0 : Hid (Below w.heap.size w (w.alloc (Obj.cells #[.int .i64 a, .int .i64 b, .int .i64 c, .int .i64 d, .int .i64 e, .int .i64 f] 24))) := below_alloc _ _
      go_enter Try.func11, Try.ntmps11
      go_upto_region 1 with fail
      generalize (w.alloc (Obj.cells #[.int .i64 a, .int .i64 b, .int .i64 c, .int .i64 d, .int .i64 e, .int .i64 f] 24)) = W0 at *
      generalize w.heap.size = bk at *
      obtain ⟨c0, c1, c2, c3, c4, c5, lt⟩ := HN0.out
      go_wp2_with fail
      (first | go_at_call 21 | skip)
      refine (HNd.out _).mono ?_
      rintro e' w2 ⟨rfl, hb2⟩
      have HN2 : Hid (NdAt w2 bk a b c d e f) := (NdAt.later ⟨c0, c1, c2, c3, c4, c5, lt⟩ hb2)
      have HB2 : Hid (Below bk w w2) := HB0.out.trans (hb2.mono (Nat.le_of_lt lt))
      clear c0 c1 c2 c3 c4 c5 lt hb2 HN0 HB0 HNd
      obtain ⟨c0, c1, c2, c3, c4, c5, lt⟩ := HN2.out
      go_wp2
      go_ret3
      exact ⟨rfl, HB2.out⟩
    · obtain ⟨t1, t2⟩ := hth
      obtain ⟨t3, t4⟩ := hmb
      obtain ⟨t5, t6⟩ := hrb
      have l3 : ¬ P ≤ R := by omega
      clear l1
      have HN0 : Hid (NdAt (w.alloc (Obj.cells #[.int .i64 a, .int .i64 b, .int .i64 c, .int .i64 d, .int .i64 e, .int .i64 f] 24)) w.heap.size a b c d e f) := ndNew w a b c d e f _
      have HB0 : Hid (Below w.heap.size w (w.alloc (Obj.cells #[.int .i64 a, .int .i64 b, .int .i64 c, .int .i64 d, .int .i64 e, .int .i64 f] 24))) := below_alloc _ _
      go_enter Try.func11, Try.ntmps11
      go_upto_region 1 with fail
      generalize (w.alloc (Obj.cells #[.int .i64 a, .int .i64 b, .int .i64 c, .int .i64 d, .int .i64 e, .int .i64 f] 24)) = W0 at *
      generalize w.heap.size = bk at *
      obtain ⟨c0, c1, c2, c3, c4, c5, lt⟩ := HN0.out
      go_wp2_with fail
      (first | go_at_call 21 | skip)
      refine (HNd.out _).mono ?_
      rintro e' w2 ⟨rfl, hb2⟩
      have HN2 : Hid (NdAt w2 bk a b c d e f) := (NdAt.later ⟨c0, c1, c2, c3, c4, c5, lt⟩ hb2)
      have HB2 : Hid (Below bk w w2) := HB0.out.trans (hb2.mono (Nat.le_of_lt lt))
      clear c0 c1 c2 c3 c4 c5 lt hb2 HN0 HB0 HNd
      obtain ⟨c0, c1, c2, c3, c4, c5, lt⟩ := HN2.out
      go_wp2
      go_ret3
      exact ⟨rfl, HB2.out⟩
    · obtain ⟨t1, t2⟩ := hth
      obtain ⟨t3, t4⟩ := hmb
      obtain ⟨t5, t6⟩ := hrb
      have l3 : ¬ P ≤ R := by omega
      have l4 : ¬ rd < m1 := by omega
      clear l1 l2
      have HN0 : Hid (NdAt (w.alloc (Obj.cells #[.int .i64 a, .int .i64 b, .int .i64 c, .int .i64 d, .int .i64 e, .int .i64 f] 24)) w.heap.size a b c d e f) := ndNew w a b c d e f _
      have HB0 : Hid (Below w.heap.size w (w.alloc (Obj.cells #[.int .i64 a, .int .i64 b, .int .i64 c, .int .i64 d, .int .i64 e, .int .i64 f] 24))) := below_alloc _ _
      go_enter Try.func11, Try.ntmps11
      go_upto_region 1 with fail
      generalize (w.alloc (Obj.cells #[.int .i64 a, .int .i64 b, .int .i64 c, .int .i64 d, .int .i64 e, .int .i64 f] 24)) = W0 at *
      generalize w.heap.size = bk at *
      obtain ⟨c0, c1, c2, c3, c4, c5, lt⟩ := HN0.out
      go_wp2_with fail
      (first | go_at_call 21 | skip)
      refine (HNd.out _).mono ?_
      rintro e' w2 ⟨rfl, hb2⟩
      have HN2 : Hid (NdAt w2 bk a b c d e f) := (NdAt.later ⟨c0, c1, c2, c3, c4, c5, lt⟩ hb2)
      have HB2 : Hid (Below bk w w2) := HB0.out.trans (hb2.mono (Nat.le_of_lt lt))
      clear c0 c1 c2 c3 c4 c5 lt hb2 HN0 HB0 HNd
      obtain ⟨c0, c1, c2, c3, c4, c5, lt⟩ := HN2.out
      go_wp2
      go_ret3
      exact ⟨rfl, HB2.out⟩
end Go.Proofs.Ytbgjekhekjbcpaa
