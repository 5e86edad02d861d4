/-
  Contract of the program's OrderFor, for every need.
-/
import Derived.Test.YtbgjekhekjbcpaaOrB
namespace Go.Proofs.Ytbgjekhekjbcpaa
open Go.ChangeShapes Go.WideShapes Go.ChangeAt Go.RowKit Go.Joins Go.Deep
set_option linter.unusedVariables false

set_option maxHeartbeats 4000000 in
theorem implOrder_any (a b c d e f : Int) (w : World) :
    Calls Try.prog 10 #[.agg #[.int .i64 a, .int .i64 b, .int .i64 c, .int .i64 d, .int .i64 e, .int .i64 f]] w (AnsO w.heap.size (odU a b c d e f) (odT a b c d e f) (odC a b c d e f) w) := by
  have HNd : Hid (∀ W, Calls Try.prog 12 #[.agg #[.int .i64 a, .int .i64 b, .int .i64 c, .int .i64 d, .int .i64 e, .int .i64 f]] W fun e' w' => e' = .returned (.bool (ndB a b c d e f)) ∧ Below W.heap.size W w') := fun W => implNeed_any a b c d e f W
  rcases od_ways a b c d e f with ⟨h0, e1, e2, e3⟩ | ⟨h0, hle, e1, e2, e3⟩ | ⟨h0, hlt, hw⟩
  · rw [e1, e2, e3]
    rw [h0] at HNd
    clear h0 e1 e2 e3
    have HN0 : Hid (NdAt (w.alloc (Obj.cells #[.int .i64 a, .int .i64 b, .int .i64 c, .int .i64 d, .int .i64 e, .int .i64 f] 24)) w.heap.size a b c d e f) := ndNew w a b c d e f _
    have HB0 : Hid (Below w.heap.size w (w.alloc (Obj.cells #[.int .i64 a, .int .i64 b, .int .i64 c, .int .i64 d, .int .i64 e, .int .i64 f] 24))) := below_alloc _ _
    go_enter Try.func10, Try.ntmps10
    go_upto_region 1 with fail
    generalize (w.alloc (Obj.cells #[.int .i64 a, .int .i64 b, .int .i64 c, .int .i64 d, .int .i64 e, .int .i64 f] 24)) = W0 at *
    generalize w.heap.size = bk at *
    obtain ⟨c0, c1, c2, c3, c4, c5, lt⟩ := HN0.out
    go_wp2_with fail
    (first | go_at_call 12 | skip)
    refine (HNd.out _).mono ?_
    rintro e' w2 ⟨rfl, hb2⟩
    have HN2 : Hid (NdAt w2 bk a b c d e f) := (NdAt.later ⟨c0, c1, c2, c3, c4, c5, lt⟩ hb2)
    have HB2 : Hid (Below bk w w2) := HB0.out.trans (hb2.mono (Nat.le_of_lt lt))
    clear c0 c1 c2 c3 c4 c5 lt hb2 HN0 HB0 HNd
    go_wp2
    go_ret3
    exact ⟨rfl, HB2.out⟩
  · obtain ⟨⟨a1, a2⟩, ⟨b1, b2⟩, ⟨c1', c2'⟩, ⟨d1, d2⟩, ⟨e1', e2'⟩, f1, f2⟩ := nd_facts h0
    have HT : Hid (∀ W, Calls Try.prog 33 #[.agg #[.int .i64 a, .int .i64 b, .int .i64 c, .int .i64 d, .int .i64 e, .int .i64 f]] W fun e' w' => e' = .returned (.int .i64 (b + c)) ∧ Below W.heap.size W w') := fun W => there_any a b c d e f ⟨b1, b2⟩ ⟨c1', c2'⟩ W
    obtain ⟨ms, hms⟩ : ∃ ms, a - (b + c) = ms := ⟨_, rfl⟩
    have w1 : IntKind.i64.wrap (a - (b + c)) = ms := by rw [← hms]; exact wrap_id _ (by omega) (by omega)
    have l1 : ms ≤ 0 := by omega
    clear hms
    rw [e1, e2, e3]
    rw [h0] at HNd
    clear h0 e1 e2 e3 hle
    generalize b + c = th at *
    have HN0 : Hid (NdAt (w.alloc (Obj.cells #[.int .i64 a, .int .i64 b, .int .i64 c, .int .i64 d, .int .i64 e, .int .i64 f] 24)) w.heap.size a b c d e f) := ndNew w a b c d e f _
    have HB0 : Hid (Below w.heap.size w (w.alloc (Obj.cells #[.int .i64 a, .int .i64 b, .int .i64 c, .int .i64 d, .int .i64 e, .int .i64 f] 24))) := below_alloc _ _
    go_enter Try.func10, Try.ntmps10
    go_upto_region 1 with fail
    generalize (w.alloc (Obj.cells #[.int .i64 a, .int .i64 b, .int .i64 c, .int .i64 d, .int .i64 e, .int .i64 f] 24)) = W0 at *
    generalize w.heap.size = bk at *
    obtain ⟨c0, c1, c2, c3, c4, c5, lt⟩ := HN0.out
    go_wp2_with fail
    (first | go_at_call 12 | skip)
    refine (HNd.out _).mono ?_
    rintro e' w2 ⟨rfl, hb2⟩
    have HN2 : Hid (NdAt w2 bk a b c d e f) := (NdAt.later ⟨c0, c1, c2, c3, c4, c5, lt⟩ hb2)
    have HB2 : Hid (Below bk w w2) := HB0.out.trans (hb2.mono (Nat.le_of_lt lt))
    clear c0 c1 c2 c3 c4 c5 lt hb2 HN0 HB0 HNd
    go_upto_region 3 with fail
    obtain ⟨c0, c1, c2, c3, c4, c5, lt⟩ := HN2.out
    go_region_held3 (fun W => W.cell? ⟨bk, 0, none⟩ = some (.int .i64 a) ∧ W.cell? ⟨bk, 1, none⟩ = some (.int .i64 b) ∧ W.cell? ⟨bk, 2, none⟩ = some (.int .i64 c) ∧ W.cell? ⟨bk, 3, none⟩ = some (.int .i64 d) ∧ W.cell? ⟨bk, 4, none⟩ = some (.int .i64 e) ∧ W.cell? ⟨bk, 5, none⟩ = some (.int .i64 f) ∧ bk < W.heap.size) (first | exact keepNd (below_drew _) ⟨c0, c1, c2, c3, c4, c5, lt⟩ | exact keepNd (by assumption) (by assumption)) (first | (go_at_call 33; refine (HT.out _).mono ?_; rintro e' w3 ⟨rfl, hb3⟩))
    have HN3 : Hid (NdAt w3 bk a b c d e f) := (NdAt.later ⟨c0, c1, c2, c3, c4, c5, lt⟩ (below_drew _)).later hb3
    have HB3 : Hid (Below bk w w3) := chainD HB2.out (Nat.le_of_lt lt) hb3
    clear c0 c1 c2 c3 c4 c5 lt hb3 HN2 HB2
    go_wp2
    go_ret3
    exact ⟨rfl, HB3.out⟩
  · obtain ⟨⟨a1, a2⟩, ⟨b1, b2⟩, ⟨c1', c2'⟩, ⟨d1, d2⟩, ⟨e1', e2'⟩, f1, f2⟩ := nd_facts h0
    have HT : Hid (∀ W, Calls Try.prog 33 #[.agg #[.int .i64 a, .int .i64 b, .int .i64 c, .int .i64 d, .int .i64 e, .int .i64 f]] W fun e' w' => e' = .returned (.int .i64 (b + c)) ∧ Below W.heap.size W w') := fun W => there_any a b c d e f ⟨b1, b2⟩ ⟨c1', c2'⟩ W
    have HCut : Hid (∀ W, Calls Try.prog 35 #[.agg #[.int .i64 a, .int .i64 b, .int .i64 c, .int .i64 d, .int .i64 e, .int .i64 f]] W (AnsO W.heap.size (if odR (b + c) d f * d < max e 1 then 0 else odR (b + c) d f * d) (if odR (b + c) d f * d < max e 1 then false else true) (if odR (b + c) d f * d < max e 1 then 14 else 0) W)) := fun W => cutShort_any a b c d e f ⟨b1, b2⟩ ⟨c1', c2'⟩ ⟨d1, d2⟩ ⟨e1', e2'⟩ ⟨f1, f2⟩ ⟨by omega, by omega⟩ W
    obtain ⟨n1, n2, n3, ⟨n4, n4'⟩, n5, ⟨n6, n6'⟩, ⟨n7, n8, n10⟩, n9, n11⟩ := od_nums (a := a) (th := b + c) (d := d) (e := e) (f := f) (by omega) (by omega) ⟨d1, d2⟩ ⟨e1', e2'⟩ ⟨f1, f2⟩
    have hmb : 0 ≤ max (a - (b + c)) e ∧ max (a - (b + c)) e ≤ 100000 := by omega
    have HF : Hid (∀ W, Calls Try.prog 34 #[.int .i64 d, .int .i64 (max (a - (b + c)) e)] W fun e' w' => e' = .returned (.int .i64 (odP a (b + c) d e)) ∧ Below W.heap.size W w') := fun W => (fewestOf_any d (max (a - (b + c)) e) (odP a (b + c) d e) ⟨d1, by omega⟩ ⟨hmb.1, by omega⟩ n1 ⟨by omega, by omega⟩ W).mono (fun e' w' h => ⟨h.1, by rw [← h.2]; exact Below.refl _ _⟩)
    obtain ⟨ms, hms⟩ : ∃ ms, a - (b + c) = ms := ⟨_, rfl⟩
    have w1 : IntKind.i64.wrap (a - (b + c)) = ms := by rw [← hms]; exact wrap_id _ (by omega) (by omega)
    have l1 : ¬ ms ≤ 0 := by omega
    have cm : d * odP a (b + c) d e = odP a (b + c) d e * d := Int.mul_comm _ _
    have w2 : IntKind.i64.wrap (d * odP a (b + c) d e) = odP a (b + c) d e * d := by rw [cm]; exact wrap_id _ (by omega) (by omega)
    obtain ⟨x1, hx1⟩ : ∃ x1, b + c + odP a (b + c) d e * d = x1 := ⟨_, rfl⟩
    have w3 : IntKind.i64.wrap (b + c + odP a (b + c) d e * d) = x1 := by rw [← hx1]; exact wrap_id _ (by omega) (by omega)
    rw [hx1] at n9
    clear hx1
    rw [h0] at HNd
    clear h0 hlt cm n1 n2 n3 n5 n7 n8 n10 n11 n6
    generalize hP : odP a (b + c) d e = P at *
    generalize odR (b + c) d f = R at *
    clear hP
    generalize P * d = pd at *
    generalize R * d = rd at *
    rw [hms] at HF
    clear hms
    generalize b + c = th at *
    obtain ⟨m, hm⟩ : ∃ m, max ms e = m := ⟨_, rfl⟩
    rw [hm] at HF
    have hme : (if ms < e then e else ms) = m := by split <;> omega
    clear hm
    have HW : Hid ((x1 ≤ f ∧ odU a b c d e f = pd ∧ odT a b c d e f = false ∧ odC a b c d e f = 0) ∨ (f < x1 ∧ odU a b c d e f = (if rd < max e 1 then 0 else rd) ∧ odT a b c d e f = (if rd < max e 1 then false else true) ∧ odC a b c d e f = if rd < max e 1 then 14 else 0)) := by
      rcases hw with ⟨q1, q2, q3, q4⟩ | ⟨q1, q5, q2, q3, q4⟩ | ⟨q1, q5, q2, q3, q4⟩
      · exact .inl ⟨n9.2 q1, q2, q3, q4⟩
      · exact .inr ⟨by have : ¬ x1 ≤ f := fun h => by have := n9.1 h; omega
                       omega, by rw [if_pos q5]; exact q2, by rw [if_pos q5]; exact q3, by rw [if_pos q5]; exact q4⟩
      · exact .inr ⟨by have : ¬ x1 ≤ f := fun h => by have := n9.1 h; omega
                       omega, by rw [if_neg (by omega)]; exact q2, by rw [if_neg (by omega)]; exact q3, by rw [if_neg (by omega)]; exact q4⟩
    clear hw n9 n4 n4' n6' hmb
    generalize (if rd < max e 1 then 0 else rd) = u at *
    generalize (if rd < max e 1 then false else true) = t at *
    generalize (if rd < max e 1 then (14 : Int) else 0) = k at *
    rcases HW.out with ⟨l2, q2, q3, q4⟩ | ⟨l2, q2, q3, q4⟩ <;> rw [q2, q3, q4] <;> clear q2 q3 q4 HW
    · have HN0 : Hid (NdAt (w.alloc (Obj.cells #[.int .i64 a, .int .i64 b, .int .i64 c, .int .i64 d, .int .i64 e, .int .i64 f] 24)) w.heap.size a b c d e f) := ndNew w a b c d e f _
      have HB0 : Hid (Below w.heap.size w (w.alloc (Obj.cells #[.int .i64 a, .int .i64 b, .int .i64 c, .int .i64 d, .int .i64 e, .int .i64 f] 24))) := below_alloc _ _
      go_enter Try.func10, Try.ntmps10
      go_upto_region 1 with fail
      generalize (w.alloc (Obj.cells #[.int .i64 a, .int .i64 b, .int .i64 c, .int .i64 d, .int .i64 e, .int .i64 f] 24)) = W0 at *
      generalize w.heap.size = bk at *
      obtain ⟨c0, c1, c2, c3, c4, c5, lt⟩ := HN0.out
      go_wp2_with fail
      (first | go_at_call 12 | skip)
      refine (HNd.out _).mono ?_
      rintro e' w2 ⟨rfl, hb2⟩
      have HN2 : Hid (NdAt w2 bk a b c d e f) := (NdAt.later ⟨c0, c1, c2, c3, c4, c5, lt⟩ hb2)
      have HB2 : Hid (Below bk w w2) := HB0.out.trans (hb2.mono (Nat.le_of_lt lt))
      clear c0 c1 c2 c3 c4 c5 lt hb2 HN0 HB0 HNd
      go_upto_region 3 with fail
      obtain ⟨c0, c1, c2, c3, c4, c5, lt⟩ := HN2.out
      go_region_held3 (fun W => W.cell? ⟨bk, 0, none⟩ = some (.int .i64 a) ∧ W.cell? ⟨bk, 1, none⟩ = some (.int .i64 b) ∧ W.cell? ⟨bk, 2, none⟩ = some (.int .i64 c) ∧ W.cell? ⟨bk, 3, none⟩ = some (.int .i64 d) ∧ W.cell? ⟨bk, 4, none⟩ = some (.int .i64 e) ∧ W.cell? ⟨bk, 5, none⟩ = some (.int .i64 f) ∧ bk < W.heap.size) (first | exact keepNd (below_drew _) ⟨c0, c1, c2, c3, c4, c5, lt⟩ | exact keepNd (by assumption) (by assumption)) (first | (go_at_call 33; refine (HT.out _).mono ?_; rintro e' w3 ⟨rfl, hb3⟩))
      have HN3 : Hid (NdAt w3 bk a b c d e f) := (NdAt.later ⟨c0, c1, c2, c3, c4, c5, lt⟩ (below_drew _)).later hb3
      have HB3 : Hid (Below bk w w3) := chainD HB2.out (Nat.le_of_lt lt) hb3
      clear c0 c1 c2 c3 c4 c5 lt hb3 HN2 HB2
      go_upto_region 6 with fail
      obtain ⟨c0, c1, c2, c3, c4, c5, lt⟩ := HN3.out
      go_region_held3 (fun W => W.cell? ⟨bk, 0, none⟩ = some (.int .i64 a) ∧ W.cell? ⟨bk, 1, none⟩ = some (.int .i64 b) ∧ W.cell? ⟨bk, 2, none⟩ = some (.int .i64 c) ∧ W.cell? ⟨bk, 3, none⟩ = some (.int .i64 d) ∧ W.cell? ⟨bk, 4, none⟩ = some (.int .i64 e) ∧ W.cell? ⟨bk, 5, none⟩ = some (.int .i64 f) ∧ bk < W.heap.size) (first | exact keepNd (below_drew _) ⟨c0, c1, c2, c3, c4, c5, lt⟩ | exact keepNd (by assumption) (by assumption)) (first | (go_at_call 34; refine (HF.out _).mono ?_; rintro e' w4 ⟨rfl, hb4⟩))
      have HN4 : Hid (NdAt w4 bk a b c d e f) := (NdAt.later ⟨c0, c1, c2, c3, c4, c5, lt⟩ (below_drew _)).later hb4
      have HB4 : Hid (Below bk w w4) := chainD HB3.out (Nat.le_of_lt lt) hb4
      clear c0 c1 c2 c3 c4 c5 lt hb4 HN3 HB3
      go_upto_region 7 with fail
      obtain ⟨c0, c1, c2, c3, c4, c5, lt⟩ := HN4.out
      go_region_held3 (fun W => W.cell? ⟨bk, 0, none⟩ = some (.int .i64 a) ∧ W.cell? ⟨bk, 1, none⟩ = some (.int .i64 b) ∧ W.cell? ⟨bk, 2, none⟩ = some (.int .i64 c) ∧ W.cell? ⟨bk, 3, none⟩ = some (.int .i64 d) ∧ W.cell? ⟨bk, 4, none⟩ = some (.int .i64 e) ∧ W.cell? ⟨bk, 5, none⟩ = some (.int .i64 f) ∧ bk < W.heap.size) (first | exact keepNd (below_drew _) ⟨c0, c1, c2, c3, c4, c5, lt⟩ | exact keepNd (by assumption) (by assumption)) (first | (go_at_call 33; refine (HT.out _).mono ?_; rintro e' w5 ⟨rfl, hb5⟩))
      have HN5 : Hid (NdAt w5 bk a b c d e f) := (NdAt.later ⟨c0, c1, c2, c3, c4, c5, lt⟩ (below_drew _)).later hb5
      have HB5 : Hid (Below bk w w5) := chainD HB4.out (Nat.le_of_lt lt) hb5
      clear c0 c1 c2 c3 c4 c5 lt hb5 HN4 HB4
      go_wp2
      go_ret3
      exact ⟨rfl, HB5.out⟩
    · have HN0 : Hid (NdAt (w.alloc (Obj.cells #[.int .i64 a, .int .i64 b, .int .i64 c, .int .i64 d, .int .i64 e, .int .i64 f] 24)) w.heap.size a b c d e f) := ndNew w a b c d e f _
      have HB0 : Hid (Below w.heap.size w (w.alloc (Obj.cells #[.int .i64 a, .int .i64 b, .int .i64 c, .int .i64 d, .int .i64 e, .int .i64 f] 24))) := below_alloc _ _
      go_enter Try.func10, Try.ntmps10
      go_upto_region 1 with fail
      generalize (w.alloc (Obj.cells #[.int .i64 a, .int .i64 b, .int .i64 c, .int .i64 d, .int .i64 e, .int .i64 f] 24)) = W0 at *
      generalize w.heap.size = bk at *
      obtain ⟨c0, c1, c2, c3, c4, c5, lt⟩ := HN0.out
      go_wp2_with fail
      (first | go_at_call 12 | skip)
      refine (HNd.out _).mono ?_
      rintro e' w2 ⟨rfl, hb2⟩
      have HN2 : Hid (NdAt w2 bk a b c d e f) := (NdAt.later ⟨c0, c1, c2, c3, c4, c5, lt⟩ hb2)
      have HB2 : Hid (Below bk w w2) := HB0.out.trans (hb2.mono (Nat.le_of_lt lt))
      clear c0 c1 c2 c3 c4 c5 lt hb2 HN0 HB0 HNd
      go_upto_region 3 with fail
      obtain ⟨c0, c1, c2, c3, c4, c5, lt⟩ := HN2.out
      go_region_held3 (fun W => W.cell? ⟨bk, 0, none⟩ = some (.int .i64 a) ∧ W.cell? ⟨bk, 1, none⟩ = some (.int .i64 b) ∧ W.cell? ⟨bk, 2, none⟩ = some (.int .i64 c) ∧ W.cell? ⟨bk, 3, none⟩ = some (.int .i64 d) ∧ W.cell? ⟨bk, 4, none⟩ = some (.int .i64 e) ∧ W.cell? ⟨bk, 5, none⟩ = some (.int .i64 f) ∧ bk < W.heap.size) (first | exact keepNd (below_drew _) ⟨c0, c1, c2, c3, c4, c5, lt⟩ | exact keepNd (by assumption) (by assumption)) (first | (go_at_call 33; refine (HT.out _).mono ?_; rintro e' w3 ⟨rfl, hb3⟩))
      have HN3 : Hid (NdAt w3 bk a b c d e f) := (NdAt.later ⟨c0, c1, c2, c3, c4, c5, lt⟩ (below_drew _)).later hb3
      have HB3 : Hid (Below bk w w3) := chainD HB2.out (Nat.le_of_lt lt) hb3
      clear c0 c1 c2 c3 c4 c5 lt hb3 HN2 HB2
      go_upto_region 6 with fail
      obtain ⟨c0, c1, c2, c3, c4, c5, lt⟩ := HN3.out
      go_region_held3 (fun W => W.cell? ⟨bk, 0, none⟩ = some (.int .i64 a) ∧ W.cell? ⟨bk, 1, none⟩ = some (.int .i64 b) ∧ W.cell? ⟨bk, 2, none⟩ = some (.int .i64 c) ∧ W.cell? ⟨bk, 3, none⟩ = some (.int .i64 d) ∧ W.cell? ⟨bk, 4, none⟩ = some (.int .i64 e) ∧ W.cell? ⟨bk, 5, none⟩ = some (.int .i64 f) ∧ bk < W.heap.size) (first | exact keepNd (below_drew _) ⟨c0, c1, c2, c3, c4, c5, lt⟩ | exact keepNd (by assumption) (by assumption)) (first | (go_at_call 34; refine (HF.out _).mono ?_; rintro e' w4 ⟨rfl, hb4⟩))
      have HN4 : Hid (NdAt w4 bk a b c d e f) := (NdAt.later ⟨c0, c1, c2, c3, c4, c5, lt⟩ (below_drew _)).later hb4
      have HB4 : Hid (Below bk w w4) := chainD HB3.out (Nat.le_of_lt lt) hb4
      clear c0 c1 c2 c3 c4 c5 lt hb4 HN3 HB3
      go_upto_region 7 with fail
      obtain ⟨c0, c1, c2, c3, c4, c5, lt⟩ := HN4.out
      go_region_held3 (fun W => W.cell? ⟨bk, 0, none⟩ = some (.int .i64 a) ∧ W.cell? ⟨bk, 1, none⟩ = some (.int .i64 b) ∧ W.cell? ⟨bk, 2, none⟩ = some (.int .i64 c) ∧ W.cell? ⟨bk, 3, none⟩ = some (.int .i64 d) ∧ W.cell? ⟨bk, 4, none⟩ = some (.int .i64 e) ∧ W.cell? ⟨bk, 5, none⟩ = some (.int .i64 f) ∧ bk < W.heap.size) (first | exact keepNd (below_drew _) ⟨c0, c1, c2, c3, c4, c5, lt⟩ | exact keepNd (by assumption) (by assumption)) (first | (go_at_call 33; refine (HT.out _).mono ?_; rintro e' w5 ⟨rfl, hb5⟩))
      have HN5 : Hid (NdAt w5 bk a b c d e f) := (NdAt.later ⟨c0, c1, c2, c3, c4, c5, lt⟩ (below_drew _)).later hb5
      have HB5 : Hid (Below bk w w5) := chainD HB4.out (Nat.le_of_lt lt) hb5
      clear c0 c1 c2 c3 c4 c5 lt hb5 HN4 HB4
      obtain ⟨c0, c1, c2, c3, c4, c5, lt⟩ := HN5.out
      go_wp2_with fail
      (first | go_at_call 35 | skip)
      refine (HCut.out _).mono ?_
      rintro e' w6 ⟨rfl, hb6⟩
      go_wp2
      go_ret3
      exact ⟨rfl, HB5.out.trans (hb6.mono (Nat.le_of_lt lt))⟩
end Go.Proofs.Ytbgjekhekjbcpaa
