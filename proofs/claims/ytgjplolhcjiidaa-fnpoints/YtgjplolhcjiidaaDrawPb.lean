/-
  The specification's acts of points are drawn.
-/
import Derived.Test.YtgjplolhcjiidaaDrawPa
namespace Go.Proofs.Ytgjplolhcjiidaa
open Go.ChangeShapes Go.WideShapes Go.ChangeAt Go.RowKit Go.Deep
set_option linter.unusedVariables false

theorem wpAnyH_more {P : Program} {ops : Array Oper} {Q : Exit → Act → World → Prop} {md : Region.Mode} {S S' : World → Prop} (h : ∀ w, S' w → S w) : ∀ (fuel : Nat) (listed : Array Bool) (a : Act) (w : World), wpAnyH P md ops Q S' fuel listed a w → wpAnyH P md ops Q S fuel listed a w
  | 0, _, _, _, q => q
  | fuel + 1, _, _, _, q => ⟨q.1, fun i hi => wpOp_mono (fun a' w' h' => ⟨h _ h'.1, wpAnyH_more h fuel _ a' w' h'.2⟩) (q.2 i hi)⟩
def T8 : Array Value := #[.int .i64 0, .int .i64 (-1), .int .i64 1, .int .i64 1000000, .int .i64 1000001, .int .i64 100000, .int .i64 100001, .int .i64 3]
def T4 : Array Value := #[.int .i64 0, .int .i64 100000, .int .i64 100001, .int .i64 (-1)]
theorem tab8 (n : Nat) (h : n < 8) : ∃ v : Int, T8[n]? = some (.int .i64 v) ∧ -1 ≤ v ∧ v ≤ 1000001 := by
  rcases (by omega : n = 0 ∨ n = 1 ∨ n = 2 ∨ n = 3 ∨ n = 4 ∨ n = 5 ∨ n = 6 ∨ n = 7) with rfl | rfl | rfl | rfl | rfl | rfl | rfl | rfl <;> exact ⟨_, rfl, by omega, by omega⟩
theorem tab4 (n : Nat) (h : n < 4) : ∃ v : Int, T4[n]? = some (.int .i64 v) ∧ -1 ≤ v ∧ v ≤ 1000001 := by
  rcases (by omega : n = 0 ∨ n = 1 ∨ n = 2 ∨ n = 3) with rfl | rfl | rfl | rfl <;> exact ⟨_, rfl, by omega, by omega⟩
/-- A table of numbers in block q. -/
def Tb (q : Nat) (V : Array Value) (W : World) : Prop := W.heap[q]? = some (.cells V 3 (0, 0))
theorem Tb.draw {b q : Nat} {V : Array Value} {W W' : World} (h : Tb q V W) (ha : Apt b W W') (hb : b < q) : Tb q V W' := (ha q (by omega)).trans h
theorem Tb.alloc {q : Nat} {V : Array Value} {W : World} (h : Tb q V W) (o : Obj) : Tb q V (W.alloc o) := (Below.heap_alloc _ _ _ (Array.getElem?_eq_some_iff.1 h).1).trans h
theorem Tb.grow {q B n : Nat} {V : Array Value} {W W' : World} {v : Value} {xs : List Value} (h : Tb q V W) (ho : W.ownsRow B 34 3 v n xs) (hg : W.grownBy W' v.ownBlock) : Tb q V W' := by
  refine (hg.block q (Array.getElem?_eq_some_iff.1 h).1 (fun e => ?_)).trans h
  rcases ho.2 with ⟨r, _⟩ | ⟨g', cap, cur, r, hB, hc, _⟩
  · rw [r] at e; simp [Value.ownBlock] at e
  · rw [r] at e
    have e2 : q = g' := by simpa [Value.ownBlock] using e
    subst e2
    rw [h] at hc
    simp at hc
theorem Tb.cell {q : Nat} {V : Array Value} {W : World} (h : Tb q V W) (i : Nat) (v : Value) (hv : V[i]? = some v) : W.cell? ⟨q, i, none⟩ = some v := by unfold Tb at h; simp [World.cell?, h, hv]
theorem Tb.made (W : World) (V : Array Value) : Tb W.heap.size V (W.alloc (Obj.cells V 3)) := heapNew _ _
set_option maxRecDepth 8000 in
set_option maxHeartbeats 40000000 in
theorem pointActs_drawn (b : Nat) (a : Option Addr) (len cap : Nat) (zs : List Int) (s0 : Int) (w w1 : World) (hs : Src w1 b a len cap 0 s0) (hb : Below b w w1) (hr : RowB b w a len zs) (hlen : len ≤ maxLen) :
    Calls Try.prog 7 #[.pointer (some ⟨b, 0, none⟩)] w1 fun e w' => ∃ (rs : List RPa) (g cp : Nat) (at' sd : Int), e = .returned (.slice (some ⟨g, 0, none⟩) rs.length cp) ∧ rs.length ≤ 22 ∧ (∀ r ∈ rs, PaD r) ∧ PaSt w b a len cap (.slice (some ⟨g, 0, none⟩) rs.length cp) rs at' sd w' := by
  have HNx : Hid (∀ W (n at' sd : Int), Below b w W → Src W b a len cap at' sd → at' ≤ 1000 → n ≤ 256 → Calls Try.prog 10 #[.pointer (some ⟨b, 0, none⟩), .int .i64 n] W fun e w' => ∃ x at2 s' : Int, e = .returned (.int .i64 x) ∧ Drawn x n ∧ at' ≤ at2 ∧ at2 ≤ at' + 3 ∧ Src w' b a len cap at2 s' ∧ Below b W w' ∧ Apt b W w') := fun W n at' sd hW hs h1 h2 => next_anyA b b a len cap zs n at' sd W (Nat.le_refl _) hs (hr.below hW) (by omega) (by omega)
  have HSz : Hid (∀ W (at' sd : Int), Src W b a len cap at' sd → Calls Try.prog 11 #[.pointer (some ⟨b, 0, none⟩), .int .i64 20] W fun e w' => (∃ x : Int, e = .returned (.int .i64 x) ∧ 1 ≤ x ∧ x ≤ 20) ∧ w' = W) := fun W at' sd h => size_src b a len cap 20 at' sd W h hlen (by omega) (by omega)
  obtain ⟨i0, hi, hzz⟩ := Option.map_eq_some_iff.1 paInf
  simp only [Prod.mk.injEq] at hzz
  obtain ⟨hi0, hi1, hi2⟩ := hzz
  have H1 : Hid (PaSt w b a len cap (.slice (some ⟨w1.heap.size, 0, none⟩) 0 0) [] 0 s0 (w1.alloc (Obj.cells #[] 34))) := PaSt.start hs hb
  clear hr hs hb
  go_enter Try.func7, Try.ntmps7
  go_wp2_with fail
  (first | go_at_call 11 | skip)
  refine (HSz.out _ 0 s0 H1.out.2.2.1).mono ?_
  rintro e w2 ⟨⟨xs, rfl, hxs1, hxs2⟩, rfl⟩
  clear HSz
  go_wp2_with fail
  (first | go_at_call 10 | skip)
  refine (HNx.out _ (xs + 2) 0 s0 H1.out.2.2.2 H1.out.2.2.1 (by omega) (by omega)).mono ?_
  rintro e w3 ⟨x3, a3, s3, rfl, ⟨hx30, hx31⟩, ha3, hb3, hs3, hb3', hf3⟩
  have H3 : Hid (PaSt w b a len cap (.slice (some ⟨w1.heap.size, 0, none⟩) 0 0) [] a3 s3 w3) := H1.out.draw hf3 hb3' hs3
  clear hs3 hb3' hf3 H1
  obtain ⟨k3, rfl⟩ := Int.eq_ofNat_of_zero_le hx30
  have hk3 : k3 ≤ 22 := by omega
  generalize w1.heap.size = g3 at *
  go_wp2_with fail
  go_loopw [3, 4, 5] (fun v d x wr => ∃ (rs : List RPa) (k g cp : Nat) (at' sd day : Int), rs.length + k ≤ 22 ∧ v = .slice (some ⟨g, 0, none⟩) rs.length cp ∧ x = .int .i64 (k : Int) ∧ d = .int .i64 day ∧ (∀ r ∈ rs, PaD r) ∧ 0 ≤ day ∧ day ≤ 5 * (rs.length : Int) ∧ at' ≤ 10 + 12 * (rs.length : Int) ∧ PaSt w b a len cap v rs at' sd wr) (fun _ _ x _ => (intOf x).toNat)
  case atStart => exact ⟨[], k3, g3, 0, a3, s3, 0, by simpa using hk3, rfl, rfl, rfl, fun r hr => by simp at hr, by omega, by simp, by simp; omega, H3.out⟩
  case round =>
    obtain ⟨rs, k, g, cp, at', sd, day, hk, rfl, rfl, rfl, hD, hd0, hd1, hat, hst⟩ := hrel
    have HS : Hid (PaSt w b a len cap (.slice (some ⟨g, 0, none⟩) rs.length cp) rs at' sd wr) := hst
    have HD : Hid (∀ r ∈ rs, PaD r) := hD
    clear hst hD H3
    by_cases hlt : 0 < k
    · have hlt' : (0 : Int) < (k : Int) := by omega
      go_wp2_with fail
      (first | go_at_call 10 | skip)
      refine (HNx.out _ 9 at' sd HS.out.2.2.2 HS.out.2.2.1 (by omega) (by omega)).mono ?_
      rintro e w4 ⟨x4, a4, s4, rfl, ⟨hx40, hx41⟩, ha4, hb4, hs4, hb4', hf4⟩
      have H4 : Hid (PaSt w b a len cap (.slice (some ⟨g, 0, none⟩) rs.length cp) rs a4 s4 w4) := HS.out.draw hf4 hb4' hs4
      clear hs4 hb4' hf4 HS
      rcases (by omega : x4 = 0 ∨ x4 = 1 ∨ x4 = 2 ∨ x4 = 3 ∨ x4 = 4 ∨ x4 = 5 ∨ x4 = 6 ∨ x4 = 7 ∨ x4 = 8) with rfl | rfl | rfl | rfl | rfl | rfl | rfl | rfl | rfl
      · go_wp2_with fail
        (first | go_at_call 10 | skip)
        refine (HNx.out _ 40 a4 s4 H4.out.2.2.2 H4.out.2.2.1 (by omega) (by omega)).mono ?_
        rintro e w5 ⟨x5, a5, s5, rfl, ⟨hx50, hx51⟩, ha5, hb5, hs5, hb5', hf5⟩
        have H5 : Hid (PaSt w b a len cap (.slice (some ⟨g, 0, none⟩) rs.length cp) rs a5 s5 w5) := H4.out.draw hf5 hb5' hs5
        clear hs5 hb5' hf5 H4
        go_wp2_with fail
        (first | go_at_call 10 | skip)
        refine (HNx.out _ 20 a5 s5 H5.out.2.2.2 H5.out.2.2.1 (by omega) (by omega)).mono ?_
        rintro e w6 ⟨x6, a6, s6, rfl, ⟨hx60, hx61⟩, ha6, hb6, hs6, hb6', hf6⟩
        have H6 : Hid (PaSt w b a len cap (.slice (some ⟨g, 0, none⟩) rs.length cp) rs a6 s6 w6) := H5.out.draw hf6 hb6' hs6
        clear hs6 hb6' hf6 H5
        have HA : Hid (PaSt w b a len cap (.slice (some ⟨g, 0, none⟩) rs.length cp) rs a6 s6 (w6.alloc (Obj.cells #[.int .i64 1, .int .i64 (1 + x5), .int .i64 (day + x6)] 34))) := H6.out.alloc _
        have hN := heapNew w6 (Obj.cells #[.int .i64 1, .int .i64 (1 + x5), .int .i64 (day + x6)] 34)
        have HN : Hid ((w6.alloc (Obj.cells #[.int .i64 1, .int .i64 (1 + x5), .int .i64 (day + x6)] 34)).heap[w6.heap.size]? = some (.cells #[.int .i64 1, .int .i64 (1 + x5), .int .i64 (day + x6)] 34 (0, 0))) := hN
        have hzz := HA.out.2.1
        clear hN H6
        go_wp2_with (at_builtin; refine wpList_append_lies _ rfl _ _ 23 rfl (b + 1) 34 i0 (.agg #[.int .i64 0, .int .i64 0, .int .i64 0]) 3 24 Try.underlying23 hi hi0 hi1 hi2 rfl (by decide) _ _ _ rfl HA.out.1 ⟨w6.heap.size, 0, none⟩ 1 1 [.int .i64 1, .int .i64 (1 + x5), .int .i64 (day + x6)] rfl rfl (World.news_of_block HN.out) (by simp [Value.oneCell']) (by omega) (by unfold maxLen; omega) (by omega) hzz _ rfl ?_; intro g1 cp1 w9 hown1 hgrow1 hat1 hglt1; have HF : Hid (PaSt w b a len cap (.slice (some ⟨g1, 0, none⟩) (rs.length + 1) cp1) (rs ++ [⟨1, (1 + x5), (day + x6)⟩]) a6 s6 w9) := HA.out.push (r := ⟨1, (1 + x5), (day + x6)⟩) hown1 hgrow1; clear hown1 hgrow1 hat1 hglt1)
        refine ⟨⟨rs ++ [⟨1, (1 + x5), (day + x6)⟩], k - 1, g1, cp1, a6, s6, day, by rw [List.length_append]; simp; omega, by simp, by go_num, rfl, fun r hr => ?_, by omega, by rw [List.length_append]; push_cast; simp; omega, by rw [List.length_append]; push_cast; simp; omega, HF.out⟩, by simp [intOf]; omega⟩
        rcases List.mem_append.1 hr with q | q
        · exact HD.out r q
        · rw [List.mem_singleton.1 q]; unfold PaD; dsimp only; omega
      · go_wp2_with fail
        (first | go_at_call 10 | skip)
        refine (HNx.out _ 40 a4 s4 H4.out.2.2.2 H4.out.2.2.1 (by omega) (by omega)).mono ?_
        rintro e w5 ⟨x5, a5, s5, rfl, ⟨hx50, hx51⟩, ha5, hb5, hs5, hb5', hf5⟩
        have H5 : Hid (PaSt w b a len cap (.slice (some ⟨g, 0, none⟩) rs.length cp) rs a5 s5 w5) := H4.out.draw hf5 hb5' hs5
        clear hs5 hb5' hf5 H4
        go_wp2_with fail
        (first | go_at_call 10 | skip)
        refine (HNx.out _ 20 a5 s5 H5.out.2.2.2 H5.out.2.2.1 (by omega) (by omega)).mono ?_
        rintro e w6 ⟨x6, a6, s6, rfl, ⟨hx60, hx61⟩, ha6, hb6, hs6, hb6', hf6⟩
        have H6 : Hid (PaSt w b a len cap (.slice (some ⟨g, 0, none⟩) rs.length cp) rs a6 s6 w6) := H5.out.draw hf6 hb6' hs6
        clear hs6 hb6' hf6 H5
        have HA : Hid (PaSt w b a len cap (.slice (some ⟨g, 0, none⟩) rs.length cp) rs a6 s6 (w6.alloc (Obj.cells #[.int .i64 1, .int .i64 (1 + x5), .int .i64 (day + x6)] 34))) := H6.out.alloc _
        have hN := heapNew w6 (Obj.cells #[.int .i64 1, .int .i64 (1 + x5), .int .i64 (day + x6)] 34)
        have HN : Hid ((w6.alloc (Obj.cells #[.int .i64 1, .int .i64 (1 + x5), .int .i64 (day + x6)] 34)).heap[w6.heap.size]? = some (.cells #[.int .i64 1, .int .i64 (1 + x5), .int .i64 (day + x6)] 34 (0, 0))) := hN
        have hzz := HA.out.2.1
        clear hN H6
        go_wp2_with (at_builtin; refine wpList_append_lies _ rfl _ _ 23 rfl (b + 1) 34 i0 (.agg #[.int .i64 0, .int .i64 0, .int .i64 0]) 3 24 Try.underlying23 hi hi0 hi1 hi2 rfl (by decide) _ _ _ rfl HA.out.1 ⟨w6.heap.size, 0, none⟩ 1 1 [.int .i64 1, .int .i64 (1 + x5), .int .i64 (day + x6)] rfl rfl (World.news_of_block HN.out) (by simp [Value.oneCell']) (by omega) (by unfold maxLen; omega) (by omega) hzz _ rfl ?_; intro g1 cp1 w9 hown1 hgrow1 hat1 hglt1; have HF : Hid (PaSt w b a len cap (.slice (some ⟨g1, 0, none⟩) (rs.length + 1) cp1) (rs ++ [⟨1, (1 + x5), (day + x6)⟩]) a6 s6 w9) := HA.out.push (r := ⟨1, (1 + x5), (day + x6)⟩) hown1 hgrow1; clear hown1 hgrow1 hat1 hglt1)
        refine ⟨⟨rs ++ [⟨1, (1 + x5), (day + x6)⟩], k - 1, g1, cp1, a6, s6, day, by rw [List.length_append]; simp; omega, by simp, by go_num, rfl, fun r hr => ?_, by omega, by rw [List.length_append]; push_cast; simp; omega, by rw [List.length_append]; push_cast; simp; omega, HF.out⟩, by simp [intOf]; omega⟩
        rcases List.mem_append.1 hr with q | q
        · exact HD.out r q
        · rw [List.mem_singleton.1 q]; unfold PaD; dsimp only; omega
      · go_wp2_with fail
        (first | go_at_call 10 | skip)
        refine (HNx.out _ 40 a4 s4 H4.out.2.2.2 H4.out.2.2.1 (by omega) (by omega)).mono ?_
        rintro e w5 ⟨x5, a5, s5, rfl, ⟨hx50, hx51⟩, ha5, hb5, hs5, hb5', hf5⟩
        have H5 : Hid (PaSt w b a len cap (.slice (some ⟨g, 0, none⟩) rs.length cp) rs a5 s5 w5) := H4.out.draw hf5 hb5' hs5
        clear hs5 hb5' hf5 H4
        go_wp2_with fail
        (first | go_at_call 10 | skip)
        refine (HNx.out _ 20 a5 s5 H5.out.2.2.2 H5.out.2.2.1 (by omega) (by omega)).mono ?_
        rintro e w6 ⟨x6, a6, s6, rfl, ⟨hx60, hx61⟩, ha6, hb6, hs6, hb6', hf6⟩
        have H6 : Hid (PaSt w b a len cap (.slice (some ⟨g, 0, none⟩) rs.length cp) rs a6 s6 w6) := H5.out.draw hf6 hb6' hs6
        clear hs6 hb6' hf6 H5
        have HA : Hid (PaSt w b a len cap (.slice (some ⟨g, 0, none⟩) rs.length cp) rs a6 s6 (w6.alloc (Obj.cells #[.int .i64 1, .int .i64 (1 + x5), .int .i64 (day + x6)] 34))) := H6.out.alloc _
        have hN := heapNew w6 (Obj.cells #[.int .i64 1, .int .i64 (1 + x5), .int .i64 (day + x6)] 34)
        have HN : Hid ((w6.alloc (Obj.cells #[.int .i64 1, .int .i64 (1 + x5), .int .i64 (day + x6)] 34)).heap[w6.heap.size]? = some (.cells #[.int .i64 1, .int .i64 (1 + x5), .int .i64 (day + x6)] 34 (0, 0))) := hN
        have hzz := HA.out.2.1
        clear hN H6
        go_wp2_with (at_builtin; refine wpList_append_lies _ rfl _ _ 23 rfl (b + 1) 34 i0 (.agg #[.int .i64 0, .int .i64 0, .int .i64 0]) 3 24 Try.underlying23 hi hi0 hi1 hi2 rfl (by decide) _ _ _ rfl HA.out.1 ⟨w6.heap.size, 0, none⟩ 1 1 [.int .i64 1, .int .i64 (1 + x5), .int .i64 (day + x6)] rfl rfl (World.news_of_block HN.out) (by simp [Value.oneCell']) (by omega) (by unfold maxLen; omega) (by omega) hzz _ rfl ?_; intro g1 cp1 w9 hown1 hgrow1 hat1 hglt1; have HF : Hid (PaSt w b a len cap (.slice (some ⟨g1, 0, none⟩) (rs.length + 1) cp1) (rs ++ [⟨1, (1 + x5), (day + x6)⟩]) a6 s6 w9) := HA.out.push (r := ⟨1, (1 + x5), (day + x6)⟩) hown1 hgrow1; clear hown1 hgrow1 hat1 hglt1)
        refine ⟨⟨rs ++ [⟨1, (1 + x5), (day + x6)⟩], k - 1, g1, cp1, a6, s6, day, by rw [List.length_append]; simp; omega, by simp, by go_num, rfl, fun r hr => ?_, by omega, by rw [List.length_append]; push_cast; simp; omega, by rw [List.length_append]; push_cast; simp; omega, HF.out⟩, by simp [intOf]; omega⟩
        rcases List.mem_append.1 hr with q | q
        · exact HD.out r q
        · rw [List.mem_singleton.1 q]; unfold PaD; dsimp only; omega
      · go_wp2_with fail
        (first | go_at_call 10 | skip)
        refine (HNx.out _ 30 a4 s4 H4.out.2.2.2 H4.out.2.2.1 (by omega) (by omega)).mono ?_
        rintro e w5 ⟨x5, a5, s5, rfl, ⟨hx50, hx51⟩, ha5, hb5, hs5, hb5', hf5⟩
        have H5 : Hid (PaSt w b a len cap (.slice (some ⟨g, 0, none⟩) rs.length cp) rs a5 s5 w5) := H4.out.draw hf5 hb5' hs5
        clear hs5 hb5' hf5 H4
        have HA : Hid (PaSt w b a len cap (.slice (some ⟨g, 0, none⟩) rs.length cp) rs a5 s5 (w5.alloc (Obj.cells #[.int .i64 2, .int .i64 (1 + x5), .int .i64 0] 34))) := H5.out.alloc _
        have hN := heapNew w5 (Obj.cells #[.int .i64 2, .int .i64 (1 + x5), .int .i64 0] 34)
        have HN : Hid ((w5.alloc (Obj.cells #[.int .i64 2, .int .i64 (1 + x5), .int .i64 0] 34)).heap[w5.heap.size]? = some (.cells #[.int .i64 2, .int .i64 (1 + x5), .int .i64 0] 34 (0, 0))) := hN
        have hzz := HA.out.2.1
        clear hN H5
        go_wp2_with (at_builtin; refine wpList_append_lies _ rfl _ _ 23 rfl (b + 1) 34 i0 (.agg #[.int .i64 0, .int .i64 0, .int .i64 0]) 3 24 Try.underlying23 hi hi0 hi1 hi2 rfl (by decide) _ _ _ rfl HA.out.1 ⟨w5.heap.size, 0, none⟩ 1 1 [.int .i64 2, .int .i64 (1 + x5), .int .i64 0] rfl rfl (World.news_of_block HN.out) (by simp [Value.oneCell']) (by omega) (by unfold maxLen; omega) (by omega) hzz _ rfl ?_; intro g1 cp1 w9 hown1 hgrow1 hat1 hglt1; have HF : Hid (PaSt w b a len cap (.slice (some ⟨g1, 0, none⟩) (rs.length + 1) cp1) (rs ++ [⟨2, (1 + x5), 0⟩]) a5 s5 w9) := HA.out.push (r := ⟨2, (1 + x5), 0⟩) hown1 hgrow1; clear hown1 hgrow1 hat1 hglt1)
        refine ⟨⟨rs ++ [⟨2, (1 + x5), 0⟩], k - 1, g1, cp1, a5, s5, day, by rw [List.length_append]; simp; omega, by simp, by go_num, rfl, fun r hr => ?_, by omega, by rw [List.length_append]; push_cast; simp; omega, by rw [List.length_append]; push_cast; simp; omega, HF.out⟩, by simp [intOf]; omega⟩
        rcases List.mem_append.1 hr with q | q
        · exact HD.out r q
        · rw [List.mem_singleton.1 q]; unfold PaD; dsimp only; omega
      · go_wp2_with fail
        (first | go_at_call 10 | skip)
        refine (HNx.out _ 30 a4 s4 H4.out.2.2.2 H4.out.2.2.1 (by omega) (by omega)).mono ?_
        rintro e w5 ⟨x5, a5, s5, rfl, ⟨hx50, hx51⟩, ha5, hb5, hs5, hb5', hf5⟩
        have H5 : Hid (PaSt w b a len cap (.slice (some ⟨g, 0, none⟩) rs.length cp) rs a5 s5 w5) := H4.out.draw hf5 hb5' hs5
        clear hs5 hb5' hf5 H4
        have HA : Hid (PaSt w b a len cap (.slice (some ⟨g, 0, none⟩) rs.length cp) rs a5 s5 (w5.alloc (Obj.cells #[.int .i64 2, .int .i64 (1 + x5), .int .i64 0] 34))) := H5.out.alloc _
        have hN := heapNew w5 (Obj.cells #[.int .i64 2, .int .i64 (1 + x5), .int .i64 0] 34)
        have HN : Hid ((w5.alloc (Obj.cells #[.int .i64 2, .int .i64 (1 + x5), .int .i64 0] 34)).heap[w5.heap.size]? = some (.cells #[.int .i64 2, .int .i64 (1 + x5), .int .i64 0] 34 (0, 0))) := hN
        have hzz := HA.out.2.1
        clear hN H5
        go_wp2_with (at_builtin; refine wpList_append_lies _ rfl _ _ 23 rfl (b + 1) 34 i0 (.agg #[.int .i64 0, .int .i64 0, .int .i64 0]) 3 24 Try.underlying23 hi hi0 hi1 hi2 rfl (by decide) _ _ _ rfl HA.out.1 ⟨w5.heap.size, 0, none⟩ 1 1 [.int .i64 2, .int .i64 (1 + x5), .int .i64 0] rfl rfl (World.news_of_block HN.out) (by simp [Value.oneCell']) (by omega) (by unfold maxLen; omega) (by omega) hzz _ rfl ?_; intro g1 cp1 w9 hown1 hgrow1 hat1 hglt1; have HF : Hid (PaSt w b a len cap (.slice (some ⟨g1, 0, none⟩) (rs.length + 1) cp1) (rs ++ [⟨2, (1 + x5), 0⟩]) a5 s5 w9) := HA.out.push (r := ⟨2, (1 + x5), 0⟩) hown1 hgrow1; clear hown1 hgrow1 hat1 hglt1)
        refine ⟨⟨rs ++ [⟨2, (1 + x5), 0⟩], k - 1, g1, cp1, a5, s5, day, by rw [List.length_append]; simp; omega, by simp, by go_num, rfl, fun r hr => ?_, by omega, by rw [List.length_append]; push_cast; simp; omega, by rw [List.length_append]; push_cast; simp; omega, HF.out⟩, by simp [intOf]; omega⟩
        rcases List.mem_append.1 hr with q | q
        · exact HD.out r q
        · rw [List.mem_singleton.1 q]; unfold PaD; dsimp only; omega
      · go_wp2_with fail
        (first | go_at_call 10 | skip)
        refine (HNx.out _ 30 a4 s4 H4.out.2.2.2 H4.out.2.2.1 (by omega) (by omega)).mono ?_
        rintro e w5 ⟨x5, a5, s5, rfl, ⟨hx50, hx51⟩, ha5, hb5, hs5, hb5', hf5⟩
        have H5 : Hid (PaSt w b a len cap (.slice (some ⟨g, 0, none⟩) rs.length cp) rs a5 s5 w5) := H4.out.draw hf5 hb5' hs5
        clear hs5 hb5' hf5 H4
        have HA : Hid (PaSt w b a len cap (.slice (some ⟨g, 0, none⟩) rs.length cp) rs a5 s5 (w5.alloc (Obj.cells #[.int .i64 2, .int .i64 (1 + x5), .int .i64 0] 34))) := H5.out.alloc _
        have hN := heapNew w5 (Obj.cells #[.int .i64 2, .int .i64 (1 + x5), .int .i64 0] 34)
        have HN : Hid ((w5.alloc (Obj.cells #[.int .i64 2, .int .i64 (1 + x5), .int .i64 0] 34)).heap[w5.heap.size]? = some (.cells #[.int .i64 2, .int .i64 (1 + x5), .int .i64 0] 34 (0, 0))) := hN
        have hzz := HA.out.2.1
        clear hN H5
        go_wp2_with (at_builtin; refine wpList_append_lies _ rfl _ _ 23 rfl (b + 1) 34 i0 (.agg #[.int .i64 0, .int .i64 0, .int .i64 0]) 3 24 Try.underlying23 hi hi0 hi1 hi2 rfl (by decide) _ _ _ rfl HA.out.1 ⟨w5.heap.size, 0, none⟩ 1 1 [.int .i64 2, .int .i64 (1 + x5), .int .i64 0] rfl rfl (World.news_of_block HN.out) (by simp [Value.oneCell']) (by omega) (by unfold maxLen; omega) (by omega) hzz _ rfl ?_; intro g1 cp1 w9 hown1 hgrow1 hat1 hglt1; have HF : Hid (PaSt w b a len cap (.slice (some ⟨g1, 0, none⟩) (rs.length + 1) cp1) (rs ++ [⟨2, (1 + x5), 0⟩]) a5 s5 w9) := HA.out.push (r := ⟨2, (1 + x5), 0⟩) hown1 hgrow1; clear hown1 hgrow1 hat1 hglt1)
        refine ⟨⟨rs ++ [⟨2, (1 + x5), 0⟩], k - 1, g1, cp1, a5, s5, day, by rw [List.length_append]; simp; omega, by simp, by go_num, rfl, fun r hr => ?_, by omega, by rw [List.length_append]; push_cast; simp; omega, by rw [List.length_append]; push_cast; simp; omega, HF.out⟩, by simp [intOf]; omega⟩
        rcases List.mem_append.1 hr with q | q
        · exact HD.out r q
        · rw [List.mem_singleton.1 q]; unfold PaD; dsimp only; omega
      · go_wp2_with fail
        (first | go_at_call 10 | skip)
        refine (HNx.out _ 6 a4 s4 H4.out.2.2.2 H4.out.2.2.1 (by omega) (by omega)).mono ?_
        rintro e w5 ⟨x5, a5, s5, rfl, ⟨hx50, hx51⟩, ha5, hb5, hs5, hb5', hf5⟩
        have H5 : Hid (PaSt w b a len cap (.slice (some ⟨g, 0, none⟩) rs.length cp) rs a5 s5 w5) := H4.out.draw hf5 hb5' hs5
        clear hs5 hb5' hf5 H4
        have HA : Hid (PaSt w b a len cap (.slice (some ⟨g, 0, none⟩) rs.length cp) rs a5 s5 (w5.alloc (Obj.cells #[.int .i64 3, .int .i64 (day + x5), .int .i64 0] 34))) := H5.out.alloc _
        have hN := heapNew w5 (Obj.cells #[.int .i64 3, .int .i64 (day + x5), .int .i64 0] 34)
        have HN : Hid ((w5.alloc (Obj.cells #[.int .i64 3, .int .i64 (day + x5), .int .i64 0] 34)).heap[w5.heap.size]? = some (.cells #[.int .i64 3, .int .i64 (day + x5), .int .i64 0] 34 (0, 0))) := hN
        have hzz := HA.out.2.1
        clear hN H5
        go_wp2_with (at_builtin; refine wpList_append_lies _ rfl _ _ 23 rfl (b + 1) 34 i0 (.agg #[.int .i64 0, .int .i64 0, .int .i64 0]) 3 24 Try.underlying23 hi hi0 hi1 hi2 rfl (by decide) _ _ _ rfl HA.out.1 ⟨w5.heap.size, 0, none⟩ 1 1 [.int .i64 3, .int .i64 (day + x5), .int .i64 0] rfl rfl (World.news_of_block HN.out) (by simp [Value.oneCell']) (by omega) (by unfold maxLen; omega) (by omega) hzz _ rfl ?_; intro g1 cp1 w9 hown1 hgrow1 hat1 hglt1; have HF : Hid (PaSt w b a len cap (.slice (some ⟨g1, 0, none⟩) (rs.length + 1) cp1) (rs ++ [⟨3, (day + x5), 0⟩]) a5 s5 w9) := HA.out.push (r := ⟨3, (day + x5), 0⟩) hown1 hgrow1; clear hown1 hgrow1 hat1 hglt1)
        refine ⟨⟨rs ++ [⟨3, (day + x5), 0⟩], k - 1, g1, cp1, a5, s5, (day + x5), by rw [List.length_append]; simp; omega, by simp, by go_num, rfl, fun r hr => ?_, by omega, by rw [List.length_append]; push_cast; simp; omega, by rw [List.length_append]; push_cast; simp; omega, HF.out⟩, by simp [intOf]; omega⟩
        rcases List.mem_append.1 hr with q | q
        · exact HD.out r q
        · rw [List.mem_singleton.1 q]; unfold PaD; dsimp only; omega
      · go_wp2_with fail
        (first | go_at_call 10 | skip)
        refine (HNx.out _ ((rs.length : Int) + 1) a4 s4 H4.out.2.2.2 H4.out.2.2.1 (by omega) (by omega)).mono ?_
        rintro e w5 ⟨x5, a5, s5, rfl, ⟨hx50, hx51⟩, ha5, hb5, hs5, hb5', hf5⟩
        have H5 : Hid (PaSt w b a len cap (.slice (some ⟨g, 0, none⟩) rs.length cp) rs a5 s5 w5) := H4.out.draw hf5 hb5' hs5
        clear hs5 hb5' hf5 H4
        have HA : Hid (PaSt w b a len cap (.slice (some ⟨g, 0, none⟩) rs.length cp) rs a5 s5 (w5.alloc (Obj.cells #[.int .i64 4, .int .i64 x5, .int .i64 0] 34))) := H5.out.alloc _
        have hN := heapNew w5 (Obj.cells #[.int .i64 4, .int .i64 x5, .int .i64 0] 34)
        have HN : Hid ((w5.alloc (Obj.cells #[.int .i64 4, .int .i64 x5, .int .i64 0] 34)).heap[w5.heap.size]? = some (.cells #[.int .i64 4, .int .i64 x5, .int .i64 0] 34 (0, 0))) := hN
        have hzz := HA.out.2.1
        clear hN H5
        go_wp2_with (at_builtin; refine wpList_append_lies _ rfl _ _ 23 rfl (b + 1) 34 i0 (.agg #[.int .i64 0, .int .i64 0, .int .i64 0]) 3 24 Try.underlying23 hi hi0 hi1 hi2 rfl (by decide) _ _ _ rfl HA.out.1 ⟨w5.heap.size, 0, none⟩ 1 1 [.int .i64 4, .int .i64 x5, .int .i64 0] rfl rfl (World.news_of_block HN.out) (by simp [Value.oneCell']) (by omega) (by unfold maxLen; omega) (by omega) hzz _ rfl ?_; intro g1 cp1 w9 hown1 hgrow1 hat1 hglt1; have HF : Hid (PaSt w b a len cap (.slice (some ⟨g1, 0, none⟩) (rs.length + 1) cp1) (rs ++ [⟨4, x5, 0⟩]) a5 s5 w9) := HA.out.push (r := ⟨4, x5, 0⟩) hown1 hgrow1; clear hown1 hgrow1 hat1 hglt1)
        refine ⟨⟨rs ++ [⟨4, x5, 0⟩], k - 1, g1, cp1, a5, s5, day, by rw [List.length_append]; simp; omega, by simp, by go_num, rfl, fun r hr => ?_, by omega, by rw [List.length_append]; push_cast; simp; omega, by rw [List.length_append]; push_cast; simp; omega, HF.out⟩, by simp [intOf]; omega⟩
        rcases List.mem_append.1 hr with q | q
        · exact HD.out r q
        · rw [List.mem_singleton.1 q]; unfold PaD; dsimp only; omega
      · go_wp2_with fail
        have H4d : Hid (PaSt w b a len cap (.slice (some ⟨g, 0, none⟩) rs.length cp) rs a4 s4 w4.drew) := ⟨H4.out.1, H4.out.2.1, H4.out.2.2.1, H4.out.2.2.2.drew⟩
        refine wp_region_held_drew (S := fun _ => True) (by kernel_rfl) trivial (fun hH => ?_)
        clear H4
        generalize w4.drew = w4d at *
        refine wpAnyH_take (i := 0) (v := .slice (some ⟨g, 0, none⟩) rs.length cp) rfl (by kernel_rfl) (by kernel_rfl) (by kernel_rfl) (fun _ _ _ h => h) (Or.inl ⟨by rfl, fun w hSw => by go_simp⟩) hH ?_
        refine wpAnyH_take (i := 1) (v := .pointer (some ⟨b, 0, none⟩)) rfl (by kernel_rfl) (by kernel_rfl) (by kernel_rfl) (fun _ _ _ h => h) (Or.inl ⟨by rfl, fun w hSw => by go_simp⟩) hH ?_
        try simp only [Act.put, List.setIfInBounds_toArray, List.set_cons_zero, List.set_cons_succ, List.getElem_toArray, List.getElem_cons_succ, List.getElem_cons_zero]
        refine wpAnyH_take (i := 4) (v := .pointer (some ⟨b, 0, none⟩)) rfl (by kernel_rfl) (by kernel_rfl) (by kernel_rfl) (fun _ _ _ h => h) (Or.inl ⟨by rfl, fun w hSw => by go_simp⟩) hH ?_
        try simp only [Act.put, List.setIfInBounds_toArray, List.set_cons_zero, List.set_cons_succ, List.getElem_toArray, List.getElem_cons_succ, List.getElem_cons_zero]
        refine wpAnyH_take (i := 9) (v := .pointer (some ⟨b, 0, none⟩)) rfl (by kernel_rfl) (by kernel_rfl) (by kernel_rfl) (fun _ _ _ h => h) (Or.inl ⟨by rfl, fun w hSw => by go_simp⟩) hH ?_
        try simp only [Act.put, List.setIfInBounds_toArray, List.set_cons_zero, List.set_cons_succ, List.getElem_toArray, List.getElem_cons_succ, List.getElem_cons_zero]
        refine wpAnyH_ready (rs := [2, 3, 8]) (by kernel_rfl) (by simp) ?_
        refine AllReadyH.cons rfl (fun K hK => ?_) (AllReadyH.cons rfl (fun K hK => ?_) (AllReadyH.cons rfl (fun K hK => ?_) AllReadyH.nil))
        · go_simp
          go_at_call 10
          refine (HNx.out _ 6 a4 s4 H4d.out.2.2.2 H4d.out.2.2.1 (by omega) (by omega)).mono ?_
          rintro e v1 ⟨x2q, b1a, b1s, rfl, ⟨hx2q0, hx2q1⟩, hu1, hv1, hs1, hb1, hf1⟩
          have G1 : Hid (PaSt w b a len cap (.slice (some ⟨g, 0, none⟩) rs.length cp) rs b1a b1s v1) := H4d.out.draw hf1 hb1 hs1
          have k1 : (fun _ => True) v1 := trivial
          clear hs1 hb1 hf1
          obtain ⟨n2q, rfl⟩ := Int.eq_ofNat_of_zero_le hx2q0
          have hn2q : (n2q : Int) < 6 := by omega
          refine hK.out _ _ k1 (fun _ => ?_)
          clear hK K
          try simp only [Act.put, List.setIfInBounds_toArray, List.set_cons_zero, List.set_cons_succ, List.getElem_toArray, List.getElem_cons_succ, List.getElem_cons_zero]
          refine wpAnyH_ready (rs := [3, 5, 8]) (by kernel_rfl) (by simp) ?_
          refine AllReadyH.cons rfl (fun K hK => ?_) (AllReadyH.cons rfl (fun K hK => ?_) (AllReadyH.cons rfl (fun K hK => ?_) AllReadyH.nil))
          · go_simp
            have k2 : (fun _ => True) (v1.alloc (Obj.cells #[.int .i64 0, .int .i64 (-1), .int .i64 1, .int .i64 1000000, .int .i64 1000001, .int .i64 100000, .int .i64 100001, .int .i64 3] 3)) := trivial
            have m2 : Tb v1.heap.size T8 (v1.alloc (Obj.cells #[.int .i64 0, .int .i64 (-1), .int .i64 1, .int .i64 1000000, .int .i64 1000001, .int .i64 100000, .int .i64 100001, .int .i64 3] 3)) := Tb.made _ _
            have hbq3 : b < v1.heap.size := by have := G1.out.2.1; omega
            have G2 : Hid (PaSt w b a len cap (.slice (some ⟨g, 0, none⟩) rs.length cp) rs b1a b1s (v1.alloc (Obj.cells #[.int .i64 0, .int .i64 (-1), .int .i64 1, .int .i64 1000000, .int .i64 1000001, .int .i64 100000, .int .i64 100001, .int .i64 3] 3))) := G1.out.alloc _
            refine hK.out _ _ k2 (fun _ => ?_)
            clear hK K
            try simp only [Act.put, List.setIfInBounds_toArray, List.set_cons_zero, List.set_cons_succ, List.getElem_toArray, List.getElem_cons_succ, List.getElem_cons_zero]
            generalize (v1.alloc (Obj.cells #[.int .i64 0, .int .i64 (-1), .int .i64 1, .int .i64 1000000, .int .i64 1000001, .int .i64 100000, .int .i64 100001, .int .i64 3] 3)) = v2 at *
            generalize v1.heap.size = q3 at *
            have l2 : (fun W => Tb q3 T8 W) v2 := m2
            refine wpAnyH_more (S' := fun W => Tb q3 T8 W) (fun _ hq => trivial) _ _ _ _ ?_
            refine wpAnyH_ready (rs := [5, 8]) (by kernel_rfl) (by simp) ?_
            refine AllReadyH.cons rfl (fun K hK => ?_) (AllReadyH.cons rfl (fun K hK => ?_) AllReadyH.nil)
            · go_simp
              go_at_call 10
              refine (HNx.out _ 8 b1a b1s G2.out.2.2.2 G2.out.2.2.1 (by omega) (by omega)).mono ?_
              rintro e v3 ⟨x5q, b3a, b3s, rfl, ⟨hx5q0, hx5q1⟩, hu3, hv3, hs3, hb3, hf3⟩
              have G3 : Hid (PaSt w b a len cap (.slice (some ⟨g, 0, none⟩) rs.length cp) rs b3a b3s v3) := G2.out.draw hf3 hb3 hs3
              have k3 : (fun W => Tb q3 T8 W) v3 := Tb.draw l2 hf3 hbq3
              clear hs3 hb3 hf3
              obtain ⟨n5q, rfl⟩ := Int.eq_ofNat_of_zero_le hx5q0
              have hn5q : (n5q : Int) < 8 := by omega
              refine hK.out _ _ k3 (fun _ => ?_)
              clear hK K
              try simp only [Act.put, List.setIfInBounds_toArray, List.set_cons_zero, List.set_cons_succ, List.getElem_toArray, List.getElem_cons_succ, List.getElem_cons_zero]
              obtain ⟨z5, hz5, hz5a, hz5b⟩ := tab8 n5q (by omega)
              refine wpAnyH_take (i := 6) (v := .pointer (some ⟨q3, n5q, none⟩)) rfl (by kernel_rfl) (by kernel_rfl) (by kernel_rfl) (fun _ _ _ h => h) (Or.inl ⟨by rfl, fun w hSw => by go_simp⟩) k3 ?_
              try simp only [Act.put, List.setIfInBounds_toArray, List.set_cons_zero, List.set_cons_succ, List.getElem_toArray, List.getElem_cons_succ, List.getElem_cons_zero]
              refine wpAnyH_take (i := 7) (v := .int .i64 z5) rfl (by kernel_rfl) (by kernel_rfl) (by kernel_rfl) (fun _ _ _ h => h) (Or.inl ⟨by rfl, fun w hSw => by have f0 := Tb.cell (hSw) n5q _ hz5; go_simp⟩) k3 ?_
              try simp only [Act.put, List.setIfInBounds_toArray, List.set_cons_zero, List.set_cons_succ, List.getElem_toArray, List.getElem_cons_succ, List.getElem_cons_zero]
              refine wpAnyH_ready (rs := [8, 10]) (by kernel_rfl) (by simp) ?_
              refine AllReadyH.cons rfl (fun K hK => ?_) (AllReadyH.cons rfl (fun K hK => ?_) AllReadyH.nil)
              · go_simp
                have k4 : (fun W => Tb q3 T8 W) (v3.alloc (Obj.cells #[.int .i64 0, .int .i64 100000, .int .i64 100001, .int .i64 (-1)] 3)) := Tb.alloc k3 _
                have m4 : Tb v3.heap.size T4 (v3.alloc (Obj.cells #[.int .i64 0, .int .i64 100000, .int .i64 100001, .int .i64 (-1)] 3)) := Tb.made _ _
                have hbq8 : b < v3.heap.size := by have := G3.out.2.1; omega
                have G4 : Hid (PaSt w b a len cap (.slice (some ⟨g, 0, none⟩) rs.length cp) rs b3a b3s (v3.alloc (Obj.cells #[.int .i64 0, .int .i64 100000, .int .i64 100001, .int .i64 (-1)] 3))) := G3.out.alloc _
                refine hK.out _ _ k4 (fun _ => ?_)
                clear hK K
                try simp only [Act.put, List.setIfInBounds_toArray, List.set_cons_zero, List.set_cons_succ, List.getElem_toArray, List.getElem_cons_succ, List.getElem_cons_zero]
                generalize (v3.alloc (Obj.cells #[.int .i64 0, .int .i64 100000, .int .i64 100001, .int .i64 (-1)] 3)) = v4 at *
                generalize v3.heap.size = q8 at *
                have l4 : (fun W => Tb q3 T8 W ∧ Tb q8 T4 W) v4 := ⟨k4, m4⟩
                refine wpAnyH_more (S' := fun W => Tb q3 T8 W ∧ Tb q8 T4 W) (fun _ hq => hq.1) _ _ _ _ ?_
                refine wpAnyH_ready (rs := [10]) (by kernel_rfl) (by simp) ?_
                refine AllReadyH.cons rfl (fun K hK => ?_) AllReadyH.nil
                go_simp
                go_at_call 10
                refine (HNx.out _ 4 b3a b3s G4.out.2.2.2 G4.out.2.2.1 (by omega) (by omega)).mono ?_
                rintro e v5 ⟨x10q, b5a, b5s, rfl, ⟨hx10q0, hx10q1⟩, hu5, hv5, hs5, hb5, hf5⟩
                have G5 : Hid (PaSt w b a len cap (.slice (some ⟨g, 0, none⟩) rs.length cp) rs b5a b5s v5) := G4.out.draw hf5 hb5 hs5
                have k5 : (fun W => Tb q3 T8 W ∧ Tb q8 T4 W) v5 := ⟨Tb.draw l4.1 hf5 hbq3, Tb.draw l4.2 hf5 hbq8⟩
                clear hs5 hb5 hf5
                obtain ⟨n10q, rfl⟩ := Int.eq_ofNat_of_zero_le hx10q0
                have hn10q : (n10q : Int) < 4 := by omega
                refine hK.out _ _ k5 (fun _ => ?_)
                clear hK K
                try simp only [Act.put, List.setIfInBounds_toArray, List.set_cons_zero, List.set_cons_succ, List.getElem_toArray, List.getElem_cons_succ, List.getElem_cons_zero]
                obtain ⟨z10, hz10, hz10a, hz10b⟩ := tab4 n10q (by omega)
                refine wpAnyH_take (i := 11) (v := .pointer (some ⟨q8, n10q, none⟩)) rfl (by kernel_rfl) (by kernel_rfl) (by kernel_rfl) (fun _ _ _ h => h) (Or.inl ⟨by rfl, fun w hSw => by go_simp⟩) k5 ?_
                try simp only [Act.put, List.setIfInBounds_toArray, List.set_cons_zero, List.set_cons_succ, List.getElem_toArray, List.getElem_cons_succ, List.getElem_cons_zero]
                refine wpAnyH_take (i := 12) (v := .int .i64 z10) rfl (by kernel_rfl) (by kernel_rfl) (by kernel_rfl) (fun _ _ _ h => h) (Or.inl ⟨by rfl, fun w hSw => by have f0 := Tb.cell (hSw.2) n10q _ hz10; go_simp⟩) k5 ?_
                try simp only [Act.put, List.setIfInBounds_toArray, List.set_cons_zero, List.set_cons_succ, List.getElem_toArray, List.getElem_cons_succ, List.getElem_cons_zero]
                refine wpAnyH_take (i := 13) (v := .agg #[.int .i64 (n2q : Int), .int .i64 z5, .int .i64 z10]) rfl (by kernel_rfl) (by kernel_rfl) (by kernel_rfl) (fun _ _ _ h => h) (Or.inl ⟨by rfl, fun w hSw => by go_simp⟩) k5 ?_
                try simp only [Act.put, List.setIfInBounds_toArray, List.set_cons_zero, List.set_cons_succ, List.getElem_toArray, List.getElem_cons_succ, List.getElem_cons_zero]
                refine wpAnyH_ready (rs := [14]) (by kernel_rfl) (by simp) ?_
                refine AllReadyH.cons rfl (fun K hK => ?_) AllReadyH.nil
                go_simp
                have kA : (fun W => Tb q3 T8 W ∧ Tb q8 T4 W) (v5.alloc (Obj.cells #[.int .i64 (n2q : Int), .int .i64 z5, .int .i64 z10] 34)) := ⟨Tb.alloc k5.1 _, Tb.alloc k5.2 _⟩
                have GA : Hid (PaSt w b a len cap (.slice (some ⟨g, 0, none⟩) rs.length cp) rs b5a b5s (v5.alloc (Obj.cells #[.int .i64 (n2q : Int), .int .i64 z5, .int .i64 z10] 34))) := G5.out.alloc _
                have hN := heapNew v5 (Obj.cells #[.int .i64 (n2q : Int), .int .i64 z5, .int .i64 z10] 34)
                have hzz := GA.out.2.1
                refine hK.out _ _ kA (fun _ => ?_)
                clear hK K
                try simp only [Act.put, List.setIfInBounds_toArray, List.set_cons_zero, List.set_cons_succ, List.getElem_toArray, List.getElem_cons_succ, List.getElem_cons_zero]
                refine wpAnyH_ready (rs := [15]) (by kernel_rfl) (by simp) ?_
                refine AllReadyH.cons rfl (fun K hK => ?_) AllReadyH.nil
                refine step_append_lies _ rfl (.tmp 18) (.tmp 32) 23 rfl (b + 1) 34 i0 (.agg #[.int .i64 0, .int .i64 0, .int .i64 0]) 3 24 Try.underlying23 hi hi0 hi1 hi2 rfl (by decide) (.slice (some ⟨g, 0, none⟩) rs.length cp) _ _ (by simp [Act.eval]) GA.out.1 ⟨v5.heap.size, 0, none⟩ 1 1 [.int .i64 (n2q : Int), .int .i64 z5, .int .i64 z10] (by simp [Act.eval]) rfl (World.news_of_block hN) (by simp [Value.oneCell']) (by omega) (by unfold maxLen; omega) (by omega) hzz _ rfl (fun g1 cp1 w9 hown1 hgrow1 hat1 hglt1 => ?_)
                have HF : Hid (PaSt w b a len cap (.slice (some ⟨g1, 0, none⟩) (rs.length + 1) cp1) (rs ++ [⟨(n2q : Int), z5, z10⟩]) b5a b5s w9) := GA.out.push (r := ⟨(n2q : Int), z5, z10⟩) hown1 hgrow1
                have kB : (fun W => Tb q3 T8 W ∧ Tb q8 T4 W) w9 := ⟨Tb.grow kA.1 GA.out.1 hgrow1, Tb.grow kA.2 GA.out.1 hgrow1⟩
                clear hown1 hgrow1 hat1 hglt1
                refine hK.out _ _ kB (fun _ => ?_)
                clear hK K
                try simp only [Act.put, List.setIfInBounds_toArray, List.set_cons_zero, List.set_cons_succ, List.getElem_toArray, List.getElem_cons_succ, List.getElem_cons_zero]
                refine wpAnyH_take (i := 16) (v := .slice (some ⟨g1, 0, none⟩) (rs.length + 1) cp1) rfl (by kernel_rfl) (by kernel_rfl) (by kernel_rfl) (fun _ _ _ h => h) (Or.inl ⟨by rfl, fun w hSw => by go_simp⟩) kB ?_
                try simp only [Act.put, List.setIfInBounds_toArray, List.set_cons_zero, List.set_cons_succ, List.getElem_toArray, List.getElem_cons_succ, List.getElem_cons_zero]
                refine wpAnyH_done (by kernel_rfl) ?_ _
                go_wp2
                refine ⟨⟨rs ++ [⟨(n2q : Int), z5, z10⟩], k - 1, g1, cp1, b5a, b5s, day, by rw [List.length_append]; simp; omega, by simp, by go_num, rfl, fun r hr => ?_, by omega, by rw [List.length_append]; push_cast; simp; omega, by rw [List.length_append]; push_cast; simp; omega, HF.out⟩, by simp [intOf]; omega⟩
                rcases List.mem_append.1 hr with q | q
                · exact HD.out r q
                · rw [List.mem_singleton.1 q]; unfold PaD; dsimp only; omega
              · go_simp
                go_at_call 10
                refine (HNx.out _ 4 b3a b3s G3.out.2.2.2 G3.out.2.2.1 (by omega) (by omega)).mono ?_
                rintro e v6 ⟨x10q, b6a, b6s, rfl, ⟨hx10q0, hx10q1⟩, hu6, hv6, hs6, hb6, hf6⟩
                have G6 : Hid (PaSt w b a len cap (.slice (some ⟨g, 0, none⟩) rs.length cp) rs b6a b6s v6) := G3.out.draw hf6 hb6 hs6
                have k6 : (fun W => Tb q3 T8 W) v6 := Tb.draw k3 hf6 hbq3
                clear hs6 hb6 hf6
                obtain ⟨n10q, rfl⟩ := Int.eq_ofNat_of_zero_le hx10q0
                have hn10q : (n10q : Int) < 4 := by omega
                refine hK.out _ _ k6 (fun _ => ?_)
                clear hK K
                try simp only [Act.put, List.setIfInBounds_toArray, List.set_cons_zero, List.set_cons_succ, List.getElem_toArray, List.getElem_cons_succ, List.getElem_cons_zero]
                refine wpAnyH_ready (rs := [8]) (by kernel_rfl) (by simp) ?_
                refine AllReadyH.cons rfl (fun K hK => ?_) AllReadyH.nil
                go_simp
                have k7 : (fun W => Tb q3 T8 W) (v6.alloc (Obj.cells #[.int .i64 0, .int .i64 100000, .int .i64 100001, .int .i64 (-1)] 3)) := Tb.alloc k6 _
                have m7 : Tb v6.heap.size T4 (v6.alloc (Obj.cells #[.int .i64 0, .int .i64 100000, .int .i64 100001, .int .i64 (-1)] 3)) := Tb.made _ _
                have hbq8 : b < v6.heap.size := by have := G6.out.2.1; omega
                have G7 : Hid (PaSt w b a len cap (.slice (some ⟨g, 0, none⟩) rs.length cp) rs b6a b6s (v6.alloc (Obj.cells #[.int .i64 0, .int .i64 100000, .int .i64 100001, .int .i64 (-1)] 3))) := G6.out.alloc _
                refine hK.out _ _ k7 (fun _ => ?_)
                clear hK K
                try simp only [Act.put, List.setIfInBounds_toArray, List.set_cons_zero, List.set_cons_succ, List.getElem_toArray, List.getElem_cons_succ, List.getElem_cons_zero]
                generalize (v6.alloc (Obj.cells #[.int .i64 0, .int .i64 100000, .int .i64 100001, .int .i64 (-1)] 3)) = v7 at *
                generalize v6.heap.size = q8 at *
                have l7 : (fun W => Tb q3 T8 W ∧ Tb q8 T4 W) v7 := ⟨k7, m7⟩
                refine wpAnyH_more (S' := fun W => Tb q3 T8 W ∧ Tb q8 T4 W) (fun _ hq => hq.1) _ _ _ _ ?_
                obtain ⟨z10, hz10, hz10a, hz10b⟩ := tab4 n10q (by omega)
                refine wpAnyH_take (i := 11) (v := .pointer (some ⟨q8, n10q, none⟩)) rfl (by kernel_rfl) (by kernel_rfl) (by kernel_rfl) (fun _ _ _ h => h) (Or.inl ⟨by rfl, fun w hSw => by go_simp⟩) l7 ?_
                try simp only [Act.put, List.setIfInBounds_toArray, List.set_cons_zero, List.set_cons_succ, List.getElem_toArray, List.getElem_cons_succ, List.getElem_cons_zero]
                refine wpAnyH_take (i := 12) (v := .int .i64 z10) rfl (by kernel_rfl) (by kernel_rfl) (by kernel_rfl) (fun _ _ _ h => h) (Or.inl ⟨by rfl, fun w hSw => by have f0 := Tb.cell (hSw.2) n10q _ hz10; go_simp⟩) l7 ?_
                try simp only [Act.put, List.setIfInBounds_toArray, List.set_cons_zero, List.set_cons_succ, List.getElem_toArray, List.getElem_cons_succ, List.getElem_cons_zero]
                refine wpAnyH_take (i := 13) (v := .agg #[.int .i64 (n2q : Int), .int .i64 z5, .int .i64 z10]) rfl (by kernel_rfl) (by kernel_rfl) (by kernel_rfl) (fun _ _ _ h => h) (Or.inl ⟨by rfl, fun w hSw => by go_simp⟩) l7 ?_
                try simp only [Act.put, List.setIfInBounds_toArray, List.set_cons_zero, List.set_cons_succ, List.getElem_toArray, List.getElem_cons_succ, List.getElem_cons_zero]
                refine wpAnyH_ready (rs := [14]) (by kernel_rfl) (by simp) ?_
                refine AllReadyH.cons rfl (fun K hK => ?_) AllReadyH.nil
                go_simp
                have kA : (fun W => Tb q3 T8 W ∧ Tb q8 T4 W) (v7.alloc (Obj.cells #[.int .i64 (n2q : Int), .int .i64 z5, .int .i64 z10] 34)) := ⟨Tb.alloc l7.1 _, Tb.alloc l7.2 _⟩
                have GA : Hid (PaSt w b a len cap (.slice (some ⟨g, 0, none⟩) rs.length cp) rs b6a b6s (v7.alloc (Obj.cells #[.int .i64 (n2q : Int), .int .i64 z5, .int .i64 z10] 34))) := G7.out.alloc _
                have hN := heapNew v7 (Obj.cells #[.int .i64 (n2q : Int), .int .i64 z5, .int .i64 z10] 34)
                have hzz := GA.out.2.1
                refine hK.out _ _ kA (fun _ => ?_)
                clear hK K
                try simp only [Act.put, List.setIfInBounds_toArray, List.set_cons_zero, List.set_cons_succ, List.getElem_toArray, List.getElem_cons_succ, List.getElem_cons_zero]
                refine wpAnyH_ready (rs := [15]) (by kernel_rfl) (by simp) ?_
                refine AllReadyH.cons rfl (fun K hK => ?_) AllReadyH.nil
                refine step_append_lies _ rfl (.tmp 18) (.tmp 32) 23 rfl (b + 1) 34 i0 (.agg #[.int .i64 0, .int .i64 0, .int .i64 0]) 3 24 Try.underlying23 hi hi0 hi1 hi2 rfl (by decide) (.slice (some ⟨g, 0, none⟩) rs.length cp) _ _ (by simp [Act.eval]) GA.out.1 ⟨v7.heap.size, 0, none⟩ 1 1 [.int .i64 (n2q : Int), .int .i64 z5, .int .i64 z10] (by simp [Act.eval]) rfl (World.news_of_block hN) (by simp [Value.oneCell']) (by omega) (by unfold maxLen; omega) (by omega) hzz _ rfl (fun g1 cp1 w9 hown1 hgrow1 hat1 hglt1 => ?_)
                have HF : Hid (PaSt w b a len cap (.slice (some ⟨g1, 0, none⟩) (rs.length + 1) cp1) (rs ++ [⟨(n2q : Int), z5, z10⟩]) b6a b6s w9) := GA.out.push (r := ⟨(n2q : Int), z5, z10⟩) hown1 hgrow1
                have kB : (fun W => Tb q3 T8 W ∧ Tb q8 T4 W) w9 := ⟨Tb.grow kA.1 GA.out.1 hgrow1, Tb.grow kA.2 GA.out.1 hgrow1⟩
                clear hown1 hgrow1 hat1 hglt1
                refine hK.out _ _ kB (fun _ => ?_)
                clear hK K
                try simp only [Act.put, List.setIfInBounds_toArray, List.set_cons_zero, List.set_cons_succ, List.getElem_toArray, List.getElem_cons_succ, List.getElem_cons_zero]
                refine wpAnyH_take (i := 16) (v := .slice (some ⟨g1, 0, none⟩) (rs.length + 1) cp1) rfl (by kernel_rfl) (by kernel_rfl) (by kernel_rfl) (fun _ _ _ h => h) (Or.inl ⟨by rfl, fun w hSw => by go_simp⟩) kB ?_
                try simp only [Act.put, List.setIfInBounds_toArray, List.set_cons_zero, List.set_cons_succ, List.getElem_toArray, List.getElem_cons_succ, List.getElem_cons_zero]
                refine wpAnyH_done (by kernel_rfl) ?_ _
                go_wp2
                refine ⟨⟨rs ++ [⟨(n2q : Int), z5, z10⟩], k - 1, g1, cp1, b6a, b6s, day, by rw [List.length_append]; simp; omega, by simp, by go_num, rfl, fun r hr => ?_, by omega, by rw [List.length_append]; push_cast; simp; omega, by rw [List.length_append]; push_cast; simp; omega, HF.out⟩, by simp [intOf]; omega⟩
                rcases List.mem_append.1 hr with q | q
                · exact HD.out r q
                · rw [List.mem_singleton.1 q]; unfold PaD; dsimp only; omega
            · go_simp
              have k8 : (fun W => Tb q3 T8 W) (v2.alloc (Obj.cells #[.int .i64 0, .int .i64 100000, .int .i64 100001, .int .i64 (-1)] 3)) := Tb.alloc l2 _
              have m8 : Tb v2.heap.size T4 (v2.alloc (Obj.cells #[.int .i64 0, .int .i64 100000, .int .i64 100001, .int .i64 (-1)] 3)) := Tb.made _ _
              have hbq8 : b < v2.heap.size := by have := G2.out.2.1; omega
              have G8 : Hid (PaSt w b a len cap (.slice (some ⟨g, 0, none⟩) rs.length cp) rs b1a b1s (v2.alloc (Obj.cells #[.int .i64 0, .int .i64 100000, .int .i64 100001, .int .i64 (-1)] 3))) := G2.out.alloc _
              refine hK.out _ _ k8 (fun _ => ?_)
              clear hK K
              try simp only [Act.put, List.setIfInBounds_toArray, List.set_cons_zero, List.set_cons_succ, List.getElem_toArray, List.getElem_cons_succ, List.getElem_cons_zero]
              generalize (v2.alloc (Obj.cells #[.int .i64 0, .int .i64 100000, .int .i64 100001, .int .i64 (-1)] 3)) = v8 at *
              generalize v2.heap.size = q8 at *
              have l8 : (fun W => Tb q3 T8 W ∧ Tb q8 T4 W) v8 := ⟨k8, m8⟩
              refine wpAnyH_more (S' := fun W => Tb q3 T8 W ∧ Tb q8 T4 W) (fun _ hq => hq.1) _ _ _ _ ?_
              refine wpAnyH_ready (rs := [5]) (by kernel_rfl) (by simp) ?_
              refine AllReadyH.cons rfl (fun K hK => ?_) AllReadyH.nil
              go_simp
              go_at_call 10
              refine (HNx.out _ 8 b1a b1s G8.out.2.2.2 G8.out.2.2.1 (by omega) (by omega)).mono ?_
              rintro e v9 ⟨x5q, b9a, b9s, rfl, ⟨hx5q0, hx5q1⟩, hu9, hv9, hs9, hb9, hf9⟩
              have G9 : Hid (PaSt w b a len cap (.slice (some ⟨g, 0, none⟩) rs.length cp) rs b9a b9s v9) := G8.out.draw hf9 hb9 hs9
              have k9 : (fun W => Tb q3 T8 W ∧ Tb q8 T4 W) v9 := ⟨Tb.draw l8.1 hf9 hbq3, Tb.draw l8.2 hf9 hbq8⟩
              clear hs9 hb9 hf9
              obtain ⟨n5q, rfl⟩ := Int.eq_ofNat_of_zero_le hx5q0
              have hn5q : (n5q : Int) < 8 := by omega
              refine hK.out _ _ k9 (fun _ => ?_)
              clear hK K
              try simp only [Act.put, List.setIfInBounds_toArray, List.set_cons_zero, List.set_cons_succ, List.getElem_toArray, List.getElem_cons_succ, List.getElem_cons_zero]
              obtain ⟨z5, hz5, hz5a, hz5b⟩ := tab8 n5q (by omega)
              refine wpAnyH_take (i := 6) (v := .pointer (some ⟨q3, n5q, none⟩)) rfl (by kernel_rfl) (by kernel_rfl) (by kernel_rfl) (fun _ _ _ h => h) (Or.inl ⟨by rfl, fun w hSw => by go_simp⟩) k9 ?_
              try simp only [Act.put, List.setIfInBounds_toArray, List.set_cons_zero, List.set_cons_succ, List.getElem_toArray, List.getElem_cons_succ, List.getElem_cons_zero]
              refine wpAnyH_take (i := 7) (v := .int .i64 z5) rfl (by kernel_rfl) (by kernel_rfl) (by kernel_rfl) (fun _ _ _ h => h) (Or.inl ⟨by rfl, fun w hSw => by have f0 := Tb.cell (hSw.1) n5q _ hz5; go_simp⟩) k9 ?_
              try simp only [Act.put, List.setIfInBounds_toArray, List.set_cons_zero, List.set_cons_succ, List.getElem_toArray, List.getElem_cons_succ, List.getElem_cons_zero]
              refine wpAnyH_ready (rs := [10]) (by kernel_rfl) (by simp) ?_
              refine AllReadyH.cons rfl (fun K hK => ?_) AllReadyH.nil
              go_simp
              go_at_call 10
              refine (HNx.out _ 4 b9a b9s G9.out.2.2.2 G9.out.2.2.1 (by omega) (by omega)).mono ?_
              rintro e v10 ⟨x10q, b10a, b10s, rfl, ⟨hx10q0, hx10q1⟩, hu10, hv10, hs10, hb10, hf10⟩
              have G10 : Hid (PaSt w b a len cap (.slice (some ⟨g, 0, none⟩) rs.length cp) rs b10a b10s v10) := G9.out.draw hf10 hb10 hs10
              have k10 : (fun W => Tb q3 T8 W ∧ Tb q8 T4 W) v10 := ⟨Tb.draw k9.1 hf10 hbq3, Tb.draw k9.2 hf10 hbq8⟩
              clear hs10 hb10 hf10
              obtain ⟨n10q, rfl⟩ := Int.eq_ofNat_of_zero_le hx10q0
              have hn10q : (n10q : Int) < 4 := by omega
              refine hK.out _ _ k10 (fun _ => ?_)
              clear hK K
              try simp only [Act.put, List.setIfInBounds_toArray, List.set_cons_zero, List.set_cons_succ, List.getElem_toArray, List.getElem_cons_succ, List.getElem_cons_zero]
              obtain ⟨z10, hz10, hz10a, hz10b⟩ := tab4 n10q (by omega)
              refine wpAnyH_take (i := 11) (v := .pointer (some ⟨q8, n10q, none⟩)) rfl (by kernel_rfl) (by kernel_rfl) (by kernel_rfl) (fun _ _ _ h => h) (Or.inl ⟨by rfl, fun w hSw => by go_simp⟩) k10 ?_
              try simp only [Act.put, List.setIfInBounds_toArray, List.set_cons_zero, List.set_cons_succ, List.getElem_toArray, List.getElem_cons_succ, List.getElem_cons_zero]
              refine wpAnyH_take (i := 12) (v := .int .i64 z10) rfl (by kernel_rfl) (by kernel_rfl) (by kernel_rfl) (fun _ _ _ h => h) (Or.inl ⟨by rfl, fun w hSw => by have f0 := Tb.cell (hSw.2) n10q _ hz10; go_simp⟩) k10 ?_
              try simp only [Act.put, List.setIfInBounds_toArray, List.set_cons_zero, List.set_cons_succ, List.getElem_toArray, List.getElem_cons_succ, List.getElem_cons_zero]
              refine wpAnyH_take (i := 13) (v := .agg #[.int .i64 (n2q : Int), .int .i64 z5, .int .i64 z10]) rfl (by kernel_rfl) (by kernel_rfl) (by kernel_rfl) (fun _ _ _ h => h) (Or.inl ⟨by rfl, fun w hSw => by go_simp⟩) k10 ?_
              try simp only [Act.put, List.setIfInBounds_toArray, List.set_cons_zero, List.set_cons_succ, List.getElem_toArray, List.getElem_cons_succ, List.getElem_cons_zero]
              refine wpAnyH_ready (rs := [14]) (by kernel_rfl) (by simp) ?_
              refine AllReadyH.cons rfl (fun K hK => ?_) AllReadyH.nil
              go_simp
              have kA : (fun W => Tb q3 T8 W ∧ Tb q8 T4 W) (v10.alloc (Obj.cells #[.int .i64 (n2q : Int), .int .i64 z5, .int .i64 z10] 34)) := ⟨Tb.alloc k10.1 _, Tb.alloc k10.2 _⟩
              have GA : Hid (PaSt w b a len cap (.slice (some ⟨g, 0, none⟩) rs.length cp) rs b10a b10s (v10.alloc (Obj.cells #[.int .i64 (n2q : Int), .int .i64 z5, .int .i64 z10] 34))) := G10.out.alloc _
              have hN := heapNew v10 (Obj.cells #[.int .i64 (n2q : Int), .int .i64 z5, .int .i64 z10] 34)
              have hzz := GA.out.2.1
              refine hK.out _ _ kA (fun _ => ?_)
              clear hK K
              try simp only [Act.put, List.setIfInBounds_toArray, List.set_cons_zero, List.set_cons_succ, List.getElem_toArray, List.getElem_cons_succ, List.getElem_cons_zero]
              refine wpAnyH_ready (rs := [15]) (by kernel_rfl) (by simp) ?_
              refine AllReadyH.cons rfl (fun K hK => ?_) AllReadyH.nil
              refine step_append_lies _ rfl (.tmp 18) (.tmp 32) 23 rfl (b + 1) 34 i0 (.agg #[.int .i64 0, .int .i64 0, .int .i64 0]) 3 24 Try.underlying23 hi hi0 hi1 hi2 rfl (by decide) (.slice (some ⟨g, 0, none⟩) rs.length cp) _ _ (by simp [Act.eval]) GA.out.1 ⟨v10.heap.size, 0, none⟩ 1 1 [.int .i64 (n2q : Int), .int .i64 z5, .int .i64 z10] (by simp [Act.eval]) rfl (World.news_of_block hN) (by simp [Value.oneCell']) (by omega) (by unfold maxLen; omega) (by omega) hzz _ rfl (fun g1 cp1 w9 hown1 hgrow1 hat1 hglt1 => ?_)
              have HF : Hid (PaSt w b a len cap (.slice (some ⟨g1, 0, none⟩) (rs.length + 1) cp1) (rs ++ [⟨(n2q : Int), z5, z10⟩]) b10a b10s w9) := GA.out.push (r := ⟨(n2q : Int), z5, z10⟩) hown1 hgrow1
              have kB : (fun W => Tb q3 T8 W ∧ Tb q8 T4 W) w9 := ⟨Tb.grow kA.1 GA.out.1 hgrow1, Tb.grow kA.2 GA.out.1 hgrow1⟩
              clear hown1 hgrow1 hat1 hglt1
              refine hK.out _ _ kB (fun _ => ?_)
              clear hK K
              try simp only [Act.put, List.setIfInBounds_toArray, List.set_cons_zero, List.set_cons_succ, List.getElem_toArray, List.getElem_cons_succ, List.getElem_cons_zero]
              refine wpAnyH_take (i := 16) (v := .slice (some ⟨g1, 0, none⟩) (rs.length + 1) cp1) rfl (by kernel_rfl) (by kernel_rfl) (by kernel_rfl) (fun _ _ _ h => h) (Or.inl ⟨by rfl, fun w hSw => by go_simp⟩) kB ?_
              try simp only [Act.put, List.setIfInBounds_toArray, List.set_cons_zero, List.set_cons_succ, List.getElem_toArray, List.getElem_cons_succ, List.getElem_cons_zero]
              refine wpAnyH_done (by kernel_rfl) ?_ _
              go_wp2
              refine ⟨⟨rs ++ [⟨(n2q : Int), z5, z10⟩], k - 1, g1, cp1, b10a, b10s, day, by rw [List.length_append]; simp; omega, by simp, by go_num, rfl, fun r hr => ?_, by omega, by rw [List.length_append]; push_cast; simp; omega, by rw [List.length_append]; push_cast; simp; omega, HF.out⟩, by simp [intOf]; omega⟩
              rcases List.mem_append.1 hr with q | q
              · exact HD.out r q
              · rw [List.mem_singleton.1 q]; unfold PaD; dsimp only; omega
          · go_simp
            go_at_call 10
            refine (HNx.out _ 8 b1a b1s G1.out.2.2.2 G1.out.2.2.1 (by omega) (by omega)).mono ?_
            rintro e v11 ⟨x5q, b11a, b11s, rfl, ⟨hx5q0, hx5q1⟩, hu11, hv11, hs11, hb11, hf11⟩
            have G11 : Hid (PaSt w b a len cap (.slice (some ⟨g, 0, none⟩) rs.length cp) rs b11a b11s v11) := G1.out.draw hf11 hb11 hs11
            have k11 : (fun _ => True) v11 := trivial
            clear hs11 hb11 hf11
            obtain ⟨n5q, rfl⟩ := Int.eq_ofNat_of_zero_le hx5q0
            have hn5q : (n5q : Int) < 8 := by omega
            refine hK.out _ _ k11 (fun _ => ?_)
            clear hK K
            try simp only [Act.put, List.setIfInBounds_toArray, List.set_cons_zero, List.set_cons_succ, List.getElem_toArray, List.getElem_cons_succ, List.getElem_cons_zero]
            refine wpAnyH_ready (rs := [3, 8, 10]) (by kernel_rfl) (by simp) ?_
            refine AllReadyH.cons rfl (fun K hK => ?_) (AllReadyH.cons rfl (fun K hK => ?_) (AllReadyH.cons rfl (fun K hK => ?_) AllReadyH.nil))
            · go_simp
              have k12 : (fun _ => True) (v11.alloc (Obj.cells #[.int .i64 0, .int .i64 (-1), .int .i64 1, .int .i64 1000000, .int .i64 1000001, .int .i64 100000, .int .i64 100001, .int .i64 3] 3)) := trivial
              have m12 : Tb v11.heap.size T8 (v11.alloc (Obj.cells #[.int .i64 0, .int .i64 (-1), .int .i64 1, .int .i64 1000000, .int .i64 1000001, .int .i64 100000, .int .i64 100001, .int .i64 3] 3)) := Tb.made _ _
              have hbq3 : b < v11.heap.size := by have := G11.out.2.1; omega
              have G12 : Hid (PaSt w b a len cap (.slice (some ⟨g, 0, none⟩) rs.length cp) rs b11a b11s (v11.alloc (Obj.cells #[.int .i64 0, .int .i64 (-1), .int .i64 1, .int .i64 1000000, .int .i64 1000001, .int .i64 100000, .int .i64 100001, .int .i64 3] 3))) := G11.out.alloc _
              refine hK.out _ _ k12 (fun _ => ?_)
              clear hK K
              try simp only [Act.put, List.setIfInBounds_toArray, List.set_cons_zero, List.set_cons_succ, List.getElem_toArray, List.getElem_cons_succ, List.getElem_cons_zero]
              generalize (v11.alloc (Obj.cells #[.int .i64 0, .int .i64 (-1), .int .i64 1, .int .i64 1000000, .int .i64 1000001, .int .i64 100000, .int .i64 100001, .int .i64 3] 3)) = v12 at *
              generalize v11.heap.size = q3 at *
              have l12 : (fun W => Tb q3 T8 W) v12 := m12
              refine wpAnyH_more (S' := fun W => Tb q3 T8 W) (fun _ hq => trivial) _ _ _ _ ?_
              obtain ⟨z5, hz5, hz5a, hz5b⟩ := tab8 n5q (by omega)
              refine wpAnyH_take (i := 6) (v := .pointer (some ⟨q3, n5q, none⟩)) rfl (by kernel_rfl) (by kernel_rfl) (by kernel_rfl) (fun _ _ _ h => h) (Or.inl ⟨by rfl, fun w hSw => by go_simp⟩) l12 ?_
              try simp only [Act.put, List.setIfInBounds_toArray, List.set_cons_zero, List.set_cons_succ, List.getElem_toArray, List.getElem_cons_succ, List.getElem_cons_zero]
              refine wpAnyH_take (i := 7) (v := .int .i64 z5) rfl (by kernel_rfl) (by kernel_rfl) (by kernel_rfl) (fun _ _ _ h => h) (Or.inl ⟨by rfl, fun w hSw => by have f0 := Tb.cell (hSw) n5q _ hz5; go_simp⟩) l12 ?_
              try simp only [Act.put, List.setIfInBounds_toArray, List.set_cons_zero, List.set_cons_succ, List.getElem_toArray, List.getElem_cons_succ, List.getElem_cons_zero]
              refine wpAnyH_ready (rs := [8, 10]) (by kernel_rfl) (by simp) ?_
              refine AllReadyH.cons rfl (fun K hK => ?_) (AllReadyH.cons rfl (fun K hK => ?_) AllReadyH.nil)
              · go_simp
                have k13 : (fun W => Tb q3 T8 W) (v12.alloc (Obj.cells #[.int .i64 0, .int .i64 100000, .int .i64 100001, .int .i64 (-1)] 3)) := Tb.alloc l12 _
                have m13 : Tb v12.heap.size T4 (v12.alloc (Obj.cells #[.int .i64 0, .int .i64 100000, .int .i64 100001, .int .i64 (-1)] 3)) := Tb.made _ _
                have hbq8 : b < v12.heap.size := by have := G12.out.2.1; omega
                have G13 : Hid (PaSt w b a len cap (.slice (some ⟨g, 0, none⟩) rs.length cp) rs b11a b11s (v12.alloc (Obj.cells #[.int .i64 0, .int .i64 100000, .int .i64 100001, .int .i64 (-1)] 3))) := G12.out.alloc _
                refine hK.out _ _ k13 (fun _ => ?_)
                clear hK K
                try simp only [Act.put, List.setIfInBounds_toArray, List.set_cons_zero, List.set_cons_succ, List.getElem_toArray, List.getElem_cons_succ, List.getElem_cons_zero]
                generalize (v12.alloc (Obj.cells #[.int .i64 0, .int .i64 100000, .int .i64 100001, .int .i64 (-1)] 3)) = v13 at *
                generalize v12.heap.size = q8 at *
                have l13 : (fun W => Tb q3 T8 W ∧ Tb q8 T4 W) v13 := ⟨k13, m13⟩
                refine wpAnyH_more (S' := fun W => Tb q3 T8 W ∧ Tb q8 T4 W) (fun _ hq => hq.1) _ _ _ _ ?_
                refine wpAnyH_ready (rs := [10]) (by kernel_rfl) (by simp) ?_
                refine AllReadyH.cons rfl (fun K hK => ?_) AllReadyH.nil
                go_simp
                go_at_call 10
                refine (HNx.out _ 4 b11a b11s G13.out.2.2.2 G13.out.2.2.1 (by omega) (by omega)).mono ?_
                rintro e v14 ⟨x10q, b14a, b14s, rfl, ⟨hx10q0, hx10q1⟩, hu14, hv14, hs14, hb14, hf14⟩
                have G14 : Hid (PaSt w b a len cap (.slice (some ⟨g, 0, none⟩) rs.length cp) rs b14a b14s v14) := G13.out.draw hf14 hb14 hs14
                have k14 : (fun W => Tb q3 T8 W ∧ Tb q8 T4 W) v14 := ⟨Tb.draw l13.1 hf14 hbq3, Tb.draw l13.2 hf14 hbq8⟩
                clear hs14 hb14 hf14
                obtain ⟨n10q, rfl⟩ := Int.eq_ofNat_of_zero_le hx10q0
                have hn10q : (n10q : Int) < 4 := by omega
                refine hK.out _ _ k14 (fun _ => ?_)
                clear hK K
                try simp only [Act.put, List.setIfInBounds_toArray, List.set_cons_zero, List.set_cons_succ, List.getElem_toArray, List.getElem_cons_succ, List.getElem_cons_zero]
                obtain ⟨z10, hz10, hz10a, hz10b⟩ := tab4 n10q (by omega)
                refine wpAnyH_take (i := 11) (v := .pointer (some ⟨q8, n10q, none⟩)) rfl (by kernel_rfl) (by kernel_rfl) (by kernel_rfl) (fun _ _ _ h => h) (Or.inl ⟨by rfl, fun w hSw => by go_simp⟩) k14 ?_
                try simp only [Act.put, List.setIfInBounds_toArray, List.set_cons_zero, List.set_cons_succ, List.getElem_toArray, List.getElem_cons_succ, List.getElem_cons_zero]
                refine wpAnyH_take (i := 12) (v := .int .i64 z10) rfl (by kernel_rfl) (by kernel_rfl) (by kernel_rfl) (fun _ _ _ h => h) (Or.inl ⟨by rfl, fun w hSw => by have f0 := Tb.cell (hSw.2) n10q _ hz10; go_simp⟩) k14 ?_
                try simp only [Act.put, List.setIfInBounds_toArray, List.set_cons_zero, List.set_cons_succ, List.getElem_toArray, List.getElem_cons_succ, List.getElem_cons_zero]
                refine wpAnyH_take (i := 13) (v := .agg #[.int .i64 (n2q : Int), .int .i64 z5, .int .i64 z10]) rfl (by kernel_rfl) (by kernel_rfl) (by kernel_rfl) (fun _ _ _ h => h) (Or.inl ⟨by rfl, fun w hSw => by go_simp⟩) k14 ?_
                try simp only [Act.put, List.setIfInBounds_toArray, List.set_cons_zero, List.set_cons_succ, List.getElem_toArray, List.getElem_cons_succ, List.getElem_cons_zero]
                refine wpAnyH_ready (rs := [14]) (by kernel_rfl) (by simp) ?_
                refine AllReadyH.cons rfl (fun K hK => ?_) AllReadyH.nil
                go_simp
                have kA : (fun W => Tb q3 T8 W ∧ Tb q8 T4 W) (v14.alloc (Obj.cells #[.int .i64 (n2q : Int), .int .i64 z5, .int .i64 z10] 34)) := ⟨Tb.alloc k14.1 _, Tb.alloc k14.2 _⟩
                have GA : Hid (PaSt w b a len cap (.slice (some ⟨g, 0, none⟩) rs.length cp) rs b14a b14s (v14.alloc (Obj.cells #[.int .i64 (n2q : Int), .int .i64 z5, .int .i64 z10] 34))) := G14.out.alloc _
                have hN := heapNew v14 (Obj.cells #[.int .i64 (n2q : Int), .int .i64 z5, .int .i64 z10] 34)
                have hzz := GA.out.2.1
                refine hK.out _ _ kA (fun _ => ?_)
                clear hK K
                try simp only [Act.put, List.setIfInBounds_toArray, List.set_cons_zero, List.set_cons_succ, List.getElem_toArray, List.getElem_cons_succ, List.getElem_cons_zero]
                refine wpAnyH_ready (rs := [15]) (by kernel_rfl) (by simp) ?_
                refine AllReadyH.cons rfl (fun K hK => ?_) AllReadyH.nil
                refine step_append_lies _ rfl (.tmp 18) (.tmp 32) 23 rfl (b + 1) 34 i0 (.agg #[.int .i64 0, .int .i64 0, .int .i64 0]) 3 24 Try.underlying23 hi hi0 hi1 hi2 rfl (by decide) (.slice (some ⟨g, 0, none⟩) rs.length cp) _ _ (by simp [Act.eval]) GA.out.1 ⟨v14.heap.size, 0, none⟩ 1 1 [.int .i64 (n2q : Int), .int .i64 z5, .int .i64 z10] (by simp [Act.eval]) rfl (World.news_of_block hN) (by simp [Value.oneCell']) (by omega) (by unfold maxLen; omega) (by omega) hzz _ rfl (fun g1 cp1 w9 hown1 hgrow1 hat1 hglt1 => ?_)
                have HF : Hid (PaSt w b a len cap (.slice (some ⟨g1, 0, none⟩) (rs.length + 1) cp1) (rs ++ [⟨(n2q : Int), z5, z10⟩]) b14a b14s w9) := GA.out.push (r := ⟨(n2q : Int), z5, z10⟩) hown1 hgrow1
                have kB : (fun W => Tb q3 T8 W ∧ Tb q8 T4 W) w9 := ⟨Tb.grow kA.1 GA.out.1 hgrow1, Tb.grow kA.2 GA.out.1 hgrow1⟩
                clear hown1 hgrow1 hat1 hglt1
                refine hK.out _ _ kB (fun _ => ?_)
                clear hK K
                try simp only [Act.put, List.setIfInBounds_toArray, List.set_cons_zero, List.set_cons_succ, List.getElem_toArray, List.getElem_cons_succ, List.getElem_cons_zero]
                refine wpAnyH_take (i := 16) (v := .slice (some ⟨g1, 0, none⟩) (rs.length + 1) cp1) rfl (by kernel_rfl) (by kernel_rfl) (by kernel_rfl) (fun _ _ _ h => h) (Or.inl ⟨by rfl, fun w hSw => by go_simp⟩) kB ?_
                try simp only [Act.put, List.setIfInBounds_toArray, List.set_cons_zero, List.set_cons_succ, List.getElem_toArray, List.getElem_cons_succ, List.getElem_cons_zero]
                refine wpAnyH_done (by kernel_rfl) ?_ _
                go_wp2
                refine ⟨⟨rs ++ [⟨(n2q : Int), z5, z10⟩], k - 1, g1, cp1, b14a, b14s, day, by rw [List.length_append]; simp; omega, by simp, by go_num, rfl, fun r hr => ?_, by omega, by rw [List.length_append]; push_cast; simp; omega, by rw [List.length_append]; push_cast; simp; omega, HF.out⟩, by simp [intOf]; omega⟩
                rcases List.mem_append.1 hr with q | q
                · exact HD.out r q
                · rw [List.mem_singleton.1 q]; unfold PaD; dsimp only; omega
              · go_simp
                go_at_call 10
                refine (HNx.out _ 4 b11a b11s G12.out.2.2.2 G12.out.2.2.1 (by omega) (by omega)).mono ?_
                rintro e v15 ⟨x10q, b15a, b15s, rfl, ⟨hx10q0, hx10q1⟩, hu15, hv15, hs15, hb15, hf15⟩
                have G15 : Hid (PaSt w b a len cap (.slice (some ⟨g, 0, none⟩) rs.length cp) rs b15a b15s v15) := G12.out.draw hf15 hb15 hs15
                have k15 : (fun W => Tb q3 T8 W) v15 := Tb.draw l12 hf15 hbq3
                clear hs15 hb15 hf15
                obtain ⟨n10q, rfl⟩ := Int.eq_ofNat_of_zero_le hx10q0
                have hn10q : (n10q : Int) < 4 := by omega
                refine hK.out _ _ k15 (fun _ => ?_)
                clear hK K
                try simp only [Act.put, List.setIfInBounds_toArray, List.set_cons_zero, List.set_cons_succ, List.getElem_toArray, List.getElem_cons_succ, List.getElem_cons_zero]
                refine wpAnyH_ready (rs := [8]) (by kernel_rfl) (by simp) ?_
                refine AllReadyH.cons rfl (fun K hK => ?_) AllReadyH.nil
                go_simp
                have k16 : (fun W => Tb q3 T8 W) (v15.alloc (Obj.cells #[.int .i64 0, .int .i64 100000, .int .i64 100001, .int .i64 (-1)] 3)) := Tb.alloc k15 _
                have m16 : Tb v15.heap.size T4 (v15.alloc (Obj.cells #[.int .i64 0, .int .i64 100000, .int .i64 100001, .int .i64 (-1)] 3)) := Tb.made _ _
                have hbq8 : b < v15.heap.size := by have := G15.out.2.1; omega
                have G16 : Hid (PaSt w b a len cap (.slice (some ⟨g, 0, none⟩) rs.length cp) rs b15a b15s (v15.alloc (Obj.cells #[.int .i64 0, .int .i64 100000, .int .i64 100001, .int .i64 (-1)] 3))) := G15.out.alloc _
                refine hK.out _ _ k16 (fun _ => ?_)
                clear hK K
                try simp only [Act.put, List.setIfInBounds_toArray, List.set_cons_zero, List.set_cons_succ, List.getElem_toArray, List.getElem_cons_succ, List.getElem_cons_zero]
                generalize (v15.alloc (Obj.cells #[.int .i64 0, .int .i64 100000, .int .i64 100001, .int .i64 (-1)] 3)) = v16 at *
                generalize v15.heap.size = q8 at *
                have l16 : (fun W => Tb q3 T8 W ∧ Tb q8 T4 W) v16 := ⟨k16, m16⟩
                refine wpAnyH_more (S' := fun W => Tb q3 T8 W ∧ Tb q8 T4 W) (fun _ hq => hq.1) _ _ _ _ ?_
                obtain ⟨z10, hz10, hz10a, hz10b⟩ := tab4 n10q (by omega)
                refine wpAnyH_take (i := 11) (v := .pointer (some ⟨q8, n10q, none⟩)) rfl (by kernel_rfl) (by kernel_rfl) (by kernel_rfl) (fun _ _ _ h => h) (Or.inl ⟨by rfl, fun w hSw => by go_simp⟩) l16 ?_
                try simp only [Act.put, List.setIfInBounds_toArray, List.set_cons_zero, List.set_cons_succ, List.getElem_toArray, List.getElem_cons_succ, List.getElem_cons_zero]
                refine wpAnyH_take (i := 12) (v := .int .i64 z10) rfl (by kernel_rfl) (by kernel_rfl) (by kernel_rfl) (fun _ _ _ h => h) (Or.inl ⟨by rfl, fun w hSw => by have f0 := Tb.cell (hSw.2) n10q _ hz10; go_simp⟩) l16 ?_
                try simp only [Act.put, List.setIfInBounds_toArray, List.set_cons_zero, List.set_cons_succ, List.getElem_toArray, List.getElem_cons_succ, List.getElem_cons_zero]
                refine wpAnyH_take (i := 13) (v := .agg #[.int .i64 (n2q : Int), .int .i64 z5, .int .i64 z10]) rfl (by kernel_rfl) (by kernel_rfl) (by kernel_rfl) (fun _ _ _ h => h) (Or.inl ⟨by rfl, fun w hSw => by go_simp⟩) l16 ?_
                try simp only [Act.put, List.setIfInBounds_toArray, List.set_cons_zero, List.set_cons_succ, List.getElem_toArray, List.getElem_cons_succ, List.getElem_cons_zero]
                refine wpAnyH_ready (rs := [14]) (by kernel_rfl) (by simp) ?_
                refine AllReadyH.cons rfl (fun K hK => ?_) AllReadyH.nil
                go_simp
                have kA : (fun W => Tb q3 T8 W ∧ Tb q8 T4 W) (v16.alloc (Obj.cells #[.int .i64 (n2q : Int), .int .i64 z5, .int .i64 z10] 34)) := ⟨Tb.alloc l16.1 _, Tb.alloc l16.2 _⟩
                have GA : Hid (PaSt w b a len cap (.slice (some ⟨g, 0, none⟩) rs.length cp) rs b15a b15s (v16.alloc (Obj.cells #[.int .i64 (n2q : Int), .int .i64 z5, .int .i64 z10] 34))) := G16.out.alloc _
                have hN := heapNew v16 (Obj.cells #[.int .i64 (n2q : Int), .int .i64 z5, .int .i64 z10] 34)
                have hzz := GA.out.2.1
                refine hK.out _ _ kA (fun _ => ?_)
                clear hK K
                try simp only [Act.put, List.setIfInBounds_toArray, List.set_cons_zero, List.set_cons_succ, List.getElem_toArray, List.getElem_cons_succ, List.getElem_cons_zero]
                refine wpAnyH_ready (rs := [15]) (by kernel_rfl) (by simp) ?_
                refine AllReadyH.cons rfl (fun K hK => ?_) AllReadyH.nil
                refine step_append_lies _ rfl (.tmp 18) (.tmp 32) 23 rfl (b + 1) 34 i0 (.agg #[.int .i64 0, .int .i64 0, .int .i64 0]) 3 24 Try.underlying23 hi hi0 hi1 hi2 rfl (by decide) (.slice (some ⟨g, 0, none⟩) rs.length cp) _ _ (by simp [Act.eval]) GA.out.1 ⟨v16.heap.size, 0, none⟩ 1 1 [.int .i64 (n2q : Int), .int .i64 z5, .int .i64 z10] (by simp [Act.eval]) rfl (World.news_of_block hN) (by simp [Value.oneCell']) (by omega) (by unfold maxLen; omega) (by omega) hzz _ rfl (fun g1 cp1 w9 hown1 hgrow1 hat1 hglt1 => ?_)
                have HF : Hid (PaSt w b a len cap (.slice (some ⟨g1, 0, none⟩) (rs.length + 1) cp1) (rs ++ [⟨(n2q : Int), z5, z10⟩]) b15a b15s w9) := GA.out.push (r := ⟨(n2q : Int), z5, z10⟩) hown1 hgrow1
                have kB : (fun W => Tb q3 T8 W ∧ Tb q8 T4 W) w9 := ⟨Tb.grow kA.1 GA.out.1 hgrow1, Tb.grow kA.2 GA.out.1 hgrow1⟩
                clear hown1 hgrow1 hat1 hglt1
                refine hK.out _ _ kB (fun _ => ?_)
                clear hK K
                try simp only [Act.put, List.setIfInBounds_toArray, List.set_cons_zero, List.set_cons_succ, List.getElem_toArray, List.getElem_cons_succ, List.getElem_cons_zero]
                refine wpAnyH_take (i := 16) (v := .slice (some ⟨g1, 0, none⟩) (rs.length + 1) cp1) rfl (by kernel_rfl) (by kernel_rfl) (by kernel_rfl) (fun _ _ _ h => h) (Or.inl ⟨by rfl, fun w hSw => by go_simp⟩) kB ?_
                try simp only [Act.put, List.setIfInBounds_toArray, List.set_cons_zero, List.set_cons_succ, List.getElem_toArray, List.getElem_cons_succ, List.getElem_cons_zero]
                refine wpAnyH_done (by kernel_rfl) ?_ _
                go_wp2
                refine ⟨⟨rs ++ [⟨(n2q : Int), z5, z10⟩], k - 1, g1, cp1, b15a, b15s, day, by rw [List.length_append]; simp; omega, by simp, by go_num, rfl, fun r hr => ?_, by omega, by rw [List.length_append]; push_cast; simp; omega, by rw [List.length_append]; push_cast; simp; omega, HF.out⟩, by simp [intOf]; omega⟩
                rcases List.mem_append.1 hr with q | q
                · exact HD.out r q
                · rw [List.mem_singleton.1 q]; unfold PaD; dsimp only; omega
            · go_simp
              have k17 : (fun _ => True) (v11.alloc (Obj.cells #[.int .i64 0, .int .i64 100000, .int .i64 100001, .int .i64 (-1)] 3)) := trivial
              have m17 : Tb v11.heap.size T4 (v11.alloc (Obj.cells #[.int .i64 0, .int .i64 100000, .int .i64 100001, .int .i64 (-1)] 3)) := Tb.made _ _
              have hbq8 : b < v11.heap.size := by have := G11.out.2.1; omega
              have G17 : Hid (PaSt w b a len cap (.slice (some ⟨g, 0, none⟩) rs.length cp) rs b11a b11s (v11.alloc (Obj.cells #[.int .i64 0, .int .i64 100000, .int .i64 100001, .int .i64 (-1)] 3))) := G11.out.alloc _
              refine hK.out _ _ k17 (fun _ => ?_)
              clear hK K
              try simp only [Act.put, List.setIfInBounds_toArray, List.set_cons_zero, List.set_cons_succ, List.getElem_toArray, List.getElem_cons_succ, List.getElem_cons_zero]
              generalize (v11.alloc (Obj.cells #[.int .i64 0, .int .i64 100000, .int .i64 100001, .int .i64 (-1)] 3)) = v17 at *
              generalize v11.heap.size = q8 at *
              have l17 : (fun W => Tb q8 T4 W) v17 := m17
              refine wpAnyH_more (S' := fun W => Tb q8 T4 W) (fun _ hq => trivial) _ _ _ _ ?_
              refine wpAnyH_ready (rs := [3, 10]) (by kernel_rfl) (by simp) ?_
              refine AllReadyH.cons rfl (fun K hK => ?_) (AllReadyH.cons rfl (fun K hK => ?_) AllReadyH.nil)
              · go_simp
                have k18 : (fun W => Tb q8 T4 W) (v17.alloc (Obj.cells #[.int .i64 0, .int .i64 (-1), .int .i64 1, .int .i64 1000000, .int .i64 1000001, .int .i64 100000, .int .i64 100001, .int .i64 3] 3)) := Tb.alloc l17 _
                have m18 : Tb v17.heap.size T8 (v17.alloc (Obj.cells #[.int .i64 0, .int .i64 (-1), .int .i64 1, .int .i64 1000000, .int .i64 1000001, .int .i64 100000, .int .i64 100001, .int .i64 3] 3)) := Tb.made _ _
                have hbq3 : b < v17.heap.size := by have := G17.out.2.1; omega
                have G18 : Hid (PaSt w b a len cap (.slice (some ⟨g, 0, none⟩) rs.length cp) rs b11a b11s (v17.alloc (Obj.cells #[.int .i64 0, .int .i64 (-1), .int .i64 1, .int .i64 1000000, .int .i64 1000001, .int .i64 100000, .int .i64 100001, .int .i64 3] 3))) := G17.out.alloc _
                refine hK.out _ _ k18 (fun _ => ?_)
                clear hK K
                try simp only [Act.put, List.setIfInBounds_toArray, List.set_cons_zero, List.set_cons_succ, List.getElem_toArray, List.getElem_cons_succ, List.getElem_cons_zero]
                generalize (v17.alloc (Obj.cells #[.int .i64 0, .int .i64 (-1), .int .i64 1, .int .i64 1000000, .int .i64 1000001, .int .i64 100000, .int .i64 100001, .int .i64 3] 3)) = v18 at *
                generalize v17.heap.size = q3 at *
                have l18 : (fun W => Tb q8 T4 W ∧ Tb q3 T8 W) v18 := ⟨k18, m18⟩
                refine wpAnyH_more (S' := fun W => Tb q8 T4 W ∧ Tb q3 T8 W) (fun _ hq => hq.1) _ _ _ _ ?_
                obtain ⟨z5, hz5, hz5a, hz5b⟩ := tab8 n5q (by omega)
                refine wpAnyH_take (i := 6) (v := .pointer (some ⟨q3, n5q, none⟩)) rfl (by kernel_rfl) (by kernel_rfl) (by kernel_rfl) (fun _ _ _ h => h) (Or.inl ⟨by rfl, fun w hSw => by go_simp⟩) l18 ?_
                try simp only [Act.put, List.setIfInBounds_toArray, List.set_cons_zero, List.set_cons_succ, List.getElem_toArray, List.getElem_cons_succ, List.getElem_cons_zero]
                refine wpAnyH_take (i := 7) (v := .int .i64 z5) rfl (by kernel_rfl) (by kernel_rfl) (by kernel_rfl) (fun _ _ _ h => h) (Or.inl ⟨by rfl, fun w hSw => by have f0 := Tb.cell (hSw.2) n5q _ hz5; go_simp⟩) l18 ?_
                try simp only [Act.put, List.setIfInBounds_toArray, List.set_cons_zero, List.set_cons_succ, List.getElem_toArray, List.getElem_cons_succ, List.getElem_cons_zero]
                refine wpAnyH_ready (rs := [10]) (by kernel_rfl) (by simp) ?_
                refine AllReadyH.cons rfl (fun K hK => ?_) AllReadyH.nil
                go_simp
                go_at_call 10
                refine (HNx.out _ 4 b11a b11s G18.out.2.2.2 G18.out.2.2.1 (by omega) (by omega)).mono ?_
                rintro e v19 ⟨x10q, b19a, b19s, rfl, ⟨hx10q0, hx10q1⟩, hu19, hv19, hs19, hb19, hf19⟩
                have G19 : Hid (PaSt w b a len cap (.slice (some ⟨g, 0, none⟩) rs.length cp) rs b19a b19s v19) := G18.out.draw hf19 hb19 hs19
                have k19 : (fun W => Tb q8 T4 W ∧ Tb q3 T8 W) v19 := ⟨Tb.draw l18.1 hf19 hbq8, Tb.draw l18.2 hf19 hbq3⟩
                clear hs19 hb19 hf19
                obtain ⟨n10q, rfl⟩ := Int.eq_ofNat_of_zero_le hx10q0
                have hn10q : (n10q : Int) < 4 := by omega
                refine hK.out _ _ k19 (fun _ => ?_)
                clear hK K
                try simp only [Act.put, List.setIfInBounds_toArray, List.set_cons_zero, List.set_cons_succ, List.getElem_toArray, List.getElem_cons_succ, List.getElem_cons_zero]
                obtain ⟨z10, hz10, hz10a, hz10b⟩ := tab4 n10q (by omega)
                refine wpAnyH_take (i := 11) (v := .pointer (some ⟨q8, n10q, none⟩)) rfl (by kernel_rfl) (by kernel_rfl) (by kernel_rfl) (fun _ _ _ h => h) (Or.inl ⟨by rfl, fun w hSw => by go_simp⟩) k19 ?_
                try simp only [Act.put, List.setIfInBounds_toArray, List.set_cons_zero, List.set_cons_succ, List.getElem_toArray, List.getElem_cons_succ, List.getElem_cons_zero]
                refine wpAnyH_take (i := 12) (v := .int .i64 z10) rfl (by kernel_rfl) (by kernel_rfl) (by kernel_rfl) (fun _ _ _ h => h) (Or.inl ⟨by rfl, fun w hSw => by have f0 := Tb.cell (hSw.1) n10q _ hz10; go_simp⟩) k19 ?_
                try simp only [Act.put, List.setIfInBounds_toArray, List.set_cons_zero, List.set_cons_succ, List.getElem_toArray, List.getElem_cons_succ, List.getElem_cons_zero]
                refine wpAnyH_take (i := 13) (v := .agg #[.int .i64 (n2q : Int), .int .i64 z5, .int .i64 z10]) rfl (by kernel_rfl) (by kernel_rfl) (by kernel_rfl) (fun _ _ _ h => h) (Or.inl ⟨by rfl, fun w hSw => by go_simp⟩) k19 ?_
                try simp only [Act.put, List.setIfInBounds_toArray, List.set_cons_zero, List.set_cons_succ, List.getElem_toArray, List.getElem_cons_succ, List.getElem_cons_zero]
                refine wpAnyH_ready (rs := [14]) (by kernel_rfl) (by simp) ?_
                refine AllReadyH.cons rfl (fun K hK => ?_) AllReadyH.nil
                go_simp
                have kA : (fun W => Tb q8 T4 W ∧ Tb q3 T8 W) (v19.alloc (Obj.cells #[.int .i64 (n2q : Int), .int .i64 z5, .int .i64 z10] 34)) := ⟨Tb.alloc k19.1 _, Tb.alloc k19.2 _⟩
                have GA : Hid (PaSt w b a len cap (.slice (some ⟨g, 0, none⟩) rs.length cp) rs b19a b19s (v19.alloc (Obj.cells #[.int .i64 (n2q : Int), .int .i64 z5, .int .i64 z10] 34))) := G19.out.alloc _
                have hN := heapNew v19 (Obj.cells #[.int .i64 (n2q : Int), .int .i64 z5, .int .i64 z10] 34)
                have hzz := GA.out.2.1
                refine hK.out _ _ kA (fun _ => ?_)
                clear hK K
                try simp only [Act.put, List.setIfInBounds_toArray, List.set_cons_zero, List.set_cons_succ, List.getElem_toArray, List.getElem_cons_succ, List.getElem_cons_zero]
                refine wpAnyH_ready (rs := [15]) (by kernel_rfl) (by simp) ?_
                refine AllReadyH.cons rfl (fun K hK => ?_) AllReadyH.nil
                refine step_append_lies _ rfl (.tmp 18) (.tmp 32) 23 rfl (b + 1) 34 i0 (.agg #[.int .i64 0, .int .i64 0, .int .i64 0]) 3 24 Try.underlying23 hi hi0 hi1 hi2 rfl (by decide) (.slice (some ⟨g, 0, none⟩) rs.length cp) _ _ (by simp [Act.eval]) GA.out.1 ⟨v19.heap.size, 0, none⟩ 1 1 [.int .i64 (n2q : Int), .int .i64 z5, .int .i64 z10] (by simp [Act.eval]) rfl (World.news_of_block hN) (by simp [Value.oneCell']) (by omega) (by unfold maxLen; omega) (by omega) hzz _ rfl (fun g1 cp1 w9 hown1 hgrow1 hat1 hglt1 => ?_)
                have HF : Hid (PaSt w b a len cap (.slice (some ⟨g1, 0, none⟩) (rs.length + 1) cp1) (rs ++ [⟨(n2q : Int), z5, z10⟩]) b19a b19s w9) := GA.out.push (r := ⟨(n2q : Int), z5, z10⟩) hown1 hgrow1
                have kB : (fun W => Tb q8 T4 W ∧ Tb q3 T8 W) w9 := ⟨Tb.grow kA.1 GA.out.1 hgrow1, Tb.grow kA.2 GA.out.1 hgrow1⟩
                clear hown1 hgrow1 hat1 hglt1
                refine hK.out _ _ kB (fun _ => ?_)
                clear hK K
                try simp only [Act.put, List.setIfInBounds_toArray, List.set_cons_zero, List.set_cons_succ, List.getElem_toArray, List.getElem_cons_succ, List.getElem_cons_zero]
                refine wpAnyH_take (i := 16) (v := .slice (some ⟨g1, 0, none⟩) (rs.length + 1) cp1) rfl (by kernel_rfl) (by kernel_rfl) (by kernel_rfl) (fun _ _ _ h => h) (Or.inl ⟨by rfl, fun w hSw => by go_simp⟩) kB ?_
                try simp only [Act.put, List.setIfInBounds_toArray, List.set_cons_zero, List.set_cons_succ, List.getElem_toArray, List.getElem_cons_succ, List.getElem_cons_zero]
                refine wpAnyH_done (by kernel_rfl) ?_ _
                go_wp2
                refine ⟨⟨rs ++ [⟨(n2q : Int), z5, z10⟩], k - 1, g1, cp1, b19a, b19s, day, by rw [List.length_append]; simp; omega, by simp, by go_num, rfl, fun r hr => ?_, by omega, by rw [List.length_append]; push_cast; simp; omega, by rw [List.length_append]; push_cast; simp; omega, HF.out⟩, by simp [intOf]; omega⟩
                rcases List.mem_append.1 hr with q | q
                · exact HD.out r q
                · rw [List.mem_singleton.1 q]; unfold PaD; dsimp only; omega
              · go_simp
                go_at_call 10
                refine (HNx.out _ 4 b11a b11s G17.out.2.2.2 G17.out.2.2.1 (by omega) (by omega)).mono ?_
                rintro e v20 ⟨x10q, b20a, b20s, rfl, ⟨hx10q0, hx10q1⟩, hu20, hv20, hs20, hb20, hf20⟩
                have G20 : Hid (PaSt w b a len cap (.slice (some ⟨g, 0, none⟩) rs.length cp) rs b20a b20s v20) := G17.out.draw hf20 hb20 hs20
                have k20 : (fun W => Tb q8 T4 W) v20 := Tb.draw l17 hf20 hbq8
                clear hs20 hb20 hf20
                obtain ⟨n10q, rfl⟩ := Int.eq_ofNat_of_zero_le hx10q0
                have hn10q : (n10q : Int) < 4 := by omega
                refine hK.out _ _ k20 (fun _ => ?_)
                clear hK K
                try simp only [Act.put, List.setIfInBounds_toArray, List.set_cons_zero, List.set_cons_succ, List.getElem_toArray, List.getElem_cons_succ, List.getElem_cons_zero]
                obtain ⟨z10, hz10, hz10a, hz10b⟩ := tab4 n10q (by omega)
                refine wpAnyH_take (i := 11) (v := .pointer (some ⟨q8, n10q, none⟩)) rfl (by kernel_rfl) (by kernel_rfl) (by kernel_rfl) (fun _ _ _ h => h) (Or.inl ⟨by rfl, fun w hSw => by go_simp⟩) k20 ?_
                try simp only [Act.put, List.setIfInBounds_toArray, List.set_cons_zero, List.set_cons_succ, List.getElem_toArray, List.getElem_cons_succ, List.getElem_cons_zero]
                refine wpAnyH_take (i := 12) (v := .int .i64 z10) rfl (by kernel_rfl) (by kernel_rfl) (by kernel_rfl) (fun _ _ _ h => h) (Or.inl ⟨by rfl, fun w hSw => by have f0 := Tb.cell (hSw) n10q _ hz10; go_simp⟩) k20 ?_
                try simp only [Act.put, List.setIfInBounds_toArray, List.set_cons_zero, List.set_cons_succ, List.getElem_toArray, List.getElem_cons_succ, List.getElem_cons_zero]
                refine wpAnyH_ready (rs := [3]) (by kernel_rfl) (by simp) ?_
                refine AllReadyH.cons rfl (fun K hK => ?_) AllReadyH.nil
                go_simp
                have k21 : (fun W => Tb q8 T4 W) (v20.alloc (Obj.cells #[.int .i64 0, .int .i64 (-1), .int .i64 1, .int .i64 1000000, .int .i64 1000001, .int .i64 100000, .int .i64 100001, .int .i64 3] 3)) := Tb.alloc k20 _
                have m21 : Tb v20.heap.size T8 (v20.alloc (Obj.cells #[.int .i64 0, .int .i64 (-1), .int .i64 1, .int .i64 1000000, .int .i64 1000001, .int .i64 100000, .int .i64 100001, .int .i64 3] 3)) := Tb.made _ _
                have hbq3 : b < v20.heap.size := by have := G20.out.2.1; omega
                have G21 : Hid (PaSt w b a len cap (.slice (some ⟨g, 0, none⟩) rs.length cp) rs b20a b20s (v20.alloc (Obj.cells #[.int .i64 0, .int .i64 (-1), .int .i64 1, .int .i64 1000000, .int .i64 1000001, .int .i64 100000, .int .i64 100001, .int .i64 3] 3))) := G20.out.alloc _
                refine hK.out _ _ k21 (fun _ => ?_)
                clear hK K
                try simp only [Act.put, List.setIfInBounds_toArray, List.set_cons_zero, List.set_cons_succ, List.getElem_toArray, List.getElem_cons_succ, List.getElem_cons_zero]
                generalize (v20.alloc (Obj.cells #[.int .i64 0, .int .i64 (-1), .int .i64 1, .int .i64 1000000, .int .i64 1000001, .int .i64 100000, .int .i64 100001, .int .i64 3] 3)) = v21 at *
                generalize v20.heap.size = q3 at *
                have l21 : (fun W => Tb q8 T4 W ∧ Tb q3 T8 W) v21 := ⟨k21, m21⟩
                refine wpAnyH_more (S' := fun W => Tb q8 T4 W ∧ Tb q3 T8 W) (fun _ hq => hq.1) _ _ _ _ ?_
                obtain ⟨z5, hz5, hz5a, hz5b⟩ := tab8 n5q (by omega)
                refine wpAnyH_take (i := 6) (v := .pointer (some ⟨q3, n5q, none⟩)) rfl (by kernel_rfl) (by kernel_rfl) (by kernel_rfl) (fun _ _ _ h => h) (Or.inl ⟨by rfl, fun w hSw => by go_simp⟩) l21 ?_
                try simp only [Act.put, List.setIfInBounds_toArray, List.set_cons_zero, List.set_cons_succ, List.getElem_toArray, List.getElem_cons_succ, List.getElem_cons_zero]
                refine wpAnyH_take (i := 7) (v := .int .i64 z5) rfl (by kernel_rfl) (by kernel_rfl) (by kernel_rfl) (fun _ _ _ h => h) (Or.inl ⟨by rfl, fun w hSw => by have f0 := Tb.cell (hSw.2) n5q _ hz5; go_simp⟩) l21 ?_
                try simp only [Act.put, List.setIfInBounds_toArray, List.set_cons_zero, List.set_cons_succ, List.getElem_toArray, List.getElem_cons_succ, List.getElem_cons_zero]
                refine wpAnyH_take (i := 13) (v := .agg #[.int .i64 (n2q : Int), .int .i64 z5, .int .i64 z10]) rfl (by kernel_rfl) (by kernel_rfl) (by kernel_rfl) (fun _ _ _ h => h) (Or.inl ⟨by rfl, fun w hSw => by go_simp⟩) l21 ?_
                try simp only [Act.put, List.setIfInBounds_toArray, List.set_cons_zero, List.set_cons_succ, List.getElem_toArray, List.getElem_cons_succ, List.getElem_cons_zero]
                refine wpAnyH_ready (rs := [14]) (by kernel_rfl) (by simp) ?_
                refine AllReadyH.cons rfl (fun K hK => ?_) AllReadyH.nil
                go_simp
                have kA : (fun W => Tb q8 T4 W ∧ Tb q3 T8 W) (v21.alloc (Obj.cells #[.int .i64 (n2q : Int), .int .i64 z5, .int .i64 z10] 34)) := ⟨Tb.alloc l21.1 _, Tb.alloc l21.2 _⟩
                have GA : Hid (PaSt w b a len cap (.slice (some ⟨g, 0, none⟩) rs.length cp) rs b20a b20s (v21.alloc (Obj.cells #[.int .i64 (n2q : Int), .int .i64 z5, .int .i64 z10] 34))) := G21.out.alloc _
                have hN := heapNew v21 (Obj.cells #[.int .i64 (n2q : Int), .int .i64 z5, .int .i64 z10] 34)
                have hzz := GA.out.2.1
                refine hK.out _ _ kA (fun _ => ?_)
                clear hK K
                try simp only [Act.put, List.setIfInBounds_toArray, List.set_cons_zero, List.set_cons_succ, List.getElem_toArray, List.getElem_cons_succ, List.getElem_cons_zero]
                refine wpAnyH_ready (rs := [15]) (by kernel_rfl) (by simp) ?_
                refine AllReadyH.cons rfl (fun K hK => ?_) AllReadyH.nil
                refine step_append_lies _ rfl (.tmp 18) (.tmp 32) 23 rfl (b + 1) 34 i0 (.agg #[.int .i64 0, .int .i64 0, .int .i64 0]) 3 24 Try.underlying23 hi hi0 hi1 hi2 rfl (by decide) (.slice (some ⟨g, 0, none⟩) rs.length cp) _ _ (by simp [Act.eval]) GA.out.1 ⟨v21.heap.size, 0, none⟩ 1 1 [.int .i64 (n2q : Int), .int .i64 z5, .int .i64 z10] (by simp [Act.eval]) rfl (World.news_of_block hN) (by simp [Value.oneCell']) (by omega) (by unfold maxLen; omega) (by omega) hzz _ rfl (fun g1 cp1 w9 hown1 hgrow1 hat1 hglt1 => ?_)
                have HF : Hid (PaSt w b a len cap (.slice (some ⟨g1, 0, none⟩) (rs.length + 1) cp1) (rs ++ [⟨(n2q : Int), z5, z10⟩]) b20a b20s w9) := GA.out.push (r := ⟨(n2q : Int), z5, z10⟩) hown1 hgrow1
                have kB : (fun W => Tb q8 T4 W ∧ Tb q3 T8 W) w9 := ⟨Tb.grow kA.1 GA.out.1 hgrow1, Tb.grow kA.2 GA.out.1 hgrow1⟩
                clear hown1 hgrow1 hat1 hglt1
                refine hK.out _ _ kB (fun _ => ?_)
                clear hK K
                try simp only [Act.put, List.setIfInBounds_toArray, List.set_cons_zero, List.set_cons_succ, List.getElem_toArray, List.getElem_cons_succ, List.getElem_cons_zero]
                refine wpAnyH_take (i := 16) (v := .slice (some ⟨g1, 0, none⟩) (rs.length + 1) cp1) rfl (by kernel_rfl) (by kernel_rfl) (by kernel_rfl) (fun _ _ _ h => h) (Or.inl ⟨by rfl, fun w hSw => by go_simp⟩) kB ?_
                try simp only [Act.put, List.setIfInBounds_toArray, List.set_cons_zero, List.set_cons_succ, List.getElem_toArray, List.getElem_cons_succ, List.getElem_cons_zero]
                refine wpAnyH_done (by kernel_rfl) ?_ _
                go_wp2
                refine ⟨⟨rs ++ [⟨(n2q : Int), z5, z10⟩], k - 1, g1, cp1, b20a, b20s, day, by rw [List.length_append]; simp; omega, by simp, by go_num, rfl, fun r hr => ?_, by omega, by rw [List.length_append]; push_cast; simp; omega, by rw [List.length_append]; push_cast; simp; omega, HF.out⟩, by simp [intOf]; omega⟩
                rcases List.mem_append.1 hr with q | q
                · exact HD.out r q
                · rw [List.mem_singleton.1 q]; unfold PaD; dsimp only; omega
            · go_simp
              go_at_call 10
              refine (HNx.out _ 4 b11a b11s G11.out.2.2.2 G11.out.2.2.1 (by omega) (by omega)).mono ?_
              rintro e v22 ⟨x10q, b22a, b22s, rfl, ⟨hx10q0, hx10q1⟩, hu22, hv22, hs22, hb22, hf22⟩
              have G22 : Hid (PaSt w b a len cap (.slice (some ⟨g, 0, none⟩) rs.length cp) rs b22a b22s v22) := G11.out.draw hf22 hb22 hs22
              have k22 : (fun _ => True) v22 := trivial
              clear hs22 hb22 hf22
              obtain ⟨n10q, rfl⟩ := Int.eq_ofNat_of_zero_le hx10q0
              have hn10q : (n10q : Int) < 4 := by omega
              refine hK.out _ _ k22 (fun _ => ?_)
              clear hK K
              try simp only [Act.put, List.setIfInBounds_toArray, List.set_cons_zero, List.set_cons_succ, List.getElem_toArray, List.getElem_cons_succ, List.getElem_cons_zero]
              refine wpAnyH_ready (rs := [3, 8]) (by kernel_rfl) (by simp) ?_
              refine AllReadyH.cons rfl (fun K hK => ?_) (AllReadyH.cons rfl (fun K hK => ?_) AllReadyH.nil)
              · go_simp
                have k23 : (fun _ => True) (v22.alloc (Obj.cells #[.int .i64 0, .int .i64 (-1), .int .i64 1, .int .i64 1000000, .int .i64 1000001, .int .i64 100000, .int .i64 100001, .int .i64 3] 3)) := trivial
                have m23 : Tb v22.heap.size T8 (v22.alloc (Obj.cells #[.int .i64 0, .int .i64 (-1), .int .i64 1, .int .i64 1000000, .int .i64 1000001, .int .i64 100000, .int .i64 100001, .int .i64 3] 3)) := Tb.made _ _
                have hbq3 : b < v22.heap.size := by have := G22.out.2.1; omega
                have G23 : Hid (PaSt w b a len cap (.slice (some ⟨g, 0, none⟩) rs.length cp) rs b22a b22s (v22.alloc (Obj.cells #[.int .i64 0, .int .i64 (-1), .int .i64 1, .int .i64 1000000, .int .i64 1000001, .int .i64 100000, .int .i64 100001, .int .i64 3] 3))) := G22.out.alloc _
                refine hK.out _ _ k23 (fun _ => ?_)
                clear hK K
                try simp only [Act.put, List.setIfInBounds_toArray, List.set_cons_zero, List.set_cons_succ, List.getElem_toArray, List.getElem_cons_succ, List.getElem_cons_zero]
                generalize (v22.alloc (Obj.cells #[.int .i64 0, .int .i64 (-1), .int .i64 1, .int .i64 1000000, .int .i64 1000001, .int .i64 100000, .int .i64 100001, .int .i64 3] 3)) = v23 at *
                generalize v22.heap.size = q3 at *
                have l23 : (fun W => Tb q3 T8 W) v23 := m23
                refine wpAnyH_more (S' := fun W => Tb q3 T8 W) (fun _ hq => trivial) _ _ _ _ ?_
                obtain ⟨z5, hz5, hz5a, hz5b⟩ := tab8 n5q (by omega)
                refine wpAnyH_take (i := 6) (v := .pointer (some ⟨q3, n5q, none⟩)) rfl (by kernel_rfl) (by kernel_rfl) (by kernel_rfl) (fun _ _ _ h => h) (Or.inl ⟨by rfl, fun w hSw => by go_simp⟩) l23 ?_
                try simp only [Act.put, List.setIfInBounds_toArray, List.set_cons_zero, List.set_cons_succ, List.getElem_toArray, List.getElem_cons_succ, List.getElem_cons_zero]
                refine wpAnyH_take (i := 7) (v := .int .i64 z5) rfl (by kernel_rfl) (by kernel_rfl) (by kernel_rfl) (fun _ _ _ h => h) (Or.inl ⟨by rfl, fun w hSw => by have f0 := Tb.cell (hSw) n5q _ hz5; go_simp⟩) l23 ?_
                try simp only [Act.put, List.setIfInBounds_toArray, List.set_cons_zero, List.set_cons_succ, List.getElem_toArray, List.getElem_cons_succ, List.getElem_cons_zero]
                refine wpAnyH_ready (rs := [8]) (by kernel_rfl) (by simp) ?_
                refine AllReadyH.cons rfl (fun K hK => ?_) AllReadyH.nil
                go_simp
                have k24 : (fun W => Tb q3 T8 W) (v23.alloc (Obj.cells #[.int .i64 0, .int .i64 100000, .int .i64 100001, .int .i64 (-1)] 3)) := Tb.alloc l23 _
                have m24 : Tb v23.heap.size T4 (v23.alloc (Obj.cells #[.int .i64 0, .int .i64 100000, .int .i64 100001, .int .i64 (-1)] 3)) := Tb.made _ _
                have hbq8 : b < v23.heap.size := by have := G23.out.2.1; omega
                have G24 : Hid (PaSt w b a len cap (.slice (some ⟨g, 0, none⟩) rs.length cp) rs b22a b22s (v23.alloc (Obj.cells #[.int .i64 0, .int .i64 100000, .int .i64 100001, .int .i64 (-1)] 3))) := G23.out.alloc _
                refine hK.out _ _ k24 (fun _ => ?_)
                clear hK K
                try simp only [Act.put, List.setIfInBounds_toArray, List.set_cons_zero, List.set_cons_succ, List.getElem_toArray, List.getElem_cons_succ, List.getElem_cons_zero]
                generalize (v23.alloc (Obj.cells #[.int .i64 0, .int .i64 100000, .int .i64 100001, .int .i64 (-1)] 3)) = v24 at *
                generalize v23.heap.size = q8 at *
                have l24 : (fun W => Tb q3 T8 W ∧ Tb q8 T4 W) v24 := ⟨k24, m24⟩
                refine wpAnyH_more (S' := fun W => Tb q3 T8 W ∧ Tb q8 T4 W) (fun _ hq => hq.1) _ _ _ _ ?_
                obtain ⟨z10, hz10, hz10a, hz10b⟩ := tab4 n10q (by omega)
                refine wpAnyH_take (i := 11) (v := .pointer (some ⟨q8, n10q, none⟩)) rfl (by kernel_rfl) (by kernel_rfl) (by kernel_rfl) (fun _ _ _ h => h) (Or.inl ⟨by rfl, fun w hSw => by go_simp⟩) l24 ?_
                try simp only [Act.put, List.setIfInBounds_toArray, List.set_cons_zero, List.set_cons_succ, List.getElem_toArray, List.getElem_cons_succ, List.getElem_cons_zero]
                refine wpAnyH_take (i := 12) (v := .int .i64 z10) rfl (by kernel_rfl) (by kernel_rfl) (by kernel_rfl) (fun _ _ _ h => h) (Or.inl ⟨by rfl, fun w hSw => by have f0 := Tb.cell (hSw.2) n10q _ hz10; go_simp⟩) l24 ?_
                try simp only [Act.put, List.setIfInBounds_toArray, List.set_cons_zero, List.set_cons_succ, List.getElem_toArray, List.getElem_cons_succ, List.getElem_cons_zero]
                refine wpAnyH_take (i := 13) (v := .agg #[.int .i64 (n2q : Int), .int .i64 z5, .int .i64 z10]) rfl (by kernel_rfl) (by kernel_rfl) (by kernel_rfl) (fun _ _ _ h => h) (Or.inl ⟨by rfl, fun w hSw => by go_simp⟩) l24 ?_
                try simp only [Act.put, List.setIfInBounds_toArray, List.set_cons_zero, List.set_cons_succ, List.getElem_toArray, List.getElem_cons_succ, List.getElem_cons_zero]
                refine wpAnyH_ready (rs := [14]) (by kernel_rfl) (by simp) ?_
                refine AllReadyH.cons rfl (fun K hK => ?_) AllReadyH.nil
                go_simp
                have kA : (fun W => Tb q3 T8 W ∧ Tb q8 T4 W) (v24.alloc (Obj.cells #[.int .i64 (n2q : Int), .int .i64 z5, .int .i64 z10] 34)) := ⟨Tb.alloc l24.1 _, Tb.alloc l24.2 _⟩
                have GA : Hid (PaSt w b a len cap (.slice (some ⟨g, 0, none⟩) rs.length cp) rs b22a b22s (v24.alloc (Obj.cells #[.int .i64 (n2q : Int), .int .i64 z5, .int .i64 z10] 34))) := G24.out.alloc _
                have hN := heapNew v24 (Obj.cells #[.int .i64 (n2q : Int), .int .i64 z5, .int .i64 z10] 34)
                have hzz := GA.out.2.1
                refine hK.out _ _ kA (fun _ => ?_)
                clear hK K
                try simp only [Act.put, List.setIfInBounds_toArray, List.set_cons_zero, List.set_cons_succ, List.getElem_toArray, List.getElem_cons_succ, List.getElem_cons_zero]
                refine wpAnyH_ready (rs := [15]) (by kernel_rfl) (by simp) ?_
                refine AllReadyH.cons rfl (fun K hK => ?_) AllReadyH.nil
                refine step_append_lies _ rfl (.tmp 18) (.tmp 32) 23 rfl (b + 1) 34 i0 (.agg #[.int .i64 0, .int .i64 0, .int .i64 0]) 3 24 Try.underlying23 hi hi0 hi1 hi2 rfl (by decide) (.slice (some ⟨g, 0, none⟩) rs.length cp) _ _ (by simp [Act.eval]) GA.out.1 ⟨v24.heap.size, 0, none⟩ 1 1 [.int .i64 (n2q : Int), .int .i64 z5, .int .i64 z10] (by simp [Act.eval]) rfl (World.news_of_block hN) (by simp [Value.oneCell']) (by omega) (by unfold maxLen; omega) (by omega) hzz _ rfl (fun g1 cp1 w9 hown1 hgrow1 hat1 hglt1 => ?_)
                have HF : Hid (PaSt w b a len cap (.slice (some ⟨g1, 0, none⟩) (rs.length + 1) cp1) (rs ++ [⟨(n2q : Int), z5, z10⟩]) b22a b22s w9) := GA.out.push (r := ⟨(n2q : Int), z5, z10⟩) hown1 hgrow1
                have kB : (fun W => Tb q3 T8 W ∧ Tb q8 T4 W) w9 := ⟨Tb.grow kA.1 GA.out.1 hgrow1, Tb.grow kA.2 GA.out.1 hgrow1⟩
                clear hown1 hgrow1 hat1 hglt1
                refine hK.out _ _ kB (fun _ => ?_)
                clear hK K
                try simp only [Act.put, List.setIfInBounds_toArray, List.set_cons_zero, List.set_cons_succ, List.getElem_toArray, List.getElem_cons_succ, List.getElem_cons_zero]
                refine wpAnyH_take (i := 16) (v := .slice (some ⟨g1, 0, none⟩) (rs.length + 1) cp1) rfl (by kernel_rfl) (by kernel_rfl) (by kernel_rfl) (fun _ _ _ h => h) (Or.inl ⟨by rfl, fun w hSw => by go_simp⟩) kB ?_
                try simp only [Act.put, List.setIfInBounds_toArray, List.set_cons_zero, List.set_cons_succ, List.getElem_toArray, List.getElem_cons_succ, List.getElem_cons_zero]
                refine wpAnyH_done (by kernel_rfl) ?_ _
                go_wp2
                refine ⟨⟨rs ++ [⟨(n2q : Int), z5, z10⟩], k - 1, g1, cp1, b22a, b22s, day, by rw [List.length_append]; simp; omega, by simp, by go_num, rfl, fun r hr => ?_, by omega, by rw [List.length_append]; push_cast; simp; omega, by rw [List.length_append]; push_cast; simp; omega, HF.out⟩, by simp [intOf]; omega⟩
                rcases List.mem_append.1 hr with q | q
                · exact HD.out r q
                · rw [List.mem_singleton.1 q]; unfold PaD; dsimp only; omega
              · go_simp
                have k25 : (fun _ => True) (v22.alloc (Obj.cells #[.int .i64 0, .int .i64 100000, .int .i64 100001, .int .i64 (-1)] 3)) := trivial
                have m25 : Tb v22.heap.size T4 (v22.alloc (Obj.cells #[.int .i64 0, .int .i64 100000, .int .i64 100001, .int .i64 (-1)] 3)) := Tb.made _ _
                have hbq8 : b < v22.heap.size := by have := G22.out.2.1; omega
                have G25 : Hid (PaSt w b a len cap (.slice (some ⟨g, 0, none⟩) rs.length cp) rs b22a b22s (v22.alloc (Obj.cells #[.int .i64 0, .int .i64 100000, .int .i64 100001, .int .i64 (-1)] 3))) := G22.out.alloc _
                refine hK.out _ _ k25 (fun _ => ?_)
                clear hK K
                try simp only [Act.put, List.setIfInBounds_toArray, List.set_cons_zero, List.set_cons_succ, List.getElem_toArray, List.getElem_cons_succ, List.getElem_cons_zero]
                generalize (v22.alloc (Obj.cells #[.int .i64 0, .int .i64 100000, .int .i64 100001, .int .i64 (-1)] 3)) = v25 at *
                generalize v22.heap.size = q8 at *
                have l25 : (fun W => Tb q8 T4 W) v25 := m25
                refine wpAnyH_more (S' := fun W => Tb q8 T4 W) (fun _ hq => trivial) _ _ _ _ ?_
                obtain ⟨z10, hz10, hz10a, hz10b⟩ := tab4 n10q (by omega)
                refine wpAnyH_take (i := 11) (v := .pointer (some ⟨q8, n10q, none⟩)) rfl (by kernel_rfl) (by kernel_rfl) (by kernel_rfl) (fun _ _ _ h => h) (Or.inl ⟨by rfl, fun w hSw => by go_simp⟩) l25 ?_
                try simp only [Act.put, List.setIfInBounds_toArray, List.set_cons_zero, List.set_cons_succ, List.getElem_toArray, List.getElem_cons_succ, List.getElem_cons_zero]
                refine wpAnyH_take (i := 12) (v := .int .i64 z10) rfl (by kernel_rfl) (by kernel_rfl) (by kernel_rfl) (fun _ _ _ h => h) (Or.inl ⟨by rfl, fun w hSw => by have f0 := Tb.cell (hSw) n10q _ hz10; go_simp⟩) l25 ?_
                try simp only [Act.put, List.setIfInBounds_toArray, List.set_cons_zero, List.set_cons_succ, List.getElem_toArray, List.getElem_cons_succ, List.getElem_cons_zero]
                refine wpAnyH_ready (rs := [3]) (by kernel_rfl) (by simp) ?_
                refine AllReadyH.cons rfl (fun K hK => ?_) AllReadyH.nil
                go_simp
                have k26 : (fun W => Tb q8 T4 W) (v25.alloc (Obj.cells #[.int .i64 0, .int .i64 (-1), .int .i64 1, .int .i64 1000000, .int .i64 1000001, .int .i64 100000, .int .i64 100001, .int .i64 3] 3)) := Tb.alloc l25 _
                have m26 : Tb v25.heap.size T8 (v25.alloc (Obj.cells #[.int .i64 0, .int .i64 (-1), .int .i64 1, .int .i64 1000000, .int .i64 1000001, .int .i64 100000, .int .i64 100001, .int .i64 3] 3)) := Tb.made _ _
                have hbq3 : b < v25.heap.size := by have := G25.out.2.1; omega
                have G26 : Hid (PaSt w b a len cap (.slice (some ⟨g, 0, none⟩) rs.length cp) rs b22a b22s (v25.alloc (Obj.cells #[.int .i64 0, .int .i64 (-1), .int .i64 1, .int .i64 1000000, .int .i64 1000001, .int .i64 100000, .int .i64 100001, .int .i64 3] 3))) := G25.out.alloc _
                refine hK.out _ _ k26 (fun _ => ?_)
                clear hK K
                try simp only [Act.put, List.setIfInBounds_toArray, List.set_cons_zero, List.set_cons_succ, List.getElem_toArray, List.getElem_cons_succ, List.getElem_cons_zero]
                generalize (v25.alloc (Obj.cells #[.int .i64 0, .int .i64 (-1), .int .i64 1, .int .i64 1000000, .int .i64 1000001, .int .i64 100000, .int .i64 100001, .int .i64 3] 3)) = v26 at *
                generalize v25.heap.size = q3 at *
                have l26 : (fun W => Tb q8 T4 W ∧ Tb q3 T8 W) v26 := ⟨k26, m26⟩
                refine wpAnyH_more (S' := fun W => Tb q8 T4 W ∧ Tb q3 T8 W) (fun _ hq => hq.1) _ _ _ _ ?_
                obtain ⟨z5, hz5, hz5a, hz5b⟩ := tab8 n5q (by omega)
                refine wpAnyH_take (i := 6) (v := .pointer (some ⟨q3, n5q, none⟩)) rfl (by kernel_rfl) (by kernel_rfl) (by kernel_rfl) (fun _ _ _ h => h) (Or.inl ⟨by rfl, fun w hSw => by go_simp⟩) l26 ?_
                try simp only [Act.put, List.setIfInBounds_toArray, List.set_cons_zero, List.set_cons_succ, List.getElem_toArray, List.getElem_cons_succ, List.getElem_cons_zero]
                refine wpAnyH_take (i := 7) (v := .int .i64 z5) rfl (by kernel_rfl) (by kernel_rfl) (by kernel_rfl) (fun _ _ _ h => h) (Or.inl ⟨by rfl, fun w hSw => by have f0 := Tb.cell (hSw.2) n5q _ hz5; go_simp⟩) l26 ?_
                try simp only [Act.put, List.setIfInBounds_toArray, List.set_cons_zero, List.set_cons_succ, List.getElem_toArray, List.getElem_cons_succ, List.getElem_cons_zero]
                refine wpAnyH_take (i := 13) (v := .agg #[.int .i64 (n2q : Int), .int .i64 z5, .int .i64 z10]) rfl (by kernel_rfl) (by kernel_rfl) (by kernel_rfl) (fun _ _ _ h => h) (Or.inl ⟨by rfl, fun w hSw => by go_simp⟩) l26 ?_
                try simp only [Act.put, List.setIfInBounds_toArray, List.set_cons_zero, List.set_cons_succ, List.getElem_toArray, List.getElem_cons_succ, List.getElem_cons_zero]
                refine wpAnyH_ready (rs := [14]) (by kernel_rfl) (by simp) ?_
                refine AllReadyH.cons rfl (fun K hK => ?_) AllReadyH.nil
                go_simp
                have kA : (fun W => Tb q8 T4 W ∧ Tb q3 T8 W) (v26.alloc (Obj.cells #[.int .i64 (n2q : Int), .int .i64 z5, .int .i64 z10] 34)) := ⟨Tb.alloc l26.1 _, Tb.alloc l26.2 _⟩
                have GA : Hid (PaSt w b a len cap (.slice (some ⟨g, 0, none⟩) rs.length cp) rs b22a b22s (v26.alloc (Obj.cells #[.int .i64 (n2q : Int), .int .i64 z5, .int .i64 z10] 34))) := G26.out.alloc _
                have hN := heapNew v26 (Obj.cells #[.int .i64 (n2q : Int), .int .i64 z5, .int .i64 z10] 34)
                have hzz := GA.out.2.1
                refine hK.out _ _ kA (fun _ => ?_)
                clear hK K
                try simp only [Act.put, List.setIfInBounds_toArray, List.set_cons_zero, List.set_cons_succ, List.getElem_toArray, List.getElem_cons_succ, List.getElem_cons_zero]
                refine wpAnyH_ready (rs := [15]) (by kernel_rfl) (by simp) ?_
                refine AllReadyH.cons rfl (fun K hK => ?_) AllReadyH.nil
                refine step_append_lies _ rfl (.tmp 18) (.tmp 32) 23 rfl (b + 1) 34 i0 (.agg #[.int .i64 0, .int .i64 0, .int .i64 0]) 3 24 Try.underlying23 hi hi0 hi1 hi2 rfl (by decide) (.slice (some ⟨g, 0, none⟩) rs.length cp) _ _ (by simp [Act.eval]) GA.out.1 ⟨v26.heap.size, 0, none⟩ 1 1 [.int .i64 (n2q : Int), .int .i64 z5, .int .i64 z10] (by simp [Act.eval]) rfl (World.news_of_block hN) (by simp [Value.oneCell']) (by omega) (by unfold maxLen; omega) (by omega) hzz _ rfl (fun g1 cp1 w9 hown1 hgrow1 hat1 hglt1 => ?_)
                have HF : Hid (PaSt w b a len cap (.slice (some ⟨g1, 0, none⟩) (rs.length + 1) cp1) (rs ++ [⟨(n2q : Int), z5, z10⟩]) b22a b22s w9) := GA.out.push (r := ⟨(n2q : Int), z5, z10⟩) hown1 hgrow1
                have kB : (fun W => Tb q8 T4 W ∧ Tb q3 T8 W) w9 := ⟨Tb.grow kA.1 GA.out.1 hgrow1, Tb.grow kA.2 GA.out.1 hgrow1⟩
                clear hown1 hgrow1 hat1 hglt1
                refine hK.out _ _ kB (fun _ => ?_)
                clear hK K
                try simp only [Act.put, List.setIfInBounds_toArray, List.set_cons_zero, List.set_cons_succ, List.getElem_toArray, List.getElem_cons_succ, List.getElem_cons_zero]
                refine wpAnyH_take (i := 16) (v := .slice (some ⟨g1, 0, none⟩) (rs.length + 1) cp1) rfl (by kernel_rfl) (by kernel_rfl) (by kernel_rfl) (fun _ _ _ h => h) (Or.inl ⟨by rfl, fun w hSw => by go_simp⟩) kB ?_
                try simp only [Act.put, List.setIfInBounds_toArray, List.set_cons_zero, List.set_cons_succ, List.getElem_toArray, List.getElem_cons_succ, List.getElem_cons_zero]
                refine wpAnyH_done (by kernel_rfl) ?_ _
                go_wp2
                refine ⟨⟨rs ++ [⟨(n2q : Int), z5, z10⟩], k - 1, g1, cp1, b22a, b22s, day, by rw [List.length_append]; simp; omega, by simp, by go_num, rfl, fun r hr => ?_, by omega, by rw [List.length_append]; push_cast; simp; omega, by rw [List.length_append]; push_cast; simp; omega, HF.out⟩, by simp [intOf]; omega⟩
                rcases List.mem_append.1 hr with q | q
                · exact HD.out r q
                · rw [List.mem_singleton.1 q]; unfold PaD; dsimp only; omega
          · go_simp
            have k27 : (fun _ => True) (v1.alloc (Obj.cells #[.int .i64 0, .int .i64 100000, .int .i64 100001, .int .i64 (-1)] 3)) := trivial
            have m27 : Tb v1.heap.size T4 (v1.alloc (Obj.cells #[.int .i64 0, .int .i64 100000, .int .i64 100001, .int .i64 (-1)] 3)) := Tb.made _ _
            have hbq8 : b < v1.heap.size := by have := G1.out.2.1; omega
            have G27 : Hid (PaSt w b a len cap (.slice (some ⟨g, 0, none⟩) rs.length cp) rs b1a b1s (v1.alloc (Obj.cells #[.int .i64 0, .int .i64 100000, .int .i64 100001, .int .i64 (-1)] 3))) := G1.out.alloc _
            refine hK.out _ _ k27 (fun _ => ?_)
            clear hK K
            try simp only [Act.put, List.setIfInBounds_toArray, List.set_cons_zero, List.set_cons_succ, List.getElem_toArray, List.getElem_cons_succ, List.getElem_cons_zero]
            generalize (v1.alloc (Obj.cells #[.int .i64 0, .int .i64 100000, .int .i64 100001, .int .i64 (-1)] 3)) = v27 at *
            generalize v1.heap.size = q8 at *
            have l27 : (fun W => Tb q8 T4 W) v27 := m27
            refine wpAnyH_more (S' := fun W => Tb q8 T4 W) (fun _ hq => trivial) _ _ _ _ ?_
            refine wpAnyH_ready (rs := [3, 5]) (by kernel_rfl) (by simp) ?_
            refine AllReadyH.cons rfl (fun K hK => ?_) (AllReadyH.cons rfl (fun K hK => ?_) AllReadyH.nil)
            · go_simp
              have k28 : (fun W => Tb q8 T4 W) (v27.alloc (Obj.cells #[.int .i64 0, .int .i64 (-1), .int .i64 1, .int .i64 1000000, .int .i64 1000001, .int .i64 100000, .int .i64 100001, .int .i64 3] 3)) := Tb.alloc l27 _
              have m28 : Tb v27.heap.size T8 (v27.alloc (Obj.cells #[.int .i64 0, .int .i64 (-1), .int .i64 1, .int .i64 1000000, .int .i64 1000001, .int .i64 100000, .int .i64 100001, .int .i64 3] 3)) := Tb.made _ _
              have hbq3 : b < v27.heap.size := by have := G27.out.2.1; omega
              have G28 : Hid (PaSt w b a len cap (.slice (some ⟨g, 0, none⟩) rs.length cp) rs b1a b1s (v27.alloc (Obj.cells #[.int .i64 0, .int .i64 (-1), .int .i64 1, .int .i64 1000000, .int .i64 1000001, .int .i64 100000, .int .i64 100001, .int .i64 3] 3))) := G27.out.alloc _
              refine hK.out _ _ k28 (fun _ => ?_)
              clear hK K
              try simp only [Act.put, List.setIfInBounds_toArray, List.set_cons_zero, List.set_cons_succ, List.getElem_toArray, List.getElem_cons_succ, List.getElem_cons_zero]
              generalize (v27.alloc (Obj.cells #[.int .i64 0, .int .i64 (-1), .int .i64 1, .int .i64 1000000, .int .i64 1000001, .int .i64 100000, .int .i64 100001, .int .i64 3] 3)) = v28 at *
              generalize v27.heap.size = q3 at *
              have l28 : (fun W => Tb q8 T4 W ∧ Tb q3 T8 W) v28 := ⟨k28, m28⟩
              refine wpAnyH_more (S' := fun W => Tb q8 T4 W ∧ Tb q3 T8 W) (fun _ hq => hq.1) _ _ _ _ ?_
              refine wpAnyH_ready (rs := [5]) (by kernel_rfl) (by simp) ?_
              refine AllReadyH.cons rfl (fun K hK => ?_) AllReadyH.nil
              go_simp
              go_at_call 10
              refine (HNx.out _ 8 b1a b1s G28.out.2.2.2 G28.out.2.2.1 (by omega) (by omega)).mono ?_
              rintro e v29 ⟨x5q, b29a, b29s, rfl, ⟨hx5q0, hx5q1⟩, hu29, hv29, hs29, hb29, hf29⟩
              have G29 : Hid (PaSt w b a len cap (.slice (some ⟨g, 0, none⟩) rs.length cp) rs b29a b29s v29) := G28.out.draw hf29 hb29 hs29
              have k29 : (fun W => Tb q8 T4 W ∧ Tb q3 T8 W) v29 := ⟨Tb.draw l28.1 hf29 hbq8, Tb.draw l28.2 hf29 hbq3⟩
              clear hs29 hb29 hf29
              obtain ⟨n5q, rfl⟩ := Int.eq_ofNat_of_zero_le hx5q0
              have hn5q : (n5q : Int) < 8 := by omega
              refine hK.out _ _ k29 (fun _ => ?_)
              clear hK K
              try simp only [Act.put, List.setIfInBounds_toArray, List.set_cons_zero, List.set_cons_succ, List.getElem_toArray, List.getElem_cons_succ, List.getElem_cons_zero]
              obtain ⟨z5, hz5, hz5a, hz5b⟩ := tab8 n5q (by omega)
              refine wpAnyH_take (i := 6) (v := .pointer (some ⟨q3, n5q, none⟩)) rfl (by kernel_rfl) (by kernel_rfl) (by kernel_rfl) (fun _ _ _ h => h) (Or.inl ⟨by rfl, fun w hSw => by go_simp⟩) k29 ?_
              try simp only [Act.put, List.setIfInBounds_toArray, List.set_cons_zero, List.set_cons_succ, List.getElem_toArray, List.getElem_cons_succ, List.getElem_cons_zero]
              refine wpAnyH_take (i := 7) (v := .int .i64 z5) rfl (by kernel_rfl) (by kernel_rfl) (by kernel_rfl) (fun _ _ _ h => h) (Or.inl ⟨by rfl, fun w hSw => by have f0 := Tb.cell (hSw.2) n5q _ hz5; go_simp⟩) k29 ?_
              try simp only [Act.put, List.setIfInBounds_toArray, List.set_cons_zero, List.set_cons_succ, List.getElem_toArray, List.getElem_cons_succ, List.getElem_cons_zero]
              refine wpAnyH_ready (rs := [10]) (by kernel_rfl) (by simp) ?_
              refine AllReadyH.cons rfl (fun K hK => ?_) AllReadyH.nil
              go_simp
              go_at_call 10
              refine (HNx.out _ 4 b29a b29s G29.out.2.2.2 G29.out.2.2.1 (by omega) (by omega)).mono ?_
              rintro e v30 ⟨x10q, b30a, b30s, rfl, ⟨hx10q0, hx10q1⟩, hu30, hv30, hs30, hb30, hf30⟩
              have G30 : Hid (PaSt w b a len cap (.slice (some ⟨g, 0, none⟩) rs.length cp) rs b30a b30s v30) := G29.out.draw hf30 hb30 hs30
              have k30 : (fun W => Tb q8 T4 W ∧ Tb q3 T8 W) v30 := ⟨Tb.draw k29.1 hf30 hbq8, Tb.draw k29.2 hf30 hbq3⟩
              clear hs30 hb30 hf30
              obtain ⟨n10q, rfl⟩ := Int.eq_ofNat_of_zero_le hx10q0
              have hn10q : (n10q : Int) < 4 := by omega
              refine hK.out _ _ k30 (fun _ => ?_)
              clear hK K
              try simp only [Act.put, List.setIfInBounds_toArray, List.set_cons_zero, List.set_cons_succ, List.getElem_toArray, List.getElem_cons_succ, List.getElem_cons_zero]
              obtain ⟨z10, hz10, hz10a, hz10b⟩ := tab4 n10q (by omega)
              refine wpAnyH_take (i := 11) (v := .pointer (some ⟨q8, n10q, none⟩)) rfl (by kernel_rfl) (by kernel_rfl) (by kernel_rfl) (fun _ _ _ h => h) (Or.inl ⟨by rfl, fun w hSw => by go_simp⟩) k30 ?_
              try simp only [Act.put, List.setIfInBounds_toArray, List.set_cons_zero, List.set_cons_succ, List.getElem_toArray, List.getElem_cons_succ, List.getElem_cons_zero]
              refine wpAnyH_take (i := 12) (v := .int .i64 z10) rfl (by kernel_rfl) (by kernel_rfl) (by kernel_rfl) (fun _ _ _ h => h) (Or.inl ⟨by rfl, fun w hSw => by have f0 := Tb.cell (hSw.1) n10q _ hz10; go_simp⟩) k30 ?_
              try simp only [Act.put, List.setIfInBounds_toArray, List.set_cons_zero, List.set_cons_succ, List.getElem_toArray, List.getElem_cons_succ, List.getElem_cons_zero]
              refine wpAnyH_take (i := 13) (v := .agg #[.int .i64 (n2q : Int), .int .i64 z5, .int .i64 z10]) rfl (by kernel_rfl) (by kernel_rfl) (by kernel_rfl) (fun _ _ _ h => h) (Or.inl ⟨by rfl, fun w hSw => by go_simp⟩) k30 ?_
              try simp only [Act.put, List.setIfInBounds_toArray, List.set_cons_zero, List.set_cons_succ, List.getElem_toArray, List.getElem_cons_succ, List.getElem_cons_zero]
              refine wpAnyH_ready (rs := [14]) (by kernel_rfl) (by simp) ?_
              refine AllReadyH.cons rfl (fun K hK => ?_) AllReadyH.nil
              go_simp
              have kA : (fun W => Tb q8 T4 W ∧ Tb q3 T8 W) (v30.alloc (Obj.cells #[.int .i64 (n2q : Int), .int .i64 z5, .int .i64 z10] 34)) := ⟨Tb.alloc k30.1 _, Tb.alloc k30.2 _⟩
              have GA : Hid (PaSt w b a len cap (.slice (some ⟨g, 0, none⟩) rs.length cp) rs b30a b30s (v30.alloc (Obj.cells #[.int .i64 (n2q : Int), .int .i64 z5, .int .i64 z10] 34))) := G30.out.alloc _
              have hN := heapNew v30 (Obj.cells #[.int .i64 (n2q : Int), .int .i64 z5, .int .i64 z10] 34)
              have hzz := GA.out.2.1
              refine hK.out _ _ kA (fun _ => ?_)
              clear hK K
              try simp only [Act.put, List.setIfInBounds_toArray, List.set_cons_zero, List.set_cons_succ, List.getElem_toArray, List.getElem_cons_succ, List.getElem_cons_zero]
              refine wpAnyH_ready (rs := [15]) (by kernel_rfl) (by simp) ?_
              refine AllReadyH.cons rfl (fun K hK => ?_) AllReadyH.nil
              refine step_append_lies _ rfl (.tmp 18) (.tmp 32) 23 rfl (b + 1) 34 i0 (.agg #[.int .i64 0, .int .i64 0, .int .i64 0]) 3 24 Try.underlying23 hi hi0 hi1 hi2 rfl (by decide) (.slice (some ⟨g, 0, none⟩) rs.length cp) _ _ (by simp [Act.eval]) GA.out.1 ⟨v30.heap.size, 0, none⟩ 1 1 [.int .i64 (n2q : Int), .int .i64 z5, .int .i64 z10] (by simp [Act.eval]) rfl (World.news_of_block hN) (by simp [Value.oneCell']) (by omega) (by unfold maxLen; omega) (by omega) hzz _ rfl (fun g1 cp1 w9 hown1 hgrow1 hat1 hglt1 => ?_)
              have HF : Hid (PaSt w b a len cap (.slice (some ⟨g1, 0, none⟩) (rs.length + 1) cp1) (rs ++ [⟨(n2q : Int), z5, z10⟩]) b30a b30s w9) := GA.out.push (r := ⟨(n2q : Int), z5, z10⟩) hown1 hgrow1
              have kB : (fun W => Tb q8 T4 W ∧ Tb q3 T8 W) w9 := ⟨Tb.grow kA.1 GA.out.1 hgrow1, Tb.grow kA.2 GA.out.1 hgrow1⟩
              clear hown1 hgrow1 hat1 hglt1
              refine hK.out _ _ kB (fun _ => ?_)
              clear hK K
              try simp only [Act.put, List.setIfInBounds_toArray, List.set_cons_zero, List.set_cons_succ, List.getElem_toArray, List.getElem_cons_succ, List.getElem_cons_zero]
              refine wpAnyH_take (i := 16) (v := .slice (some ⟨g1, 0, none⟩) (rs.length + 1) cp1) rfl (by kernel_rfl) (by kernel_rfl) (by kernel_rfl) (fun _ _ _ h => h) (Or.inl ⟨by rfl, fun w hSw => by go_simp⟩) kB ?_
              try simp only [Act.put, List.setIfInBounds_toArray, List.set_cons_zero, List.set_cons_succ, List.getElem_toArray, List.getElem_cons_succ, List.getElem_cons_zero]
              refine wpAnyH_done (by kernel_rfl) ?_ _
              go_wp2
              refine ⟨⟨rs ++ [⟨(n2q : Int), z5, z10⟩], k - 1, g1, cp1, b30a, b30s, day, by rw [List.length_append]; simp; omega, by simp, by go_num, rfl, fun r hr => ?_, by omega, by rw [List.length_append]; push_cast; simp; omega, by rw [List.length_append]; push_cast; simp; omega, HF.out⟩, by simp [intOf]; omega⟩
              rcases List.mem_append.1 hr with q | q
              · exact HD.out r q
              · rw [List.mem_singleton.1 q]; unfold PaD; dsimp only; omega
            · go_simp
              go_at_call 10
              refine (HNx.out _ 8 b1a b1s G27.out.2.2.2 G27.out.2.2.1 (by omega) (by omega)).mono ?_
              rintro e v31 ⟨x5q, b31a, b31s, rfl, ⟨hx5q0, hx5q1⟩, hu31, hv31, hs31, hb31, hf31⟩
              have G31 : Hid (PaSt w b a len cap (.slice (some ⟨g, 0, none⟩) rs.length cp) rs b31a b31s v31) := G27.out.draw hf31 hb31 hs31
              have k31 : (fun W => Tb q8 T4 W) v31 := Tb.draw l27 hf31 hbq8
              clear hs31 hb31 hf31
              obtain ⟨n5q, rfl⟩ := Int.eq_ofNat_of_zero_le hx5q0
              have hn5q : (n5q : Int) < 8 := by omega
              refine hK.out _ _ k31 (fun _ => ?_)
              clear hK K
              try simp only [Act.put, List.setIfInBounds_toArray, List.set_cons_zero, List.set_cons_succ, List.getElem_toArray, List.getElem_cons_succ, List.getElem_cons_zero]
              refine wpAnyH_ready (rs := [3, 10]) (by kernel_rfl) (by simp) ?_
              refine AllReadyH.cons rfl (fun K hK => ?_) (AllReadyH.cons rfl (fun K hK => ?_) AllReadyH.nil)
              · go_simp
                have k32 : (fun W => Tb q8 T4 W) (v31.alloc (Obj.cells #[.int .i64 0, .int .i64 (-1), .int .i64 1, .int .i64 1000000, .int .i64 1000001, .int .i64 100000, .int .i64 100001, .int .i64 3] 3)) := Tb.alloc k31 _
                have m32 : Tb v31.heap.size T8 (v31.alloc (Obj.cells #[.int .i64 0, .int .i64 (-1), .int .i64 1, .int .i64 1000000, .int .i64 1000001, .int .i64 100000, .int .i64 100001, .int .i64 3] 3)) := Tb.made _ _
                have hbq3 : b < v31.heap.size := by have := G31.out.2.1; omega
                have G32 : Hid (PaSt w b a len cap (.slice (some ⟨g, 0, none⟩) rs.length cp) rs b31a b31s (v31.alloc (Obj.cells #[.int .i64 0, .int .i64 (-1), .int .i64 1, .int .i64 1000000, .int .i64 1000001, .int .i64 100000, .int .i64 100001, .int .i64 3] 3))) := G31.out.alloc _
                refine hK.out _ _ k32 (fun _ => ?_)
                clear hK K
                try simp only [Act.put, List.setIfInBounds_toArray, List.set_cons_zero, List.set_cons_succ, List.getElem_toArray, List.getElem_cons_succ, List.getElem_cons_zero]
                generalize (v31.alloc (Obj.cells #[.int .i64 0, .int .i64 (-1), .int .i64 1, .int .i64 1000000, .int .i64 1000001, .int .i64 100000, .int .i64 100001, .int .i64 3] 3)) = v32 at *
                generalize v31.heap.size = q3 at *
                have l32 : (fun W => Tb q8 T4 W ∧ Tb q3 T8 W) v32 := ⟨k32, m32⟩
                refine wpAnyH_more (S' := fun W => Tb q8 T4 W ∧ Tb q3 T8 W) (fun _ hq => hq.1) _ _ _ _ ?_
                obtain ⟨z5, hz5, hz5a, hz5b⟩ := tab8 n5q (by omega)
                refine wpAnyH_take (i := 6) (v := .pointer (some ⟨q3, n5q, none⟩)) rfl (by kernel_rfl) (by kernel_rfl) (by kernel_rfl) (fun _ _ _ h => h) (Or.inl ⟨by rfl, fun w hSw => by go_simp⟩) l32 ?_
                try simp only [Act.put, List.setIfInBounds_toArray, List.set_cons_zero, List.set_cons_succ, List.getElem_toArray, List.getElem_cons_succ, List.getElem_cons_zero]
                refine wpAnyH_take (i := 7) (v := .int .i64 z5) rfl (by kernel_rfl) (by kernel_rfl) (by kernel_rfl) (fun _ _ _ h => h) (Or.inl ⟨by rfl, fun w hSw => by have f0 := Tb.cell (hSw.2) n5q _ hz5; go_simp⟩) l32 ?_
                try simp only [Act.put, List.setIfInBounds_toArray, List.set_cons_zero, List.set_cons_succ, List.getElem_toArray, List.getElem_cons_succ, List.getElem_cons_zero]
                refine wpAnyH_ready (rs := [10]) (by kernel_rfl) (by simp) ?_
                refine AllReadyH.cons rfl (fun K hK => ?_) AllReadyH.nil
                go_simp
                go_at_call 10
                refine (HNx.out _ 4 b31a b31s G32.out.2.2.2 G32.out.2.2.1 (by omega) (by omega)).mono ?_
                rintro e v33 ⟨x10q, b33a, b33s, rfl, ⟨hx10q0, hx10q1⟩, hu33, hv33, hs33, hb33, hf33⟩
                have G33 : Hid (PaSt w b a len cap (.slice (some ⟨g, 0, none⟩) rs.length cp) rs b33a b33s v33) := G32.out.draw hf33 hb33 hs33
                have k33 : (fun W => Tb q8 T4 W ∧ Tb q3 T8 W) v33 := ⟨Tb.draw l32.1 hf33 hbq8, Tb.draw l32.2 hf33 hbq3⟩
                clear hs33 hb33 hf33
                obtain ⟨n10q, rfl⟩ := Int.eq_ofNat_of_zero_le hx10q0
                have hn10q : (n10q : Int) < 4 := by omega
                refine hK.out _ _ k33 (fun _ => ?_)
                clear hK K
                try simp only [Act.put, List.setIfInBounds_toArray, List.set_cons_zero, List.set_cons_succ, List.getElem_toArray, List.getElem_cons_succ, List.getElem_cons_zero]
                obtain ⟨z10, hz10, hz10a, hz10b⟩ := tab4 n10q (by omega)
                refine wpAnyH_take (i := 11) (v := .pointer (some ⟨q8, n10q, none⟩)) rfl (by kernel_rfl) (by kernel_rfl) (by kernel_rfl) (fun _ _ _ h => h) (Or.inl ⟨by rfl, fun w hSw => by go_simp⟩) k33 ?_
                try simp only [Act.put, List.setIfInBounds_toArray, List.set_cons_zero, List.set_cons_succ, List.getElem_toArray, List.getElem_cons_succ, List.getElem_cons_zero]
                refine wpAnyH_take (i := 12) (v := .int .i64 z10) rfl (by kernel_rfl) (by kernel_rfl) (by kernel_rfl) (fun _ _ _ h => h) (Or.inl ⟨by rfl, fun w hSw => by have f0 := Tb.cell (hSw.1) n10q _ hz10; go_simp⟩) k33 ?_
                try simp only [Act.put, List.setIfInBounds_toArray, List.set_cons_zero, List.set_cons_succ, List.getElem_toArray, List.getElem_cons_succ, List.getElem_cons_zero]
                refine wpAnyH_take (i := 13) (v := .agg #[.int .i64 (n2q : Int), .int .i64 z5, .int .i64 z10]) rfl (by kernel_rfl) (by kernel_rfl) (by kernel_rfl) (fun _ _ _ h => h) (Or.inl ⟨by rfl, fun w hSw => by go_simp⟩) k33 ?_
                try simp only [Act.put, List.setIfInBounds_toArray, List.set_cons_zero, List.set_cons_succ, List.getElem_toArray, List.getElem_cons_succ, List.getElem_cons_zero]
                refine wpAnyH_ready (rs := [14]) (by kernel_rfl) (by simp) ?_
                refine AllReadyH.cons rfl (fun K hK => ?_) AllReadyH.nil
                go_simp
                have kA : (fun W => Tb q8 T4 W ∧ Tb q3 T8 W) (v33.alloc (Obj.cells #[.int .i64 (n2q : Int), .int .i64 z5, .int .i64 z10] 34)) := ⟨Tb.alloc k33.1 _, Tb.alloc k33.2 _⟩
                have GA : Hid (PaSt w b a len cap (.slice (some ⟨g, 0, none⟩) rs.length cp) rs b33a b33s (v33.alloc (Obj.cells #[.int .i64 (n2q : Int), .int .i64 z5, .int .i64 z10] 34))) := G33.out.alloc _
                have hN := heapNew v33 (Obj.cells #[.int .i64 (n2q : Int), .int .i64 z5, .int .i64 z10] 34)
                have hzz := GA.out.2.1
                refine hK.out _ _ kA (fun _ => ?_)
                clear hK K
                try simp only [Act.put, List.setIfInBounds_toArray, List.set_cons_zero, List.set_cons_succ, List.getElem_toArray, List.getElem_cons_succ, List.getElem_cons_zero]
                refine wpAnyH_ready (rs := [15]) (by kernel_rfl) (by simp) ?_
                refine AllReadyH.cons rfl (fun K hK => ?_) AllReadyH.nil
                refine step_append_lies _ rfl (.tmp 18) (.tmp 32) 23 rfl (b + 1) 34 i0 (.agg #[.int .i64 0, .int .i64 0, .int .i64 0]) 3 24 Try.underlying23 hi hi0 hi1 hi2 rfl (by decide) (.slice (some ⟨g, 0, none⟩) rs.length cp) _ _ (by simp [Act.eval]) GA.out.1 ⟨v33.heap.size, 0, none⟩ 1 1 [.int .i64 (n2q : Int), .int .i64 z5, .int .i64 z10] (by simp [Act.eval]) rfl (World.news_of_block hN) (by simp [Value.oneCell']) (by omega) (by unfold maxLen; omega) (by omega) hzz _ rfl (fun g1 cp1 w9 hown1 hgrow1 hat1 hglt1 => ?_)
                have HF : Hid (PaSt w b a len cap (.slice (some ⟨g1, 0, none⟩) (rs.length + 1) cp1) (rs ++ [⟨(n2q : Int), z5, z10⟩]) b33a b33s w9) := GA.out.push (r := ⟨(n2q : Int), z5, z10⟩) hown1 hgrow1
                have kB : (fun W => Tb q8 T4 W ∧ Tb q3 T8 W) w9 := ⟨Tb.grow kA.1 GA.out.1 hgrow1, Tb.grow kA.2 GA.out.1 hgrow1⟩
                clear hown1 hgrow1 hat1 hglt1
                refine hK.out _ _ kB (fun _ => ?_)
                clear hK K
                try simp only [Act.put, List.setIfInBounds_toArray, List.set_cons_zero, List.set_cons_succ, List.getElem_toArray, List.getElem_cons_succ, List.getElem_cons_zero]
                refine wpAnyH_take (i := 16) (v := .slice (some ⟨g1, 0, none⟩) (rs.length + 1) cp1) rfl (by kernel_rfl) (by kernel_rfl) (by kernel_rfl) (fun _ _ _ h => h) (Or.inl ⟨by rfl, fun w hSw => by go_simp⟩) kB ?_
                try simp only [Act.put, List.setIfInBounds_toArray, List.set_cons_zero, List.set_cons_succ, List.getElem_toArray, List.getElem_cons_succ, List.getElem_cons_zero]
                refine wpAnyH_done (by kernel_rfl) ?_ _
                go_wp2
                refine ⟨⟨rs ++ [⟨(n2q : Int), z5, z10⟩], k - 1, g1, cp1, b33a, b33s, day, by rw [List.length_append]; simp; omega, by simp, by go_num, rfl, fun r hr => ?_, by omega, by rw [List.length_append]; push_cast; simp; omega, by rw [List.length_append]; push_cast; simp; omega, HF.out⟩, by simp [intOf]; omega⟩
                rcases List.mem_append.1 hr with q | q
                · exact HD.out r q
                · rw [List.mem_singleton.1 q]; unfold PaD; dsimp only; omega
              · go_simp
                go_at_call 10
                refine (HNx.out _ 4 b31a b31s G31.out.2.2.2 G31.out.2.2.1 (by omega) (by omega)).mono ?_
                rintro e v34 ⟨x10q, b34a, b34s, rfl, ⟨hx10q0, hx10q1⟩, hu34, hv34, hs34, hb34, hf34⟩
                have G34 : Hid (PaSt w b a len cap (.slice (some ⟨g, 0, none⟩) rs.length cp) rs b34a b34s v34) := G31.out.draw hf34 hb34 hs34
                have k34 : (fun W => Tb q8 T4 W) v34 := Tb.draw k31 hf34 hbq8
                clear hs34 hb34 hf34
                obtain ⟨n10q, rfl⟩ := Int.eq_ofNat_of_zero_le hx10q0
                have hn10q : (n10q : Int) < 4 := by omega
                refine hK.out _ _ k34 (fun _ => ?_)
                clear hK K
                try simp only [Act.put, List.setIfInBounds_toArray, List.set_cons_zero, List.set_cons_succ, List.getElem_toArray, List.getElem_cons_succ, List.getElem_cons_zero]
                obtain ⟨z10, hz10, hz10a, hz10b⟩ := tab4 n10q (by omega)
                refine wpAnyH_take (i := 11) (v := .pointer (some ⟨q8, n10q, none⟩)) rfl (by kernel_rfl) (by kernel_rfl) (by kernel_rfl) (fun _ _ _ h => h) (Or.inl ⟨by rfl, fun w hSw => by go_simp⟩) k34 ?_
                try simp only [Act.put, List.setIfInBounds_toArray, List.set_cons_zero, List.set_cons_succ, List.getElem_toArray, List.getElem_cons_succ, List.getElem_cons_zero]
                refine wpAnyH_take (i := 12) (v := .int .i64 z10) rfl (by kernel_rfl) (by kernel_rfl) (by kernel_rfl) (fun _ _ _ h => h) (Or.inl ⟨by rfl, fun w hSw => by have f0 := Tb.cell (hSw) n10q _ hz10; go_simp⟩) k34 ?_
                try simp only [Act.put, List.setIfInBounds_toArray, List.set_cons_zero, List.set_cons_succ, List.getElem_toArray, List.getElem_cons_succ, List.getElem_cons_zero]
                refine wpAnyH_ready (rs := [3]) (by kernel_rfl) (by simp) ?_
                refine AllReadyH.cons rfl (fun K hK => ?_) AllReadyH.nil
                go_simp
                have k35 : (fun W => Tb q8 T4 W) (v34.alloc (Obj.cells #[.int .i64 0, .int .i64 (-1), .int .i64 1, .int .i64 1000000, .int .i64 1000001, .int .i64 100000, .int .i64 100001, .int .i64 3] 3)) := Tb.alloc k34 _
                have m35 : Tb v34.heap.size T8 (v34.alloc (Obj.cells #[.int .i64 0, .int .i64 (-1), .int .i64 1, .int .i64 1000000, .int .i64 1000001, .int .i64 100000, .int .i64 100001, .int .i64 3] 3)) := Tb.made _ _
                have hbq3 : b < v34.heap.size := by have := G34.out.2.1; omega
                have G35 : Hid (PaSt w b a len cap (.slice (some ⟨g, 0, none⟩) rs.length cp) rs b34a b34s (v34.alloc (Obj.cells #[.int .i64 0, .int .i64 (-1), .int .i64 1, .int .i64 1000000, .int .i64 1000001, .int .i64 100000, .int .i64 100001, .int .i64 3] 3))) := G34.out.alloc _
                refine hK.out _ _ k35 (fun _ => ?_)
                clear hK K
                try simp only [Act.put, List.setIfInBounds_toArray, List.set_cons_zero, List.set_cons_succ, List.getElem_toArray, List.getElem_cons_succ, List.getElem_cons_zero]
                generalize (v34.alloc (Obj.cells #[.int .i64 0, .int .i64 (-1), .int .i64 1, .int .i64 1000000, .int .i64 1000001, .int .i64 100000, .int .i64 100001, .int .i64 3] 3)) = v35 at *
                generalize v34.heap.size = q3 at *
                have l35 : (fun W => Tb q8 T4 W ∧ Tb q3 T8 W) v35 := ⟨k35, m35⟩
                refine wpAnyH_more (S' := fun W => Tb q8 T4 W ∧ Tb q3 T8 W) (fun _ hq => hq.1) _ _ _ _ ?_
                obtain ⟨z5, hz5, hz5a, hz5b⟩ := tab8 n5q (by omega)
                refine wpAnyH_take (i := 6) (v := .pointer (some ⟨q3, n5q, none⟩)) rfl (by kernel_rfl) (by kernel_rfl) (by kernel_rfl) (fun _ _ _ h => h) (Or.inl ⟨by rfl, fun w hSw => by go_simp⟩) l35 ?_
                try simp only [Act.put, List.setIfInBounds_toArray, List.set_cons_zero, List.set_cons_succ, List.getElem_toArray, List.getElem_cons_succ, List.getElem_cons_zero]
                refine wpAnyH_take (i := 7) (v := .int .i64 z5) rfl (by kernel_rfl) (by kernel_rfl) (by kernel_rfl) (fun _ _ _ h => h) (Or.inl ⟨by rfl, fun w hSw => by have f0 := Tb.cell (hSw.2) n5q _ hz5; go_simp⟩) l35 ?_
                try simp only [Act.put, List.setIfInBounds_toArray, List.set_cons_zero, List.set_cons_succ, List.getElem_toArray, List.getElem_cons_succ, List.getElem_cons_zero]
                refine wpAnyH_take (i := 13) (v := .agg #[.int .i64 (n2q : Int), .int .i64 z5, .int .i64 z10]) rfl (by kernel_rfl) (by kernel_rfl) (by kernel_rfl) (fun _ _ _ h => h) (Or.inl ⟨by rfl, fun w hSw => by go_simp⟩) l35 ?_
                try simp only [Act.put, List.setIfInBounds_toArray, List.set_cons_zero, List.set_cons_succ, List.getElem_toArray, List.getElem_cons_succ, List.getElem_cons_zero]
                refine wpAnyH_ready (rs := [14]) (by kernel_rfl) (by simp) ?_
                refine AllReadyH.cons rfl (fun K hK => ?_) AllReadyH.nil
                go_simp
                have kA : (fun W => Tb q8 T4 W ∧ Tb q3 T8 W) (v35.alloc (Obj.cells #[.int .i64 (n2q : Int), .int .i64 z5, .int .i64 z10] 34)) := ⟨Tb.alloc l35.1 _, Tb.alloc l35.2 _⟩
                have GA : Hid (PaSt w b a len cap (.slice (some ⟨g, 0, none⟩) rs.length cp) rs b34a b34s (v35.alloc (Obj.cells #[.int .i64 (n2q : Int), .int .i64 z5, .int .i64 z10] 34))) := G35.out.alloc _
                have hN := heapNew v35 (Obj.cells #[.int .i64 (n2q : Int), .int .i64 z5, .int .i64 z10] 34)
                have hzz := GA.out.2.1
                refine hK.out _ _ kA (fun _ => ?_)
                clear hK K
                try simp only [Act.put, List.setIfInBounds_toArray, List.set_cons_zero, List.set_cons_succ, List.getElem_toArray, List.getElem_cons_succ, List.getElem_cons_zero]
                refine wpAnyH_ready (rs := [15]) (by kernel_rfl) (by simp) ?_
                refine AllReadyH.cons rfl (fun K hK => ?_) AllReadyH.nil
                refine step_append_lies _ rfl (.tmp 18) (.tmp 32) 23 rfl (b + 1) 34 i0 (.agg #[.int .i64 0, .int .i64 0, .int .i64 0]) 3 24 Try.underlying23 hi hi0 hi1 hi2 rfl (by decide) (.slice (some ⟨g, 0, none⟩) rs.length cp) _ _ (by simp [Act.eval]) GA.out.1 ⟨v35.heap.size, 0, none⟩ 1 1 [.int .i64 (n2q : Int), .int .i64 z5, .int .i64 z10] (by simp [Act.eval]) rfl (World.news_of_block hN) (by simp [Value.oneCell']) (by omega) (by unfold maxLen; omega) (by omega) hzz _ rfl (fun g1 cp1 w9 hown1 hgrow1 hat1 hglt1 => ?_)
                have HF : Hid (PaSt w b a len cap (.slice (some ⟨g1, 0, none⟩) (rs.length + 1) cp1) (rs ++ [⟨(n2q : Int), z5, z10⟩]) b34a b34s w9) := GA.out.push (r := ⟨(n2q : Int), z5, z10⟩) hown1 hgrow1
                have kB : (fun W => Tb q8 T4 W ∧ Tb q3 T8 W) w9 := ⟨Tb.grow kA.1 GA.out.1 hgrow1, Tb.grow kA.2 GA.out.1 hgrow1⟩
                clear hown1 hgrow1 hat1 hglt1
                refine hK.out _ _ kB (fun _ => ?_)
                clear hK K
                try simp only [Act.put, List.setIfInBounds_toArray, List.set_cons_zero, List.set_cons_succ, List.getElem_toArray, List.getElem_cons_succ, List.getElem_cons_zero]
                refine wpAnyH_take (i := 16) (v := .slice (some ⟨g1, 0, none⟩) (rs.length + 1) cp1) rfl (by kernel_rfl) (by kernel_rfl) (by kernel_rfl) (fun _ _ _ h => h) (Or.inl ⟨by rfl, fun w hSw => by go_simp⟩) kB ?_
                try simp only [Act.put, List.setIfInBounds_toArray, List.set_cons_zero, List.set_cons_succ, List.getElem_toArray, List.getElem_cons_succ, List.getElem_cons_zero]
                refine wpAnyH_done (by kernel_rfl) ?_ _
                go_wp2
                refine ⟨⟨rs ++ [⟨(n2q : Int), z5, z10⟩], k - 1, g1, cp1, b34a, b34s, day, by rw [List.length_append]; simp; omega, by simp, by go_num, rfl, fun r hr => ?_, by omega, by rw [List.length_append]; push_cast; simp; omega, by rw [List.length_append]; push_cast; simp; omega, HF.out⟩, by simp [intOf]; omega⟩
                rcases List.mem_append.1 hr with q | q
                · exact HD.out r q
                · rw [List.mem_singleton.1 q]; unfold PaD; dsimp only; omega
        · go_simp
          have k36 : (fun _ => True) (w4d.alloc (Obj.cells #[.int .i64 0, .int .i64 (-1), .int .i64 1, .int .i64 1000000, .int .i64 1000001, .int .i64 100000, .int .i64 100001, .int .i64 3] 3)) := trivial
          have m36 : Tb w4d.heap.size T8 (w4d.alloc (Obj.cells #[.int .i64 0, .int .i64 (-1), .int .i64 1, .int .i64 1000000, .int .i64 1000001, .int .i64 100000, .int .i64 100001, .int .i64 3] 3)) := Tb.made _ _
          have hbq3 : b < w4d.heap.size := by have := H4d.out.2.1; omega
          have G36 : Hid (PaSt w b a len cap (.slice (some ⟨g, 0, none⟩) rs.length cp) rs a4 s4 (w4d.alloc (Obj.cells #[.int .i64 0, .int .i64 (-1), .int .i64 1, .int .i64 1000000, .int .i64 1000001, .int .i64 100000, .int .i64 100001, .int .i64 3] 3))) := H4d.out.alloc _
          refine hK.out _ _ k36 (fun _ => ?_)
          clear hK K
          try simp only [Act.put, List.setIfInBounds_toArray, List.set_cons_zero, List.set_cons_succ, List.getElem_toArray, List.getElem_cons_succ, List.getElem_cons_zero]
          generalize (w4d.alloc (Obj.cells #[.int .i64 0, .int .i64 (-1), .int .i64 1, .int .i64 1000000, .int .i64 1000001, .int .i64 100000, .int .i64 100001, .int .i64 3] 3)) = v36 at *
          generalize w4d.heap.size = q3 at *
          have l36 : (fun W => Tb q3 T8 W) v36 := m36
          refine wpAnyH_more (S' := fun W => Tb q3 T8 W) (fun _ hq => trivial) _ _ _ _ ?_
          refine wpAnyH_ready (rs := [2, 8]) (by kernel_rfl) (by simp) ?_
          refine AllReadyH.cons rfl (fun K hK => ?_) (AllReadyH.cons rfl (fun K hK => ?_) AllReadyH.nil)
          · go_simp
            go_at_call 10
            refine (HNx.out _ 6 a4 s4 G36.out.2.2.2 G36.out.2.2.1 (by omega) (by omega)).mono ?_
            rintro e v37 ⟨x2q, b37a, b37s, rfl, ⟨hx2q0, hx2q1⟩, hu37, hv37, hs37, hb37, hf37⟩
            have G37 : Hid (PaSt w b a len cap (.slice (some ⟨g, 0, none⟩) rs.length cp) rs b37a b37s v37) := G36.out.draw hf37 hb37 hs37
            have k37 : (fun W => Tb q3 T8 W) v37 := Tb.draw l36 hf37 hbq3
            clear hs37 hb37 hf37
            obtain ⟨n2q, rfl⟩ := Int.eq_ofNat_of_zero_le hx2q0
            have hn2q : (n2q : Int) < 6 := by omega
            refine hK.out _ _ k37 (fun _ => ?_)
            clear hK K
            try simp only [Act.put, List.setIfInBounds_toArray, List.set_cons_zero, List.set_cons_succ, List.getElem_toArray, List.getElem_cons_succ, List.getElem_cons_zero]
            refine wpAnyH_ready (rs := [5, 8]) (by kernel_rfl) (by simp) ?_
            refine AllReadyH.cons rfl (fun K hK => ?_) (AllReadyH.cons rfl (fun K hK => ?_) AllReadyH.nil)
            · go_simp
              go_at_call 10
              refine (HNx.out _ 8 b37a b37s G37.out.2.2.2 G37.out.2.2.1 (by omega) (by omega)).mono ?_
              rintro e v38 ⟨x5q, b38a, b38s, rfl, ⟨hx5q0, hx5q1⟩, hu38, hv38, hs38, hb38, hf38⟩
              have G38 : Hid (PaSt w b a len cap (.slice (some ⟨g, 0, none⟩) rs.length cp) rs b38a b38s v38) := G37.out.draw hf38 hb38 hs38
              have k38 : (fun W => Tb q3 T8 W) v38 := Tb.draw k37 hf38 hbq3
              clear hs38 hb38 hf38
              obtain ⟨n5q, rfl⟩ := Int.eq_ofNat_of_zero_le hx5q0
              have hn5q : (n5q : Int) < 8 := by omega
              refine hK.out _ _ k38 (fun _ => ?_)
              clear hK K
              try simp only [Act.put, List.setIfInBounds_toArray, List.set_cons_zero, List.set_cons_succ, List.getElem_toArray, List.getElem_cons_succ, List.getElem_cons_zero]
              obtain ⟨z5, hz5, hz5a, hz5b⟩ := tab8 n5q (by omega)
              refine wpAnyH_take (i := 6) (v := .pointer (some ⟨q3, n5q, none⟩)) rfl (by kernel_rfl) (by kernel_rfl) (by kernel_rfl) (fun _ _ _ h => h) (Or.inl ⟨by rfl, fun w hSw => by go_simp⟩) k38 ?_
              try simp only [Act.put, List.setIfInBounds_toArray, List.set_cons_zero, List.set_cons_succ, List.getElem_toArray, List.getElem_cons_succ, List.getElem_cons_zero]
              refine wpAnyH_take (i := 7) (v := .int .i64 z5) rfl (by kernel_rfl) (by kernel_rfl) (by kernel_rfl) (fun _ _ _ h => h) (Or.inl ⟨by rfl, fun w hSw => by have f0 := Tb.cell (hSw) n5q _ hz5; go_simp⟩) k38 ?_
              try simp only [Act.put, List.setIfInBounds_toArray, List.set_cons_zero, List.set_cons_succ, List.getElem_toArray, List.getElem_cons_succ, List.getElem_cons_zero]
              refine wpAnyH_ready (rs := [8, 10]) (by kernel_rfl) (by simp) ?_
              refine AllReadyH.cons rfl (fun K hK => ?_) (AllReadyH.cons rfl (fun K hK => ?_) AllReadyH.nil)
              · go_simp
                have k39 : (fun W => Tb q3 T8 W) (v38.alloc (Obj.cells #[.int .i64 0, .int .i64 100000, .int .i64 100001, .int .i64 (-1)] 3)) := Tb.alloc k38 _
                have m39 : Tb v38.heap.size T4 (v38.alloc (Obj.cells #[.int .i64 0, .int .i64 100000, .int .i64 100001, .int .i64 (-1)] 3)) := Tb.made _ _
                have hbq8 : b < v38.heap.size := by have := G38.out.2.1; omega
                have G39 : Hid (PaSt w b a len cap (.slice (some ⟨g, 0, none⟩) rs.length cp) rs b38a b38s (v38.alloc (Obj.cells #[.int .i64 0, .int .i64 100000, .int .i64 100001, .int .i64 (-1)] 3))) := G38.out.alloc _
                refine hK.out _ _ k39 (fun _ => ?_)
                clear hK K
                try simp only [Act.put, List.setIfInBounds_toArray, List.set_cons_zero, List.set_cons_succ, List.getElem_toArray, List.getElem_cons_succ, List.getElem_cons_zero]
                generalize (v38.alloc (Obj.cells #[.int .i64 0, .int .i64 100000, .int .i64 100001, .int .i64 (-1)] 3)) = v39 at *
                generalize v38.heap.size = q8 at *
                have l39 : (fun W => Tb q3 T8 W ∧ Tb q8 T4 W) v39 := ⟨k39, m39⟩
                refine wpAnyH_more (S' := fun W => Tb q3 T8 W ∧ Tb q8 T4 W) (fun _ hq => hq.1) _ _ _ _ ?_
                refine wpAnyH_ready (rs := [10]) (by kernel_rfl) (by simp) ?_
                refine AllReadyH.cons rfl (fun K hK => ?_) AllReadyH.nil
                go_simp
                go_at_call 10
                refine (HNx.out _ 4 b38a b38s G39.out.2.2.2 G39.out.2.2.1 (by omega) (by omega)).mono ?_
                rintro e v40 ⟨x10q, b40a, b40s, rfl, ⟨hx10q0, hx10q1⟩, hu40, hv40, hs40, hb40, hf40⟩
                have G40 : Hid (PaSt w b a len cap (.slice (some ⟨g, 0, none⟩) rs.length cp) rs b40a b40s v40) := G39.out.draw hf40 hb40 hs40
                have k40 : (fun W => Tb q3 T8 W ∧ Tb q8 T4 W) v40 := ⟨Tb.draw l39.1 hf40 hbq3, Tb.draw l39.2 hf40 hbq8⟩
                clear hs40 hb40 hf40
                obtain ⟨n10q, rfl⟩ := Int.eq_ofNat_of_zero_le hx10q0
                have hn10q : (n10q : Int) < 4 := by omega
                refine hK.out _ _ k40 (fun _ => ?_)
                clear hK K
                try simp only [Act.put, List.setIfInBounds_toArray, List.set_cons_zero, List.set_cons_succ, List.getElem_toArray, List.getElem_cons_succ, List.getElem_cons_zero]
                obtain ⟨z10, hz10, hz10a, hz10b⟩ := tab4 n10q (by omega)
                refine wpAnyH_take (i := 11) (v := .pointer (some ⟨q8, n10q, none⟩)) rfl (by kernel_rfl) (by kernel_rfl) (by kernel_rfl) (fun _ _ _ h => h) (Or.inl ⟨by rfl, fun w hSw => by go_simp⟩) k40 ?_
                try simp only [Act.put, List.setIfInBounds_toArray, List.set_cons_zero, List.set_cons_succ, List.getElem_toArray, List.getElem_cons_succ, List.getElem_cons_zero]
                refine wpAnyH_take (i := 12) (v := .int .i64 z10) rfl (by kernel_rfl) (by kernel_rfl) (by kernel_rfl) (fun _ _ _ h => h) (Or.inl ⟨by rfl, fun w hSw => by have f0 := Tb.cell (hSw.2) n10q _ hz10; go_simp⟩) k40 ?_
                try simp only [Act.put, List.setIfInBounds_toArray, List.set_cons_zero, List.set_cons_succ, List.getElem_toArray, List.getElem_cons_succ, List.getElem_cons_zero]
                refine wpAnyH_take (i := 13) (v := .agg #[.int .i64 (n2q : Int), .int .i64 z5, .int .i64 z10]) rfl (by kernel_rfl) (by kernel_rfl) (by kernel_rfl) (fun _ _ _ h => h) (Or.inl ⟨by rfl, fun w hSw => by go_simp⟩) k40 ?_
                try simp only [Act.put, List.setIfInBounds_toArray, List.set_cons_zero, List.set_cons_succ, List.getElem_toArray, List.getElem_cons_succ, List.getElem_cons_zero]
                refine wpAnyH_ready (rs := [14]) (by kernel_rfl) (by simp) ?_
                refine AllReadyH.cons rfl (fun K hK => ?_) AllReadyH.nil
                go_simp
                have kA : (fun W => Tb q3 T8 W ∧ Tb q8 T4 W) (v40.alloc (Obj.cells #[.int .i64 (n2q : Int), .int .i64 z5, .int .i64 z10] 34)) := ⟨Tb.alloc k40.1 _, Tb.alloc k40.2 _⟩
                have GA : Hid (PaSt w b a len cap (.slice (some ⟨g, 0, none⟩) rs.length cp) rs b40a b40s (v40.alloc (Obj.cells #[.int .i64 (n2q : Int), .int .i64 z5, .int .i64 z10] 34))) := G40.out.alloc _
                have hN := heapNew v40 (Obj.cells #[.int .i64 (n2q : Int), .int .i64 z5, .int .i64 z10] 34)
                have hzz := GA.out.2.1
                refine hK.out _ _ kA (fun _ => ?_)
                clear hK K
                try simp only [Act.put, List.setIfInBounds_toArray, List.set_cons_zero, List.set_cons_succ, List.getElem_toArray, List.getElem_cons_succ, List.getElem_cons_zero]
                refine wpAnyH_ready (rs := [15]) (by kernel_rfl) (by simp) ?_
                refine AllReadyH.cons rfl (fun K hK => ?_) AllReadyH.nil
                refine step_append_lies _ rfl (.tmp 18) (.tmp 32) 23 rfl (b + 1) 34 i0 (.agg #[.int .i64 0, .int .i64 0, .int .i64 0]) 3 24 Try.underlying23 hi hi0 hi1 hi2 rfl (by decide) (.slice (some ⟨g, 0, none⟩) rs.length cp) _ _ (by simp [Act.eval]) GA.out.1 ⟨v40.heap.size, 0, none⟩ 1 1 [.int .i64 (n2q : Int), .int .i64 z5, .int .i64 z10] (by simp [Act.eval]) rfl (World.news_of_block hN) (by simp [Value.oneCell']) (by omega) (by unfold maxLen; omega) (by omega) hzz _ rfl (fun g1 cp1 w9 hown1 hgrow1 hat1 hglt1 => ?_)
                have HF : Hid (PaSt w b a len cap (.slice (some ⟨g1, 0, none⟩) (rs.length + 1) cp1) (rs ++ [⟨(n2q : Int), z5, z10⟩]) b40a b40s w9) := GA.out.push (r := ⟨(n2q : Int), z5, z10⟩) hown1 hgrow1
                have kB : (fun W => Tb q3 T8 W ∧ Tb q8 T4 W) w9 := ⟨Tb.grow kA.1 GA.out.1 hgrow1, Tb.grow kA.2 GA.out.1 hgrow1⟩
                clear hown1 hgrow1 hat1 hglt1
                refine hK.out _ _ kB (fun _ => ?_)
                clear hK K
                try simp only [Act.put, List.setIfInBounds_toArray, List.set_cons_zero, List.set_cons_succ, List.getElem_toArray, List.getElem_cons_succ, List.getElem_cons_zero]
                refine wpAnyH_take (i := 16) (v := .slice (some ⟨g1, 0, none⟩) (rs.length + 1) cp1) rfl (by kernel_rfl) (by kernel_rfl) (by kernel_rfl) (fun _ _ _ h => h) (Or.inl ⟨by rfl, fun w hSw => by go_simp⟩) kB ?_
                try simp only [Act.put, List.setIfInBounds_toArray, List.set_cons_zero, List.set_cons_succ, List.getElem_toArray, List.getElem_cons_succ, List.getElem_cons_zero]
                refine wpAnyH_done (by kernel_rfl) ?_ _
                go_wp2
                refine ⟨⟨rs ++ [⟨(n2q : Int), z5, z10⟩], k - 1, g1, cp1, b40a, b40s, day, by rw [List.length_append]; simp; omega, by simp, by go_num, rfl, fun r hr => ?_, by omega, by rw [List.length_append]; push_cast; simp; omega, by rw [List.length_append]; push_cast; simp; omega, HF.out⟩, by simp [intOf]; omega⟩
                rcases List.mem_append.1 hr with q | q
                · exact HD.out r q
                · rw [List.mem_singleton.1 q]; unfold PaD; dsimp only; omega
              · go_simp
                go_at_call 10
                refine (HNx.out _ 4 b38a b38s G38.out.2.2.2 G38.out.2.2.1 (by omega) (by omega)).mono ?_
                rintro e v41 ⟨x10q, b41a, b41s, rfl, ⟨hx10q0, hx10q1⟩, hu41, hv41, hs41, hb41, hf41⟩
                have G41 : Hid (PaSt w b a len cap (.slice (some ⟨g, 0, none⟩) rs.length cp) rs b41a b41s v41) := G38.out.draw hf41 hb41 hs41
                have k41 : (fun W => Tb q3 T8 W) v41 := Tb.draw k38 hf41 hbq3
                clear hs41 hb41 hf41
                obtain ⟨n10q, rfl⟩ := Int.eq_ofNat_of_zero_le hx10q0
                have hn10q : (n10q : Int) < 4 := by omega
                refine hK.out _ _ k41 (fun _ => ?_)
                clear hK K
                try simp only [Act.put, List.setIfInBounds_toArray, List.set_cons_zero, List.set_cons_succ, List.getElem_toArray, List.getElem_cons_succ, List.getElem_cons_zero]
                refine wpAnyH_ready (rs := [8]) (by kernel_rfl) (by simp) ?_
                refine AllReadyH.cons rfl (fun K hK => ?_) AllReadyH.nil
                go_simp
                have k42 : (fun W => Tb q3 T8 W) (v41.alloc (Obj.cells #[.int .i64 0, .int .i64 100000, .int .i64 100001, .int .i64 (-1)] 3)) := Tb.alloc k41 _
                have m42 : Tb v41.heap.size T4 (v41.alloc (Obj.cells #[.int .i64 0, .int .i64 100000, .int .i64 100001, .int .i64 (-1)] 3)) := Tb.made _ _
                have hbq8 : b < v41.heap.size := by have := G41.out.2.1; omega
                have G42 : Hid (PaSt w b a len cap (.slice (some ⟨g, 0, none⟩) rs.length cp) rs b41a b41s (v41.alloc (Obj.cells #[.int .i64 0, .int .i64 100000, .int .i64 100001, .int .i64 (-1)] 3))) := G41.out.alloc _
                refine hK.out _ _ k42 (fun _ => ?_)
                clear hK K
                try simp only [Act.put, List.setIfInBounds_toArray, List.set_cons_zero, List.set_cons_succ, List.getElem_toArray, List.getElem_cons_succ, List.getElem_cons_zero]
                generalize (v41.alloc (Obj.cells #[.int .i64 0, .int .i64 100000, .int .i64 100001, .int .i64 (-1)] 3)) = v42 at *
                generalize v41.heap.size = q8 at *
                have l42 : (fun W => Tb q3 T8 W ∧ Tb q8 T4 W) v42 := ⟨k42, m42⟩
                refine wpAnyH_more (S' := fun W => Tb q3 T8 W ∧ Tb q8 T4 W) (fun _ hq => hq.1) _ _ _ _ ?_
                obtain ⟨z10, hz10, hz10a, hz10b⟩ := tab4 n10q (by omega)
                refine wpAnyH_take (i := 11) (v := .pointer (some ⟨q8, n10q, none⟩)) rfl (by kernel_rfl) (by kernel_rfl) (by kernel_rfl) (fun _ _ _ h => h) (Or.inl ⟨by rfl, fun w hSw => by go_simp⟩) l42 ?_
                try simp only [Act.put, List.setIfInBounds_toArray, List.set_cons_zero, List.set_cons_succ, List.getElem_toArray, List.getElem_cons_succ, List.getElem_cons_zero]
                refine wpAnyH_take (i := 12) (v := .int .i64 z10) rfl (by kernel_rfl) (by kernel_rfl) (by kernel_rfl) (fun _ _ _ h => h) (Or.inl ⟨by rfl, fun w hSw => by have f0 := Tb.cell (hSw.2) n10q _ hz10; go_simp⟩) l42 ?_
                try simp only [Act.put, List.setIfInBounds_toArray, List.set_cons_zero, List.set_cons_succ, List.getElem_toArray, List.getElem_cons_succ, List.getElem_cons_zero]
                refine wpAnyH_take (i := 13) (v := .agg #[.int .i64 (n2q : Int), .int .i64 z5, .int .i64 z10]) rfl (by kernel_rfl) (by kernel_rfl) (by kernel_rfl) (fun _ _ _ h => h) (Or.inl ⟨by rfl, fun w hSw => by go_simp⟩) l42 ?_
                try simp only [Act.put, List.setIfInBounds_toArray, List.set_cons_zero, List.set_cons_succ, List.getElem_toArray, List.getElem_cons_succ, List.getElem_cons_zero]
                refine wpAnyH_ready (rs := [14]) (by kernel_rfl) (by simp) ?_
                refine AllReadyH.cons rfl (fun K hK => ?_) AllReadyH.nil
                go_simp
                have kA : (fun W => Tb q3 T8 W ∧ Tb q8 T4 W) (v42.alloc (Obj.cells #[.int .i64 (n2q : Int), .int .i64 z5, .int .i64 z10] 34)) := ⟨Tb.alloc l42.1 _, Tb.alloc l42.2 _⟩
                have GA : Hid (PaSt w b a len cap (.slice (some ⟨g, 0, none⟩) rs.length cp) rs b41a b41s (v42.alloc (Obj.cells #[.int .i64 (n2q : Int), .int .i64 z5, .int .i64 z10] 34))) := G42.out.alloc _
                have hN := heapNew v42 (Obj.cells #[.int .i64 (n2q : Int), .int .i64 z5, .int .i64 z10] 34)
                have hzz := GA.out.2.1
                refine hK.out _ _ kA (fun _ => ?_)
                clear hK K
                try simp only [Act.put, List.setIfInBounds_toArray, List.set_cons_zero, List.set_cons_succ, List.getElem_toArray, List.getElem_cons_succ, List.getElem_cons_zero]
                refine wpAnyH_ready (rs := [15]) (by kernel_rfl) (by simp) ?_
                refine AllReadyH.cons rfl (fun K hK => ?_) AllReadyH.nil
                refine step_append_lies _ rfl (.tmp 18) (.tmp 32) 23 rfl (b + 1) 34 i0 (.agg #[.int .i64 0, .int .i64 0, .int .i64 0]) 3 24 Try.underlying23 hi hi0 hi1 hi2 rfl (by decide) (.slice (some ⟨g, 0, none⟩) rs.length cp) _ _ (by simp [Act.eval]) GA.out.1 ⟨v42.heap.size, 0, none⟩ 1 1 [.int .i64 (n2q : Int), .int .i64 z5, .int .i64 z10] (by simp [Act.eval]) rfl (World.news_of_block hN) (by simp [Value.oneCell']) (by omega) (by unfold maxLen; omega) (by omega) hzz _ rfl (fun g1 cp1 w9 hown1 hgrow1 hat1 hglt1 => ?_)
                have HF : Hid (PaSt w b a len cap (.slice (some ⟨g1, 0, none⟩) (rs.length + 1) cp1) (rs ++ [⟨(n2q : Int), z5, z10⟩]) b41a b41s w9) := GA.out.push (r := ⟨(n2q : Int), z5, z10⟩) hown1 hgrow1
                have kB : (fun W => Tb q3 T8 W ∧ Tb q8 T4 W) w9 := ⟨Tb.grow kA.1 GA.out.1 hgrow1, Tb.grow kA.2 GA.out.1 hgrow1⟩
                clear hown1 hgrow1 hat1 hglt1
                refine hK.out _ _ kB (fun _ => ?_)
                clear hK K
                try simp only [Act.put, List.setIfInBounds_toArray, List.set_cons_zero, List.set_cons_succ, List.getElem_toArray, List.getElem_cons_succ, List.getElem_cons_zero]
                refine wpAnyH_take (i := 16) (v := .slice (some ⟨g1, 0, none⟩) (rs.length + 1) cp1) rfl (by kernel_rfl) (by kernel_rfl) (by kernel_rfl) (fun _ _ _ h => h) (Or.inl ⟨by rfl, fun w hSw => by go_simp⟩) kB ?_
                try simp only [Act.put, List.setIfInBounds_toArray, List.set_cons_zero, List.set_cons_succ, List.getElem_toArray, List.getElem_cons_succ, List.getElem_cons_zero]
                refine wpAnyH_done (by kernel_rfl) ?_ _
                go_wp2
                refine ⟨⟨rs ++ [⟨(n2q : Int), z5, z10⟩], k - 1, g1, cp1, b41a, b41s, day, by rw [List.length_append]; simp; omega, by simp, by go_num, rfl, fun r hr => ?_, by omega, by rw [List.length_append]; push_cast; simp; omega, by rw [List.length_append]; push_cast; simp; omega, HF.out⟩, by simp [intOf]; omega⟩
                rcases List.mem_append.1 hr with q | q
                · exact HD.out r q
                · rw [List.mem_singleton.1 q]; unfold PaD; dsimp only; omega
            · go_simp
              have k43 : (fun W => Tb q3 T8 W) (v37.alloc (Obj.cells #[.int .i64 0, .int .i64 100000, .int .i64 100001, .int .i64 (-1)] 3)) := Tb.alloc k37 _
              have m43 : Tb v37.heap.size T4 (v37.alloc (Obj.cells #[.int .i64 0, .int .i64 100000, .int .i64 100001, .int .i64 (-1)] 3)) := Tb.made _ _
              have hbq8 : b < v37.heap.size := by have := G37.out.2.1; omega
              have G43 : Hid (PaSt w b a len cap (.slice (some ⟨g, 0, none⟩) rs.length cp) rs b37a b37s (v37.alloc (Obj.cells #[.int .i64 0, .int .i64 100000, .int .i64 100001, .int .i64 (-1)] 3))) := G37.out.alloc _
              refine hK.out _ _ k43 (fun _ => ?_)
              clear hK K
              try simp only [Act.put, List.setIfInBounds_toArray, List.set_cons_zero, List.set_cons_succ, List.getElem_toArray, List.getElem_cons_succ, List.getElem_cons_zero]
              generalize (v37.alloc (Obj.cells #[.int .i64 0, .int .i64 100000, .int .i64 100001, .int .i64 (-1)] 3)) = v43 at *
              generalize v37.heap.size = q8 at *
              have l43 : (fun W => Tb q3 T8 W ∧ Tb q8 T4 W) v43 := ⟨k43, m43⟩
              refine wpAnyH_more (S' := fun W => Tb q3 T8 W ∧ Tb q8 T4 W) (fun _ hq => hq.1) _ _ _ _ ?_
              refine wpAnyH_ready (rs := [5]) (by kernel_rfl) (by simp) ?_
              refine AllReadyH.cons rfl (fun K hK => ?_) AllReadyH.nil
              go_simp
              go_at_call 10
              refine (HNx.out _ 8 b37a b37s G43.out.2.2.2 G43.out.2.2.1 (by omega) (by omega)).mono ?_
              rintro e v44 ⟨x5q, b44a, b44s, rfl, ⟨hx5q0, hx5q1⟩, hu44, hv44, hs44, hb44, hf44⟩
              have G44 : Hid (PaSt w b a len cap (.slice (some ⟨g, 0, none⟩) rs.length cp) rs b44a b44s v44) := G43.out.draw hf44 hb44 hs44
              have k44 : (fun W => Tb q3 T8 W ∧ Tb q8 T4 W) v44 := ⟨Tb.draw l43.1 hf44 hbq3, Tb.draw l43.2 hf44 hbq8⟩
              clear hs44 hb44 hf44
              obtain ⟨n5q, rfl⟩ := Int.eq_ofNat_of_zero_le hx5q0
              have hn5q : (n5q : Int) < 8 := by omega
              refine hK.out _ _ k44 (fun _ => ?_)
              clear hK K
              try simp only [Act.put, List.setIfInBounds_toArray, List.set_cons_zero, List.set_cons_succ, List.getElem_toArray, List.getElem_cons_succ, List.getElem_cons_zero]
              obtain ⟨z5, hz5, hz5a, hz5b⟩ := tab8 n5q (by omega)
              refine wpAnyH_take (i := 6) (v := .pointer (some ⟨q3, n5q, none⟩)) rfl (by kernel_rfl) (by kernel_rfl) (by kernel_rfl) (fun _ _ _ h => h) (Or.inl ⟨by rfl, fun w hSw => by go_simp⟩) k44 ?_
              try simp only [Act.put, List.setIfInBounds_toArray, List.set_cons_zero, List.set_cons_succ, List.getElem_toArray, List.getElem_cons_succ, List.getElem_cons_zero]
              refine wpAnyH_take (i := 7) (v := .int .i64 z5) rfl (by kernel_rfl) (by kernel_rfl) (by kernel_rfl) (fun _ _ _ h => h) (Or.inl ⟨by rfl, fun w hSw => by have f0 := Tb.cell (hSw.1) n5q _ hz5; go_simp⟩) k44 ?_
              try simp only [Act.put, List.setIfInBounds_toArray, List.set_cons_zero, List.set_cons_succ, List.getElem_toArray, List.getElem_cons_succ, List.getElem_cons_zero]
              refine wpAnyH_ready (rs := [10]) (by kernel_rfl) (by simp) ?_
              refine AllReadyH.cons rfl (fun K hK => ?_) AllReadyH.nil
              go_simp
              go_at_call 10
              refine (HNx.out _ 4 b44a b44s G44.out.2.2.2 G44.out.2.2.1 (by omega) (by omega)).mono ?_
              rintro e v45 ⟨x10q, b45a, b45s, rfl, ⟨hx10q0, hx10q1⟩, hu45, hv45, hs45, hb45, hf45⟩
              have G45 : Hid (PaSt w b a len cap (.slice (some ⟨g, 0, none⟩) rs.length cp) rs b45a b45s v45) := G44.out.draw hf45 hb45 hs45
              have k45 : (fun W => Tb q3 T8 W ∧ Tb q8 T4 W) v45 := ⟨Tb.draw k44.1 hf45 hbq3, Tb.draw k44.2 hf45 hbq8⟩
              clear hs45 hb45 hf45
              obtain ⟨n10q, rfl⟩ := Int.eq_ofNat_of_zero_le hx10q0
              have hn10q : (n10q : Int) < 4 := by omega
              refine hK.out _ _ k45 (fun _ => ?_)
              clear hK K
              try simp only [Act.put, List.setIfInBounds_toArray, List.set_cons_zero, List.set_cons_succ, List.getElem_toArray, List.getElem_cons_succ, List.getElem_cons_zero]
              obtain ⟨z10, hz10, hz10a, hz10b⟩ := tab4 n10q (by omega)
              refine wpAnyH_take (i := 11) (v := .pointer (some ⟨q8, n10q, none⟩)) rfl (by kernel_rfl) (by kernel_rfl) (by kernel_rfl) (fun _ _ _ h => h) (Or.inl ⟨by rfl, fun w hSw => by go_simp⟩) k45 ?_
              try simp only [Act.put, List.setIfInBounds_toArray, List.set_cons_zero, List.set_cons_succ, List.getElem_toArray, List.getElem_cons_succ, List.getElem_cons_zero]
              refine wpAnyH_take (i := 12) (v := .int .i64 z10) rfl (by kernel_rfl) (by kernel_rfl) (by kernel_rfl) (fun _ _ _ h => h) (Or.inl ⟨by rfl, fun w hSw => by have f0 := Tb.cell (hSw.2) n10q _ hz10; go_simp⟩) k45 ?_
              try simp only [Act.put, List.setIfInBounds_toArray, List.set_cons_zero, List.set_cons_succ, List.getElem_toArray, List.getElem_cons_succ, List.getElem_cons_zero]
              refine wpAnyH_take (i := 13) (v := .agg #[.int .i64 (n2q : Int), .int .i64 z5, .int .i64 z10]) rfl (by kernel_rfl) (by kernel_rfl) (by kernel_rfl) (fun _ _ _ h => h) (Or.inl ⟨by rfl, fun w hSw => by go_simp⟩) k45 ?_
              try simp only [Act.put, List.setIfInBounds_toArray, List.set_cons_zero, List.set_cons_succ, List.getElem_toArray, List.getElem_cons_succ, List.getElem_cons_zero]
              refine wpAnyH_ready (rs := [14]) (by kernel_rfl) (by simp) ?_
              refine AllReadyH.cons rfl (fun K hK => ?_) AllReadyH.nil
              go_simp
              have kA : (fun W => Tb q3 T8 W ∧ Tb q8 T4 W) (v45.alloc (Obj.cells #[.int .i64 (n2q : Int), .int .i64 z5, .int .i64 z10] 34)) := ⟨Tb.alloc k45.1 _, Tb.alloc k45.2 _⟩
              have GA : Hid (PaSt w b a len cap (.slice (some ⟨g, 0, none⟩) rs.length cp) rs b45a b45s (v45.alloc (Obj.cells #[.int .i64 (n2q : Int), .int .i64 z5, .int .i64 z10] 34))) := G45.out.alloc _
              have hN := heapNew v45 (Obj.cells #[.int .i64 (n2q : Int), .int .i64 z5, .int .i64 z10] 34)
              have hzz := GA.out.2.1
              refine hK.out _ _ kA (fun _ => ?_)
              clear hK K
              try simp only [Act.put, List.setIfInBounds_toArray, List.set_cons_zero, List.set_cons_succ, List.getElem_toArray, List.getElem_cons_succ, List.getElem_cons_zero]
              refine wpAnyH_ready (rs := [15]) (by kernel_rfl) (by simp) ?_
              refine AllReadyH.cons rfl (fun K hK => ?_) AllReadyH.nil
              refine step_append_lies _ rfl (.tmp 18) (.tmp 32) 23 rfl (b + 1) 34 i0 (.agg #[.int .i64 0, .int .i64 0, .int .i64 0]) 3 24 Try.underlying23 hi hi0 hi1 hi2 rfl (by decide) (.slice (some ⟨g, 0, none⟩) rs.length cp) _ _ (by simp [Act.eval]) GA.out.1 ⟨v45.heap.size, 0, none⟩ 1 1 [.int .i64 (n2q : Int), .int .i64 z5, .int .i64 z10] (by simp [Act.eval]) rfl (World.news_of_block hN) (by simp [Value.oneCell']) (by omega) (by unfold maxLen; omega) (by omega) hzz _ rfl (fun g1 cp1 w9 hown1 hgrow1 hat1 hglt1 => ?_)
              have HF : Hid (PaSt w b a len cap (.slice (some ⟨g1, 0, none⟩) (rs.length + 1) cp1) (rs ++ [⟨(n2q : Int), z5, z10⟩]) b45a b45s w9) := GA.out.push (r := ⟨(n2q : Int), z5, z10⟩) hown1 hgrow1
              have kB : (fun W => Tb q3 T8 W ∧ Tb q8 T4 W) w9 := ⟨Tb.grow kA.1 GA.out.1 hgrow1, Tb.grow kA.2 GA.out.1 hgrow1⟩
              clear hown1 hgrow1 hat1 hglt1
              refine hK.out _ _ kB (fun _ => ?_)
              clear hK K
              try simp only [Act.put, List.setIfInBounds_toArray, List.set_cons_zero, List.set_cons_succ, List.getElem_toArray, List.getElem_cons_succ, List.getElem_cons_zero]
              refine wpAnyH_take (i := 16) (v := .slice (some ⟨g1, 0, none⟩) (rs.length + 1) cp1) rfl (by kernel_rfl) (by kernel_rfl) (by kernel_rfl) (fun _ _ _ h => h) (Or.inl ⟨by rfl, fun w hSw => by go_simp⟩) kB ?_
              try simp only [Act.put, List.setIfInBounds_toArray, List.set_cons_zero, List.set_cons_succ, List.getElem_toArray, List.getElem_cons_succ, List.getElem_cons_zero]
              refine wpAnyH_done (by kernel_rfl) ?_ _
              go_wp2
              refine ⟨⟨rs ++ [⟨(n2q : Int), z5, z10⟩], k - 1, g1, cp1, b45a, b45s, day, by rw [List.length_append]; simp; omega, by simp, by go_num, rfl, fun r hr => ?_, by omega, by rw [List.length_append]; push_cast; simp; omega, by rw [List.length_append]; push_cast; simp; omega, HF.out⟩, by simp [intOf]; omega⟩
              rcases List.mem_append.1 hr with q | q
              · exact HD.out r q
              · rw [List.mem_singleton.1 q]; unfold PaD; dsimp only; omega
          · go_simp
            have k46 : (fun W => Tb q3 T8 W) (v36.alloc (Obj.cells #[.int .i64 0, .int .i64 100000, .int .i64 100001, .int .i64 (-1)] 3)) := Tb.alloc l36 _
            have m46 : Tb v36.heap.size T4 (v36.alloc (Obj.cells #[.int .i64 0, .int .i64 100000, .int .i64 100001, .int .i64 (-1)] 3)) := Tb.made _ _
            have hbq8 : b < v36.heap.size := by have := G36.out.2.1; omega
            have G46 : Hid (PaSt w b a len cap (.slice (some ⟨g, 0, none⟩) rs.length cp) rs a4 s4 (v36.alloc (Obj.cells #[.int .i64 0, .int .i64 100000, .int .i64 100001, .int .i64 (-1)] 3))) := G36.out.alloc _
            refine hK.out _ _ k46 (fun _ => ?_)
            clear hK K
            try simp only [Act.put, List.setIfInBounds_toArray, List.set_cons_zero, List.set_cons_succ, List.getElem_toArray, List.getElem_cons_succ, List.getElem_cons_zero]
            generalize (v36.alloc (Obj.cells #[.int .i64 0, .int .i64 100000, .int .i64 100001, .int .i64 (-1)] 3)) = v46 at *
            generalize v36.heap.size = q8 at *
            have l46 : (fun W => Tb q3 T8 W ∧ Tb q8 T4 W) v46 := ⟨k46, m46⟩
            refine wpAnyH_more (S' := fun W => Tb q3 T8 W ∧ Tb q8 T4 W) (fun _ hq => hq.1) _ _ _ _ ?_
            refine wpAnyH_ready (rs := [2]) (by kernel_rfl) (by simp) ?_
            refine AllReadyH.cons rfl (fun K hK => ?_) AllReadyH.nil
            go_simp
            go_at_call 10
            refine (HNx.out _ 6 a4 s4 G46.out.2.2.2 G46.out.2.2.1 (by omega) (by omega)).mono ?_
            rintro e v47 ⟨x2q, b47a, b47s, rfl, ⟨hx2q0, hx2q1⟩, hu47, hv47, hs47, hb47, hf47⟩
            have G47 : Hid (PaSt w b a len cap (.slice (some ⟨g, 0, none⟩) rs.length cp) rs b47a b47s v47) := G46.out.draw hf47 hb47 hs47
            have k47 : (fun W => Tb q3 T8 W ∧ Tb q8 T4 W) v47 := ⟨Tb.draw l46.1 hf47 hbq3, Tb.draw l46.2 hf47 hbq8⟩
            clear hs47 hb47 hf47
            obtain ⟨n2q, rfl⟩ := Int.eq_ofNat_of_zero_le hx2q0
            have hn2q : (n2q : Int) < 6 := by omega
            refine hK.out _ _ k47 (fun _ => ?_)
            clear hK K
            try simp only [Act.put, List.setIfInBounds_toArray, List.set_cons_zero, List.set_cons_succ, List.getElem_toArray, List.getElem_cons_succ, List.getElem_cons_zero]
            refine wpAnyH_ready (rs := [5]) (by kernel_rfl) (by simp) ?_
            refine AllReadyH.cons rfl (fun K hK => ?_) AllReadyH.nil
            go_simp
            go_at_call 10
            refine (HNx.out _ 8 b47a b47s G47.out.2.2.2 G47.out.2.2.1 (by omega) (by omega)).mono ?_
            rintro e v48 ⟨x5q, b48a, b48s, rfl, ⟨hx5q0, hx5q1⟩, hu48, hv48, hs48, hb48, hf48⟩
            have G48 : Hid (PaSt w b a len cap (.slice (some ⟨g, 0, none⟩) rs.length cp) rs b48a b48s v48) := G47.out.draw hf48 hb48 hs48
            have k48 : (fun W => Tb q3 T8 W ∧ Tb q8 T4 W) v48 := ⟨Tb.draw k47.1 hf48 hbq3, Tb.draw k47.2 hf48 hbq8⟩
            clear hs48 hb48 hf48
            obtain ⟨n5q, rfl⟩ := Int.eq_ofNat_of_zero_le hx5q0
            have hn5q : (n5q : Int) < 8 := by omega
            refine hK.out _ _ k48 (fun _ => ?_)
            clear hK K
            try simp only [Act.put, List.setIfInBounds_toArray, List.set_cons_zero, List.set_cons_succ, List.getElem_toArray, List.getElem_cons_succ, List.getElem_cons_zero]
            obtain ⟨z5, hz5, hz5a, hz5b⟩ := tab8 n5q (by omega)
            refine wpAnyH_take (i := 6) (v := .pointer (some ⟨q3, n5q, none⟩)) rfl (by kernel_rfl) (by kernel_rfl) (by kernel_rfl) (fun _ _ _ h => h) (Or.inl ⟨by rfl, fun w hSw => by go_simp⟩) k48 ?_
            try simp only [Act.put, List.setIfInBounds_toArray, List.set_cons_zero, List.set_cons_succ, List.getElem_toArray, List.getElem_cons_succ, List.getElem_cons_zero]
            refine wpAnyH_take (i := 7) (v := .int .i64 z5) rfl (by kernel_rfl) (by kernel_rfl) (by kernel_rfl) (fun _ _ _ h => h) (Or.inl ⟨by rfl, fun w hSw => by have f0 := Tb.cell (hSw.1) n5q _ hz5; go_simp⟩) k48 ?_
            try simp only [Act.put, List.setIfInBounds_toArray, List.set_cons_zero, List.set_cons_succ, List.getElem_toArray, List.getElem_cons_succ, List.getElem_cons_zero]
            refine wpAnyH_ready (rs := [10]) (by kernel_rfl) (by simp) ?_
            refine AllReadyH.cons rfl (fun K hK => ?_) AllReadyH.nil
            go_simp
            go_at_call 10
            refine (HNx.out _ 4 b48a b48s G48.out.2.2.2 G48.out.2.2.1 (by omega) (by omega)).mono ?_
            rintro e v49 ⟨x10q, b49a, b49s, rfl, ⟨hx10q0, hx10q1⟩, hu49, hv49, hs49, hb49, hf49⟩
            have G49 : Hid (PaSt w b a len cap (.slice (some ⟨g, 0, none⟩) rs.length cp) rs b49a b49s v49) := G48.out.draw hf49 hb49 hs49
            have k49 : (fun W => Tb q3 T8 W ∧ Tb q8 T4 W) v49 := ⟨Tb.draw k48.1 hf49 hbq3, Tb.draw k48.2 hf49 hbq8⟩
            clear hs49 hb49 hf49
            obtain ⟨n10q, rfl⟩ := Int.eq_ofNat_of_zero_le hx10q0
            have hn10q : (n10q : Int) < 4 := by omega
            refine hK.out _ _ k49 (fun _ => ?_)
            clear hK K
            try simp only [Act.put, List.setIfInBounds_toArray, List.set_cons_zero, List.set_cons_succ, List.getElem_toArray, List.getElem_cons_succ, List.getElem_cons_zero]
            obtain ⟨z10, hz10, hz10a, hz10b⟩ := tab4 n10q (by omega)
            refine wpAnyH_take (i := 11) (v := .pointer (some ⟨q8, n10q, none⟩)) rfl (by kernel_rfl) (by kernel_rfl) (by kernel_rfl) (fun _ _ _ h => h) (Or.inl ⟨by rfl, fun w hSw => by go_simp⟩) k49 ?_
            try simp only [Act.put, List.setIfInBounds_toArray, List.set_cons_zero, List.set_cons_succ, List.getElem_toArray, List.getElem_cons_succ, List.getElem_cons_zero]
            refine wpAnyH_take (i := 12) (v := .int .i64 z10) rfl (by kernel_rfl) (by kernel_rfl) (by kernel_rfl) (fun _ _ _ h => h) (Or.inl ⟨by rfl, fun w hSw => by have f0 := Tb.cell (hSw.2) n10q _ hz10; go_simp⟩) k49 ?_
            try simp only [Act.put, List.setIfInBounds_toArray, List.set_cons_zero, List.set_cons_succ, List.getElem_toArray, List.getElem_cons_succ, List.getElem_cons_zero]
            refine wpAnyH_take (i := 13) (v := .agg #[.int .i64 (n2q : Int), .int .i64 z5, .int .i64 z10]) rfl (by kernel_rfl) (by kernel_rfl) (by kernel_rfl) (fun _ _ _ h => h) (Or.inl ⟨by rfl, fun w hSw => by go_simp⟩) k49 ?_
            try simp only [Act.put, List.setIfInBounds_toArray, List.set_cons_zero, List.set_cons_succ, List.getElem_toArray, List.getElem_cons_succ, List.getElem_cons_zero]
            refine wpAnyH_ready (rs := [14]) (by kernel_rfl) (by simp) ?_
            refine AllReadyH.cons rfl (fun K hK => ?_) AllReadyH.nil
            go_simp
            have kA : (fun W => Tb q3 T8 W ∧ Tb q8 T4 W) (v49.alloc (Obj.cells #[.int .i64 (n2q : Int), .int .i64 z5, .int .i64 z10] 34)) := ⟨Tb.alloc k49.1 _, Tb.alloc k49.2 _⟩
            have GA : Hid (PaSt w b a len cap (.slice (some ⟨g, 0, none⟩) rs.length cp) rs b49a b49s (v49.alloc (Obj.cells #[.int .i64 (n2q : Int), .int .i64 z5, .int .i64 z10] 34))) := G49.out.alloc _
            have hN := heapNew v49 (Obj.cells #[.int .i64 (n2q : Int), .int .i64 z5, .int .i64 z10] 34)
            have hzz := GA.out.2.1
            refine hK.out _ _ kA (fun _ => ?_)
            clear hK K
            try simp only [Act.put, List.setIfInBounds_toArray, List.set_cons_zero, List.set_cons_succ, List.getElem_toArray, List.getElem_cons_succ, List.getElem_cons_zero]
            refine wpAnyH_ready (rs := [15]) (by kernel_rfl) (by simp) ?_
            refine AllReadyH.cons rfl (fun K hK => ?_) AllReadyH.nil
            refine step_append_lies _ rfl (.tmp 18) (.tmp 32) 23 rfl (b + 1) 34 i0 (.agg #[.int .i64 0, .int .i64 0, .int .i64 0]) 3 24 Try.underlying23 hi hi0 hi1 hi2 rfl (by decide) (.slice (some ⟨g, 0, none⟩) rs.length cp) _ _ (by simp [Act.eval]) GA.out.1 ⟨v49.heap.size, 0, none⟩ 1 1 [.int .i64 (n2q : Int), .int .i64 z5, .int .i64 z10] (by simp [Act.eval]) rfl (World.news_of_block hN) (by simp [Value.oneCell']) (by omega) (by unfold maxLen; omega) (by omega) hzz _ rfl (fun g1 cp1 w9 hown1 hgrow1 hat1 hglt1 => ?_)
            have HF : Hid (PaSt w b a len cap (.slice (some ⟨g1, 0, none⟩) (rs.length + 1) cp1) (rs ++ [⟨(n2q : Int), z5, z10⟩]) b49a b49s w9) := GA.out.push (r := ⟨(n2q : Int), z5, z10⟩) hown1 hgrow1
            have kB : (fun W => Tb q3 T8 W ∧ Tb q8 T4 W) w9 := ⟨Tb.grow kA.1 GA.out.1 hgrow1, Tb.grow kA.2 GA.out.1 hgrow1⟩
            clear hown1 hgrow1 hat1 hglt1
            refine hK.out _ _ kB (fun _ => ?_)
            clear hK K
            try simp only [Act.put, List.setIfInBounds_toArray, List.set_cons_zero, List.set_cons_succ, List.getElem_toArray, List.getElem_cons_succ, List.getElem_cons_zero]
            refine wpAnyH_take (i := 16) (v := .slice (some ⟨g1, 0, none⟩) (rs.length + 1) cp1) rfl (by kernel_rfl) (by kernel_rfl) (by kernel_rfl) (fun _ _ _ h => h) (Or.inl ⟨by rfl, fun w hSw => by go_simp⟩) kB ?_
            try simp only [Act.put, List.setIfInBounds_toArray, List.set_cons_zero, List.set_cons_succ, List.getElem_toArray, List.getElem_cons_succ, List.getElem_cons_zero]
            refine wpAnyH_done (by kernel_rfl) ?_ _
            go_wp2
            refine ⟨⟨rs ++ [⟨(n2q : Int), z5, z10⟩], k - 1, g1, cp1, b49a, b49s, day, by rw [List.length_append]; simp; omega, by simp, by go_num, rfl, fun r hr => ?_, by omega, by rw [List.length_append]; push_cast; simp; omega, by rw [List.length_append]; push_cast; simp; omega, HF.out⟩, by simp [intOf]; omega⟩
            rcases List.mem_append.1 hr with q | q
            · exact HD.out r q
            · rw [List.mem_singleton.1 q]; unfold PaD; dsimp only; omega
        · go_simp
          have k50 : (fun _ => True) (w4d.alloc (Obj.cells #[.int .i64 0, .int .i64 100000, .int .i64 100001, .int .i64 (-1)] 3)) := trivial
          have m50 : Tb w4d.heap.size T4 (w4d.alloc (Obj.cells #[.int .i64 0, .int .i64 100000, .int .i64 100001, .int .i64 (-1)] 3)) := Tb.made _ _
          have hbq8 : b < w4d.heap.size := by have := H4d.out.2.1; omega
          have G50 : Hid (PaSt w b a len cap (.slice (some ⟨g, 0, none⟩) rs.length cp) rs a4 s4 (w4d.alloc (Obj.cells #[.int .i64 0, .int .i64 100000, .int .i64 100001, .int .i64 (-1)] 3))) := H4d.out.alloc _
          refine hK.out _ _ k50 (fun _ => ?_)
          clear hK K
          try simp only [Act.put, List.setIfInBounds_toArray, List.set_cons_zero, List.set_cons_succ, List.getElem_toArray, List.getElem_cons_succ, List.getElem_cons_zero]
          generalize (w4d.alloc (Obj.cells #[.int .i64 0, .int .i64 100000, .int .i64 100001, .int .i64 (-1)] 3)) = v50 at *
          generalize w4d.heap.size = q8 at *
          have l50 : (fun W => Tb q8 T4 W) v50 := m50
          refine wpAnyH_more (S' := fun W => Tb q8 T4 W) (fun _ hq => trivial) _ _ _ _ ?_
          refine wpAnyH_ready (rs := [2, 3]) (by kernel_rfl) (by simp) ?_
          refine AllReadyH.cons rfl (fun K hK => ?_) (AllReadyH.cons rfl (fun K hK => ?_) AllReadyH.nil)
          · go_simp
            go_at_call 10
            refine (HNx.out _ 6 a4 s4 G50.out.2.2.2 G50.out.2.2.1 (by omega) (by omega)).mono ?_
            rintro e v51 ⟨x2q, b51a, b51s, rfl, ⟨hx2q0, hx2q1⟩, hu51, hv51, hs51, hb51, hf51⟩
            have G51 : Hid (PaSt w b a len cap (.slice (some ⟨g, 0, none⟩) rs.length cp) rs b51a b51s v51) := G50.out.draw hf51 hb51 hs51
            have k51 : (fun W => Tb q8 T4 W) v51 := Tb.draw l50 hf51 hbq8
            clear hs51 hb51 hf51
            obtain ⟨n2q, rfl⟩ := Int.eq_ofNat_of_zero_le hx2q0
            have hn2q : (n2q : Int) < 6 := by omega
            refine hK.out _ _ k51 (fun _ => ?_)
            clear hK K
            try simp only [Act.put, List.setIfInBounds_toArray, List.set_cons_zero, List.set_cons_succ, List.getElem_toArray, List.getElem_cons_succ, List.getElem_cons_zero]
            refine wpAnyH_ready (rs := [3, 5]) (by kernel_rfl) (by simp) ?_
            refine AllReadyH.cons rfl (fun K hK => ?_) (AllReadyH.cons rfl (fun K hK => ?_) AllReadyH.nil)
            · go_simp
              have k52 : (fun W => Tb q8 T4 W) (v51.alloc (Obj.cells #[.int .i64 0, .int .i64 (-1), .int .i64 1, .int .i64 1000000, .int .i64 1000001, .int .i64 100000, .int .i64 100001, .int .i64 3] 3)) := Tb.alloc k51 _
              have m52 : Tb v51.heap.size T8 (v51.alloc (Obj.cells #[.int .i64 0, .int .i64 (-1), .int .i64 1, .int .i64 1000000, .int .i64 1000001, .int .i64 100000, .int .i64 100001, .int .i64 3] 3)) := Tb.made _ _
              have hbq3 : b < v51.heap.size := by have := G51.out.2.1; omega
              have G52 : Hid (PaSt w b a len cap (.slice (some ⟨g, 0, none⟩) rs.length cp) rs b51a b51s (v51.alloc (Obj.cells #[.int .i64 0, .int .i64 (-1), .int .i64 1, .int .i64 1000000, .int .i64 1000001, .int .i64 100000, .int .i64 100001, .int .i64 3] 3))) := G51.out.alloc _
              refine hK.out _ _ k52 (fun _ => ?_)
              clear hK K
              try simp only [Act.put, List.setIfInBounds_toArray, List.set_cons_zero, List.set_cons_succ, List.getElem_toArray, List.getElem_cons_succ, List.getElem_cons_zero]
              generalize (v51.alloc (Obj.cells #[.int .i64 0, .int .i64 (-1), .int .i64 1, .int .i64 1000000, .int .i64 1000001, .int .i64 100000, .int .i64 100001, .int .i64 3] 3)) = v52 at *
              generalize v51.heap.size = q3 at *
              have l52 : (fun W => Tb q8 T4 W ∧ Tb q3 T8 W) v52 := ⟨k52, m52⟩
              refine wpAnyH_more (S' := fun W => Tb q8 T4 W ∧ Tb q3 T8 W) (fun _ hq => hq.1) _ _ _ _ ?_
              refine wpAnyH_ready (rs := [5]) (by kernel_rfl) (by simp) ?_
              refine AllReadyH.cons rfl (fun K hK => ?_) AllReadyH.nil
              go_simp
              go_at_call 10
              refine (HNx.out _ 8 b51a b51s G52.out.2.2.2 G52.out.2.2.1 (by omega) (by omega)).mono ?_
              rintro e v53 ⟨x5q, b53a, b53s, rfl, ⟨hx5q0, hx5q1⟩, hu53, hv53, hs53, hb53, hf53⟩
              have G53 : Hid (PaSt w b a len cap (.slice (some ⟨g, 0, none⟩) rs.length cp) rs b53a b53s v53) := G52.out.draw hf53 hb53 hs53
              have k53 : (fun W => Tb q8 T4 W ∧ Tb q3 T8 W) v53 := ⟨Tb.draw l52.1 hf53 hbq8, Tb.draw l52.2 hf53 hbq3⟩
              clear hs53 hb53 hf53
              obtain ⟨n5q, rfl⟩ := Int.eq_ofNat_of_zero_le hx5q0
              have hn5q : (n5q : Int) < 8 := by omega
              refine hK.out _ _ k53 (fun _ => ?_)
              clear hK K
              try simp only [Act.put, List.setIfInBounds_toArray, List.set_cons_zero, List.set_cons_succ, List.getElem_toArray, List.getElem_cons_succ, List.getElem_cons_zero]
              obtain ⟨z5, hz5, hz5a, hz5b⟩ := tab8 n5q (by omega)
              refine wpAnyH_take (i := 6) (v := .pointer (some ⟨q3, n5q, none⟩)) rfl (by kernel_rfl) (by kernel_rfl) (by kernel_rfl) (fun _ _ _ h => h) (Or.inl ⟨by rfl, fun w hSw => by go_simp⟩) k53 ?_
              try simp only [Act.put, List.setIfInBounds_toArray, List.set_cons_zero, List.set_cons_succ, List.getElem_toArray, List.getElem_cons_succ, List.getElem_cons_zero]
              refine wpAnyH_take (i := 7) (v := .int .i64 z5) rfl (by kernel_rfl) (by kernel_rfl) (by kernel_rfl) (fun _ _ _ h => h) (Or.inl ⟨by rfl, fun w hSw => by have f0 := Tb.cell (hSw.2) n5q _ hz5; go_simp⟩) k53 ?_
              try simp only [Act.put, List.setIfInBounds_toArray, List.set_cons_zero, List.set_cons_succ, List.getElem_toArray, List.getElem_cons_succ, List.getElem_cons_zero]
              refine wpAnyH_ready (rs := [10]) (by kernel_rfl) (by simp) ?_
              refine AllReadyH.cons rfl (fun K hK => ?_) AllReadyH.nil
              go_simp
              go_at_call 10
              refine (HNx.out _ 4 b53a b53s G53.out.2.2.2 G53.out.2.2.1 (by omega) (by omega)).mono ?_
              rintro e v54 ⟨x10q, b54a, b54s, rfl, ⟨hx10q0, hx10q1⟩, hu54, hv54, hs54, hb54, hf54⟩
              have G54 : Hid (PaSt w b a len cap (.slice (some ⟨g, 0, none⟩) rs.length cp) rs b54a b54s v54) := G53.out.draw hf54 hb54 hs54
              have k54 : (fun W => Tb q8 T4 W ∧ Tb q3 T8 W) v54 := ⟨Tb.draw k53.1 hf54 hbq8, Tb.draw k53.2 hf54 hbq3⟩
              clear hs54 hb54 hf54
              obtain ⟨n10q, rfl⟩ := Int.eq_ofNat_of_zero_le hx10q0
              have hn10q : (n10q : Int) < 4 := by omega
              refine hK.out _ _ k54 (fun _ => ?_)
              clear hK K
              try simp only [Act.put, List.setIfInBounds_toArray, List.set_cons_zero, List.set_cons_succ, List.getElem_toArray, List.getElem_cons_succ, List.getElem_cons_zero]
              obtain ⟨z10, hz10, hz10a, hz10b⟩ := tab4 n10q (by omega)
              refine wpAnyH_take (i := 11) (v := .pointer (some ⟨q8, n10q, none⟩)) rfl (by kernel_rfl) (by kernel_rfl) (by kernel_rfl) (fun _ _ _ h => h) (Or.inl ⟨by rfl, fun w hSw => by go_simp⟩) k54 ?_
              try simp only [Act.put, List.setIfInBounds_toArray, List.set_cons_zero, List.set_cons_succ, List.getElem_toArray, List.getElem_cons_succ, List.getElem_cons_zero]
              refine wpAnyH_take (i := 12) (v := .int .i64 z10) rfl (by kernel_rfl) (by kernel_rfl) (by kernel_rfl) (fun _ _ _ h => h) (Or.inl ⟨by rfl, fun w hSw => by have f0 := Tb.cell (hSw.1) n10q _ hz10; go_simp⟩) k54 ?_
              try simp only [Act.put, List.setIfInBounds_toArray, List.set_cons_zero, List.set_cons_succ, List.getElem_toArray, List.getElem_cons_succ, List.getElem_cons_zero]
              refine wpAnyH_take (i := 13) (v := .agg #[.int .i64 (n2q : Int), .int .i64 z5, .int .i64 z10]) rfl (by kernel_rfl) (by kernel_rfl) (by kernel_rfl) (fun _ _ _ h => h) (Or.inl ⟨by rfl, fun w hSw => by go_simp⟩) k54 ?_
              try simp only [Act.put, List.setIfInBounds_toArray, List.set_cons_zero, List.set_cons_succ, List.getElem_toArray, List.getElem_cons_succ, List.getElem_cons_zero]
              refine wpAnyH_ready (rs := [14]) (by kernel_rfl) (by simp) ?_
              refine AllReadyH.cons rfl (fun K hK => ?_) AllReadyH.nil
              go_simp
              have kA : (fun W => Tb q8 T4 W ∧ Tb q3 T8 W) (v54.alloc (Obj.cells #[.int .i64 (n2q : Int), .int .i64 z5, .int .i64 z10] 34)) := ⟨Tb.alloc k54.1 _, Tb.alloc k54.2 _⟩
              have GA : Hid (PaSt w b a len cap (.slice (some ⟨g, 0, none⟩) rs.length cp) rs b54a b54s (v54.alloc (Obj.cells #[.int .i64 (n2q : Int), .int .i64 z5, .int .i64 z10] 34))) := G54.out.alloc _
              have hN := heapNew v54 (Obj.cells #[.int .i64 (n2q : Int), .int .i64 z5, .int .i64 z10] 34)
              have hzz := GA.out.2.1
              refine hK.out _ _ kA (fun _ => ?_)
              clear hK K
              try simp only [Act.put, List.setIfInBounds_toArray, List.set_cons_zero, List.set_cons_succ, List.getElem_toArray, List.getElem_cons_succ, List.getElem_cons_zero]
              refine wpAnyH_ready (rs := [15]) (by kernel_rfl) (by simp) ?_
              refine AllReadyH.cons rfl (fun K hK => ?_) AllReadyH.nil
              refine step_append_lies _ rfl (.tmp 18) (.tmp 32) 23 rfl (b + 1) 34 i0 (.agg #[.int .i64 0, .int .i64 0, .int .i64 0]) 3 24 Try.underlying23 hi hi0 hi1 hi2 rfl (by decide) (.slice (some ⟨g, 0, none⟩) rs.length cp) _ _ (by simp [Act.eval]) GA.out.1 ⟨v54.heap.size, 0, none⟩ 1 1 [.int .i64 (n2q : Int), .int .i64 z5, .int .i64 z10] (by simp [Act.eval]) rfl (World.news_of_block hN) (by simp [Value.oneCell']) (by omega) (by unfold maxLen; omega) (by omega) hzz _ rfl (fun g1 cp1 w9 hown1 hgrow1 hat1 hglt1 => ?_)
              have HF : Hid (PaSt w b a len cap (.slice (some ⟨g1, 0, none⟩) (rs.length + 1) cp1) (rs ++ [⟨(n2q : Int), z5, z10⟩]) b54a b54s w9) := GA.out.push (r := ⟨(n2q : Int), z5, z10⟩) hown1 hgrow1
              have kB : (fun W => Tb q8 T4 W ∧ Tb q3 T8 W) w9 := ⟨Tb.grow kA.1 GA.out.1 hgrow1, Tb.grow kA.2 GA.out.1 hgrow1⟩
              clear hown1 hgrow1 hat1 hglt1
              refine hK.out _ _ kB (fun _ => ?_)
              clear hK K
              try simp only [Act.put, List.setIfInBounds_toArray, List.set_cons_zero, List.set_cons_succ, List.getElem_toArray, List.getElem_cons_succ, List.getElem_cons_zero]
              refine wpAnyH_take (i := 16) (v := .slice (some ⟨g1, 0, none⟩) (rs.length + 1) cp1) rfl (by kernel_rfl) (by kernel_rfl) (by kernel_rfl) (fun _ _ _ h => h) (Or.inl ⟨by rfl, fun w hSw => by go_simp⟩) kB ?_
              try simp only [Act.put, List.setIfInBounds_toArray, List.set_cons_zero, List.set_cons_succ, List.getElem_toArray, List.getElem_cons_succ, List.getElem_cons_zero]
              refine wpAnyH_done (by kernel_rfl) ?_ _
              go_wp2
              refine ⟨⟨rs ++ [⟨(n2q : Int), z5, z10⟩], k - 1, g1, cp1, b54a, b54s, day, by rw [List.length_append]; simp; omega, by simp, by go_num, rfl, fun r hr => ?_, by omega, by rw [List.length_append]; push_cast; simp; omega, by rw [List.length_append]; push_cast; simp; omega, HF.out⟩, by simp [intOf]; omega⟩
              rcases List.mem_append.1 hr with q | q
              · exact HD.out r q
              · rw [List.mem_singleton.1 q]; unfold PaD; dsimp only; omega
            · go_simp
              go_at_call 10
              refine (HNx.out _ 8 b51a b51s G51.out.2.2.2 G51.out.2.2.1 (by omega) (by omega)).mono ?_
              rintro e v55 ⟨x5q, b55a, b55s, rfl, ⟨hx5q0, hx5q1⟩, hu55, hv55, hs55, hb55, hf55⟩
              have G55 : Hid (PaSt w b a len cap (.slice (some ⟨g, 0, none⟩) rs.length cp) rs b55a b55s v55) := G51.out.draw hf55 hb55 hs55
              have k55 : (fun W => Tb q8 T4 W) v55 := Tb.draw k51 hf55 hbq8
              clear hs55 hb55 hf55
              obtain ⟨n5q, rfl⟩ := Int.eq_ofNat_of_zero_le hx5q0
              have hn5q : (n5q : Int) < 8 := by omega
              refine hK.out _ _ k55 (fun _ => ?_)
              clear hK K
              try simp only [Act.put, List.setIfInBounds_toArray, List.set_cons_zero, List.set_cons_succ, List.getElem_toArray, List.getElem_cons_succ, List.getElem_cons_zero]
              refine wpAnyH_ready (rs := [3, 10]) (by kernel_rfl) (by simp) ?_
              refine AllReadyH.cons rfl (fun K hK => ?_) (AllReadyH.cons rfl (fun K hK => ?_) AllReadyH.nil)
              · go_simp
                have k56 : (fun W => Tb q8 T4 W) (v55.alloc (Obj.cells #[.int .i64 0, .int .i64 (-1), .int .i64 1, .int .i64 1000000, .int .i64 1000001, .int .i64 100000, .int .i64 100001, .int .i64 3] 3)) := Tb.alloc k55 _
                have m56 : Tb v55.heap.size T8 (v55.alloc (Obj.cells #[.int .i64 0, .int .i64 (-1), .int .i64 1, .int .i64 1000000, .int .i64 1000001, .int .i64 100000, .int .i64 100001, .int .i64 3] 3)) := Tb.made _ _
                have hbq3 : b < v55.heap.size := by have := G55.out.2.1; omega
                have G56 : Hid (PaSt w b a len cap (.slice (some ⟨g, 0, none⟩) rs.length cp) rs b55a b55s (v55.alloc (Obj.cells #[.int .i64 0, .int .i64 (-1), .int .i64 1, .int .i64 1000000, .int .i64 1000001, .int .i64 100000, .int .i64 100001, .int .i64 3] 3))) := G55.out.alloc _
                refine hK.out _ _ k56 (fun _ => ?_)
                clear hK K
                try simp only [Act.put, List.setIfInBounds_toArray, List.set_cons_zero, List.set_cons_succ, List.getElem_toArray, List.getElem_cons_succ, List.getElem_cons_zero]
                generalize (v55.alloc (Obj.cells #[.int .i64 0, .int .i64 (-1), .int .i64 1, .int .i64 1000000, .int .i64 1000001, .int .i64 100000, .int .i64 100001, .int .i64 3] 3)) = v56 at *
                generalize v55.heap.size = q3 at *
                have l56 : (fun W => Tb q8 T4 W ∧ Tb q3 T8 W) v56 := ⟨k56, m56⟩
                refine wpAnyH_more (S' := fun W => Tb q8 T4 W ∧ Tb q3 T8 W) (fun _ hq => hq.1) _ _ _ _ ?_
                obtain ⟨z5, hz5, hz5a, hz5b⟩ := tab8 n5q (by omega)
                refine wpAnyH_take (i := 6) (v := .pointer (some ⟨q3, n5q, none⟩)) rfl (by kernel_rfl) (by kernel_rfl) (by kernel_rfl) (fun _ _ _ h => h) (Or.inl ⟨by rfl, fun w hSw => by go_simp⟩) l56 ?_
                try simp only [Act.put, List.setIfInBounds_toArray, List.set_cons_zero, List.set_cons_succ, List.getElem_toArray, List.getElem_cons_succ, List.getElem_cons_zero]
                refine wpAnyH_take (i := 7) (v := .int .i64 z5) rfl (by kernel_rfl) (by kernel_rfl) (by kernel_rfl) (fun _ _ _ h => h) (Or.inl ⟨by rfl, fun w hSw => by have f0 := Tb.cell (hSw.2) n5q _ hz5; go_simp⟩) l56 ?_
                try simp only [Act.put, List.setIfInBounds_toArray, List.set_cons_zero, List.set_cons_succ, List.getElem_toArray, List.getElem_cons_succ, List.getElem_cons_zero]
                refine wpAnyH_ready (rs := [10]) (by kernel_rfl) (by simp) ?_
                refine AllReadyH.cons rfl (fun K hK => ?_) AllReadyH.nil
                go_simp
                go_at_call 10
                refine (HNx.out _ 4 b55a b55s G56.out.2.2.2 G56.out.2.2.1 (by omega) (by omega)).mono ?_
                rintro e v57 ⟨x10q, b57a, b57s, rfl, ⟨hx10q0, hx10q1⟩, hu57, hv57, hs57, hb57, hf57⟩
                have G57 : Hid (PaSt w b a len cap (.slice (some ⟨g, 0, none⟩) rs.length cp) rs b57a b57s v57) := G56.out.draw hf57 hb57 hs57
                have k57 : (fun W => Tb q8 T4 W ∧ Tb q3 T8 W) v57 := ⟨Tb.draw l56.1 hf57 hbq8, Tb.draw l56.2 hf57 hbq3⟩
                clear hs57 hb57 hf57
                obtain ⟨n10q, rfl⟩ := Int.eq_ofNat_of_zero_le hx10q0
                have hn10q : (n10q : Int) < 4 := by omega
                refine hK.out _ _ k57 (fun _ => ?_)
                clear hK K
                try simp only [Act.put, List.setIfInBounds_toArray, List.set_cons_zero, List.set_cons_succ, List.getElem_toArray, List.getElem_cons_succ, List.getElem_cons_zero]
                obtain ⟨z10, hz10, hz10a, hz10b⟩ := tab4 n10q (by omega)
                refine wpAnyH_take (i := 11) (v := .pointer (some ⟨q8, n10q, none⟩)) rfl (by kernel_rfl) (by kernel_rfl) (by kernel_rfl) (fun _ _ _ h => h) (Or.inl ⟨by rfl, fun w hSw => by go_simp⟩) k57 ?_
                try simp only [Act.put, List.setIfInBounds_toArray, List.set_cons_zero, List.set_cons_succ, List.getElem_toArray, List.getElem_cons_succ, List.getElem_cons_zero]
                refine wpAnyH_take (i := 12) (v := .int .i64 z10) rfl (by kernel_rfl) (by kernel_rfl) (by kernel_rfl) (fun _ _ _ h => h) (Or.inl ⟨by rfl, fun w hSw => by have f0 := Tb.cell (hSw.1) n10q _ hz10; go_simp⟩) k57 ?_
                try simp only [Act.put, List.setIfInBounds_toArray, List.set_cons_zero, List.set_cons_succ, List.getElem_toArray, List.getElem_cons_succ, List.getElem_cons_zero]
                refine wpAnyH_take (i := 13) (v := .agg #[.int .i64 (n2q : Int), .int .i64 z5, .int .i64 z10]) rfl (by kernel_rfl) (by kernel_rfl) (by kernel_rfl) (fun _ _ _ h => h) (Or.inl ⟨by rfl, fun w hSw => by go_simp⟩) k57 ?_
                try simp only [Act.put, List.setIfInBounds_toArray, List.set_cons_zero, List.set_cons_succ, List.getElem_toArray, List.getElem_cons_succ, List.getElem_cons_zero]
                refine wpAnyH_ready (rs := [14]) (by kernel_rfl) (by simp) ?_
                refine AllReadyH.cons rfl (fun K hK => ?_) AllReadyH.nil
                go_simp
                have kA : (fun W => Tb q8 T4 W ∧ Tb q3 T8 W) (v57.alloc (Obj.cells #[.int .i64 (n2q : Int), .int .i64 z5, .int .i64 z10] 34)) := ⟨Tb.alloc k57.1 _, Tb.alloc k57.2 _⟩
                have GA : Hid (PaSt w b a len cap (.slice (some ⟨g, 0, none⟩) rs.length cp) rs b57a b57s (v57.alloc (Obj.cells #[.int .i64 (n2q : Int), .int .i64 z5, .int .i64 z10] 34))) := G57.out.alloc _
                have hN := heapNew v57 (Obj.cells #[.int .i64 (n2q : Int), .int .i64 z5, .int .i64 z10] 34)
                have hzz := GA.out.2.1
                refine hK.out _ _ kA (fun _ => ?_)
                clear hK K
                try simp only [Act.put, List.setIfInBounds_toArray, List.set_cons_zero, List.set_cons_succ, List.getElem_toArray, List.getElem_cons_succ, List.getElem_cons_zero]
                refine wpAnyH_ready (rs := [15]) (by kernel_rfl) (by simp) ?_
                refine AllReadyH.cons rfl (fun K hK => ?_) AllReadyH.nil
                refine step_append_lies _ rfl (.tmp 18) (.tmp 32) 23 rfl (b + 1) 34 i0 (.agg #[.int .i64 0, .int .i64 0, .int .i64 0]) 3 24 Try.underlying23 hi hi0 hi1 hi2 rfl (by decide) (.slice (some ⟨g, 0, none⟩) rs.length cp) _ _ (by simp [Act.eval]) GA.out.1 ⟨v57.heap.size, 0, none⟩ 1 1 [.int .i64 (n2q : Int), .int .i64 z5, .int .i64 z10] (by simp [Act.eval]) rfl (World.news_of_block hN) (by simp [Value.oneCell']) (by omega) (by unfold maxLen; omega) (by omega) hzz _ rfl (fun g1 cp1 w9 hown1 hgrow1 hat1 hglt1 => ?_)
                have HF : Hid (PaSt w b a len cap (.slice (some ⟨g1, 0, none⟩) (rs.length + 1) cp1) (rs ++ [⟨(n2q : Int), z5, z10⟩]) b57a b57s w9) := GA.out.push (r := ⟨(n2q : Int), z5, z10⟩) hown1 hgrow1
                have kB : (fun W => Tb q8 T4 W ∧ Tb q3 T8 W) w9 := ⟨Tb.grow kA.1 GA.out.1 hgrow1, Tb.grow kA.2 GA.out.1 hgrow1⟩
                clear hown1 hgrow1 hat1 hglt1
                refine hK.out _ _ kB (fun _ => ?_)
                clear hK K
                try simp only [Act.put, List.setIfInBounds_toArray, List.set_cons_zero, List.set_cons_succ, List.getElem_toArray, List.getElem_cons_succ, List.getElem_cons_zero]
                refine wpAnyH_take (i := 16) (v := .slice (some ⟨g1, 0, none⟩) (rs.length + 1) cp1) rfl (by kernel_rfl) (by kernel_rfl) (by kernel_rfl) (fun _ _ _ h => h) (Or.inl ⟨by rfl, fun w hSw => by go_simp⟩) kB ?_
                try simp only [Act.put, List.setIfInBounds_toArray, List.set_cons_zero, List.set_cons_succ, List.getElem_toArray, List.getElem_cons_succ, List.getElem_cons_zero]
                refine wpAnyH_done (by kernel_rfl) ?_ _
                go_wp2
                refine ⟨⟨rs ++ [⟨(n2q : Int), z5, z10⟩], k - 1, g1, cp1, b57a, b57s, day, by rw [List.length_append]; simp; omega, by simp, by go_num, rfl, fun r hr => ?_, by omega, by rw [List.length_append]; push_cast; simp; omega, by rw [List.length_append]; push_cast; simp; omega, HF.out⟩, by simp [intOf]; omega⟩
                rcases List.mem_append.1 hr with q | q
                · exact HD.out r q
                · rw [List.mem_singleton.1 q]; unfold PaD; dsimp only; omega
              · go_simp
                go_at_call 10
                refine (HNx.out _ 4 b55a b55s G55.out.2.2.2 G55.out.2.2.1 (by omega) (by omega)).mono ?_
                rintro e v58 ⟨x10q, b58a, b58s, rfl, ⟨hx10q0, hx10q1⟩, hu58, hv58, hs58, hb58, hf58⟩
                have G58 : Hid (PaSt w b a len cap (.slice (some ⟨g, 0, none⟩) rs.length cp) rs b58a b58s v58) := G55.out.draw hf58 hb58 hs58
                have k58 : (fun W => Tb q8 T4 W) v58 := Tb.draw k55 hf58 hbq8
                clear hs58 hb58 hf58
                obtain ⟨n10q, rfl⟩ := Int.eq_ofNat_of_zero_le hx10q0
                have hn10q : (n10q : Int) < 4 := by omega
                refine hK.out _ _ k58 (fun _ => ?_)
                clear hK K
                try simp only [Act.put, List.setIfInBounds_toArray, List.set_cons_zero, List.set_cons_succ, List.getElem_toArray, List.getElem_cons_succ, List.getElem_cons_zero]
                obtain ⟨z10, hz10, hz10a, hz10b⟩ := tab4 n10q (by omega)
                refine wpAnyH_take (i := 11) (v := .pointer (some ⟨q8, n10q, none⟩)) rfl (by kernel_rfl) (by kernel_rfl) (by kernel_rfl) (fun _ _ _ h => h) (Or.inl ⟨by rfl, fun w hSw => by go_simp⟩) k58 ?_
                try simp only [Act.put, List.setIfInBounds_toArray, List.set_cons_zero, List.set_cons_succ, List.getElem_toArray, List.getElem_cons_succ, List.getElem_cons_zero]
                refine wpAnyH_take (i := 12) (v := .int .i64 z10) rfl (by kernel_rfl) (by kernel_rfl) (by kernel_rfl) (fun _ _ _ h => h) (Or.inl ⟨by rfl, fun w hSw => by have f0 := Tb.cell (hSw) n10q _ hz10; go_simp⟩) k58 ?_
                try simp only [Act.put, List.setIfInBounds_toArray, List.set_cons_zero, List.set_cons_succ, List.getElem_toArray, List.getElem_cons_succ, List.getElem_cons_zero]
                refine wpAnyH_ready (rs := [3]) (by kernel_rfl) (by simp) ?_
                refine AllReadyH.cons rfl (fun K hK => ?_) AllReadyH.nil
                go_simp
                have k59 : (fun W => Tb q8 T4 W) (v58.alloc (Obj.cells #[.int .i64 0, .int .i64 (-1), .int .i64 1, .int .i64 1000000, .int .i64 1000001, .int .i64 100000, .int .i64 100001, .int .i64 3] 3)) := Tb.alloc k58 _
                have m59 : Tb v58.heap.size T8 (v58.alloc (Obj.cells #[.int .i64 0, .int .i64 (-1), .int .i64 1, .int .i64 1000000, .int .i64 1000001, .int .i64 100000, .int .i64 100001, .int .i64 3] 3)) := Tb.made _ _
                have hbq3 : b < v58.heap.size := by have := G58.out.2.1; omega
                have G59 : Hid (PaSt w b a len cap (.slice (some ⟨g, 0, none⟩) rs.length cp) rs b58a b58s (v58.alloc (Obj.cells #[.int .i64 0, .int .i64 (-1), .int .i64 1, .int .i64 1000000, .int .i64 1000001, .int .i64 100000, .int .i64 100001, .int .i64 3] 3))) := G58.out.alloc _
                refine hK.out _ _ k59 (fun _ => ?_)
                clear hK K
                try simp only [Act.put, List.setIfInBounds_toArray, List.set_cons_zero, List.set_cons_succ, List.getElem_toArray, List.getElem_cons_succ, List.getElem_cons_zero]
                generalize (v58.alloc (Obj.cells #[.int .i64 0, .int .i64 (-1), .int .i64 1, .int .i64 1000000, .int .i64 1000001, .int .i64 100000, .int .i64 100001, .int .i64 3] 3)) = v59 at *
                generalize v58.heap.size = q3 at *
                have l59 : (fun W => Tb q8 T4 W ∧ Tb q3 T8 W) v59 := ⟨k59, m59⟩
                refine wpAnyH_more (S' := fun W => Tb q8 T4 W ∧ Tb q3 T8 W) (fun _ hq => hq.1) _ _ _ _ ?_
                obtain ⟨z5, hz5, hz5a, hz5b⟩ := tab8 n5q (by omega)
                refine wpAnyH_take (i := 6) (v := .pointer (some ⟨q3, n5q, none⟩)) rfl (by kernel_rfl) (by kernel_rfl) (by kernel_rfl) (fun _ _ _ h => h) (Or.inl ⟨by rfl, fun w hSw => by go_simp⟩) l59 ?_
                try simp only [Act.put, List.setIfInBounds_toArray, List.set_cons_zero, List.set_cons_succ, List.getElem_toArray, List.getElem_cons_succ, List.getElem_cons_zero]
                refine wpAnyH_take (i := 7) (v := .int .i64 z5) rfl (by kernel_rfl) (by kernel_rfl) (by kernel_rfl) (fun _ _ _ h => h) (Or.inl ⟨by rfl, fun w hSw => by have f0 := Tb.cell (hSw.2) n5q _ hz5; go_simp⟩) l59 ?_
                try simp only [Act.put, List.setIfInBounds_toArray, List.set_cons_zero, List.set_cons_succ, List.getElem_toArray, List.getElem_cons_succ, List.getElem_cons_zero]
                refine wpAnyH_take (i := 13) (v := .agg #[.int .i64 (n2q : Int), .int .i64 z5, .int .i64 z10]) rfl (by kernel_rfl) (by kernel_rfl) (by kernel_rfl) (fun _ _ _ h => h) (Or.inl ⟨by rfl, fun w hSw => by go_simp⟩) l59 ?_
                try simp only [Act.put, List.setIfInBounds_toArray, List.set_cons_zero, List.set_cons_succ, List.getElem_toArray, List.getElem_cons_succ, List.getElem_cons_zero]
                refine wpAnyH_ready (rs := [14]) (by kernel_rfl) (by simp) ?_
                refine AllReadyH.cons rfl (fun K hK => ?_) AllReadyH.nil
                go_simp
                have kA : (fun W => Tb q8 T4 W ∧ Tb q3 T8 W) (v59.alloc (Obj.cells #[.int .i64 (n2q : Int), .int .i64 z5, .int .i64 z10] 34)) := ⟨Tb.alloc l59.1 _, Tb.alloc l59.2 _⟩
                have GA : Hid (PaSt w b a len cap (.slice (some ⟨g, 0, none⟩) rs.length cp) rs b58a b58s (v59.alloc (Obj.cells #[.int .i64 (n2q : Int), .int .i64 z5, .int .i64 z10] 34))) := G59.out.alloc _
                have hN := heapNew v59 (Obj.cells #[.int .i64 (n2q : Int), .int .i64 z5, .int .i64 z10] 34)
                have hzz := GA.out.2.1
                refine hK.out _ _ kA (fun _ => ?_)
                clear hK K
                try simp only [Act.put, List.setIfInBounds_toArray, List.set_cons_zero, List.set_cons_succ, List.getElem_toArray, List.getElem_cons_succ, List.getElem_cons_zero]
                refine wpAnyH_ready (rs := [15]) (by kernel_rfl) (by simp) ?_
                refine AllReadyH.cons rfl (fun K hK => ?_) AllReadyH.nil
                refine step_append_lies _ rfl (.tmp 18) (.tmp 32) 23 rfl (b + 1) 34 i0 (.agg #[.int .i64 0, .int .i64 0, .int .i64 0]) 3 24 Try.underlying23 hi hi0 hi1 hi2 rfl (by decide) (.slice (some ⟨g, 0, none⟩) rs.length cp) _ _ (by simp [Act.eval]) GA.out.1 ⟨v59.heap.size, 0, none⟩ 1 1 [.int .i64 (n2q : Int), .int .i64 z5, .int .i64 z10] (by simp [Act.eval]) rfl (World.news_of_block hN) (by simp [Value.oneCell']) (by omega) (by unfold maxLen; omega) (by omega) hzz _ rfl (fun g1 cp1 w9 hown1 hgrow1 hat1 hglt1 => ?_)
                have HF : Hid (PaSt w b a len cap (.slice (some ⟨g1, 0, none⟩) (rs.length + 1) cp1) (rs ++ [⟨(n2q : Int), z5, z10⟩]) b58a b58s w9) := GA.out.push (r := ⟨(n2q : Int), z5, z10⟩) hown1 hgrow1
                have kB : (fun W => Tb q8 T4 W ∧ Tb q3 T8 W) w9 := ⟨Tb.grow kA.1 GA.out.1 hgrow1, Tb.grow kA.2 GA.out.1 hgrow1⟩
                clear hown1 hgrow1 hat1 hglt1
                refine hK.out _ _ kB (fun _ => ?_)
                clear hK K
                try simp only [Act.put, List.setIfInBounds_toArray, List.set_cons_zero, List.set_cons_succ, List.getElem_toArray, List.getElem_cons_succ, List.getElem_cons_zero]
                refine wpAnyH_take (i := 16) (v := .slice (some ⟨g1, 0, none⟩) (rs.length + 1) cp1) rfl (by kernel_rfl) (by kernel_rfl) (by kernel_rfl) (fun _ _ _ h => h) (Or.inl ⟨by rfl, fun w hSw => by go_simp⟩) kB ?_
                try simp only [Act.put, List.setIfInBounds_toArray, List.set_cons_zero, List.set_cons_succ, List.getElem_toArray, List.getElem_cons_succ, List.getElem_cons_zero]
                refine wpAnyH_done (by kernel_rfl) ?_ _
                go_wp2
                refine ⟨⟨rs ++ [⟨(n2q : Int), z5, z10⟩], k - 1, g1, cp1, b58a, b58s, day, by rw [List.length_append]; simp; omega, by simp, by go_num, rfl, fun r hr => ?_, by omega, by rw [List.length_append]; push_cast; simp; omega, by rw [List.length_append]; push_cast; simp; omega, HF.out⟩, by simp [intOf]; omega⟩
                rcases List.mem_append.1 hr with q | q
                · exact HD.out r q
                · rw [List.mem_singleton.1 q]; unfold PaD; dsimp only; omega
          · go_simp
            have k60 : (fun W => Tb q8 T4 W) (v50.alloc (Obj.cells #[.int .i64 0, .int .i64 (-1), .int .i64 1, .int .i64 1000000, .int .i64 1000001, .int .i64 100000, .int .i64 100001, .int .i64 3] 3)) := Tb.alloc l50 _
            have m60 : Tb v50.heap.size T8 (v50.alloc (Obj.cells #[.int .i64 0, .int .i64 (-1), .int .i64 1, .int .i64 1000000, .int .i64 1000001, .int .i64 100000, .int .i64 100001, .int .i64 3] 3)) := Tb.made _ _
            have hbq3 : b < v50.heap.size := by have := G50.out.2.1; omega
            have G60 : Hid (PaSt w b a len cap (.slice (some ⟨g, 0, none⟩) rs.length cp) rs a4 s4 (v50.alloc (Obj.cells #[.int .i64 0, .int .i64 (-1), .int .i64 1, .int .i64 1000000, .int .i64 1000001, .int .i64 100000, .int .i64 100001, .int .i64 3] 3))) := G50.out.alloc _
            refine hK.out _ _ k60 (fun _ => ?_)
            clear hK K
            try simp only [Act.put, List.setIfInBounds_toArray, List.set_cons_zero, List.set_cons_succ, List.getElem_toArray, List.getElem_cons_succ, List.getElem_cons_zero]
            generalize (v50.alloc (Obj.cells #[.int .i64 0, .int .i64 (-1), .int .i64 1, .int .i64 1000000, .int .i64 1000001, .int .i64 100000, .int .i64 100001, .int .i64 3] 3)) = v60 at *
            generalize v50.heap.size = q3 at *
            have l60 : (fun W => Tb q8 T4 W ∧ Tb q3 T8 W) v60 := ⟨k60, m60⟩
            refine wpAnyH_more (S' := fun W => Tb q8 T4 W ∧ Tb q3 T8 W) (fun _ hq => hq.1) _ _ _ _ ?_
            refine wpAnyH_ready (rs := [2]) (by kernel_rfl) (by simp) ?_
            refine AllReadyH.cons rfl (fun K hK => ?_) AllReadyH.nil
            go_simp
            go_at_call 10
            refine (HNx.out _ 6 a4 s4 G60.out.2.2.2 G60.out.2.2.1 (by omega) (by omega)).mono ?_
            rintro e v61 ⟨x2q, b61a, b61s, rfl, ⟨hx2q0, hx2q1⟩, hu61, hv61, hs61, hb61, hf61⟩
            have G61 : Hid (PaSt w b a len cap (.slice (some ⟨g, 0, none⟩) rs.length cp) rs b61a b61s v61) := G60.out.draw hf61 hb61 hs61
            have k61 : (fun W => Tb q8 T4 W ∧ Tb q3 T8 W) v61 := ⟨Tb.draw l60.1 hf61 hbq8, Tb.draw l60.2 hf61 hbq3⟩
            clear hs61 hb61 hf61
            obtain ⟨n2q, rfl⟩ := Int.eq_ofNat_of_zero_le hx2q0
            have hn2q : (n2q : Int) < 6 := by omega
            refine hK.out _ _ k61 (fun _ => ?_)
            clear hK K
            try simp only [Act.put, List.setIfInBounds_toArray, List.set_cons_zero, List.set_cons_succ, List.getElem_toArray, List.getElem_cons_succ, List.getElem_cons_zero]
            refine wpAnyH_ready (rs := [5]) (by kernel_rfl) (by simp) ?_
            refine AllReadyH.cons rfl (fun K hK => ?_) AllReadyH.nil
            go_simp
            go_at_call 10
            refine (HNx.out _ 8 b61a b61s G61.out.2.2.2 G61.out.2.2.1 (by omega) (by omega)).mono ?_
            rintro e v62 ⟨x5q, b62a, b62s, rfl, ⟨hx5q0, hx5q1⟩, hu62, hv62, hs62, hb62, hf62⟩
            have G62 : Hid (PaSt w b a len cap (.slice (some ⟨g, 0, none⟩) rs.length cp) rs b62a b62s v62) := G61.out.draw hf62 hb62 hs62
            have k62 : (fun W => Tb q8 T4 W ∧ Tb q3 T8 W) v62 := ⟨Tb.draw k61.1 hf62 hbq8, Tb.draw k61.2 hf62 hbq3⟩
            clear hs62 hb62 hf62
            obtain ⟨n5q, rfl⟩ := Int.eq_ofNat_of_zero_le hx5q0
            have hn5q : (n5q : Int) < 8 := by omega
            refine hK.out _ _ k62 (fun _ => ?_)
            clear hK K
            try simp only [Act.put, List.setIfInBounds_toArray, List.set_cons_zero, List.set_cons_succ, List.getElem_toArray, List.getElem_cons_succ, List.getElem_cons_zero]
            obtain ⟨z5, hz5, hz5a, hz5b⟩ := tab8 n5q (by omega)
            refine wpAnyH_take (i := 6) (v := .pointer (some ⟨q3, n5q, none⟩)) rfl (by kernel_rfl) (by kernel_rfl) (by kernel_rfl) (fun _ _ _ h => h) (Or.inl ⟨by rfl, fun w hSw => by go_simp⟩) k62 ?_
            try simp only [Act.put, List.setIfInBounds_toArray, List.set_cons_zero, List.set_cons_succ, List.getElem_toArray, List.getElem_cons_succ, List.getElem_cons_zero]
            refine wpAnyH_take (i := 7) (v := .int .i64 z5) rfl (by kernel_rfl) (by kernel_rfl) (by kernel_rfl) (fun _ _ _ h => h) (Or.inl ⟨by rfl, fun w hSw => by have f0 := Tb.cell (hSw.2) n5q _ hz5; go_simp⟩) k62 ?_
            try simp only [Act.put, List.setIfInBounds_toArray, List.set_cons_zero, List.set_cons_succ, List.getElem_toArray, List.getElem_cons_succ, List.getElem_cons_zero]
            refine wpAnyH_ready (rs := [10]) (by kernel_rfl) (by simp) ?_
            refine AllReadyH.cons rfl (fun K hK => ?_) AllReadyH.nil
            go_simp
            go_at_call 10
            refine (HNx.out _ 4 b62a b62s G62.out.2.2.2 G62.out.2.2.1 (by omega) (by omega)).mono ?_
            rintro e v63 ⟨x10q, b63a, b63s, rfl, ⟨hx10q0, hx10q1⟩, hu63, hv63, hs63, hb63, hf63⟩
            have G63 : Hid (PaSt w b a len cap (.slice (some ⟨g, 0, none⟩) rs.length cp) rs b63a b63s v63) := G62.out.draw hf63 hb63 hs63
            have k63 : (fun W => Tb q8 T4 W ∧ Tb q3 T8 W) v63 := ⟨Tb.draw k62.1 hf63 hbq8, Tb.draw k62.2 hf63 hbq3⟩
            clear hs63 hb63 hf63
            obtain ⟨n10q, rfl⟩ := Int.eq_ofNat_of_zero_le hx10q0
            have hn10q : (n10q : Int) < 4 := by omega
            refine hK.out _ _ k63 (fun _ => ?_)
            clear hK K
            try simp only [Act.put, List.setIfInBounds_toArray, List.set_cons_zero, List.set_cons_succ, List.getElem_toArray, List.getElem_cons_succ, List.getElem_cons_zero]
            obtain ⟨z10, hz10, hz10a, hz10b⟩ := tab4 n10q (by omega)
            refine wpAnyH_take (i := 11) (v := .pointer (some ⟨q8, n10q, none⟩)) rfl (by kernel_rfl) (by kernel_rfl) (by kernel_rfl) (fun _ _ _ h => h) (Or.inl ⟨by rfl, fun w hSw => by go_simp⟩) k63 ?_
            try simp only [Act.put, List.setIfInBounds_toArray, List.set_cons_zero, List.set_cons_succ, List.getElem_toArray, List.getElem_cons_succ, List.getElem_cons_zero]
            refine wpAnyH_take (i := 12) (v := .int .i64 z10) rfl (by kernel_rfl) (by kernel_rfl) (by kernel_rfl) (fun _ _ _ h => h) (Or.inl ⟨by rfl, fun w hSw => by have f0 := Tb.cell (hSw.1) n10q _ hz10; go_simp⟩) k63 ?_
            try simp only [Act.put, List.setIfInBounds_toArray, List.set_cons_zero, List.set_cons_succ, List.getElem_toArray, List.getElem_cons_succ, List.getElem_cons_zero]
            refine wpAnyH_take (i := 13) (v := .agg #[.int .i64 (n2q : Int), .int .i64 z5, .int .i64 z10]) rfl (by kernel_rfl) (by kernel_rfl) (by kernel_rfl) (fun _ _ _ h => h) (Or.inl ⟨by rfl, fun w hSw => by go_simp⟩) k63 ?_
            try simp only [Act.put, List.setIfInBounds_toArray, List.set_cons_zero, List.set_cons_succ, List.getElem_toArray, List.getElem_cons_succ, List.getElem_cons_zero]
            refine wpAnyH_ready (rs := [14]) (by kernel_rfl) (by simp) ?_
            refine AllReadyH.cons rfl (fun K hK => ?_) AllReadyH.nil
            go_simp
            have kA : (fun W => Tb q8 T4 W ∧ Tb q3 T8 W) (v63.alloc (Obj.cells #[.int .i64 (n2q : Int), .int .i64 z5, .int .i64 z10] 34)) := ⟨Tb.alloc k63.1 _, Tb.alloc k63.2 _⟩
            have GA : Hid (PaSt w b a len cap (.slice (some ⟨g, 0, none⟩) rs.length cp) rs b63a b63s (v63.alloc (Obj.cells #[.int .i64 (n2q : Int), .int .i64 z5, .int .i64 z10] 34))) := G63.out.alloc _
            have hN := heapNew v63 (Obj.cells #[.int .i64 (n2q : Int), .int .i64 z5, .int .i64 z10] 34)
            have hzz := GA.out.2.1
            refine hK.out _ _ kA (fun _ => ?_)
            clear hK K
            try simp only [Act.put, List.setIfInBounds_toArray, List.set_cons_zero, List.set_cons_succ, List.getElem_toArray, List.getElem_cons_succ, List.getElem_cons_zero]
            refine wpAnyH_ready (rs := [15]) (by kernel_rfl) (by simp) ?_
            refine AllReadyH.cons rfl (fun K hK => ?_) AllReadyH.nil
            refine step_append_lies _ rfl (.tmp 18) (.tmp 32) 23 rfl (b + 1) 34 i0 (.agg #[.int .i64 0, .int .i64 0, .int .i64 0]) 3 24 Try.underlying23 hi hi0 hi1 hi2 rfl (by decide) (.slice (some ⟨g, 0, none⟩) rs.length cp) _ _ (by simp [Act.eval]) GA.out.1 ⟨v63.heap.size, 0, none⟩ 1 1 [.int .i64 (n2q : Int), .int .i64 z5, .int .i64 z10] (by simp [Act.eval]) rfl (World.news_of_block hN) (by simp [Value.oneCell']) (by omega) (by unfold maxLen; omega) (by omega) hzz _ rfl (fun g1 cp1 w9 hown1 hgrow1 hat1 hglt1 => ?_)
            have HF : Hid (PaSt w b a len cap (.slice (some ⟨g1, 0, none⟩) (rs.length + 1) cp1) (rs ++ [⟨(n2q : Int), z5, z10⟩]) b63a b63s w9) := GA.out.push (r := ⟨(n2q : Int), z5, z10⟩) hown1 hgrow1
            have kB : (fun W => Tb q8 T4 W ∧ Tb q3 T8 W) w9 := ⟨Tb.grow kA.1 GA.out.1 hgrow1, Tb.grow kA.2 GA.out.1 hgrow1⟩
            clear hown1 hgrow1 hat1 hglt1
            refine hK.out _ _ kB (fun _ => ?_)
            clear hK K
            try simp only [Act.put, List.setIfInBounds_toArray, List.set_cons_zero, List.set_cons_succ, List.getElem_toArray, List.getElem_cons_succ, List.getElem_cons_zero]
            refine wpAnyH_take (i := 16) (v := .slice (some ⟨g1, 0, none⟩) (rs.length + 1) cp1) rfl (by kernel_rfl) (by kernel_rfl) (by kernel_rfl) (fun _ _ _ h => h) (Or.inl ⟨by rfl, fun w hSw => by go_simp⟩) kB ?_
            try simp only [Act.put, List.setIfInBounds_toArray, List.set_cons_zero, List.set_cons_succ, List.getElem_toArray, List.getElem_cons_succ, List.getElem_cons_zero]
            refine wpAnyH_done (by kernel_rfl) ?_ _
            go_wp2
            refine ⟨⟨rs ++ [⟨(n2q : Int), z5, z10⟩], k - 1, g1, cp1, b63a, b63s, day, by rw [List.length_append]; simp; omega, by simp, by go_num, rfl, fun r hr => ?_, by omega, by rw [List.length_append]; push_cast; simp; omega, by rw [List.length_append]; push_cast; simp; omega, HF.out⟩, by simp [intOf]; omega⟩
            rcases List.mem_append.1 hr with q | q
            · exact HD.out r q
            · rw [List.mem_singleton.1 q]; unfold PaD; dsimp only; omega
    · obtain rfl : k = 0 := by omega
      go_wp2
      go_ret
      exact ⟨rs, g, cp, at', sd, rfl, by omega, HD.out, HS.out⟩
end Go.Proofs.Ytgjplolhcjiidaa
