/-
  Texts of this claim laid together: DrawTw.
-/
import Derived.Test.YtabpkfhbnendjaaGreatM33
/-
  The specification's drawn acts of a till.
-/
namespace Go.Proofs.YtabpkfhbnendjaaGreat
open Go.ChangeShapes Go.WideShapes Go.ChangeAt Go.RowKit Go.Deep
set_option linter.unusedVariables false

set_option maxRecDepth 8000 in
set_option maxHeartbeats 40000000 in
theorem tillActs_drawn (b : Nat) (a : Option Addr) (len cap : Nat) (zs : List Int) (a0 s0 : Int) (w w1 : World) (hs : Src w1 b a len cap a0 s0) (hb : Below b w w1) (hr : RowB b w a len zs) (hlen : len ≤ maxLen) (ha0 : a0 ≤ 1000) (gi ci : Nat) (its : List RIt) (hl1 : 1 ≤ its.length) (hl6 : its.length ≤ 6) (hgi : gi < w1.heap.size) (hgb : gi ≠ b) (hits : ItsAt w1 gi 0 its) (hgd : ∀ r ∈ its, Good r.cd) :
    Calls Tryz.prog 12 #[.pointer (some ⟨b, 0, none⟩), .slice (some ⟨gi, 0, none⟩) its.length ci] w1 fun e w' => ∃ (rs : List RTa) (g cp : Nat) (at' sd : Int), e = .returned (.slice (some ⟨g, 0, none⟩) rs.length cp) ∧ rs.length ≤ 25 ∧ (∀ r ∈ rs, TaD r) ∧ TaSo w w1 b a len cap (.slice (some ⟨g, 0, none⟩) rs.length cp) rs at' sd w' := by
  have HRw : Hid (∀ W, Below b w W → RowB b W a len zs) := fun W hW => hr.below hW
  have HNx : Hid (∀ W (n at' sd : Int), Below b w W → Src W b a len cap at' sd → at' ≤ 5000 → n ≤ 10000 → Calls Tryz.prog 19 #[.pointer (some ⟨b, 0, none⟩), .int .i64 n] W fun e w' => ∃ x at2 s' : Int, e = .returned (.int .i64 x) ∧ Drawn x n ∧ at' ≤ at2 ∧ at2 ≤ at' + 3 ∧ Src w' b a len cap at2 s' ∧ Drwn b W w') := fun W n at' sd hW hs h1 h2 => next_D b a len cap zs n at' sd W hs (hr.below hW) (by omega) (by omega)
  have HSz : Hid (∀ W (at' sd : Int), Src W b a len cap at' sd → Calls Tryz.prog 20 #[.pointer (some ⟨b, 0, none⟩), .int .i64 24] W fun e w' => (∃ x : Int, e = .returned (.int .i64 x) ∧ 1 ≤ x ∧ x ≤ 24) ∧ w' = W) := fun W at' sd h => size_src b a len cap 24 at' sd W h hlen (by omega) (by omega)
  have HIt : Hid (∀ (rs : List RTa) (v : Value) (at' sd : Int) (W : World), TaSo w w1 b a len cap v rs at' sd W → ∀ i, i < its.length → ItAt W gi (i * 5) (its.getD i zIt)) := fun rs v at' sd W h i hi => by
    have e := h.kp gi hgb hgi
    have q := hits i hi
    rw [Nat.zero_add] at q
    have c := fun j x (hx : w1.cell? ⟨gi, j, none⟩ = some x) => (World.cell?_of_block (w := w1) (w' := W) (a := ⟨gi, j, none⟩) e).trans hx
    exact ⟨c _ _ q.1, c _ _ q.2.1, c _ _ q.2.2.1, c _ _ q.2.2.2.1, c _ _ q.2.2.2.2⟩
  have HGd : Hid (∀ r ∈ its, Good r.cd) := hgd
  obtain ⟨i0, hi, hzz⟩ := Option.map_eq_some_iff.1 taInf
  simp only [Prod.mk.injEq] at hzz
  obtain ⟨hi0, hi1, hi2⟩ := hzz
  have H1 : Hid (TaSo w w1 b a len cap (.slice (some ⟨w1.heap.size, 0, none⟩) 0 0) [] a0 s0 (w1.alloc (Obj.cells #[] 42))) := TaSo.start hs hb
  have hb1 : b < w1.heap.size := hs.2.2.2.2.2.1
  have ha00 : 0 ≤ a0 := hs.2.2.2.2.2.2.1
  clear hr hs hb hits hgd
  go_enter Tryz.func12, Tryz.ntmps12
  go_wp2_with fail
  (first | go_at_call 20 | skip)
  refine (HSz.out _ a0 s0 H1.out.src).mono ?_
  rintro e w2 ⟨⟨xs, rfl, hxs1, hxs2⟩, rfl⟩
  clear HSz
  go_wp2_with fail
  (first | go_at_call 19 | skip)
  refine (HNx.out _ (xs + 2) a0 s0 H1.out.bel H1.out.src (by omega) (by omega)).mono ?_
  rintro e w3 ⟨x3, a3, s3, rfl, ⟨hx30, hx31⟩, ha3, hb3, hs3, d3⟩
  have H3 : Hid (TaSo w w1 b a len cap (.slice (some ⟨w1.heap.size, 0, none⟩) 0 0) [] a3 s3 w3) := H1.out.draw d3 hs3
  clear hs3 d3 H1
  obtain ⟨k3, rfl⟩ := Int.eq_ofNat_of_zero_le hx30
  have hk3 : k3 ≤ 25 := by omega
  go_wp2_with fail
  go_loopw [5, 6, 7, 8, 64, 70, 78, 81, 87, 97] (fun v x _ _ _ _ _ _ _ _ wr => ∃ (rs : List RTa) (k g cp : Nat) (at' sd : Int), rs.length + k ≤ 25 ∧ v = .slice (some ⟨g, 0, none⟩) rs.length cp ∧ x = .int .i64 (k : Int) ∧ (∀ r ∈ rs, TaD r) ∧ at' ≤ 3010 - 80 * (k : Int) ∧ TaSo w w1 b a len cap v rs at' sd wr) (fun _ x _ _ _ _ _ _ _ _ _ => (intOf x).toNat)
  case atStart => exact ⟨[], k3, w1.heap.size, 0, a3, s3, by simpa using hk3, rfl, rfl, (fun r hr => by simp at hr), by omega, H3.out⟩
  case round =>
    obtain ⟨rs, k, g, cp, a4, s4, hk, rfl, rfl, hD, hat, hst⟩ := hrel
    obtain ⟨w4, rfl⟩ : ∃ w4, w4 = wr := ⟨_, rfl⟩
    have H4 : Hid (TaSo w w1 b a len cap (.slice (some ⟨g, 0, none⟩) rs.length cp) rs a4 s4 w4) := hst
    have HD : Hid (∀ r ∈ rs, TaD r) := hD
    clear hst hD H3
    by_cases hlt : 0 < k
    · have hlt' : (0 : Int) < (k : Int) := by omega
      obtain ⟨w5, hw5⟩ : ∃ w5, w5 = w4.alloc (Obj.cells #[.int .i64 1, .string ⟨#[]⟩, .int .i64 1] 42) := ⟨_, rfl⟩
      obtain ⟨A, hA⟩ : ∃ A, A = w4.heap.size := ⟨_, rfl⟩
      have HW5 : Hid (w5 = w4.alloc (Obj.cells #[.int .i64 1, .string ⟨#[]⟩, .int .i64 1] 42) ∧ A = w4.heap.size) := ⟨hw5, hA⟩
      have H5 : Hid (TaSo w w1 b a len cap (.slice (some ⟨g, 0, none⟩) rs.length cp) rs a4 s4 w5) := by show TaSo _ _ _ _ _ _ _ _ _ _ _; rw [hw5]; exact H4.out.alloc _
      have X5 : Hid (w5.heap[A]? = some (.cells #[.int .i64 1, .string ⟨#[]⟩, .int .i64 1] 42 (0, 0))) := by show _ = _; rw [hw5, hA]; exact heapNew _ _
      have hAb : A ≠ b := by have := H4.out.src.2.2.2.2.2.1; omega
      have hA1 : w1.heap.size ≤ A := by rw [hA]; exact H4.out.size
      have hgA : g ≠ A := by have := (H4.out.row.lt g rfl).2; omega
      clear hw5 hA H4 
      obtain ⟨a5, ha5⟩ : ∃ a5, a5 = a4 := ⟨_, rfl⟩
      obtain ⟨s5, hs5⟩ : ∃ s5, s5 = s4 := ⟨_, rfl⟩
      rw [← ha5, ← hs5] at H5
      rw [← ha5] at hat
      clear ha5 hs5
      go_upto_region 6 with fail
      rw [← HW5.out.1, ← HW5.out.2]
      clear HW5
      go_wp2_with fail
      (first | go_at_call 19 | skip)
      refine (HNx.out _ 12 a5 s5 H5.out.bel H5.out.src (by omega) (by omega)).mono ?_
      rintro e w9 ⟨x9, a9, s9, rfl, ⟨hx90, hx91⟩, ha9, hb9, hs9, d9⟩
      have H9 : Hid (TaSo w w1 b a len cap (.slice (some ⟨g, 0, none⟩) rs.length cp) rs a9 s9 w9) := H5.out.draw d9 hs9
      have X9 : Hid (w9.heap[A]? = some (.cells #[.int .i64 1, .string ⟨#[]⟩, .int .i64 1] 42 (0, 0))) := (d9.kp A (by omega) (blkLt X5.out)).trans X5.out
      clear d9 hs9 H5 X5
      rcases (by omega : x9 = 0 ∨ x9 = 1 ∨ x9 = 2 ∨ x9 = 3 ∨ x9 = 4 ∨ x9 = 5 ∨ 6 ≤ x9) with rfl | rfl | rfl | rfl | rfl | rfl | hx6
      · go_wp2_with fail
        (first | go_at_call 19 | skip)
        refine (HNx.out _ 5 a9 s9 H9.out.bel H9.out.src (by omega) (by omega)).mono ?_
        rintro e w10 ⟨x10, a10, s10, rfl, ⟨hx100, hx101⟩, ha10, hb10, hs10, d10⟩
        have H10 : Hid (TaSo w w1 b a len cap (.slice (some ⟨g, 0, none⟩) rs.length cp) rs a10 s10 w10) := H9.out.draw d10 hs10
        have X10 : Hid (w10.heap[A]? = some (.cells #[.int .i64 1, .string ⟨#[]⟩, .int .i64 1] 42 (0, 0))) := (d10.kp A (by omega) (blkLt X9.out)).trans X9.out
        clear d10 hs10 H9 X9
        have hw10 : IntKind.i64.wrap (x10 - 1) = x10 - 1 := wrap_id _ (by omega) (by omega)
        have z0 := blkCell X10.out 0 _ rfl
        have q0 := blkFree X10.out 0
        have z1 := blkCell X10.out 1 _ rfl
        have q1 := blkFree X10.out 1
        have z2 := blkCell X10.out 2 _ rfl
        have q2 := blkFree X10.out 2
        simp only [List.getElem_toArray, List.getElem_cons_zero, List.getElem_cons_succ] at z0 z1 z2
        have X11 : Hid ((((w10.setCell ⟨A, 0, none⟩ (.int .i64 2)).setCell ⟨A, 1, none⟩ (.string ⟨#[]⟩)).setCell ⟨A, 2, none⟩ (.int .i64 (x10 - 1))).heap[A]? = some (.cells #[.int .i64 2, .string ⟨#[]⟩, .int .i64 (x10 - 1)] 42 (0, 0))) := ta_set X10.out _ _ _
        have H11 : Hid (TaSo w w1 b a len cap (.slice (some ⟨g, 0, none⟩) rs.length cp) rs a10 s10 (((w10.setCell ⟨A, 0, none⟩ (.int .i64 2)).setCell ⟨A, 1, none⟩ (.string ⟨#[]⟩)).setCell ⟨A, 2, none⟩ (.int .i64 (x10 - 1)))) := ((H10.out.setA hA1 hgA _ _).setA hA1 hgA _ _).setA hA1 hgA _ _
        go_upto_region 26 with fail
        clear z0 z1 z2 q0 q1 q2 H10 X10
        generalize (((w10.setCell ⟨A, 0, none⟩ (.int .i64 2)).setCell ⟨A, 1, none⟩ (.string ⟨#[]⟩)).setCell ⟨A, 2, none⟩ (.int .i64 (x10 - 1))) = w11 at *
        have hTD : Hid (TaD ⟨2, ⟨#[]⟩, (x10 - 1)⟩) := ⟨⟨by dsimp only; omega, by dsimp only; omega⟩, by show (0 : Nat) ≤ 100000; omega, by dsimp only; omega, by dsimp only; omega⟩
        have y0 := blkCell X11.out 0 _ rfl
        have y1 := blkCell X11.out 1 _ rfl
        have y2 := blkCell X11.out 2 _ rfl
        simp only [List.getElem_toArray, List.getElem_cons_zero, List.getElem_cons_succ] at y0 y1 y2
        have HA : Hid (TaSo w w1 b a len cap (.slice (some ⟨g, 0, none⟩) rs.length cp) rs a10 s10 (w11.alloc (Obj.cells #[.int .i64 2, .string ⟨#[]⟩, .int .i64 (x10 - 1)] 42))) := H11.out.alloc _
        have HN : Hid ((w11.alloc (Obj.cells #[.int .i64 2, .string ⟨#[]⟩, .int .i64 (x10 - 1)] 42)).heap[w11.heap.size]? = some (.cells #[.int .i64 2, .string ⟨#[]⟩, .int .i64 (x10 - 1)] 42 (0, 0))) := heapNew _ _
        have hzz := HA.out.size
        clear H11 hA1
        go_wp2_with (at_builtin; refine wpList_append_lies _ rfl _ _ 24 rfl w1.heap.size 42 i0 (.agg #[.int .i64 0, .string ⟨#[]⟩, .int .i64 0]) 3 32 Tryz.underlying24 hi hi0 hi1 hi2 rfl (by decide) _ _ _ rfl HA.out.row ⟨w11.heap.size, 0, none⟩ 1 1 [.int .i64 2, .string ⟨#[]⟩, .int .i64 (x10 - 1)] rfl rfl (World.news_of_block HN.out) (by simp [Value.oneCell']) (by omega) (by unfold maxLen; omega) (by omega) hzz _ rfl ?_; intro g1 cp1 wz hown1 hgrow1 hat1 hglt1; have HF : Hid (TaSo w w1 b a len cap (.slice (some ⟨g1, 0, none⟩) (rs.length + 1) cp1) (rs ++ [⟨2, ⟨#[]⟩, (x10 - 1)⟩]) a10 s10 wz) := HA.out.push (r := ⟨2, ⟨#[]⟩, (x10 - 1)⟩) hown1 hgrow1; clear hown1 hgrow1 hat1 hglt1)
        refine ⟨⟨rs ++ [⟨2, ⟨#[]⟩, (x10 - 1)⟩], k - 1, g1, cp1, a10, s10, by rw [List.length_append]; simp; omega, by simp, by go_num, fun r hr => ?_, by omega, HF.out⟩, by simp [intOf]; omega⟩
        rcases List.mem_append.1 hr with q | q
        · exact HD.out r q
        · rw [List.mem_singleton.1 q]; exact hTD.out
      · obtain ⟨w10, hw10⟩ : ∃ w10, w10 = w9.alloc (Obj.cells #[.int .i64 18, .int .i64 0, .int .i64 120, .int .i64 121, .int .i64 (-1), .int .i64 17] 3) := ⟨_, rfl⟩
        obtain ⟨B, hB⟩ : ∃ B, B = w9.heap.size := ⟨_, rfl⟩
        have HW10 : Hid (w10 = w9.alloc (Obj.cells #[.int .i64 18, .int .i64 0, .int .i64 120, .int .i64 121, .int .i64 (-1), .int .i64 17] 3) ∧ B = w9.heap.size) := ⟨hw10, hB⟩
        have H10 : Hid (TaSo w w1 b a len cap (.slice (some ⟨g, 0, none⟩) rs.length cp) rs a9 s9 w10) := by show TaSo _ _ _ _ _ _ _ _ _ _ _; rw [hw10]; exact H9.out.alloc _
        have T10 : Hid (w10.heap[B]? = some (.cells #[.int .i64 18, .int .i64 0, .int .i64 120, .int .i64 121, .int .i64 (-1), .int .i64 17] 3 (0, 0))) := by show _ = _; rw [hw10, hB]; exact heapNew _ _
        have hBb : B ≠ b := by have := H9.out.src.2.2.2.2.2.1; omega
        have hB1 : w1.heap.size ≤ B := by rw [hB]; exact H9.out.size
        have hgB : g ≠ B := by have := (H9.out.row.lt g rfl).2; omega
        have X10 : Hid (w10.heap[A]? = some (.cells #[.int .i64 1, .string ⟨#[]⟩, .int .i64 1] 42 (0, 0))) := by show _ = _; rw [hw10]; exact (Below.heap_alloc _ _ _ (blkLt X9.out)).trans X9.out
        have hBA : B ≠ A := by have := blkLt X9.out; omega
        clear hw10 hB H9 X9
        obtain ⟨a10, ha10⟩ : ∃ a10, a10 = a9 := ⟨_, rfl⟩
        obtain ⟨s10, hs10⟩ : ∃ s10, s10 = s9 := ⟨_, rfl⟩
        rw [← ha10, ← hs10] at H10
        clear hs10
        go_wp2_with fail
        (first | go_at_call 19 | skip)
        rw [← HW10.out.1, ← HW10.out.2]
        clear HW10
        refine (HNx.out _ 6 a10 s10 H10.out.bel H10.out.src (by omega) (by omega)).mono ?_
        rintro e w11 ⟨x11, a11, s11, rfl, ⟨hx110, hx111⟩, ha11, hb11, hs11, d11⟩
        have H11 : Hid (TaSo w w1 b a len cap (.slice (some ⟨g, 0, none⟩) rs.length cp) rs a11 s11 w11) := H10.out.draw d11 hs11
        have X11 : Hid (w11.heap[A]? = some (.cells #[.int .i64 1, .string ⟨#[]⟩, .int .i64 1] 42 (0, 0))) := (d11.kp A (by omega) (blkLt X10.out)).trans X10.out
        have T11 : Hid (w11.heap[B]? = some (.cells #[.int .i64 18, .int .i64 0, .int .i64 120, .int .i64 121, .int .i64 (-1), .int .i64 17] 3 (0, 0))) := (d11.kp B (by omega) (blkLt T10.out)).trans T10.out
        clear d11 hs11 H10 X10 T10
        obtain ⟨jj, rfl⟩ : ∃ jj : Nat, x11 = (jj : Int) := ⟨x11.toNat, by omega⟩
        have hjj : jj < 6 := by omega
        have hjj' : (jj : Int) < 6 := by omega
        have yc := ints_at (zs := [18, 0, 120, 121, (-1), 17]) T11.out jj hjj
        obtain ⟨yy, hyy⟩ : ∃ yy : Int, [18, 0, 120, 121, (-1), 17].getD jj 0 = yy := ⟨_, rfl⟩
        have hyr : -1 ≤ yy ∧ yy ≤ 1000000001 := by
          rw [← hyy]
          rcases (by omega : jj = 0 ∨ jj = 1 ∨ jj = 2 ∨ jj = 3 ∨ jj = 4 ∨ jj = 5) with rfl | rfl | rfl | rfl | rfl | rfl
          · show -1 ≤ (18 : Int) ∧ (18 : Int) ≤ 1000000001; omega
          · show -1 ≤ (0 : Int) ∧ (0 : Int) ≤ 1000000001; omega
          · show -1 ≤ (120 : Int) ∧ (120 : Int) ≤ 1000000001; omega
          · show -1 ≤ (121 : Int) ∧ (121 : Int) ≤ 1000000001; omega
          · show -1 ≤ ((-1) : Int) ∧ ((-1) : Int) ≤ 1000000001; omega
          · show -1 ≤ (17 : Int) ∧ (17 : Int) ≤ 1000000001; omega
        rw [hyy] at yc
        clear hyy T11
        have z0 := blkCell X11.out 0 _ rfl
        have q0 := blkFree X11.out 0
        have z1 := blkCell X11.out 1 _ rfl
        have q1 := blkFree X11.out 1
        have z2 := blkCell X11.out 2 _ rfl
        have q2 := blkFree X11.out 2
        simp only [List.getElem_toArray, List.getElem_cons_zero, List.getElem_cons_succ] at z0 z1 z2
        have X12 : Hid ((((w11.setCell ⟨A, 0, none⟩ (.int .i64 3)).setCell ⟨A, 1, none⟩ (.string ⟨#[]⟩)).setCell ⟨A, 2, none⟩ (.int .i64 yy)).heap[A]? = some (.cells #[.int .i64 3, .string ⟨#[]⟩, .int .i64 yy] 42 (0, 0))) := ta_set X11.out _ _ _
        have H12 : Hid (TaSo w w1 b a len cap (.slice (some ⟨g, 0, none⟩) rs.length cp) rs a11 s11 (((w11.setCell ⟨A, 0, none⟩ (.int .i64 3)).setCell ⟨A, 1, none⟩ (.string ⟨#[]⟩)).setCell ⟨A, 2, none⟩ (.int .i64 yy))) := ((H11.out.setA hA1 hgA _ _).setA hA1 hgA _ _).setA hA1 hgA _ _
        go_upto_region 26 with fail
        clear z0 z1 z2 q0 q1 q2 H11 X11
        generalize (((w11.setCell ⟨A, 0, none⟩ (.int .i64 3)).setCell ⟨A, 1, none⟩ (.string ⟨#[]⟩)).setCell ⟨A, 2, none⟩ (.int .i64 yy)) = w12 at *
        have hTD : Hid (TaD ⟨3, ⟨#[]⟩, yy⟩) := ⟨⟨by dsimp only; omega, by dsimp only; omega⟩, by show (0 : Nat) ≤ 100000; omega, by dsimp only; omega, by dsimp only; omega⟩
        have y0 := blkCell X12.out 0 _ rfl
        have y1 := blkCell X12.out 1 _ rfl
        have y2 := blkCell X12.out 2 _ rfl
        simp only [List.getElem_toArray, List.getElem_cons_zero, List.getElem_cons_succ] at y0 y1 y2
        have HA : Hid (TaSo w w1 b a len cap (.slice (some ⟨g, 0, none⟩) rs.length cp) rs a11 s11 (w12.alloc (Obj.cells #[.int .i64 3, .string ⟨#[]⟩, .int .i64 yy] 42))) := H12.out.alloc _
        have HN : Hid ((w12.alloc (Obj.cells #[.int .i64 3, .string ⟨#[]⟩, .int .i64 yy] 42)).heap[w12.heap.size]? = some (.cells #[.int .i64 3, .string ⟨#[]⟩, .int .i64 yy] 42 (0, 0))) := heapNew _ _
        have hzz := HA.out.size
        clear H12 hA1
        go_wp2_with (at_builtin; refine wpList_append_lies _ rfl _ _ 24 rfl w1.heap.size 42 i0 (.agg #[.int .i64 0, .string ⟨#[]⟩, .int .i64 0]) 3 32 Tryz.underlying24 hi hi0 hi1 hi2 rfl (by decide) _ _ _ rfl HA.out.row ⟨w12.heap.size, 0, none⟩ 1 1 [.int .i64 3, .string ⟨#[]⟩, .int .i64 yy] rfl rfl (World.news_of_block HN.out) (by simp [Value.oneCell']) (by omega) (by unfold maxLen; omega) (by omega) hzz _ rfl ?_; intro g1 cp1 wz hown1 hgrow1 hat1 hglt1; have HF : Hid (TaSo w w1 b a len cap (.slice (some ⟨g1, 0, none⟩) (rs.length + 1) cp1) (rs ++ [⟨3, ⟨#[]⟩, yy⟩]) a11 s11 wz) := HA.out.push (r := ⟨3, ⟨#[]⟩, yy⟩) hown1 hgrow1; clear hown1 hgrow1 hat1 hglt1)
        refine ⟨⟨rs ++ [⟨3, ⟨#[]⟩, yy⟩], k - 1, g1, cp1, a11, s11, by rw [List.length_append]; simp; omega, by simp, by go_num, fun r hr => ?_, by omega, HF.out⟩, by simp [intOf]; omega⟩
        rcases List.mem_append.1 hr with q | q
        · exact HD.out r q
        · rw [List.mem_singleton.1 q]; exact hTD.out
      · have z0 := blkCell X9.out 0 _ rfl
        have q0 := blkFree X9.out 0
        have z1 := blkCell X9.out 1 _ rfl
        have q1 := blkFree X9.out 1
        have z2 := blkCell X9.out 2 _ rfl
        have q2 := blkFree X9.out 2
        simp only [List.getElem_toArray, List.getElem_cons_zero, List.getElem_cons_succ] at z0 z1 z2
        have X11 : Hid ((((w9.setCell ⟨A, 0, none⟩ (.int .i64 4)).setCell ⟨A, 1, none⟩ (.string ⟨#[]⟩)).setCell ⟨A, 2, none⟩ (.int .i64 0)).heap[A]? = some (.cells #[.int .i64 4, .string ⟨#[]⟩, .int .i64 0] 42 (0, 0))) := ta_set X9.out _ _ _
        have H11 : Hid (TaSo w w1 b a len cap (.slice (some ⟨g, 0, none⟩) rs.length cp) rs a9 s9 (((w9.setCell ⟨A, 0, none⟩ (.int .i64 4)).setCell ⟨A, 1, none⟩ (.string ⟨#[]⟩)).setCell ⟨A, 2, none⟩ (.int .i64 0))) := ((H9.out.setA hA1 hgA _ _).setA hA1 hgA _ _).setA hA1 hgA _ _
        go_upto_region 26 with fail
        clear z0 z1 z2 q0 q1 q2 H9 X9
        generalize (((w9.setCell ⟨A, 0, none⟩ (.int .i64 4)).setCell ⟨A, 1, none⟩ (.string ⟨#[]⟩)).setCell ⟨A, 2, none⟩ (.int .i64 0)) = w11 at *
        have hTD : Hid (TaD ⟨4, ⟨#[]⟩, 0⟩) := ⟨⟨by dsimp only; omega, by dsimp only; omega⟩, by show (0 : Nat) ≤ 100000; omega, by dsimp only; omega, by dsimp only; omega⟩
        have y0 := blkCell X11.out 0 _ rfl
        have y1 := blkCell X11.out 1 _ rfl
        have y2 := blkCell X11.out 2 _ rfl
        simp only [List.getElem_toArray, List.getElem_cons_zero, List.getElem_cons_succ] at y0 y1 y2
        have HA : Hid (TaSo w w1 b a len cap (.slice (some ⟨g, 0, none⟩) rs.length cp) rs a9 s9 (w11.alloc (Obj.cells #[.int .i64 4, .string ⟨#[]⟩, .int .i64 0] 42))) := H11.out.alloc _
        have HN : Hid ((w11.alloc (Obj.cells #[.int .i64 4, .string ⟨#[]⟩, .int .i64 0] 42)).heap[w11.heap.size]? = some (.cells #[.int .i64 4, .string ⟨#[]⟩, .int .i64 0] 42 (0, 0))) := heapNew _ _
        have hzz := HA.out.size
        clear H11 hA1
        go_wp2_with (at_builtin; refine wpList_append_lies _ rfl _ _ 24 rfl w1.heap.size 42 i0 (.agg #[.int .i64 0, .string ⟨#[]⟩, .int .i64 0]) 3 32 Tryz.underlying24 hi hi0 hi1 hi2 rfl (by decide) _ _ _ rfl HA.out.row ⟨w11.heap.size, 0, none⟩ 1 1 [.int .i64 4, .string ⟨#[]⟩, .int .i64 0] rfl rfl (World.news_of_block HN.out) (by simp [Value.oneCell']) (by omega) (by unfold maxLen; omega) (by omega) hzz _ rfl ?_; intro g1 cp1 wz hown1 hgrow1 hat1 hglt1; have HF : Hid (TaSo w w1 b a len cap (.slice (some ⟨g1, 0, none⟩) (rs.length + 1) cp1) (rs ++ [⟨4, ⟨#[]⟩, 0⟩]) a9 s9 wz) := HA.out.push (r := ⟨4, ⟨#[]⟩, 0⟩) hown1 hgrow1; clear hown1 hgrow1 hat1 hglt1)
        refine ⟨⟨rs ++ [⟨4, ⟨#[]⟩, 0⟩], k - 1, g1, cp1, a9, s9, by rw [List.length_append]; simp; omega, by simp, by go_num, fun r hr => ?_, by omega, HF.out⟩, by simp [intOf]; omega⟩
        rcases List.mem_append.1 hr with q | q
        · exact HD.out r q
        · rw [List.mem_singleton.1 q]; exact hTD.out
      · go_wp2_with fail
        (first | go_at_call 19 | skip)
        refine (HNx.out _ 3 a9 s9 H9.out.bel H9.out.src (by omega) (by omega)).mono ?_
        rintro e w10 ⟨x10, a10, s10, rfl, ⟨hx100, hx101⟩, ha10, hb10, hs10, d10⟩
        have H10 : Hid (TaSo w w1 b a len cap (.slice (some ⟨g, 0, none⟩) rs.length cp) rs a10 s10 w10) := H9.out.draw d10 hs10
        have X10 : Hid (w10.heap[A]? = some (.cells #[.int .i64 1, .string ⟨#[]⟩, .int .i64 1] 42 (0, 0))) := (d10.kp A (by omega) (blkLt X9.out)).trans X9.out
        clear d10 hs10 H9 X9
        have hw10 : IntKind.i64.wrap (x10 - 1) = x10 - 1 := wrap_id _ (by omega) (by omega)
        have z0 := blkCell X10.out 0 _ rfl
        have q0 := blkFree X10.out 0
        have z1 := blkCell X10.out 1 _ rfl
        have q1 := blkFree X10.out 1
        have z2 := blkCell X10.out 2 _ rfl
        have q2 := blkFree X10.out 2
        simp only [List.getElem_toArray, List.getElem_cons_zero, List.getElem_cons_succ] at z0 z1 z2
        have X11 : Hid ((((w10.setCell ⟨A, 0, none⟩ (.int .i64 5)).setCell ⟨A, 1, none⟩ (.string ⟨#[]⟩)).setCell ⟨A, 2, none⟩ (.int .i64 (x10 - 1))).heap[A]? = some (.cells #[.int .i64 5, .string ⟨#[]⟩, .int .i64 (x10 - 1)] 42 (0, 0))) := ta_set X10.out _ _ _
        have H11 : Hid (TaSo w w1 b a len cap (.slice (some ⟨g, 0, none⟩) rs.length cp) rs a10 s10 (((w10.setCell ⟨A, 0, none⟩ (.int .i64 5)).setCell ⟨A, 1, none⟩ (.string ⟨#[]⟩)).setCell ⟨A, 2, none⟩ (.int .i64 (x10 - 1)))) := ((H10.out.setA hA1 hgA _ _).setA hA1 hgA _ _).setA hA1 hgA _ _
        go_upto_region 26 with fail
        clear z0 z1 z2 q0 q1 q2 H10 X10
        generalize (((w10.setCell ⟨A, 0, none⟩ (.int .i64 5)).setCell ⟨A, 1, none⟩ (.string ⟨#[]⟩)).setCell ⟨A, 2, none⟩ (.int .i64 (x10 - 1))) = w11 at *
        have hTD : Hid (TaD ⟨5, ⟨#[]⟩, (x10 - 1)⟩) := ⟨⟨by dsimp only; omega, by dsimp only; omega⟩, by show (0 : Nat) ≤ 100000; omega, by dsimp only; omega, by dsimp only; omega⟩
        have y0 := blkCell X11.out 0 _ rfl
        have y1 := blkCell X11.out 1 _ rfl
        have y2 := blkCell X11.out 2 _ rfl
        simp only [List.getElem_toArray, List.getElem_cons_zero, List.getElem_cons_succ] at y0 y1 y2
        have HA : Hid (TaSo w w1 b a len cap (.slice (some ⟨g, 0, none⟩) rs.length cp) rs a10 s10 (w11.alloc (Obj.cells #[.int .i64 5, .string ⟨#[]⟩, .int .i64 (x10 - 1)] 42))) := H11.out.alloc _
        have HN : Hid ((w11.alloc (Obj.cells #[.int .i64 5, .string ⟨#[]⟩, .int .i64 (x10 - 1)] 42)).heap[w11.heap.size]? = some (.cells #[.int .i64 5, .string ⟨#[]⟩, .int .i64 (x10 - 1)] 42 (0, 0))) := heapNew _ _
        have hzz := HA.out.size
        clear H11 hA1
        go_wp2_with (at_builtin; refine wpList_append_lies _ rfl _ _ 24 rfl w1.heap.size 42 i0 (.agg #[.int .i64 0, .string ⟨#[]⟩, .int .i64 0]) 3 32 Tryz.underlying24 hi hi0 hi1 hi2 rfl (by decide) _ _ _ rfl HA.out.row ⟨w11.heap.size, 0, none⟩ 1 1 [.int .i64 5, .string ⟨#[]⟩, .int .i64 (x10 - 1)] rfl rfl (World.news_of_block HN.out) (by simp [Value.oneCell']) (by omega) (by unfold maxLen; omega) (by omega) hzz _ rfl ?_; intro g1 cp1 wz hown1 hgrow1 hat1 hglt1; have HF : Hid (TaSo w w1 b a len cap (.slice (some ⟨g1, 0, none⟩) (rs.length + 1) cp1) (rs ++ [⟨5, ⟨#[]⟩, (x10 - 1)⟩]) a10 s10 wz) := HA.out.push (r := ⟨5, ⟨#[]⟩, (x10 - 1)⟩) hown1 hgrow1; clear hown1 hgrow1 hat1 hglt1)
        refine ⟨⟨rs ++ [⟨5, ⟨#[]⟩, (x10 - 1)⟩], k - 1, g1, cp1, a10, s10, by rw [List.length_append]; simp; omega, by simp, by go_num, fun r hr => ?_, by omega, HF.out⟩, by simp [intOf]; omega⟩
        rcases List.mem_append.1 hr with q | q
        · exact HD.out r q
        · rw [List.mem_singleton.1 q]; exact hTD.out
      · go_wp2_with fail
        (first | go_at_call 19 | skip)
        refine (HNx.out _ 4000 a9 s9 H9.out.bel H9.out.src (by omega) (by omega)).mono ?_
        rintro e w10 ⟨x10, a10, s10, rfl, ⟨hx100, hx101⟩, ha10, hb10, hs10, d10⟩
        have H10 : Hid (TaSo w w1 b a len cap (.slice (some ⟨g, 0, none⟩) rs.length cp) rs a10 s10 w10) := H9.out.draw d10 hs10
        have X10 : Hid (w10.heap[A]? = some (.cells #[.int .i64 1, .string ⟨#[]⟩, .int .i64 1] 42 (0, 0))) := (d10.kp A (by omega) (blkLt X9.out)).trans X9.out
        clear d10 hs10 H9 X9
        obtain ⟨w11, hw11⟩ : ∃ w11, w11 = w10.alloc (Obj.cells #[.int .i64 0, .int .i64 5000, .int .i64 20000, .int .i64 1000000000, .int .i64 1000000001, .int .i64 300, .int .i64 x10] 3) := ⟨_, rfl⟩
        obtain ⟨B, hB⟩ : ∃ B, B = w10.heap.size := ⟨_, rfl⟩
        have HW11 : Hid (w11 = w10.alloc (Obj.cells #[.int .i64 0, .int .i64 5000, .int .i64 20000, .int .i64 1000000000, .int .i64 1000000001, .int .i64 300, .int .i64 x10] 3) ∧ B = w10.heap.size) := ⟨hw11, hB⟩
        have H11 : Hid (TaSo w w1 b a len cap (.slice (some ⟨g, 0, none⟩) rs.length cp) rs a10 s10 w11) := by show TaSo _ _ _ _ _ _ _ _ _ _ _; rw [hw11]; exact H10.out.alloc _
        have T11 : Hid (w11.heap[B]? = some (.cells #[.int .i64 0, .int .i64 5000, .int .i64 20000, .int .i64 1000000000, .int .i64 1000000001, .int .i64 300, .int .i64 x10] 3 (0, 0))) := by show _ = _; rw [hw11, hB]; exact heapNew _ _
        have hBb : B ≠ b := by have := H10.out.src.2.2.2.2.2.1; omega
        have hB1 : w1.heap.size ≤ B := by rw [hB]; exact H10.out.size
        have hgB : g ≠ B := by have := (H10.out.row.lt g rfl).2; omega
        have X11 : Hid (w11.heap[A]? = some (.cells #[.int .i64 1, .string ⟨#[]⟩, .int .i64 1] 42 (0, 0))) := by show _ = _; rw [hw11]; exact (Below.heap_alloc _ _ _ (blkLt X10.out)).trans X10.out
        have hBA : B ≠ A := by have := blkLt X10.out; omega
        clear hw11 hB H10 X10
        obtain ⟨a11, ha11⟩ : ∃ a11, a11 = a10 := ⟨_, rfl⟩
        obtain ⟨s11, hs11⟩ : ∃ s11, s11 = s10 := ⟨_, rfl⟩
        rw [← ha11, ← hs11] at H11
        clear hs11
        go_wp2_with fail
        (first | go_at_call 19 | skip)
        rw [← HW11.out.1, ← HW11.out.2]
        clear HW11
        refine (HNx.out _ 7 a11 s11 H11.out.bel H11.out.src (by omega) (by omega)).mono ?_
        rintro e w12 ⟨x12, a12, s12, rfl, ⟨hx120, hx121⟩, ha12, hb12, hs12, d12⟩
        have H12 : Hid (TaSo w w1 b a len cap (.slice (some ⟨g, 0, none⟩) rs.length cp) rs a12 s12 w12) := H11.out.draw d12 hs12
        have X12 : Hid (w12.heap[A]? = some (.cells #[.int .i64 1, .string ⟨#[]⟩, .int .i64 1] 42 (0, 0))) := (d12.kp A (by omega) (blkLt X11.out)).trans X11.out
        have T12 : Hid (w12.heap[B]? = some (.cells #[.int .i64 0, .int .i64 5000, .int .i64 20000, .int .i64 1000000000, .int .i64 1000000001, .int .i64 300, .int .i64 x10] 3 (0, 0))) := (d12.kp B (by omega) (blkLt T11.out)).trans T11.out
        clear d12 hs12 H11 X11 T11
        obtain ⟨jj, rfl⟩ : ∃ jj : Nat, x12 = (jj : Int) := ⟨x12.toNat, by omega⟩
        have hjj : jj < 7 := by omega
        have hjj' : (jj : Int) < 7 := by omega
        have yc := ints_at (zs := [0, 5000, 20000, 1000000000, 1000000001, 300, x10]) T12.out jj hjj
        obtain ⟨yy, hyy⟩ : ∃ yy : Int, [0, 5000, 20000, 1000000000, 1000000001, 300, x10].getD jj 0 = yy := ⟨_, rfl⟩
        have hyr : -1 ≤ yy ∧ yy ≤ 1000000001 := by
          rw [← hyy]
          rcases (by omega : jj = 0 ∨ jj = 1 ∨ jj = 2 ∨ jj = 3 ∨ jj = 4 ∨ jj = 5 ∨ jj = 6) with rfl | rfl | rfl | rfl | rfl | rfl | rfl
          · show -1 ≤ (0 : Int) ∧ (0 : Int) ≤ 1000000001; omega
          · show -1 ≤ (5000 : Int) ∧ (5000 : Int) ≤ 1000000001; omega
          · show -1 ≤ (20000 : Int) ∧ (20000 : Int) ≤ 1000000001; omega
          · show -1 ≤ (1000000000 : Int) ∧ (1000000000 : Int) ≤ 1000000001; omega
          · show -1 ≤ (1000000001 : Int) ∧ (1000000001 : Int) ≤ 1000000001; omega
          · show -1 ≤ (300 : Int) ∧ (300 : Int) ≤ 1000000001; omega
          · show -1 ≤ (x10 : Int) ∧ (x10 : Int) ≤ 1000000001; omega
        rw [hyy] at yc
        clear hyy T12
        have z0 := blkCell X12.out 0 _ rfl
        have q0 := blkFree X12.out 0
        have z1 := blkCell X12.out 1 _ rfl
        have q1 := blkFree X12.out 1
        have z2 := blkCell X12.out 2 _ rfl
        have q2 := blkFree X12.out 2
        simp only [List.getElem_toArray, List.getElem_cons_zero, List.getElem_cons_succ] at z0 z1 z2
        have X13 : Hid ((((w12.setCell ⟨A, 0, none⟩ (.int .i64 6)).setCell ⟨A, 1, none⟩ (.string ⟨#[]⟩)).setCell ⟨A, 2, none⟩ (.int .i64 yy)).heap[A]? = some (.cells #[.int .i64 6, .string ⟨#[]⟩, .int .i64 yy] 42 (0, 0))) := ta_set X12.out _ _ _
        have H13 : Hid (TaSo w w1 b a len cap (.slice (some ⟨g, 0, none⟩) rs.length cp) rs a12 s12 (((w12.setCell ⟨A, 0, none⟩ (.int .i64 6)).setCell ⟨A, 1, none⟩ (.string ⟨#[]⟩)).setCell ⟨A, 2, none⟩ (.int .i64 yy))) := ((H12.out.setA hA1 hgA _ _).setA hA1 hgA _ _).setA hA1 hgA _ _
        go_upto_region 26 with fail
        clear z0 z1 z2 q0 q1 q2 H12 X12
        generalize (((w12.setCell ⟨A, 0, none⟩ (.int .i64 6)).setCell ⟨A, 1, none⟩ (.string ⟨#[]⟩)).setCell ⟨A, 2, none⟩ (.int .i64 yy)) = w13 at *
        have hTD : Hid (TaD ⟨6, ⟨#[]⟩, yy⟩) := ⟨⟨by dsimp only; omega, by dsimp only; omega⟩, by show (0 : Nat) ≤ 100000; omega, by dsimp only; omega, by dsimp only; omega⟩
        have y0 := blkCell X13.out 0 _ rfl
        have y1 := blkCell X13.out 1 _ rfl
        have y2 := blkCell X13.out 2 _ rfl
        simp only [List.getElem_toArray, List.getElem_cons_zero, List.getElem_cons_succ] at y0 y1 y2
        have HA : Hid (TaSo w w1 b a len cap (.slice (some ⟨g, 0, none⟩) rs.length cp) rs a12 s12 (w13.alloc (Obj.cells #[.int .i64 6, .string ⟨#[]⟩, .int .i64 yy] 42))) := H13.out.alloc _
        have HN : Hid ((w13.alloc (Obj.cells #[.int .i64 6, .string ⟨#[]⟩, .int .i64 yy] 42)).heap[w13.heap.size]? = some (.cells #[.int .i64 6, .string ⟨#[]⟩, .int .i64 yy] 42 (0, 0))) := heapNew _ _
        have hzz := HA.out.size
        clear H13 hA1
        go_wp2_with (at_builtin; refine wpList_append_lies _ rfl _ _ 24 rfl w1.heap.size 42 i0 (.agg #[.int .i64 0, .string ⟨#[]⟩, .int .i64 0]) 3 32 Tryz.underlying24 hi hi0 hi1 hi2 rfl (by decide) _ _ _ rfl HA.out.row ⟨w13.heap.size, 0, none⟩ 1 1 [.int .i64 6, .string ⟨#[]⟩, .int .i64 yy] rfl rfl (World.news_of_block HN.out) (by simp [Value.oneCell']) (by omega) (by unfold maxLen; omega) (by omega) hzz _ rfl ?_; intro g1 cp1 wz hown1 hgrow1 hat1 hglt1; have HF : Hid (TaSo w w1 b a len cap (.slice (some ⟨g1, 0, none⟩) (rs.length + 1) cp1) (rs ++ [⟨6, ⟨#[]⟩, yy⟩]) a12 s12 wz) := HA.out.push (r := ⟨6, ⟨#[]⟩, yy⟩) hown1 hgrow1; clear hown1 hgrow1 hat1 hglt1)
        refine ⟨⟨rs ++ [⟨6, ⟨#[]⟩, yy⟩], k - 1, g1, cp1, a12, s12, by rw [List.length_append]; simp; omega, by simp, by go_num, fun r hr => ?_, by omega, HF.out⟩, by simp [intOf]; omega⟩
        rcases List.mem_append.1 hr with q | q
        · exact HD.out r q
        · rw [List.mem_singleton.1 q]; exact hTD.out
      · go_wp2_with fail
        (first | go_at_call 19 | skip)
        refine (HNx.out _ 9 a9 s9 H9.out.bel H9.out.src (by omega) (by omega)).mono ?_
        rintro e w10 ⟨x10, a10, s10, rfl, ⟨hx100, hx101⟩, ha10, hb10, hs10, d10⟩
        have H10 : Hid (TaSo w w1 b a len cap (.slice (some ⟨g, 0, none⟩) rs.length cp) rs a10 s10 w10) := H9.out.draw d10 hs10
        have X10 : Hid (w10.heap[A]? = some (.cells #[.int .i64 1, .string ⟨#[]⟩, .int .i64 1] 42 (0, 0))) := (d10.kp A (by omega) (blkLt X9.out)).trans X9.out
        clear d10 hs10 H9 X9
        have hw10 : IntKind.i64.wrap (x10 - 1) = x10 - 1 := wrap_id _ (by omega) (by omega)
        have hod := odd_D b a len cap zs a10 s10 w10 H10.out.src (HRw.out _ H10.out.bel) (by omega)
        go_wp2_with fail
        (first | go_at_call 24 | skip)
        refine hod.mono ?_
        rintro e w11 ⟨x11, a11, s11, rfl, ⟨hx110, hx111⟩, ha11, hb11, hs11, d11⟩
        clear hod
        have H11 : Hid (TaSo w w1 b a len cap (.slice (some ⟨g, 0, none⟩) rs.length cp) rs a11 s11 w11) := H10.out.draw d11 hs11
        have X11 : Hid (w11.heap[A]? = some (.cells #[.int .i64 1, .string ⟨#[]⟩, .int .i64 1] 42 (0, 0))) := (d11.kp A (by omega) (blkLt X10.out)).trans X10.out
        clear d11 hs11 H10 X10
        have hsc := scan_D b a len cap zs a11 s11 w11 H11.out.src (HRw.out _ H11.out.bel) (by omega)
        go_wp2_with fail
        (first | go_at_call 25 | skip)
        refine hsc.mono ?_
        rintro e w12 ⟨t12, a12, s12, rfl, ht12, ha12, hb12, hs12, d12⟩
        clear hsc
        have H12 : Hid (TaSo w w1 b a len cap (.slice (some ⟨g, 0, none⟩) rs.length cp) rs a12 s12 w12) := H11.out.draw d12 hs12
        have X12 : Hid (w12.heap[A]? = some (.cells #[.int .i64 1, .string ⟨#[]⟩, .int .i64 1] 42 (0, 0))) := (d12.kp A (by omega) (blkLt X11.out)).trans X11.out
        clear d12 hs12 H11 X11
        have z0 := blkCell X12.out 0 _ rfl
        have q0 := blkFree X12.out 0
        have z1 := blkCell X12.out 1 _ rfl
        have q1 := blkFree X12.out 1
        have z2 := blkCell X12.out 2 _ rfl
        have q2 := blkFree X12.out 2
        simp only [List.getElem_toArray, List.getElem_cons_zero, List.getElem_cons_succ] at z0 z1 z2
        have X13 : Hid ((((w12.setCell ⟨A, 0, none⟩ (.int .i64 (x10 - 1))).setCell ⟨A, 1, none⟩ (.string t12)).setCell ⟨A, 2, none⟩ (.int .i64 x11)).heap[A]? = some (.cells #[.int .i64 (x10 - 1), .string t12, .int .i64 x11] 42 (0, 0))) := ta_set X12.out _ _ _
        have H13 : Hid (TaSo w w1 b a len cap (.slice (some ⟨g, 0, none⟩) rs.length cp) rs a12 s12 (((w12.setCell ⟨A, 0, none⟩ (.int .i64 (x10 - 1))).setCell ⟨A, 1, none⟩ (.string t12)).setCell ⟨A, 2, none⟩ (.int .i64 x11))) := ((H12.out.setA hA1 hgA _ _).setA hA1 hgA _ _).setA hA1 hgA _ _
        go_upto_region 26 with fail
        clear z0 z1 z2 q0 q1 q2 H12 X12
        generalize (((w12.setCell ⟨A, 0, none⟩ (.int .i64 (x10 - 1))).setCell ⟨A, 1, none⟩ (.string t12)).setCell ⟨A, 2, none⟩ (.int .i64 x11)) = w13 at *
        have hTD : Hid (TaD ⟨(x10 - 1), t12, x11⟩) := ⟨⟨by dsimp only; omega, by dsimp only; omega⟩, by dsimp only; omega, by dsimp only; omega, by dsimp only; omega⟩
        have y0 := blkCell X13.out 0 _ rfl
        have y1 := blkCell X13.out 1 _ rfl
        have y2 := blkCell X13.out 2 _ rfl
        simp only [List.getElem_toArray, List.getElem_cons_zero, List.getElem_cons_succ] at y0 y1 y2
        have HA : Hid (TaSo w w1 b a len cap (.slice (some ⟨g, 0, none⟩) rs.length cp) rs a12 s12 (w13.alloc (Obj.cells #[.int .i64 (x10 - 1), .string t12, .int .i64 x11] 42))) := H13.out.alloc _
        have HN : Hid ((w13.alloc (Obj.cells #[.int .i64 (x10 - 1), .string t12, .int .i64 x11] 42)).heap[w13.heap.size]? = some (.cells #[.int .i64 (x10 - 1), .string t12, .int .i64 x11] 42 (0, 0))) := heapNew _ _
        have hzz := HA.out.size
        clear H13 hA1
        go_wp2_with (at_builtin; refine wpList_append_lies _ rfl _ _ 24 rfl w1.heap.size 42 i0 (.agg #[.int .i64 0, .string ⟨#[]⟩, .int .i64 0]) 3 32 Tryz.underlying24 hi hi0 hi1 hi2 rfl (by decide) _ _ _ rfl HA.out.row ⟨w13.heap.size, 0, none⟩ 1 1 [.int .i64 (x10 - 1), .string t12, .int .i64 x11] rfl rfl (World.news_of_block HN.out) (by simp [Value.oneCell']) (by omega) (by unfold maxLen; omega) (by omega) hzz _ rfl ?_; intro g1 cp1 wz hown1 hgrow1 hat1 hglt1; have HF : Hid (TaSo w w1 b a len cap (.slice (some ⟨g1, 0, none⟩) (rs.length + 1) cp1) (rs ++ [⟨(x10 - 1), t12, x11⟩]) a12 s12 wz) := HA.out.push (r := ⟨(x10 - 1), t12, x11⟩) hown1 hgrow1; clear hown1 hgrow1 hat1 hglt1)
        refine ⟨⟨rs ++ [⟨(x10 - 1), t12, x11⟩], k - 1, g1, cp1, a12, s12, by rw [List.length_append]; simp; omega, by simp, by go_num, fun r hr => ?_, by omega, HF.out⟩, by simp [intOf]; omega⟩
        rcases List.mem_append.1 hr with q | q
        · exact HD.out r q
        · rw [List.mem_singleton.1 q]; exact hTD.out
      · have hn0 : (x9 == 0) = false := by rw [beq_eq_false_iff_ne]; omega
        have hn1 : (x9 == 1) = false := by rw [beq_eq_false_iff_ne]; omega
        have hn2 : (x9 == 2) = false := by rw [beq_eq_false_iff_ne]; omega
        have hn3 : (x9 == 3) = false := by rw [beq_eq_false_iff_ne]; omega
        have hn4 : (x9 == 4) = false := by rw [beq_eq_false_iff_ne]; omega
        have hn5 : (x9 == 5) = false := by rw [beq_eq_false_iff_ne]; omega
        go_wp2_with fail
        (first | go_at_call 19 | skip)
        refine (HNx.out _ (its.length : Int) a9 s9 H9.out.bel H9.out.src (by omega) (by omega)).mono ?_
        rintro e w10 ⟨x10, a10, s10, rfl, ⟨hx100, hx101⟩, ha10, hb10, hs10, d10⟩
        have H10 : Hid (TaSo w w1 b a len cap (.slice (some ⟨g, 0, none⟩) rs.length cp) rs a10 s10 w10) := H9.out.draw d10 hs10
        have X10 : Hid (w10.heap[A]? = some (.cells #[.int .i64 1, .string ⟨#[]⟩, .int .i64 1] 42 (0, 0))) := (d10.kp A (by omega) (blkLt X9.out)).trans X9.out
        clear d10 hs10 H9 X9
        clear hn0 hn1 hn2 hn3 hn4 hn5
        obtain ⟨jj, rfl⟩ : ∃ jj : Nat, x10 = (jj : Int) := ⟨x10.toNat, by omega⟩
        have hjj : jj < its.length := by omega
        have hjj' : (jj : Int) < (its.length : Int) := by omega
        obtain ⟨i0', i1', i2', i3', i4'⟩ := HIt.out _ _ _ _ _ H10.out jj hjj
        have hG : Good (its.getD jj zIt).cd := HGd.out _ (by
          rw [show its.getD jj zIt = its[jj] by simp [List.getD_eq_getElem?_getD, hjj]]
          exact List.getElem_mem hjj)
        generalize its.getD jj zIt = rr at *
        obtain ⟨cx, ip, id, ic, ig⟩ := rr
        dsimp only at i0' i1' i2' i3' i4' hG
        have HG : Hid (Good cx) := hG
        have hcx := good_size hG
        clear hG
        obtain ⟨w11, hw11⟩ : ∃ w11, w11 = w10.alloc (Obj.cells #[.string cx, .int .i64 ip, .int .i64 id, .int .i64 ic, .int .i64 ig] 60) := ⟨_, rfl⟩
        obtain ⟨A2, hA2⟩ : ∃ A2, A2 = w10.heap.size := ⟨_, rfl⟩
        have HW11 : Hid (w11 = w10.alloc (Obj.cells #[.string cx, .int .i64 ip, .int .i64 id, .int .i64 ic, .int .i64 ig] 60) ∧ A2 = w10.heap.size) := ⟨hw11, hA2⟩
        have H11 : Hid (TaSo w w1 b a len cap (.slice (some ⟨g, 0, none⟩) rs.length cp) rs a10 s10 w11) := by show TaSo _ _ _ _ _ _ _ _ _ _ _; rw [hw11]; exact H10.out.alloc _
        have Y11 : Hid (w11.heap[A2]? = some (.cells #[.string cx, .int .i64 ip, .int .i64 id, .int .i64 ic, .int .i64 ig] 60 (0, 0))) := by show _ = _; rw [hw11, hA2]; exact heapNew _ _
        have hA2b : A2 ≠ b := by have := H10.out.src.2.2.2.2.2.1; omega
        have hA21 : w1.heap.size ≤ A2 := by rw [hA2]; exact H10.out.size
        have hgA2 : g ≠ A2 := by have := (H10.out.row.lt g rfl).2; omega
        have X11 : Hid (w11.heap[A]? = some (.cells #[.int .i64 1, .string ⟨#[]⟩, .int .i64 1] 42 (0, 0))) := by show _ = _; rw [hw11]; exact (Below.heap_alloc _ _ _ (blkLt X10.out)).trans X10.out
        have hA2A : A2 ≠ A := by have := blkLt X10.out; omega
        clear hw11 hA2 H10 X10
        go_upto_region 8 with fail
        rw [← HW11.out.1, ← HW11.out.2]
        clear HW11 i0' i1' i2' i3' i4' hjj hjj'
        have zc := blkCell Y11.out 0 _ rfl
        have z1 := blkCell X11.out 1 _ rfl
        have q1 := blkFree X11.out 1
        simp only [List.getElem_toArray, List.getElem_cons_zero, List.getElem_cons_succ] at zc z1
        have X12 : Hid ((w11.setCell ⟨A, 1, none⟩ (.string cx)).heap[A]? = some (.cells #[.int .i64 1, .string cx, .int .i64 1] 42 (0, 0))) := by
          have e := heap_setCell_same _ _ 1 _ _ (.string cx) X11.out
          simp only [List.setIfInBounds_toArray, List.set_cons_zero, List.set_cons_succ] at e
          exact e
        have Y12 : Hid ((w11.setCell ⟨A, 1, none⟩ (.string cx)).heap[A2]? = some (.cells #[.string cx, .int .i64 ip, .int .i64 id, .int .i64 ic, .int .i64 ig] 60 (0, 0))) := (Below.heap_setCell _ _ _ _ (by show A2 ≠ A; exact hA2A)).trans Y11.out
        have H12 : Hid (TaSo w w1 b a len cap (.slice (some ⟨g, 0, none⟩) rs.length cp) rs a10 s10 (w11.setCell ⟨A, 1, none⟩ (.string cx))) := H11.out.setA hA1 hgA _ _
        go_upto_region 9 with fail
        clear zc z1 q1 H11 X11 Y11
        generalize (w11.setCell ⟨A, 1, none⟩ (.string cx)) = w12 at *
        obtain ⟨a12, ha12⟩ : ∃ a12, a12 = a10 := ⟨_, rfl⟩
        obtain ⟨s12, hs12⟩ : ∃ s12, s12 = s10 := ⟨_, rfl⟩
        rw [← ha12, ← hs12] at H12
        clear hs12
        have zc := blkCell Y12.out 0 _ rfl
        simp only [List.getElem_toArray, List.getElem_cons_zero] at zc
        by_cases h5 : (cx.size : Int) = 5
        · have h5' : ((cx.size : Int) == 5) = true := by rw [beq_iff_eq]; exact h5
          go_upto_region 10 with fail
          clear zc
          have H13 : Hid (TaSo w w1 b a len cap (.slice (some ⟨g, 0, none⟩) rs.length cp) rs a12 s12 w12.drew) := H12.out.drew
          have X13 : Hid (w12.drew.heap[A]? = some (.cells #[.int .i64 1, .string cx, .int .i64 1] 42 (0, 0))) := X12.out
          have Y13 : Hid (w12.drew.heap[A2]? = some (.cells #[.string cx, .int .i64 ip, .int .i64 id, .int .i64 ic, .int .i64 ig] 60 (0, 0))) := Y12.out
          refine wp_region_held_drew (S := (fun X => X.cell? ⟨A2, 0, none⟩ = some (.string cx))) (by kernel_rfl) (blkCell Y13.out 0 _ rfl) (fun hH => ?_)
          clear H12 X12 Y12
          generalize w12.drew = w13 at *
          refine wpAnyH_take (i := 0) (v := .pointer (some ⟨b, 0, none⟩)) rfl (by kernel_rfl) (by kernel_rfl) (by kernel_rfl) (fun _ _ _ h => h) (Or.inl ⟨by rfl, fun w hSw => by clear hSw; go_simp⟩) hH ?_
          refine wpAnyH_take (i := 3) (v := .pointer (some ⟨A2, 0, none⟩)) rfl (by kernel_rfl) (by kernel_rfl) (by kernel_rfl) (fun _ _ _ h => h) (Or.inl ⟨by rfl, fun w hSw => by clear hSw; go_simp⟩) hH ?_
          try simp only [Act.put, List.setIfInBounds_toArray, List.set_cons_zero, List.set_cons_succ, List.getElem_toArray, List.getElem_cons_succ, List.getElem_cons_zero]
          refine wpAnyH_take (i := 4) (v := .string cx) rfl (by kernel_rfl) (by kernel_rfl) (by kernel_rfl) (fun _ _ _ h => h) (Or.inl ⟨by rfl, fun w hSw => by go_simp⟩) hH ?_
          try simp only [Act.put, List.setIfInBounds_toArray, List.set_cons_zero, List.set_cons_succ, List.getElem_toArray, List.getElem_cons_succ, List.getElem_cons_zero]
          refine wpAnyH_take (i := 6) (v := .pointer (some ⟨b, 0, none⟩)) rfl (by kernel_rfl) (by kernel_rfl) (by kernel_rfl) (fun _ _ _ h => h) (Or.inl ⟨by rfl, fun w hSw => by clear hSw; go_simp⟩) hH ?_
          try simp only [Act.put, List.setIfInBounds_toArray, List.set_cons_zero, List.set_cons_succ, List.getElem_toArray, List.getElem_cons_succ, List.getElem_cons_zero]
          refine wpAnyH_ready (rs := [1]) (by kernel_rfl) (by simp) ?_
          refine AllReadyH.cons rfl (fun K hK => ?_) AllReadyH.nil
          obtain ⟨w14, hw14⟩ : ∃ w14, w14 = w13.alloc (Obj.cells #[.string ⟨#[50, 48]⟩, .string ⟨#[50, 49]⟩] 9) := ⟨_, rfl⟩
          obtain ⟨B, hB⟩ : ∃ B, B = w13.heap.size := ⟨_, rfl⟩
          have HW14 : Hid (w14 = w13.alloc (Obj.cells #[.string ⟨#[50, 48]⟩, .string ⟨#[50, 49]⟩] 9) ∧ B = w13.heap.size) := ⟨hw14, hB⟩
          have H14 : Hid (TaSo w w1 b a len cap (.slice (some ⟨g, 0, none⟩) rs.length cp) rs a12 s12 w14) := by show TaSo _ _ _ _ _ _ _ _ _ _ _; rw [hw14]; exact H13.out.alloc _
          have T14 : Hid (w14.heap[B]? = some (.cells #[.string ⟨#[50, 48]⟩, .string ⟨#[50, 49]⟩] 9 (0, 0))) := by show _ = _; rw [hw14, hB]; exact heapNew _ _
          have hBb : B ≠ b := by have := H13.out.src.2.2.2.2.2.1; omega
          have hB1 : w1.heap.size ≤ B := by rw [hB]; exact H13.out.size
          have hgB : g ≠ B := by have := (H13.out.row.lt g rfl).2; omega
          have X14 : Hid (w14.heap[A]? = some (.cells #[.int .i64 1, .string cx, .int .i64 1] 42 (0, 0))) := by show _ = _; rw [hw14]; exact (Below.heap_alloc _ _ _ (blkLt X13.out)).trans X13.out
          have hBA : B ≠ A := by have := blkLt X13.out; omega
          have Y14 : Hid (w14.heap[A2]? = some (.cells #[.string cx, .int .i64 ip, .int .i64 id, .int .i64 ic, .int .i64 ig] 60 (0, 0))) := by show _ = _; rw [hw14]; exact (Below.heap_alloc _ _ _ (blkLt Y13.out)).trans Y13.out
          have hBA2 : B ≠ A2 := by have := blkLt Y13.out; omega
          clear hw14 hB H13 X13 Y13
          have h14 : (fun X => X.cell? ⟨A2, 0, none⟩ = some (.string cx)) w14 := blkCell Y14.out 0 _ rfl
          go_simp
          rw [← HW14.out.1, ← HW14.out.2]
          clear HW14 hH
          refine hK.out _ _ h14 (fun _ => ?_)
          clear hK K
          try simp only [Act.put, List.setIfInBounds_toArray, List.set_cons_zero, List.set_cons_succ, List.getElem_toArray, List.getElem_cons_succ, List.getElem_cons_zero]
          refine wpAnyH_ready (rs := [2]) (by kernel_rfl) (by simp) ?_
          refine AllReadyH.cons rfl (fun K hK => ?_) AllReadyH.nil
          go_simp
          go_at_call 26
          refine (pick_D b B a len cap zs a12 s12 [⟨#[50, 48]⟩, ⟨#[50, 49]⟩] w14 H14.out.src (HRw.out _ H14.out.bel) (by omega) (by simp) (by simp) hBb (fun j hj => by
            have hj2 : j < 2 := hj
            rcases (by omega : j = 0 ∨ j = 1) with rfl | rfl
            · exact blkCell T14.out 0 _ rfl
            · exact blkCell T14.out 1 _ rfl) 2).mono ?_
          rintro e w15 ⟨j15, a15, s15, hj15, rfl, ha15, hb15, hs15, d15⟩
          have hj2 : j15 < 2 := hj15
          have hQ : ([⟨#[50, 48]⟩, ⟨#[50, 49]⟩].getD j15 (⟨#[]⟩ : ByteArray)).size = 2 ∧ allD ([⟨#[50, 48]⟩, ⟨#[50, 49]⟩].getD j15 (⟨#[]⟩ : ByteArray)).data.toList = true := by
            rcases (by omega : j15 = 0 ∨ j15 = 1) with rfl | rfl <;> exact ⟨rfl, by decide⟩
          generalize [⟨#[50, 48]⟩, ⟨#[50, 49]⟩].getD j15 (⟨#[]⟩ : ByteArray) = Q at *
          obtain ⟨hQ2, hQd⟩ := hQ
          have HQd : Hid (allD Q.data.toList = true) := hQd
          clear hQd hj15 hj2 T14
          have H15 : Hid (TaSo w w1 b a len cap (.slice (some ⟨g, 0, none⟩) rs.length cp) rs a15 s15 w15) := H14.out.draw d15 hs15
          have X15 : Hid (w15.heap[A]? = some (.cells #[.int .i64 1, .string cx, .int .i64 1] 42 (0, 0))) := (d15.kp A (by omega) (blkLt X14.out)).trans X14.out
          have Y15 : Hid (w15.heap[A2]? = some (.cells #[.string cx, .int .i64 ip, .int .i64 id, .int .i64 ic, .int .i64 ig] 60 (0, 0))) := (d15.kp A2 (by omega) (blkLt Y14.out)).trans Y14.out
          clear d15 hs15 H14 X14 Y14
          have h15 : (fun X => X.cell? ⟨A2, 0, none⟩ = some (.string cx)) w15 := blkCell Y15.out 0 _ rfl
          clear h14
          refine hK.out _ _ h15 (fun _ => ?_)
          clear hK K
          try simp only [Act.put, List.setIfInBounds_toArray, List.set_cons_zero, List.set_cons_succ, List.getElem_toArray, List.getElem_cons_succ, List.getElem_cons_zero]
          have hap := fun w => run_string_add_sum (P := Tryz.prog) w Q cx (by omega)
          refine wpAnyH_take (i := 5) (v := .string (Q ++ cx)) rfl (by kernel_rfl) (by kernel_rfl) (by kernel_rfl) (fun _ _ _ h => h) (Or.inl ⟨by rfl, fun w hSw => by have f0 := hap; clear hSw; go_simp⟩) h15 ?_
          try simp only [Act.put, List.setIfInBounds_toArray, List.set_cons_zero, List.set_cons_succ, List.getElem_toArray, List.getElem_cons_succ, List.getElem_cons_zero]
          refine wpAnyH_ready (rs := [7]) (by kernel_rfl) (by simp) ?_
          refine AllReadyH.cons rfl (fun K hK => ?_) AllReadyH.nil
          go_simp
          (first | go_at_call 19 | skip)
          refine (HNx.out _ 9000 a15 s15 H15.out.bel H15.out.src (by omega) (by omega)).mono ?_
          rintro e w16 ⟨x16, a16, s16, rfl, ⟨hx160, hx161⟩, ha16, hb16, hs16, d16⟩
          have H16 : Hid (TaSo w w1 b a len cap (.slice (some ⟨g, 0, none⟩) rs.length cp) rs a16 s16 w16) := H15.out.draw d16 hs16
          have X16 : Hid (w16.heap[A]? = some (.cells #[.int .i64 1, .string cx, .int .i64 1] 42 (0, 0))) := (d16.kp A (by omega) (blkLt X15.out)).trans X15.out
          have Y16 : Hid (w16.heap[A2]? = some (.cells #[.string cx, .int .i64 ip, .int .i64 id, .int .i64 ic, .int .i64 ig] 60 (0, 0))) := (d16.kp A2 (by omega) (blkLt Y15.out)).trans Y15.out
          clear d16 hs16 H15 X15 Y15
          have h16 : (fun X => X.cell? ⟨A2, 0, none⟩ = some (.string cx)) w16 := blkCell Y16.out 0 _ rfl
          clear h15 hap
          refine hK.out _ _ h16 (fun _ => ?_)
          clear hK K
          try simp only [Act.put, List.setIfInBounds_toArray, List.set_cons_zero, List.set_cons_succ, List.getElem_toArray, List.getElem_cons_succ, List.getElem_cons_zero]
          obtain ⟨nn, rfl⟩ : ∃ nn : Nat, x16 = (nn : Int) := ⟨x16.toNat, by omega⟩
          have hw16 : IntKind.i64.wrap (10000 + (nn : Int)) = 10000 + (nn : Int) := wrap_id _ (by omega) (by omega)
          refine wpAnyH_take (i := 8) (v := .int .i64 (10000 + (nn : Int))) rfl (by kernel_rfl) (by kernel_rfl) (by kernel_rfl) (fun _ _ _ h => h) (Or.inl ⟨by rfl, fun w hSw => by have f0 := hw16; clear hSw; go_simp⟩) h16 ?_
          try simp only [Act.put, List.setIfInBounds_toArray, List.set_cons_zero, List.set_cons_succ, List.getElem_toArray, List.getElem_cons_succ, List.getElem_cons_zero]
          refine wpAnyH_ready (rs := [9]) (by kernel_rfl) (by simp) ?_
          refine AllReadyH.cons rfl (fun K hK => ?_) AllReadyH.nil
          have hDg : ∀ W, Calls Tryz.prog 21 #[.int .i64 (10000 + (nn : Int))] W fun e w' => e = .returned (.string (decS (10000 + nn))) ∧ Below W.heap.size W w' := fun W => by have := digits_any (10000 + nn) (by omega) W; rw [show ((10000 + nn : Nat) : Int) = 10000 + (nn : Int) by omega] at this; exact this
          go_simp
          go_at_call 21
          refine (hDg _).mono ?_
          rintro e w17 ⟨rfl, hb17'⟩
          have H17 : Hid (TaSo w w1 b a len cap (.slice (some ⟨g, 0, none⟩) rs.length cp) rs a16 s16 w17) := H16.out.later hb17'
          have X17 : Hid (w17.heap[A]? = some (.cells #[.int .i64 1, .string cx, .int .i64 1] 42 (0, 0))) := (hb17'.block A (blkLt X16.out)).trans X16.out
          have Y17 : Hid (w17.heap[A2]? = some (.cells #[.string cx, .int .i64 ip, .int .i64 id, .int .i64 ic, .int .i64 ig] 60 (0, 0))) := (hb17'.block A2 (blkLt Y16.out)).trans Y16.out
          clear hb17' H16 X16 Y16 hDg hw16
          have h17 : (fun X => X.cell? ⟨A2, 0, none⟩ = some (.string cx)) w17 := blkCell Y17.out 0 _ rfl
          clear h16
          refine hK.out _ _ h17 (fun _ => ?_)
          clear hK K
          try simp only [Act.put, List.setIfInBounds_toArray, List.set_cons_zero, List.set_cons_succ, List.getElem_toArray, List.getElem_cons_succ, List.getElem_cons_zero]
          have hds := decS_size (10000 + nn)
          have hap := fun w => run_string_add_sum (P := Tryz.prog) w (Q ++ cx) (decS (10000 + nn)) (by rw [ByteArray.size_append]; omega)
          refine wpAnyH_take (i := 10) (v := .string (Q ++ cx ++ decS (10000 + nn))) rfl (by kernel_rfl) (by kernel_rfl) (by kernel_rfl) (fun _ _ _ h => h) (Or.inl ⟨by rfl, fun w hSw => by have f0 := hap; clear hSw; go_simp⟩) h17 ?_
          try simp only [Act.put, List.setIfInBounds_toArray, List.set_cons_zero, List.set_cons_succ, List.getElem_toArray, List.getElem_cons_succ, List.getElem_cons_zero]
          refine wpAnyH_take (i := 11) (v := .pointer (some ⟨A, 1, none⟩)) rfl (by kernel_rfl) (by kernel_rfl) (by kernel_rfl) (fun _ _ _ h => h) (Or.inl ⟨by rfl, fun w hSw => by clear hSw; go_simp⟩) h17 ?_
          try simp only [Act.put, List.setIfInBounds_toArray, List.set_cons_zero, List.set_cons_succ, List.getElem_toArray, List.getElem_cons_succ, List.getElem_cons_zero]
          refine wpAnyH_ready (rs := [12]) (by kernel_rfl) (by simp) ?_
          refine AllReadyH.cons rfl (fun K hK => ?_) AllReadyH.nil
          have hTs : (Q ++ cx ++ decS (10000 + nn)).size ≤ 50000 := by rw [ByteArray.size_append, ByteArray.size_append]; omega
          have HTd : Hid (allD (Q ++ cx ++ decS (10000 + nn)).data.toList = true) := allD_app _ _ (allD_app _ _ HQd.out HG.out.1) (allD_dec _)
          generalize Q ++ cx ++ decS (10000 + nn) = tx at *
          have z1 := blkCell X17.out 1 _ rfl
          have q1 := blkFree X17.out 1
          simp only [List.getElem_toArray, List.getElem_cons_zero, List.getElem_cons_succ] at z1
          have X18 : Hid ((w17.setCell ⟨A, 1, none⟩ (.string tx)).heap[A]? = some (.cells #[.int .i64 1, .string tx, .int .i64 1] 42 (0, 0))) := by
            have e := heap_setCell_same _ _ 1 _ _ (.string tx) X17.out
            simp only [List.setIfInBounds_toArray, List.set_cons_zero, List.set_cons_succ] at e
            exact e
          have h18 : (fun X => X.cell? ⟨A2, 0, none⟩ = some (.string cx)) (w17.setCell ⟨A, 1, none⟩ (.string tx)) := blkCell (V := #[.string cx, .int .i64 ip, .int .i64 id, .int .i64 ic, .int .i64 ig]) ((Below.heap_setCell _ _ _ _ (by show A2 ≠ A; exact hA2A)).trans Y17.out) 0 _ rfl
          have H18 : Hid (TaSo w w1 b a len cap (.slice (some ⟨g, 0, none⟩) rs.length cp) rs a16 s16 (w17.setCell ⟨A, 1, none⟩ (.string tx))) := H17.out.setA hA1 hgA _ _
          go_simp
          refine hK.out _ _ h18 (fun _ => ?_)
          clear hK K
          try simp only [Act.put, List.setIfInBounds_toArray, List.set_cons_zero, List.set_cons_succ, List.getElem_toArray, List.getElem_cons_succ, List.getElem_cons_zero]
          refine wpAnyH_done (by kernel_rfl) ?_ _
          clear z1 q1 H17 X17 Y17 h17 h18 hap
          generalize (w17.setCell ⟨A, 1, none⟩ (.string tx)) = w18 at *
          go_upto_region 11 with fail
          have H19 : Hid (TaSo w w1 b a len cap (.slice (some ⟨g, 0, none⟩) rs.length cp) rs a16 s16 w18.drew) := H18.out.drew
          have X19 : Hid (w18.drew.heap[A]? = some (.cells #[.int .i64 1, .string tx, .int .i64 1] 42 (0, 0))) := X18.out
          refine wp_region_z (S := (fun X => X.cell? ⟨A, 1, none⟩ = some (.string tx))) 8 (by kernel_rfl) (blkCell X19.out 1 _ rfl) (fun hH => ?_)
          clear H18 X18
          generalize w18.drew = w19 at *
          have hCk := fun W => l02Check_any tx (by omega) HTd.out W
          have hcd := cd_in tx.data.toList
          generalize cd tx.data.toList = cq at *
          have hDg2 : ∀ W, Calls Tryz.prog 21 #[.int .i64 cq] W fun e w' => e = .returned (.string (decS cq.toNat)) ∧ Below W.heap.size W w' := fun W => by have := digits_any cq.toNat (by omega) W; rwa [Int.toNat_of_nonneg hcd.1] at this
          refine wpAnyZ_take (i := 0) (v := .pointer (some ⟨A, 1, none⟩)) rfl (by kernel_rfl) (by kernel_rfl) (by kernel_rfl) (by kernel_rfl) (fun _ _ _ h => h) (Or.inl ⟨by rfl, fun w hSw => by clear hSw; go_simp⟩) hH ?_
          refine wpAnyZ_take (i := 1) (v := .string tx) rfl (by kernel_rfl) (by kernel_rfl) (by kernel_rfl) (by kernel_rfl) (fun _ _ _ h => h) (Or.inl ⟨by rfl, fun w hSw => by go_simp⟩) hH ?_
          try simp only [Act.put, List.setIfInBounds_toArray, List.set_cons_zero, List.set_cons_succ, List.getElem_toArray, List.getElem_cons_succ, List.getElem_cons_zero]
          refine wpAnyZ_take (i := 2) (v := .pointer (some ⟨A, 1, none⟩)) rfl (by kernel_rfl) (by kernel_rfl) (by kernel_rfl) (by kernel_rfl) (fun _ _ _ h => h) (Or.inl ⟨by rfl, fun w hSw => by clear hSw; go_simp⟩) hH ?_
          try simp only [Act.put, List.setIfInBounds_toArray, List.set_cons_zero, List.set_cons_succ, List.getElem_toArray, List.getElem_cons_succ, List.getElem_cons_zero]
          refine wpAnyZ_take (i := 3) (v := .string tx) rfl (by kernel_rfl) (by kernel_rfl) (by kernel_rfl) (by kernel_rfl) (fun _ _ _ h => h) (Or.inl ⟨by rfl, fun w hSw => by go_simp⟩) hH ?_
          try simp only [Act.put, List.setIfInBounds_toArray, List.set_cons_zero, List.set_cons_succ, List.getElem_toArray, List.getElem_cons_succ, List.getElem_cons_zero]
          refine wpAnyZ_ready (rs := [4]) (by kernel_rfl) (by simp) ?_
          refine AllReadyZ.cons rfl (fun K hK => ?_) AllReadyZ.nil
          go_simp
          go_at_call 22
          refine (hCk _).mono ?_
          rintro e w20 ⟨rfl, rfl⟩
          clear hCk
          refine hK.out _ _ (Or.inr hH) (fun _ => ?_)
          clear hK K
          try simp only [Act.put, List.setIfInBounds_toArray, List.set_cons_zero, List.set_cons_succ, List.getElem_toArray, List.getElem_cons_succ, List.getElem_cons_zero]
          refine wpAnyZ_ready (rs := [5]) (by kernel_rfl) (by simp) ?_
          refine AllReadyZ.cons rfl (fun K hK => ?_) AllReadyZ.nil
          go_simp
          go_at_call 21
          refine (hDg2 _).mono ?_
          rintro e w21 ⟨rfl, hb21'⟩
          have H21 : Hid (TaSo w w1 b a len cap (.slice (some ⟨g, 0, none⟩) rs.length cp) rs a16 s16 w21) := H19.out.later hb21'
          have X21 : Hid (w21.heap[A]? = some (.cells #[.int .i64 1, .string tx, .int .i64 1] 42 (0, 0))) := (hb21'.block A (blkLt X19.out)).trans X19.out
          have h21 : (fun X => X.cell? ⟨A, 1, none⟩ = some (.string tx)) w21 := blkCell X21.out 1 _ rfl
          clear hb21' H19 X19 hDg2 hH
          refine hK.out _ _ (Or.inr h21) (fun _ => ?_)
          clear hK K
          try simp only [Act.put, List.setIfInBounds_toArray, List.set_cons_zero, List.set_cons_succ, List.getElem_toArray, List.getElem_cons_succ, List.getElem_cons_zero]
          have hds2 := decS_size cq.toNat
          have hap := fun w => run_string_add_sum (P := Tryz.prog) w tx (decS cq.toNat) (by omega)
          refine wpAnyZ_take (i := 6) (v := .string (tx ++ decS cq.toNat)) rfl (by kernel_rfl) (by kernel_rfl) (by kernel_rfl) (by kernel_rfl) (fun _ _ _ h => h) (Or.inl ⟨by rfl, fun w hSw => by have f0 := hap; clear hSw; go_simp⟩) h21 ?_
          try simp only [Act.put, List.setIfInBounds_toArray, List.set_cons_zero, List.set_cons_succ, List.getElem_toArray, List.getElem_cons_succ, List.getElem_cons_zero]
          refine wpAnyZ_take (i := 7) (v := .pointer (some ⟨A, 1, none⟩)) rfl (by kernel_rfl) (by kernel_rfl) (by kernel_rfl) (by kernel_rfl) (fun _ _ _ h => h) (Or.inl ⟨by rfl, fun w hSw => by clear hSw; go_simp⟩) h21 ?_
          try simp only [Act.put, List.setIfInBounds_toArray, List.set_cons_zero, List.set_cons_succ, List.getElem_toArray, List.getElem_cons_succ, List.getElem_cons_zero]
          refine wpAnyZ_ready (rs := [8]) (by kernel_rfl) (by simp) ?_
          refine AllReadyZ.cons rfl (fun K hK => ?_) AllReadyZ.nil
          have z1 := blkCell X21.out 1 _ rfl
          have q1 := blkFree X21.out 1
          simp only [List.getElem_toArray, List.getElem_cons_zero, List.getElem_cons_succ] at z1
          have X22 : Hid ((w21.setCell ⟨A, 1, none⟩ (.string (tx ++ decS cq.toNat))).heap[A]? = some (.cells #[.int .i64 1, .string (tx ++ decS cq.toNat), .int .i64 1] 42 (0, 0))) := by
            have e := heap_setCell_same _ _ 1 _ _ (.string (tx ++ decS cq.toNat)) X21.out
            simp only [List.setIfInBounds_toArray, List.set_cons_zero, List.set_cons_succ] at e
            exact e
          have H22 : Hid (TaSo w w1 b a len cap (.slice (some ⟨g, 0, none⟩) rs.length cp) rs a16 s16 (w21.setCell ⟨A, 1, none⟩ (.string (tx ++ decS cq.toNat)))) := H21.out.setA hA1 hgA _ _
          clear h21
          go_simp
          refine hK.out _ _ (Or.inl rfl) (fun _ => ?_)
          clear hK K
          try simp only [Act.put, List.setIfInBounds_toArray, List.set_cons_zero, List.set_cons_succ, List.getElem_toArray, List.getElem_cons_succ, List.getElem_cons_zero]
          refine wpAnyZ_done (by kernel_rfl) ?_ _
          clear z1 q1 H21 X21 hap
          generalize (w21.setCell ⟨A, 1, none⟩ (.string (tx ++ decS cq.toNat))) = w22 at *
          have hT2 : (tx ++ decS cq.toNat).size ≤ 100000 := by rw [ByteArray.size_append]; omega
          generalize tx ++ decS cq.toNat = ty at *
          go_upto_region 26 with fail
          have hTD : Hid (TaD ⟨1, ty, 1⟩) := ⟨⟨by dsimp only; omega, by dsimp only; omega⟩, hT2, by dsimp only; omega, by dsimp only; omega⟩
          have y0 := blkCell X22.out 0 _ rfl
          have y1 := blkCell X22.out 1 _ rfl
          have y2 := blkCell X22.out 2 _ rfl
          simp only [List.getElem_toArray, List.getElem_cons_zero, List.getElem_cons_succ] at y0 y1 y2
          have HA : Hid (TaSo w w1 b a len cap (.slice (some ⟨g, 0, none⟩) rs.length cp) rs a16 s16 (w22.alloc (Obj.cells #[.int .i64 1, .string ty, .int .i64 1] 42))) := H22.out.alloc _
          have HN : Hid ((w22.alloc (Obj.cells #[.int .i64 1, .string ty, .int .i64 1] 42)).heap[w22.heap.size]? = some (.cells #[.int .i64 1, .string ty, .int .i64 1] 42 (0, 0))) := heapNew _ _
          have hzz := HA.out.size
          clear H22 hA1
          go_wp2_with (at_builtin; refine wpList_append_lies _ rfl _ _ 24 rfl w1.heap.size 42 i0 (.agg #[.int .i64 0, .string ⟨#[]⟩, .int .i64 0]) 3 32 Tryz.underlying24 hi hi0 hi1 hi2 rfl (by decide) _ _ _ rfl HA.out.row ⟨w22.heap.size, 0, none⟩ 1 1 [.int .i64 1, .string ty, .int .i64 1] rfl rfl (World.news_of_block HN.out) (by simp [Value.oneCell']) (by omega) (by unfold maxLen; omega) (by omega) hzz _ rfl ?_; intro g1 cp1 wz hown1 hgrow1 hat1 hglt1; have HF : Hid (TaSo w w1 b a len cap (.slice (some ⟨g1, 0, none⟩) (rs.length + 1) cp1) (rs ++ [⟨1, ty, 1⟩]) a16 s16 wz) := HA.out.push (r := ⟨1, ty, 1⟩) hown1 hgrow1; clear hown1 hgrow1 hat1 hglt1)
          refine ⟨⟨rs ++ [⟨1, ty, 1⟩], k - 1, g1, cp1, a16, s16, by rw [List.length_append]; simp; omega, by simp, by go_num, fun r hr => ?_, by omega, HF.out⟩, by simp [intOf]; omega⟩
          rcases List.mem_append.1 hr with q | q
          · exact HD.out r q
          · rw [List.mem_singleton.1 q]; exact hTD.out
        · have h5' : ((cx.size : Int) == 5) = false := by rw [beq_eq_false_iff_ne]; exact h5
          have hch := chance_D b a len cap zs 3 a12 s12 w12 H12.out.src (HRw.out _ H12.out.bel) (by omega) (by omega) (by omega)
          clear Y12
          go_wp2_with fail
          (first | go_at_call 27 | skip)
          refine hch.mono ?_
          rintro e w13 ⟨xb, a13, s13, rfl, ha13, hb13, hs13, d13⟩
          clear hch zc
          have H13 : Hid (TaSo w w1 b a len cap (.slice (some ⟨g, 0, none⟩) rs.length cp) rs a13 s13 w13) := H12.out.draw d13 hs13
          have X13 : Hid (w13.heap[A]? = some (.cells #[.int .i64 1, .string cx, .int .i64 1] 42 (0, 0))) := (d13.kp A (by omega) (blkLt X12.out)).trans X12.out
          clear d13 hs13 H12 X12
          cases xb
          · go_upto_region 26 with fail
            have hTD : Hid (TaD ⟨1, cx, 1⟩) := ⟨⟨by dsimp only; omega, by dsimp only; omega⟩, by dsimp only; omega, by dsimp only; omega, by dsimp only; omega⟩
            have y0 := blkCell X13.out 0 _ rfl
            have y1 := blkCell X13.out 1 _ rfl
            have y2 := blkCell X13.out 2 _ rfl
            simp only [List.getElem_toArray, List.getElem_cons_zero, List.getElem_cons_succ] at y0 y1 y2
            have HA : Hid (TaSo w w1 b a len cap (.slice (some ⟨g, 0, none⟩) rs.length cp) rs a13 s13 (w13.alloc (Obj.cells #[.int .i64 1, .string cx, .int .i64 1] 42))) := H13.out.alloc _
            have HN : Hid ((w13.alloc (Obj.cells #[.int .i64 1, .string cx, .int .i64 1] 42)).heap[w13.heap.size]? = some (.cells #[.int .i64 1, .string cx, .int .i64 1] 42 (0, 0))) := heapNew _ _
            have hzz := HA.out.size
            clear H13 hA1
            go_wp2_with (at_builtin; refine wpList_append_lies _ rfl _ _ 24 rfl w1.heap.size 42 i0 (.agg #[.int .i64 0, .string ⟨#[]⟩, .int .i64 0]) 3 32 Tryz.underlying24 hi hi0 hi1 hi2 rfl (by decide) _ _ _ rfl HA.out.row ⟨w13.heap.size, 0, none⟩ 1 1 [.int .i64 1, .string cx, .int .i64 1] rfl rfl (World.news_of_block HN.out) (by simp [Value.oneCell']) (by omega) (by unfold maxLen; omega) (by omega) hzz _ rfl ?_; intro g1 cp1 wz hown1 hgrow1 hat1 hglt1; have HF : Hid (TaSo w w1 b a len cap (.slice (some ⟨g1, 0, none⟩) (rs.length + 1) cp1) (rs ++ [⟨1, cx, 1⟩]) a13 s13 wz) := HA.out.push (r := ⟨1, cx, 1⟩) hown1 hgrow1; clear hown1 hgrow1 hat1 hglt1)
            refine ⟨⟨rs ++ [⟨1, cx, 1⟩], k - 1, g1, cp1, a13, s13, by rw [List.length_append]; simp; omega, by simp, by go_num, fun r hr => ?_, by omega, HF.out⟩, by simp [intOf]; omega⟩
            rcases List.mem_append.1 hr with q | q
            · exact HD.out r q
            · rw [List.mem_singleton.1 q]; exact hTD.out
          · obtain ⟨w14, hw14⟩ : ∃ w14, w14 = w13.alloc (Obj.cells #[.int .i64 2, .int .i64 3, .int .i64 99, .int .i64 100, .int .i64 0] 3) := ⟨_, rfl⟩
            obtain ⟨B, hB⟩ : ∃ B, B = w13.heap.size := ⟨_, rfl⟩
            have HW14 : Hid (w14 = w13.alloc (Obj.cells #[.int .i64 2, .int .i64 3, .int .i64 99, .int .i64 100, .int .i64 0] 3) ∧ B = w13.heap.size) := ⟨hw14, hB⟩
            have H14 : Hid (TaSo w w1 b a len cap (.slice (some ⟨g, 0, none⟩) rs.length cp) rs a13 s13 w14) := by show TaSo _ _ _ _ _ _ _ _ _ _ _; rw [hw14]; exact H13.out.alloc _
            have T14 : Hid (w14.heap[B]? = some (.cells #[.int .i64 2, .int .i64 3, .int .i64 99, .int .i64 100, .int .i64 0] 3 (0, 0))) := by show _ = _; rw [hw14, hB]; exact heapNew _ _
            have hBb : B ≠ b := by have := H13.out.src.2.2.2.2.2.1; omega
            have hB1 : w1.heap.size ≤ B := by rw [hB]; exact H13.out.size
            have hgB : g ≠ B := by have := (H13.out.row.lt g rfl).2; omega
            have X14 : Hid (w14.heap[A]? = some (.cells #[.int .i64 1, .string cx, .int .i64 1] 42 (0, 0))) := by show _ = _; rw [hw14]; exact (Below.heap_alloc _ _ _ (blkLt X13.out)).trans X13.out
            have hBA : B ≠ A := by have := blkLt X13.out; omega
            clear hw14 hB H13 X13
            obtain ⟨a14, ha14⟩ : ∃ a14, a14 = a13 := ⟨_, rfl⟩
            obtain ⟨s14, hs14⟩ : ∃ s14, s14 = s13 := ⟨_, rfl⟩
            rw [← ha14, ← hs14] at H14
            clear hs14
            go_wp2_with fail
            (first | go_at_call 19 | skip)
            rw [← HW14.out.1, ← HW14.out.2]
            clear HW14
            refine (HNx.out _ 5 a14 s14 H14.out.bel H14.out.src (by omega) (by omega)).mono ?_
            rintro e w15 ⟨x15, a15, s15, rfl, ⟨hx150, hx151⟩, ha15, hb15, hs15, d15⟩
            have H15 : Hid (TaSo w w1 b a len cap (.slice (some ⟨g, 0, none⟩) rs.length cp) rs a15 s15 w15) := H14.out.draw d15 hs15
            have X15 : Hid (w15.heap[A]? = some (.cells #[.int .i64 1, .string cx, .int .i64 1] 42 (0, 0))) := (d15.kp A (by omega) (blkLt X14.out)).trans X14.out
            have T15 : Hid (w15.heap[B]? = some (.cells #[.int .i64 2, .int .i64 3, .int .i64 99, .int .i64 100, .int .i64 0] 3 (0, 0))) := (d15.kp B (by omega) (blkLt T14.out)).trans T14.out
            clear d15 hs15 H14 X14 T14
            obtain ⟨jj, rfl⟩ : ∃ jj : Nat, x15 = (jj : Int) := ⟨x15.toNat, by omega⟩
            have hjj : jj < 5 := by omega
            have hjj' : (jj : Int) < 5 := by omega
            have yc := ints_at (zs := [2, 3, 99, 100, 0]) T15.out jj hjj
            obtain ⟨yy, hyy⟩ : ∃ yy : Int, [2, 3, 99, 100, 0].getD jj 0 = yy := ⟨_, rfl⟩
            have hyr : -1 ≤ yy ∧ yy ≤ 1000000001 := by
              rw [← hyy]
              rcases (by omega : jj = 0 ∨ jj = 1 ∨ jj = 2 ∨ jj = 3 ∨ jj = 4) with rfl | rfl | rfl | rfl | rfl
              · show -1 ≤ (2 : Int) ∧ (2 : Int) ≤ 1000000001; omega
              · show -1 ≤ (3 : Int) ∧ (3 : Int) ≤ 1000000001; omega
              · show -1 ≤ (99 : Int) ∧ (99 : Int) ≤ 1000000001; omega
              · show -1 ≤ (100 : Int) ∧ (100 : Int) ≤ 1000000001; omega
              · show -1 ≤ (0 : Int) ∧ (0 : Int) ≤ 1000000001; omega
            rw [hyy] at yc
            clear hyy T15
            have z2 := blkCell X15.out 2 _ rfl
            have q2 := blkFree X15.out 2
            simp only [List.getElem_toArray, List.getElem_cons_zero, List.getElem_cons_succ] at z2
            have X16 : Hid ((w15.setCell ⟨A, 2, none⟩ (.int .i64 yy)).heap[A]? = some (.cells #[.int .i64 1, .string cx, .int .i64 yy] 42 (0, 0))) := by
              have e := heap_setCell_same _ _ 2 _ _ (.int .i64 yy) X15.out
              simp only [List.setIfInBounds_toArray, List.set_cons_zero, List.set_cons_succ] at e
              exact e
            have H16 : Hid (TaSo w w1 b a len cap (.slice (some ⟨g, 0, none⟩) rs.length cp) rs a15 s15 (w15.setCell ⟨A, 2, none⟩ (.int .i64 yy))) := H15.out.setA hA1 hgA _ _
            go_upto_region 26 with fail
            clear z2 q2 H15 X15
            generalize (w15.setCell ⟨A, 2, none⟩ (.int .i64 yy)) = w16 at *
            have hTD : Hid (TaD ⟨1, cx, yy⟩) := ⟨⟨by dsimp only; omega, by dsimp only; omega⟩, by dsimp only; omega, by dsimp only; omega, by dsimp only; omega⟩
            have y0 := blkCell X16.out 0 _ rfl
            have y1 := blkCell X16.out 1 _ rfl
            have y2 := blkCell X16.out 2 _ rfl
            simp only [List.getElem_toArray, List.getElem_cons_zero, List.getElem_cons_succ] at y0 y1 y2
            have HA : Hid (TaSo w w1 b a len cap (.slice (some ⟨g, 0, none⟩) rs.length cp) rs a15 s15 (w16.alloc (Obj.cells #[.int .i64 1, .string cx, .int .i64 yy] 42))) := H16.out.alloc _
            have HN : Hid ((w16.alloc (Obj.cells #[.int .i64 1, .string cx, .int .i64 yy] 42)).heap[w16.heap.size]? = some (.cells #[.int .i64 1, .string cx, .int .i64 yy] 42 (0, 0))) := heapNew _ _
            have hzz := HA.out.size
            clear H16 hA1
            go_wp2_with (at_builtin; refine wpList_append_lies _ rfl _ _ 24 rfl w1.heap.size 42 i0 (.agg #[.int .i64 0, .string ⟨#[]⟩, .int .i64 0]) 3 32 Tryz.underlying24 hi hi0 hi1 hi2 rfl (by decide) _ _ _ rfl HA.out.row ⟨w16.heap.size, 0, none⟩ 1 1 [.int .i64 1, .string cx, .int .i64 yy] rfl rfl (World.news_of_block HN.out) (by simp [Value.oneCell']) (by omega) (by unfold maxLen; omega) (by omega) hzz _ rfl ?_; intro g1 cp1 wz hown1 hgrow1 hat1 hglt1; have HF : Hid (TaSo w w1 b a len cap (.slice (some ⟨g1, 0, none⟩) (rs.length + 1) cp1) (rs ++ [⟨1, cx, yy⟩]) a15 s15 wz) := HA.out.push (r := ⟨1, cx, yy⟩) hown1 hgrow1; clear hown1 hgrow1 hat1 hglt1)
            refine ⟨⟨rs ++ [⟨1, cx, yy⟩], k - 1, g1, cp1, a15, s15, by rw [List.length_append]; simp; omega, by simp, by go_num, fun r hr => ?_, by omega, HF.out⟩, by simp [intOf]; omega⟩
            rcases List.mem_append.1 hr with q | q
            · exact HD.out r q
            · rw [List.mem_singleton.1 q]; exact hTD.out
    · obtain rfl : k = 0 := by omega
      go_wp2
      go_ret
      exact ⟨rs, g, cp, a4, s4, rfl, by omega, HD.out, H4.out⟩
end Go.Proofs.YtabpkfhbnendjaaGreat
