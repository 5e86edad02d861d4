/-
  Texts of this claim laid together: DrawItW.
-/
import Derived.Test.YtabpkfhbnendjaaGreatM30
import Derived.Test.YtabpkfhbnendjaaGreatM12
import Derived.Test.YtabpkfhbnendjaaGreatM16
/-
  The specification's drawn items.
-/
namespace Go.Proofs.YtabpkfhbnendjaaGreat
open Go.ChangeShapes Go.WideShapes Go.ChangeAt Go.RowKit Go.Deep
set_option linter.unusedVariables false

theorem setI_ne {g n cp k A : Nat} (hk : Value.ownBlock (.slice (some ⟨g, 0, none⟩) n cp) = some k) (hg : g ≠ A) : k ≠ A := by
  have e : g = k := by simpa [Value.ownBlock] using hk
  omega
theorem ItSo.setA {w : World} {b : Nat} {a : Option Addr} {len cap : Nat} {g n cp : Nat} {rs : List RIt} {at' sd : Int} {wr : World} (h : ItSo w b a len cap (.slice (some ⟨g, 0, none⟩) n cp) rs at' sd wr) {A : Nat} (hA : b < A) (hg : g ≠ A) (o : Nat) (v : Value) : ItSo w b a len cap (.slice (some ⟨g, 0, none⟩) n cp) rs at' sd (wr.setCell ⟨A, o, none⟩ v) := by
  obtain ⟨h1, h2, h3, h4⟩ := h
  exact ⟨owns_sameP h1 (fun k hk => Below.heap_setCell _ _ _ _ (setI_ne hk hg)), by rw [World.size_setCell]; exact h2, src_sameP h3 (Below.heap_setCell _ _ _ _ (by show b ≠ A; omega)) (by rw [World.size_setCell]; exact Nat.le_refl _), h4.setCell (by show b ≤ A; omega) _⟩
theorem ItSo.later {w : World} {b : Nat} {a : Option Addr} {len cap : Nat} {v : Value} {rs : List RIt} {at' sd : Int} {wr w' : World} (h : ItSo w b a len cap v rs at' sd wr) (hb : Below wr.heap.size wr w') : ItSo w b a len cap v rs at' sd w' := by
  obtain ⟨h1, h2, h3, h4⟩ := h
  exact ⟨owns_sameP h1 (fun k hk => hb.block k (h1.lt k hk).2), Nat.le_trans h2 hb.size, src_sameP h3 (hb.block b h3.2.2.2.2.2.1) hb.size, h4.trans (hb.mono (by omega))⟩
/-- What is drawn: right items, none with the code of one ahead. -/
def ItsD (rs : List RIt) : Prop := (∀ r ∈ rs, Good r.cd ∧ ItN r) ∧ ∀ k, k < rs.length → itIx (rs.getD k zIt).cd (rs.take k) < 0
theorem ItsD.nil : ItsD [] := ⟨fun r h => by simp at h, fun k h => by simp at h⟩
theorem ItsD.push {rs : List RIt} {r : RIt} (h : ItsD rs) (hg : Good r.cd) (hn : ItN r) (hx : itIx r.cd rs < 0) : ItsD (rs ++ [r]) := by
  refine ⟨fun q hq => ?_, fun k hk => ?_⟩
  · rcases List.mem_append.1 hq with h1 | h1
    · exact h.1 q h1
    · rw [List.mem_singleton.1 h1]; exact ⟨hg, hn⟩
  · rw [List.length_append] at hk
    by_cases e : k < rs.length
    · rw [show (rs ++ [r]).getD k zIt = rs.getD k zIt by rw [List.getD_eq_getElem?_getD, List.getD_eq_getElem?_getD, List.getElem?_append_left e], List.take_append_of_le_length (by omega)]
      exact h.2 k e
    · obtain rfl : k = rs.length := by simp at hk; omega
      rw [show (rs ++ [r]).getD rs.length zIt = r by rw [List.getD_eq_getElem?_getD, List.getElem?_append_right (Nat.le_refl _)]; simp, List.take_left]
      exact hx
theorem tq5 (x n : Int) (hn : 1 ≤ n) (h0 : 0 ≤ x) (h1 : x < n + n) : ∃ q : Int, Int.tdiv x n = q ∧ 0 ≤ q ∧ q ≤ 1 := ⟨_, rfl, by rw [Int.tdiv_eq_ediv_of_nonneg h0]; exact Int.ediv_nonneg h0 (by omega), by
  rw [Int.tdiv_eq_ediv_of_nonneg h0]
  have := Int.ediv_lt_of_lt_mul (a := x) (b := 2) (c := n) (by omega) (by omega)
  omega⟩
set_option maxRecDepth 8000 in
set_option maxHeartbeats 40000000 in
theorem items_drawn (b : Nat) (a : Option Addr) (len cap : Nat) (zs : List Int) (s0 : Int) (w w1 : World) (hs : Src w1 b a len cap 0 s0) (hb : Below b w w1) (hr : RowB b w a len zs) (hlen : len ≤ maxLen) :
    Calls Tryz.prog 11 #[.pointer (some ⟨b, 0, none⟩)] w1 fun e w' => ∃ (rs : List RIt) (g cp : Nat) (at' sd : Int), e = .returned (.slice (some ⟨g, 0, none⟩) rs.length cp) ∧ (1 ≤ rs.length ∧ rs.length ≤ 6) ∧ ItsD rs ∧ at' ≤ 1000 ∧ ItSo w b a len cap (.slice (some ⟨g, 0, none⟩) rs.length cp) rs at' sd w' := by
  have HNx : Hid (∀ W (n at' sd : Int), Below b w W → Src W b a len cap at' sd → at' ≤ 1000 → n ≤ 256 → Calls Tryz.prog 19 #[.pointer (some ⟨b, 0, none⟩), .int .i64 n] W fun e w' => ∃ x at2 s' : Int, e = .returned (.int .i64 x) ∧ Drawn x n ∧ at' ≤ at2 ∧ at2 ≤ at' + 3 ∧ Src w' b a len cap at2 s' ∧ Below b W w' ∧ Apt b W w') := fun W n at' sd hW hs h1 h2 => next_anyA b b a len cap zs n at' sd W (Nat.le_refl _) hs (hr.below hW) (by omega) (by omega)
  have HSz : Hid (∀ W (at' sd : Int), Src W b a len cap at' sd → Calls Tryz.prog 20 #[.pointer (some ⟨b, 0, none⟩), .int .i64 5] W fun e w' => (∃ x : Int, e = .returned (.int .i64 x) ∧ 1 ≤ x ∧ x ≤ 5) ∧ w' = W) := fun W at' sd h => size_src b a len cap 5 at' sd W h hlen (by omega) (by omega)
  obtain ⟨i0, hi, hzz⟩ := Option.map_eq_some_iff.1 itInf
  simp only [Prod.mk.injEq] at hzz
  obtain ⟨hi0, hi1, hi2⟩ := hzz
  have H1 : Hid (ItSo w b a len cap (.slice (some ⟨w1.heap.size, 0, none⟩) 0 0) [] 0 s0 (w1.alloc (Obj.cells #[] 60))) := ItSo.start hs hb
  clear hr hs hb
  go_enter Tryz.func11, Tryz.ntmps11
  go_wp2_with fail
  (first | go_at_call 20 | skip)
  refine (HSz.out _ 0 s0 H1.out.2.2.1).mono ?_
  rintro e w2 ⟨⟨xs, rfl, hxs1, hxs2⟩, rfl⟩
  clear HSz
  go_wp2_with fail
  (first | go_at_call 19 | skip)
  refine (HNx.out _ (xs + 1) 0 s0 H1.out.2.2.2 H1.out.2.2.1 (by omega) (by omega)).mono ?_
  rintro e w3 ⟨x3, a3, s3, rfl, ⟨hx30, hx31⟩, ha3, hb3, hs3, hb3', hf3⟩
  have H3 : Hid (ItSo w b a len cap (.slice (some ⟨w1.heap.size, 0, none⟩) 0 0) [] a3 s3 w3) := H1.out.draw hf3 hb3' hs3
  clear hs3 hb3' hf3 H1
  obtain ⟨k3, rfl⟩ := Int.eq_ofNat_of_zero_le hx30
  have hk3 : k3 ≤ 5 := by omega
  generalize w1.heap.size = g3 at *
  go_wp2_with fail
  go_loopw [3, 4, 5, 6, 7, 47, 55] (fun v x _ _ _ _ _ wr => ∃ (rs : List RIt) (k g cp : Nat) (at' sd : Int), rs.length + k ≤ 6 ∧ 1 ≤ rs.length + k ∧ v = .slice (some ⟨g, 0, none⟩) rs.length cp ∧ x = .int .i64 (k : Int) ∧ ItsD rs ∧ at' ≤ 200 - 20 * (k : Int) ∧ ItSo w b a len cap v rs at' sd wr) (fun _ x _ _ _ _ _ _ => (intOf x).toNat)
  case atStart => exact ⟨[], k3 + 1, g3, 0, a3, s3, by simp; omega, by simp, rfl, by go_num, ItsD.nil, by push_cast; omega, H3.out⟩
  case round =>
    obtain ⟨rs, k, g, cp, at', sd, hk, hk1, rfl, rfl, hD, hat, hst⟩ := hrel
    have HS : Hid (ItSo w b a len cap (.slice (some ⟨g, 0, none⟩) rs.length cp) rs at' sd wr) := hst
    have HD : Hid (ItsD rs) := hD
    clear hst hD H3
    by_cases hlt : 0 < k
    · have hlt' : (0 : Int) < (k : Int) := by omega
      go_wp2_with fail
      (first | go_at_call 19 | skip)
      refine (HNx.out _ 60 at' sd HS.out.2.2.2 HS.out.2.2.1 (by omega) (by omega)).mono ?_
      rintro e w4 ⟨x4, a4, s4, rfl, ⟨hx40, hx41⟩, ha4, hb4, hs4, hb4', hf4⟩
      have H4 : Hid (ItSo w b a len cap (.slice (some ⟨g, 0, none⟩) rs.length cp) rs a4 s4 w4) := HS.out.draw hf4 hb4' hs4
      clear hs4 hb4' hf4 HS
      go_wp2_with fail
      (first | go_at_call 19 | skip)
      refine (HNx.out _ 6 a4 s4 H4.out.2.2.2 H4.out.2.2.1 (by omega) (by omega)).mono ?_
      rintro e w5 ⟨x5, a5, s5, rfl, ⟨hx50, hx51⟩, ha5, hb5, hs5, hb5', hf5⟩
      have H5 : Hid (ItSo w b a len cap (.slice (some ⟨g, 0, none⟩) rs.length cp) rs a5 s5 w5) := H4.out.draw hf5 hb5' hs5
      clear hs5 hb5' hf5 H4
      obtain ⟨q5, hq5, hq50, hq51⟩ := tq5 x5 5 (by omega) hx50 (by omega)
      have hw4 : IntKind.i64.wrap (10 * x4) = 10 * x4 := wrap_id _ (by omega) (by omega)
      go_wp2_with fail
      (first | go_at_call 19 | skip)
      refine (HNx.out _ 3 a5 s5 H5.out.2.2.2 H5.out.2.2.1 (by omega) (by omega)).mono ?_
      rintro e w6 ⟨x6, a6, s6, rfl, ⟨hx60, hx61⟩, ha6, hb6, hs6, hb6', hf6⟩
      have H6 : Hid (ItSo w b a len cap (.slice (some ⟨g, 0, none⟩) rs.length cp) rs a6 s6 w6) := H5.out.draw hf6 hb6' hs6
      clear hs6 hb6' hf6 H5
      go_wp2_with fail
      (first | go_at_call 19 | skip)
      refine (HNx.out _ 8 a6 s6 H6.out.2.2.2 H6.out.2.2.1 (by omega) (by omega)).mono ?_
      rintro e w7 ⟨x7, a7, s7, rfl, ⟨hx70, hx71⟩, ha7, hb7, hs7, hb7', hf7⟩
      have H7 : Hid (ItSo w b a len cap (.slice (some ⟨g, 0, none⟩) rs.length cp) rs a7 s7 w7) := H6.out.draw hf7 hb7' hs7
      clear hs7 hb7' hf7 H6
      obtain ⟨q7, hq7, hq70, hq71⟩ := tq5 x7 7 (by omega) hx70 (by omega)
      obtain ⟨w8, hw8⟩ : ∃ w8, w8 = w7.alloc (Obj.cells #[.string ⟨#[]⟩, .int .i64 (10 * x4), .int .i64 (25 * q5), .int .i64 (1 + x6), .int .i64 (18 * q7)] 60) := ⟨_, rfl⟩
      obtain ⟨A, hA⟩ : ∃ A, A = w7.heap.size := ⟨_, rfl⟩
      have HW8 : Hid (w8 = w7.alloc (Obj.cells #[.string ⟨#[]⟩, .int .i64 (10 * x4), .int .i64 (25 * q5), .int .i64 (1 + x6), .int .i64 (18 * q7)] 60) ∧ A = w7.heap.size) := ⟨hw8, hA⟩
      have H8 : Hid (ItSo w b a len cap (.slice (some ⟨g, 0, none⟩) rs.length cp) rs a7 s7 w8) := by show ItSo _ _ _ _ _ _ _ _ _ _; rw [hw8]; exact H7.out.alloc _
      have X8 : Hid (w8.heap[A]? = some (.cells #[.string ⟨#[]⟩, .int .i64 (10 * x4), .int .i64 (25 * q5), .int .i64 (1 + x6), .int .i64 (18 * q7)] 60 (0, 0))) := by show _ = _; rw [hw8, hA]; exact heapNew _ _
      have hbA : b < A := by rw [hA]; exact H7.out.2.2.1.2.2.2.2.2.1
      have hgA : g ≠ A := by have := (H7.out.1.lt g rfl).2; omega
      have hAb : A ≠ b := by omega
      clear hw8 hA H7
      go_upto_region 6 with fail
      rw [← HW8.out.1, ← HW8.out.2]
      clear HW8 hq5 hq7
      have hN : ∀ c : ByteArray, ItN ⟨c, 10 * x4, 25 * q5, 1 + x6, 18 * q7⟩ := fun c => ⟨⟨by dsimp only; omega, by dsimp only; omega⟩, ⟨by dsimp only; omega, by dsimp only; omega⟩, ⟨by dsimp only; omega, by dsimp only; omega⟩, by dsimp only; omega, by dsimp only; omega⟩
      have HNN : Hid (∀ c : ByteArray, ItN ⟨c, 10 * x4, 25 * q5, 1 + x6, 18 * q7⟩) := hN
      have hr6 : rs.length < 6 := by omega
      clear hN
      go_wp2_with fail
      (first | go_at_call 19 | skip)
      refine (HNx.out _ 3 a7 s7 H8.out.2.2.2 H8.out.2.2.1 (by omega) (by omega)).mono ?_
      rintro e w9 ⟨x9, a9, s9, rfl, ⟨hx90, hx91⟩, ha9, hb9, hs9, hb9', hf9⟩
      have H9 : Hid (ItSo w b a len cap (.slice (some ⟨g, 0, none⟩) rs.length cp) rs a9 s9 w9) := H8.out.draw hf9 hb9' hs9
      have X9 : Hid (w9.heap[A]? = some (.cells #[.string ⟨#[]⟩, .int .i64 (10 * x4), .int .i64 (25 * q5), .int .i64 (1 + x6), .int .i64 (18 * q7)] 60 (0, 0))) := (hf9 A (by omega)).trans X8.out
      clear hs9 hb9' hf9 H8 X8
      rcases (by omega : x9 = 0 ∨ x9 = 1 ∨ x9 = 2) with rfl | rfl | rfl
      · have hm : Int.tmod (rs.length : Int) 10 = (rs.length : Int) := by rw [Int.tmod_eq_emod_of_nonneg (by omega)]; omega
        have hDg := fun W => digits_any rs.length (by omega) W
        have hap := fun w => run_string_add_sum (P := Tryz.prog) w ⟨#[49, 50, 51, 52]⟩ (decS rs.length) (by have h1 := decS_size rs.length; have h2 : (⟨#[49, 50, 51, 52]⟩ : ByteArray).size = 4 := rfl; rw [h2]; omega)
        go_wp2_with fail
        (first | go_at_call 21 | skip)
        refine (hDg _).mono ?_
        rintro e w12 ⟨rfl, hb12⟩
        have H12 : Hid (ItSo w b a len cap (.slice (some ⟨g, 0, none⟩) rs.length cp) rs a9 s9 w12) := H9.out.later hb12
        have X12 : Hid (w12.heap[A]? = some (.cells #[.string ⟨#[]⟩, .int .i64 (10 * x4), .int .i64 (25 * q5), .int .i64 (1 + x6), .int .i64 (18 * q7)] 60 (0, 0))) := (hb12.block A (blkLt X9.out)).trans X9.out
        clear hb12 H9 X9
        have z0 := blkCell X12.out 0 _ rfl
        have q0 := blkFree X12.out 0
        simp only [List.getElem_toArray, List.getElem_cons_zero] at z0
        have hG : Good (⟨#[49, 50, 51, 52]⟩ ++ decS rs.length) := good_A _ hr6
        clear hDg hm
        have X13 : Hid ((w12.setCell ⟨A, 0, none⟩ (.string (⟨#[49, 50, 51, 52]⟩ ++ decS rs.length))).heap[A]? = some (.cells #[.string (⟨#[49, 50, 51, 52]⟩ ++ decS rs.length), .int .i64 (10 * x4), .int .i64 (25 * q5), .int .i64 (1 + x6), .int .i64 (18 * q7)] 60 (0, 0))) := by
          have e := heap_setCell_same _ _ 0 _ _ (.string (⟨#[49, 50, 51, 52]⟩ ++ decS rs.length)) X12.out
          simp only [List.setIfInBounds_toArray, List.set_cons_zero] at e
          exact e
        have H13 : Hid (ItSo w b a len cap (.slice (some ⟨g, 0, none⟩) rs.length cp) rs a9 s9 (w12.setCell ⟨A, 0, none⟩ (.string (⟨#[49, 50, 51, 52]⟩ ++ decS rs.length)))) := H12.out.setA hbA hgA _ _
        go_upto_region 14 with fail
        clear z0 q0 H12 X12 hap
        generalize (w12.setCell ⟨A, 0, none⟩ (.string (⟨#[49, 50, 51, 52]⟩ ++ decS rs.length))) = w13 at *
        generalize (⟨#[49, 50, 51, 52]⟩ ++ decS rs.length) = cde at *
        have y0 := blkCell X13.out 0 _ rfl
        simp only [List.getElem_toArray, List.getElem_cons_zero] at y0
        have hRd : ReadsIt w13.heap.size w13 (some ⟨g, 0, none⟩) rs := .inr ⟨g, 0, rfl, (H13.out.1.lt g rfl).2, its_of_row H13.out.1⟩
        have hF := find8_any (some ⟨g, 0, none⟩) cp rs (by omega) cde w13 hRd
        clear hRd
        go_wp2_with fail
        (first | go_at_call 23 | skip)
        refine hF.mono ?_
        rintro e w14 ⟨rfl, rfl⟩
        clear hF y0
        rcases (by omega : itIx cde rs < 0 ∨ 0 ≤ itIx cde rs) with hix | hix
        · have HG' : Hid (ItsD (rs ++ [⟨cde, 10 * x4, 25 * q5, 1 + x6, 18 * q7⟩])) := HD.out.push hG (HNN.out cde) hix
          clear HNN
          generalize itIx cde rs = ix at *
          have hix' : decide (ix < 0) = true := decide_eq_true hix
          go_upto_region 15 with fail
          have y0 := blkCell X13.out 0 _ rfl
          have y1 := blkCell X13.out 1 _ rfl
          have y2 := blkCell X13.out 2 _ rfl
          have y3 := blkCell X13.out 3 _ rfl
          have y4 := blkCell X13.out 4 _ rfl
          simp only [List.getElem_toArray, List.getElem_cons_zero, List.getElem_cons_succ] at y0 y1 y2 y3 y4
          have HA : Hid (ItSo w b a len cap (.slice (some ⟨g, 0, none⟩) rs.length cp) rs a9 s9 (w14.alloc (Obj.cells #[.string cde, .int .i64 (10 * x4), .int .i64 (25 * q5), .int .i64 (1 + x6), .int .i64 (18 * q7)] 60))) := H13.out.alloc _
          have HN : Hid ((w14.alloc (Obj.cells #[.string cde, .int .i64 (10 * x4), .int .i64 (25 * q5), .int .i64 (1 + x6), .int .i64 (18 * q7)] 60)).heap[w14.heap.size]? = some (.cells #[.string cde, .int .i64 (10 * x4), .int .i64 (25 * q5), .int .i64 (1 + x6), .int .i64 (18 * q7)] 60 (0, 0))) := heapNew _ _
          have hzz := HA.out.2.1
          clear H13
          go_wp2_with (at_builtin; refine wpList_append_lies _ rfl _ _ 23 rfl (b + 1) 60 i0 (.agg #[.string ⟨#[]⟩, .int .i64 0, .int .i64 0, .int .i64 0, .int .i64 0]) 5 48 Tryz.underlying23 hi hi0 hi1 hi2 rfl (by decide) _ _ _ rfl HA.out.1 ⟨w14.heap.size, 0, none⟩ 1 1 [.string cde, .int .i64 (10 * x4), .int .i64 (25 * q5), .int .i64 (1 + x6), .int .i64 (18 * q7)] rfl rfl (World.news_of_block HN.out) (by simp [Value.oneCell']) (by omega) (by unfold maxLen; omega) (by omega) hzz _ rfl ?_; intro g1 cp1 wz hown1 hgrow1 hat1 hglt1; have HF : Hid (ItSo w b a len cap (.slice (some ⟨g1, 0, none⟩) (rs.length + 1) cp1) (rs ++ [⟨cde, (10 * x4), (25 * q5), (1 + x6), (18 * q7)⟩]) a9 s9 wz) := HA.out.push (r := ⟨cde, (10 * x4), (25 * q5), (1 + x6), (18 * q7)⟩) hown1 hgrow1; clear hown1 hgrow1 hat1 hglt1)
          exact ⟨⟨rs ++ [⟨cde, 10 * x4, 25 * q5, 1 + x6, 18 * q7⟩], k - 1, g1, cp1, a9, s9, by rw [List.length_append]; simp; omega, by rw [List.length_append]; simp; omega, by simp, by go_num, HG'.out, by omega, HF.out⟩, by simp [intOf]; omega⟩
        · have hne := (itIx_range cde rs).2
          generalize itIx cde rs = ix at *
          have hix' : decide (ix < 0) = false := decide_eq_false (by omega)
          go_wp2
          exact ⟨⟨rs, k - 1, g, cp, a9, s9, by omega, by omega, rfl, by go_num, HD.out, by omega, H13.out⟩, by simp [intOf]; omega⟩
      · have hw : IntKind.i64.wrap (100 + (rs.length : Int)) = 100 + (rs.length : Int) := wrap_id _ (by omega) (by omega)
        have hDg : ∀ W, Calls Tryz.prog 21 #[.int .i64 (100 + (rs.length : Int))] W fun e w' => e = .returned (.string (decS (100 + rs.length))) ∧ Below W.heap.size W w' := fun W => by have := digits_any (100 + rs.length) (by omega) W; push_cast at this; exact this
        have hap := fun w => run_string_add_sum (P := Tryz.prog) w ⟨#[52, 48, 48, 48, 48, 48, 48, 48, 48]⟩ (decS (100 + rs.length)) (by have h1 := decS_size (100 + rs.length); have h2 : (⟨#[52, 48, 48, 48, 48, 48, 48, 48, 48]⟩ : ByteArray).size = 9 := rfl; rw [h2]; omega)
        go_wp2_with fail
        (first | go_at_call 21 | skip)
        refine (hDg _).mono ?_
        rintro e w10 ⟨rfl, hb10⟩
        have H10 : Hid (ItSo w b a len cap (.slice (some ⟨g, 0, none⟩) rs.length cp) rs a9 s9 w10) := H9.out.later hb10
        have X10 : Hid (w10.heap[A]? = some (.cells #[.string ⟨#[]⟩, .int .i64 (10 * x4), .int .i64 (25 * q5), .int .i64 (1 + x6), .int .i64 (18 * q7)] 60 (0, 0))) := (hb10.block A (blkLt X9.out)).trans X9.out
        clear hb10 H9 X9
        go_upto_region 13 with fail
        clear hDg hw hap
        have hsz : (⟨#[52, 48, 48, 48, 48, 48, 48, 48, 48]⟩ ++ decS (100 + rs.length)).size ≤ 1000000 := by have := (digits_B rs.length hr6).2; unfold ctB at this; omega
        have hal : allD (⟨#[52, 48, 48, 48, 48, 48, 48, 48, 48]⟩ ++ decS (100 + rs.length)).data.toList = true := (digits_B rs.length hr6).1
        have hG : Good ((⟨#[52, 48, 48, 48, 48, 48, 48, 48, 48]⟩ ++ decS (100 + rs.length)) ++ decS (cd (⟨#[52, 48, 48, 48, 48, 48, 48, 48, 48]⟩ ++ decS (100 + rs.length)).data.toList).toNat) := good_B _ hr6
        generalize (⟨#[52, 48, 48, 48, 48, 48, 48, 48, 48]⟩ ++ decS (100 + rs.length)) = tx at *
        have hCk := fun W => l02Check_any tx hsz hal W
        have hcd := cd_in tx.data.toList
        have hDg2 : ∀ W, Calls Tryz.prog 21 #[.int .i64 (cd tx.data.toList)] W fun e w' => e = .returned (.string (decS (cd tx.data.toList).toNat)) ∧ Below W.heap.size W w' := fun W => by have := digits_any (cd tx.data.toList).toNat (by omega) W; rwa [Int.toNat_of_nonneg hcd.1] at this
        generalize cd tx.data.toList = cq at *
        have hap := fun w => run_string_add_sum (P := Tryz.prog) w tx (decS cq.toNat) (by have h1 := decS_size cq.toNat; omega)
        go_wp2_with fail
        (first | go_at_call 22 | skip)
        refine (hCk _).mono ?_
        rintro e w11 ⟨rfl, rfl⟩
        go_wp2_with fail
        (first | go_at_call 21 | skip)
        refine (hDg2 _).mono ?_
        rintro e w12 ⟨rfl, hb12⟩
        have H12 : Hid (ItSo w b a len cap (.slice (some ⟨g, 0, none⟩) rs.length cp) rs a9 s9 w12) := H10.out.later hb12
        have X12 : Hid (w12.heap[A]? = some (.cells #[.string ⟨#[]⟩, .int .i64 (10 * x4), .int .i64 (25 * q5), .int .i64 (1 + x6), .int .i64 (18 * q7)] 60 (0, 0))) := (hb12.block A (blkLt X10.out)).trans X10.out
        clear hb12 H10 X10
        have z0 := blkCell X12.out 0 _ rfl
        have q0 := blkFree X12.out 0
        simp only [List.getElem_toArray, List.getElem_cons_zero] at z0
        clear hDg2 hCk hsz hal
        have X13 : Hid ((w12.setCell ⟨A, 0, none⟩ (.string (tx ++ decS cq.toNat))).heap[A]? = some (.cells #[.string (tx ++ decS cq.toNat), .int .i64 (10 * x4), .int .i64 (25 * q5), .int .i64 (1 + x6), .int .i64 (18 * q7)] 60 (0, 0))) := by
          have e := heap_setCell_same _ _ 0 _ _ (.string (tx ++ decS cq.toNat)) X12.out
          simp only [List.setIfInBounds_toArray, List.set_cons_zero] at e
          exact e
        have H13 : Hid (ItSo w b a len cap (.slice (some ⟨g, 0, none⟩) rs.length cp) rs a9 s9 (w12.setCell ⟨A, 0, none⟩ (.string (tx ++ decS cq.toNat)))) := H12.out.setA hbA hgA _ _
        go_upto_region 14 with fail
        clear z0 q0 H12 X12 hap
        generalize (w12.setCell ⟨A, 0, none⟩ (.string (tx ++ decS cq.toNat))) = w13 at *
        generalize (tx ++ decS cq.toNat) = cde at *
        have y0 := blkCell X13.out 0 _ rfl
        simp only [List.getElem_toArray, List.getElem_cons_zero] at y0
        have hRd : ReadsIt w13.heap.size w13 (some ⟨g, 0, none⟩) rs := .inr ⟨g, 0, rfl, (H13.out.1.lt g rfl).2, its_of_row H13.out.1⟩
        have hF := find8_any (some ⟨g, 0, none⟩) cp rs (by omega) cde w13 hRd
        clear hRd
        go_wp2_with fail
        (first | go_at_call 23 | skip)
        refine hF.mono ?_
        rintro e w14 ⟨rfl, rfl⟩
        clear hF y0
        rcases (by omega : itIx cde rs < 0 ∨ 0 ≤ itIx cde rs) with hix | hix
        · have HG' : Hid (ItsD (rs ++ [⟨cde, 10 * x4, 25 * q5, 1 + x6, 18 * q7⟩])) := HD.out.push hG (HNN.out cde) hix
          clear HNN
          generalize itIx cde rs = ix at *
          have hix' : decide (ix < 0) = true := decide_eq_true hix
          go_upto_region 15 with fail
          have y0 := blkCell X13.out 0 _ rfl
          have y1 := blkCell X13.out 1 _ rfl
          have y2 := blkCell X13.out 2 _ rfl
          have y3 := blkCell X13.out 3 _ rfl
          have y4 := blkCell X13.out 4 _ rfl
          simp only [List.getElem_toArray, List.getElem_cons_zero, List.getElem_cons_succ] at y0 y1 y2 y3 y4
          have HA : Hid (ItSo w b a len cap (.slice (some ⟨g, 0, none⟩) rs.length cp) rs a9 s9 (w14.alloc (Obj.cells #[.string cde, .int .i64 (10 * x4), .int .i64 (25 * q5), .int .i64 (1 + x6), .int .i64 (18 * q7)] 60))) := H13.out.alloc _
          have HN : Hid ((w14.alloc (Obj.cells #[.string cde, .int .i64 (10 * x4), .int .i64 (25 * q5), .int .i64 (1 + x6), .int .i64 (18 * q7)] 60)).heap[w14.heap.size]? = some (.cells #[.string cde, .int .i64 (10 * x4), .int .i64 (25 * q5), .int .i64 (1 + x6), .int .i64 (18 * q7)] 60 (0, 0))) := heapNew _ _
          have hzz := HA.out.2.1
          clear H13
          go_wp2_with (at_builtin; refine wpList_append_lies _ rfl _ _ 23 rfl (b + 1) 60 i0 (.agg #[.string ⟨#[]⟩, .int .i64 0, .int .i64 0, .int .i64 0, .int .i64 0]) 5 48 Tryz.underlying23 hi hi0 hi1 hi2 rfl (by decide) _ _ _ rfl HA.out.1 ⟨w14.heap.size, 0, none⟩ 1 1 [.string cde, .int .i64 (10 * x4), .int .i64 (25 * q5), .int .i64 (1 + x6), .int .i64 (18 * q7)] rfl rfl (World.news_of_block HN.out) (by simp [Value.oneCell']) (by omega) (by unfold maxLen; omega) (by omega) hzz _ rfl ?_; intro g1 cp1 wz hown1 hgrow1 hat1 hglt1; have HF : Hid (ItSo w b a len cap (.slice (some ⟨g1, 0, none⟩) (rs.length + 1) cp1) (rs ++ [⟨cde, (10 * x4), (25 * q5), (1 + x6), (18 * q7)⟩]) a9 s9 wz) := HA.out.push (r := ⟨cde, (10 * x4), (25 * q5), (1 + x6), (18 * q7)⟩) hown1 hgrow1; clear hown1 hgrow1 hat1 hglt1)
          exact ⟨⟨rs ++ [⟨cde, 10 * x4, 25 * q5, 1 + x6, 18 * q7⟩], k - 1, g1, cp1, a9, s9, by rw [List.length_append]; simp; omega, by rw [List.length_append]; simp; omega, by simp, by go_num, HG'.out, by omega, HF.out⟩, by simp [intOf]; omega⟩
        · have hne := (itIx_range cde rs).2
          generalize itIx cde rs = ix at *
          have hix' : decide (ix < 0) = false := decide_eq_false (by omega)
          go_wp2
          exact ⟨⟨rs, k - 1, g, cp, a9, s9, by omega, by omega, rfl, by go_num, HD.out, by omega, H13.out⟩, by simp [intOf]; omega⟩
      · have hw : IntKind.i64.wrap (10 + (rs.length : Int)) = 10 + (rs.length : Int) := wrap_id _ (by omega) (by omega)
        have hDg : ∀ W, Calls Tryz.prog 21 #[.int .i64 (10 + (rs.length : Int))] W fun e w' => e = .returned (.string (decS (10 + rs.length))) ∧ Below W.heap.size W w' := fun W => by have := digits_any (10 + rs.length) (by omega) W; push_cast at this; exact this
        have hap := fun w => run_string_add_sum (P := Tryz.prog) w ⟨#[53, 53, 53, 53, 53]⟩ (decS (10 + rs.length)) (by have h1 := decS_size (10 + rs.length); have h2 : (⟨#[53, 53, 53, 53, 53]⟩ : ByteArray).size = 5 := rfl; rw [h2]; omega)
        go_wp2_with fail
        (first | go_at_call 21 | skip)
        refine (hDg _).mono ?_
        rintro e w10 ⟨rfl, hb10⟩
        have H10 : Hid (ItSo w b a len cap (.slice (some ⟨g, 0, none⟩) rs.length cp) rs a9 s9 w10) := H9.out.later hb10
        have X10 : Hid (w10.heap[A]? = some (.cells #[.string ⟨#[]⟩, .int .i64 (10 * x4), .int .i64 (25 * q5), .int .i64 (1 + x6), .int .i64 (18 * q7)] 60 (0, 0))) := (hb10.block A (blkLt X9.out)).trans X9.out
        clear hb10 H9 X9
        go_upto_region 8 with fail
        clear hDg hw hap
        have hsz : (⟨#[53, 53, 53, 53, 53]⟩ ++ decS (10 + rs.length)).size ≤ 1000000 := by have := (digits_C rs.length hr6).2; unfold ctC at this; omega
        have hal : allD (⟨#[53, 53, 53, 53, 53]⟩ ++ decS (10 + rs.length)).data.toList = true := (digits_C rs.length hr6).1
        have hG : Good ((⟨#[53, 53, 53, 53, 53]⟩ ++ decS (10 + rs.length)) ++ decS (cd (⟨#[53, 53, 53, 53, 53]⟩ ++ decS (10 + rs.length)).data.toList).toNat) := good_C _ hr6
        generalize (⟨#[53, 53, 53, 53, 53]⟩ ++ decS (10 + rs.length)) = tx at *
        have hCk := fun W => l02Check_any tx hsz hal W
        have hcd := cd_in tx.data.toList
        have hDg2 : ∀ W, Calls Tryz.prog 21 #[.int .i64 (cd tx.data.toList)] W fun e w' => e = .returned (.string (decS (cd tx.data.toList).toNat)) ∧ Below W.heap.size W w' := fun W => by have := digits_any (cd tx.data.toList).toNat (by omega) W; rwa [Int.toNat_of_nonneg hcd.1] at this
        generalize cd tx.data.toList = cq at *
        have hap := fun w => run_string_add_sum (P := Tryz.prog) w tx (decS cq.toNat) (by have h1 := decS_size cq.toNat; omega)
        go_wp2_with fail
        (first | go_at_call 22 | skip)
        refine (hCk _).mono ?_
        rintro e w11 ⟨rfl, rfl⟩
        go_wp2_with fail
        (first | go_at_call 21 | skip)
        refine (hDg2 _).mono ?_
        rintro e w12 ⟨rfl, hb12⟩
        have H12 : Hid (ItSo w b a len cap (.slice (some ⟨g, 0, none⟩) rs.length cp) rs a9 s9 w12) := H10.out.later hb12
        have X12 : Hid (w12.heap[A]? = some (.cells #[.string ⟨#[]⟩, .int .i64 (10 * x4), .int .i64 (25 * q5), .int .i64 (1 + x6), .int .i64 (18 * q7)] 60 (0, 0))) := (hb12.block A (blkLt X10.out)).trans X10.out
        clear hb12 H10 X10
        have z0 := blkCell X12.out 0 _ rfl
        have q0 := blkFree X12.out 0
        simp only [List.getElem_toArray, List.getElem_cons_zero] at z0
        clear hDg2 hCk hsz hal
        have X13 : Hid ((w12.setCell ⟨A, 0, none⟩ (.string (tx ++ decS cq.toNat))).heap[A]? = some (.cells #[.string (tx ++ decS cq.toNat), .int .i64 (10 * x4), .int .i64 (25 * q5), .int .i64 (1 + x6), .int .i64 (18 * q7)] 60 (0, 0))) := by
          have e := heap_setCell_same _ _ 0 _ _ (.string (tx ++ decS cq.toNat)) X12.out
          simp only [List.setIfInBounds_toArray, List.set_cons_zero] at e
          exact e
        have H13 : Hid (ItSo w b a len cap (.slice (some ⟨g, 0, none⟩) rs.length cp) rs a9 s9 (w12.setCell ⟨A, 0, none⟩ (.string (tx ++ decS cq.toNat)))) := H12.out.setA hbA hgA _ _
        go_upto_region 14 with fail
        clear z0 q0 H12 X12 hap
        generalize (w12.setCell ⟨A, 0, none⟩ (.string (tx ++ decS cq.toNat))) = w13 at *
        generalize (tx ++ decS cq.toNat) = cde at *
        have y0 := blkCell X13.out 0 _ rfl
        simp only [List.getElem_toArray, List.getElem_cons_zero] at y0
        have hRd : ReadsIt w13.heap.size w13 (some ⟨g, 0, none⟩) rs := .inr ⟨g, 0, rfl, (H13.out.1.lt g rfl).2, its_of_row H13.out.1⟩
        have hF := find8_any (some ⟨g, 0, none⟩) cp rs (by omega) cde w13 hRd
        clear hRd
        go_wp2_with fail
        (first | go_at_call 23 | skip)
        refine hF.mono ?_
        rintro e w14 ⟨rfl, rfl⟩
        clear hF y0
        rcases (by omega : itIx cde rs < 0 ∨ 0 ≤ itIx cde rs) with hix | hix
        · have HG' : Hid (ItsD (rs ++ [⟨cde, 10 * x4, 25 * q5, 1 + x6, 18 * q7⟩])) := HD.out.push hG (HNN.out cde) hix
          clear HNN
          generalize itIx cde rs = ix at *
          have hix' : decide (ix < 0) = true := decide_eq_true hix
          go_upto_region 15 with fail
          have y0 := blkCell X13.out 0 _ rfl
          have y1 := blkCell X13.out 1 _ rfl
          have y2 := blkCell X13.out 2 _ rfl
          have y3 := blkCell X13.out 3 _ rfl
          have y4 := blkCell X13.out 4 _ rfl
          simp only [List.getElem_toArray, List.getElem_cons_zero, List.getElem_cons_succ] at y0 y1 y2 y3 y4
          have HA : Hid (ItSo w b a len cap (.slice (some ⟨g, 0, none⟩) rs.length cp) rs a9 s9 (w14.alloc (Obj.cells #[.string cde, .int .i64 (10 * x4), .int .i64 (25 * q5), .int .i64 (1 + x6), .int .i64 (18 * q7)] 60))) := H13.out.alloc _
          have HN : Hid ((w14.alloc (Obj.cells #[.string cde, .int .i64 (10 * x4), .int .i64 (25 * q5), .int .i64 (1 + x6), .int .i64 (18 * q7)] 60)).heap[w14.heap.size]? = some (.cells #[.string cde, .int .i64 (10 * x4), .int .i64 (25 * q5), .int .i64 (1 + x6), .int .i64 (18 * q7)] 60 (0, 0))) := heapNew _ _
          have hzz := HA.out.2.1
          clear H13
          go_wp2_with (at_builtin; refine wpList_append_lies _ rfl _ _ 23 rfl (b + 1) 60 i0 (.agg #[.string ⟨#[]⟩, .int .i64 0, .int .i64 0, .int .i64 0, .int .i64 0]) 5 48 Tryz.underlying23 hi hi0 hi1 hi2 rfl (by decide) _ _ _ rfl HA.out.1 ⟨w14.heap.size, 0, none⟩ 1 1 [.string cde, .int .i64 (10 * x4), .int .i64 (25 * q5), .int .i64 (1 + x6), .int .i64 (18 * q7)] rfl rfl (World.news_of_block HN.out) (by simp [Value.oneCell']) (by omega) (by unfold maxLen; omega) (by omega) hzz _ rfl ?_; intro g1 cp1 wz hown1 hgrow1 hat1 hglt1; have HF : Hid (ItSo w b a len cap (.slice (some ⟨g1, 0, none⟩) (rs.length + 1) cp1) (rs ++ [⟨cde, (10 * x4), (25 * q5), (1 + x6), (18 * q7)⟩]) a9 s9 wz) := HA.out.push (r := ⟨cde, (10 * x4), (25 * q5), (1 + x6), (18 * q7)⟩) hown1 hgrow1; clear hown1 hgrow1 hat1 hglt1)
          exact ⟨⟨rs ++ [⟨cde, 10 * x4, 25 * q5, 1 + x6, 18 * q7⟩], k - 1, g1, cp1, a9, s9, by rw [List.length_append]; simp; omega, by rw [List.length_append]; simp; omega, by simp, by go_num, HG'.out, by omega, HF.out⟩, by simp [intOf]; omega⟩
        · have hne := (itIx_range cde rs).2
          generalize itIx cde rs = ix at *
          have hix' : decide (ix < 0) = false := decide_eq_false (by omega)
          go_wp2
          exact ⟨⟨rs, k - 1, g, cp, a9, s9, by omega, by omega, rfl, by go_num, HD.out, by omega, H13.out⟩, by simp [intOf]; omega⟩
    · obtain rfl : k = 0 := by omega
      go_wp2
      go_ret
      exact ⟨rs, g, cp, at', sd, rfl, ⟨by omega, by omega⟩, HD.out, by omega, HS.out⟩
end Go.Proofs.YtabpkfhbnendjaaGreat
