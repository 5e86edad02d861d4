/-
  Texts of this claim laid together: DrawDlW.
-/
import Derived.Test.YtkfmifbffgbiiaaM14
import Derived.Test.YtkfmifbffgbiiaaM15
import Derived.Laws.OwnMore
/-
  The specification's drawn deals: whatever the code, they are right.
-/
namespace Go.Proofs.Ytkfmifbffgbiiaa
open Go.ChangeShapes Go.WideShapes Go.ChangeAt Go.RowKit Go.Deep
set_option linter.unusedVariables false
theorem dlInfoD : (Try.prog.info? 39).map (fun i => (i.zero, i.size, i.bytes)) = some (some (.agg #[.string ⟨#[]⟩, .int .i64 0, .slice none 0 0, .int .i64 0, .int .i64 0, .bool false]), 6, 72) := by kernel_rfl

theorem chance_any (B b : Nat) (a : Option Addr) (len cap : Nat) (zs : List Int) (n at' seed : Int) (w : World) (hB : B ≤ b) (hs : Src w b a len cap at' seed) (hr : RowB B w a len zs) (a1 : at' ≤ 1000000) (hn : 1 ≤ n) (hn' : n ≤ 256) :
    Calls Try.prog 25 #[.pointer (some ⟨b, 0, none⟩), .int .i64 n] w fun e w' => ∃ (x : Bool) (at2 s' : Int), e = .returned (.bool x) ∧ at' ≤ at2 ∧ at2 ≤ at' + 3 ∧ Src w' b a len cap at2 s' ∧ Below B w w' ∧ Apt b w w' := by
  have hnx := next_anyA B b a len cap zs n at' seed w hB hs hr (by omega) hn'
  go_enter Try.func25, Try.ntmps25
  go_wp2_with (go_at_call 21; refine hnx.mono ?_; rintro e w1 ⟨x, a2, s2, rfl, hx, h1, h2, h3, h4, h5⟩)
  go_ret
  exact ⟨_, a2, s2, rfl, h1, h2, h3, h4, h5⟩

theorem le_alloc {W : World} {B : Nat} (h : B ≤ W.heap.size) (o : Obj) : B ≤ (W.alloc o).heap.size := by simp; omega
theorem newsZ (W : World) (B : Nat) (hz : W.heap.size = B) (cs : Array Value) (t : TypeId) : ∀ j u, cs.toList[j]? = some u → (W.alloc (Obj.cells cs t)).cell? ((⟨B, 0, none⟩ : Addr).add j) = some u := by
  subst hz
  exact World.news_of_block (heapNew W (Obj.cells cs t))
theorem dr_push {ds : List CDl} {r : CDl} (h : ∀ i, i < ds.length → DrD i (ds.getD i zDl)) (hr : DrD ds.length r) : ∀ i, i < (ds ++ [r]).length → DrD i ((ds ++ [r]).getD i zDl) := fun i hi => by
  rw [List.length_append] at hi
  by_cases e : i = ds.length
  · subst e
    rw [show (ds ++ [r]).getD ds.length zDl = r by simp]
    exact hr
  · have hi' : i < ds.length := by simp at hi; omega
    rw [show (ds ++ [r]).getD i zDl = ds.getD i zDl by simp only [List.getD_eq_getElem?_getD]; rw [List.getElem?_append_left hi']]
    exact h i hi'
def DdPost (a : Option Addr) (len cap : Nat) (b : Nat) (at0 : Int) (w : World) (e : Ending) (w' : World) : Prop := ∃ (ds : List CDl) (C : List Value) (g cp : Nat) (at' sd : Int), e = .returned (.slice (some ⟨g, 0, none⟩) ds.length cp) ∧ ds.length ≤ 5 ∧ at' ≤ at0 + 150 ∧ (∀ i, i < ds.length → DrD i (ds.getD i zDl)) ∧ DdSt w b a len cap (.slice (some ⟨g, 0, none⟩) ds.length cp) ds C at' sd w'
set_option maxHeartbeats 8000000 in
set_option maxRecDepth 8000 in
theorem deals_any (b : Nat) (a : Option Addr) (len cap : Nat) (zs : List Int) (at0 seed : Int) (w : World) (hs : Src w b a len cap at0 seed) (hr : RowB b w a len zs) (h0 : at0 ≤ 1000) :
    Calls Try.prog 10 #[.pointer (some ⟨b, 0, none⟩)] w (DdPost a len cap b at0 w) := by
  have hlen : len ≤ maxLen := hr.1
  have HR : Hid (RowB b w a len zs) := hr
  have HNx : Hid (∀ (n at' sd : Int) (W : World), n ≤ 256 → at' ≤ 999999999000 → Src W b a len cap at' sd → Below b w W → Calls Try.prog 21 #[.pointer (some ⟨b, 0, none⟩), .int .i64 n] W fun e w' => ∃ x at2 s' : Int, e = .returned (.int .i64 x) ∧ Drawn x n ∧ at' ≤ at2 ∧ at2 ≤ at' + 3 ∧ Src w' b a len cap at2 s' ∧ Below b W w' ∧ Apt b W w') := fun n at' sd W hn ha hS hB => next_anyA b b a len cap zs n at' sd W (Nat.le_refl _) hS (HR.out.below hB) ha hn
  have HAr : Hid (∀ (at' sd : Int) (W : World), at' ≤ 999999999000 → Src W b a len cap at' sd → Below b w W → Calls Try.prog 23 #[.pointer (some ⟨b, 0, none⟩)] W fun e w' => ∃ (j : Nat) (at2 s' : Int), j < 3 ∧ e = .returned (.string (arts.getD j ⟨#[]⟩)) ∧ at' ≤ at2 ∧ at2 ≤ at' + 3 ∧ Src w' b a len cap at2 s' ∧ Below b W w' ∧ Apart b W w') := fun at' sd W ha hS hB => article_any b b a len cap zs at' sd W (Nat.le_refl _) hS (HR.out.below hB) ha
  have HCh : Hid (∀ (n at' sd : Int) (W : World), 1 ≤ n → n ≤ 256 → at' ≤ 1000000 → Src W b a len cap at' sd → Below b w W → Calls Try.prog 25 #[.pointer (some ⟨b, 0, none⟩), .int .i64 n] W fun e w' => ∃ (x : Bool) (at2 s' : Int), e = .returned (.bool x) ∧ at' ≤ at2 ∧ at2 ≤ at' + 3 ∧ Src w' b a len cap at2 s' ∧ Below b W w' ∧ Apt b W w') := fun n at' sd W hn hn' ha hS hB => chance_any b b a len cap zs n at' sd W (Nat.le_refl _) hS (HR.out.below hB) ha hn hn'
  have HT0 : Hid (DdSt w b a len cap (.slice (some ⟨w.heap.size, 0, none⟩) 0 0) [] [] at0 seed (w.alloc (Obj.cells #[] 39))) := DdSt.start hs
  have HSz : Hid (Calls Try.prog 22 #[.pointer (some ⟨b, 0, none⟩), .int .i64 4] (w.alloc (Obj.cells #[] 39)) fun e w' => (∃ x : Int, e = .returned (.int .i64 x) ∧ 1 ≤ x ∧ x ≤ 4) ∧ w' = w.alloc (Obj.cells #[] 39)) := size_src b a len cap 4 at0 seed _ HT0.out.src hlen (by omega) (by omega)
  obtain ⟨i0, hti, hzz⟩ := Option.map_eq_some_iff.1 dlInfoD
  simp only [Prod.mk.injEq] at hzz
  obtain ⟨hi0, hi1, hi2⟩ := hzz
  obtain ⟨sti, hsi, hzs⟩ := Option.map_eq_some_iff.1 strInfo
  simp only [Prod.mk.injEq] at hzs
  obtain ⟨hs0', hs1', hs2'⟩ := hzs
  clear hs hr
  go_enter Try.func10, Try.ntmps10
  go_wp2_with fail
  (first | go_at_call 22 | skip)
  refine HSz.out.mono ?_
  rintro e w0 ⟨⟨y, rfl, y1, y2⟩, hw0⟩
  rw [hw0]
  clear hw0 w0
  go_wp2_with fail
  (first | go_at_call 21 | skip)
  refine (HNx.out _ _ _ _ (by omega) (by omega) HT0.out.src HT0.out.low).mono ?_
  rintro e w0 ⟨x0, a0, s0, rfl, hx0, ql0, qu0, hs0, hb0, ha0⟩
  have HT1 : Hid (DdSt w b a len cap (.slice (some ⟨w.heap.size, 0, none⟩) 0 0) [] [] a0 s0 w0) := HT0.out.step (ha0.apart hb0) hb0 hs0
  have hx00 : 0 ≤ x0 := hx0.1
  have hx01 : x0 ≤ 5 := by rcases hx0.2 with h | h <;> omega
  clear hs0 hb0 ha0 hx0 HT0 HSz
  go_wp2_with fail
  go_loopw [3, 4, 5, 6] (fun v c _ _ wr => ∃ (ds : List CDl) (C : List Value) (g cp : Nat) (i at' sd : Int), v = .slice (some ⟨g, 0, none⟩) ds.length cp ∧ c = .int .i64 i ∧ 0 ≤ i ∧ (ds.length : Int) + i ≤ 5 ∧ at' + 24 * i ≤ at0 + 150 ∧ (∀ i, i < ds.length → DrD i (ds.getD i zDl)) ∧ DdSt w b a len cap (.slice (some ⟨g, 0, none⟩) ds.length cp) ds C at' sd wr) (fun _ c _ _ _ => (intOf c).toNat)
  case atStart => exact ⟨[], [], w.heap.size, 0, x0, a0, s0, rfl, rfl, by omega, by simp; omega, by omega, by simp, HT1.out⟩
  case round =>
    clear HT1
    obtain ⟨ds, C, g, cp, i, at', sd, rfl, rfl, hi, hil, hat, hdr, hT⟩ := hrel
    have HT : Hid (DdSt w b a len cap (.slice (some ⟨g, 0, none⟩) ds.length cp) ds C at' sd wr) := hT
    have HG : Hid (∀ i, i < ds.length → DrD i (ds.getD i zDl)) := hdr
    clear hT hdr
    by_cases hz : i = 0
    · subst hz
      go_wp2
      go_ret
      exact ⟨ds, C, g, cp, at', sd, rfl, by omega, by omega, HG.out, HT.out⟩
    · have hpos : 1 ≤ i := by omega
      clear hz
      go_wp2_with fail
      (first | go_at_call 24 | skip)
      refine (digits_any ds.length (by omega) wr).mono ?_
      rintro e w1 ⟨rfl, hb1⟩
      have HT1 : Hid (DdSt w b a len cap (.slice (some ⟨g, 0, none⟩) ds.length cp) ds C at' sd w1) := HT.out.later hb1
      clear hb1 HT
      have hz : (decS ds.length).size ≤ 10 := by have := decS_size ds.length; omega
      go_wp2_with fail
      (first | go_at_call 21 | skip)
      refine (HNx.out 4 at' sd w1 (by omega) (by omega) HT1.out.src HT1.out.low).mono ?_
      rintro e w2 ⟨x2, a2, s2, rfl, hx2, ql2, qu2, hs2, hb2, ha2⟩
      have HT2 : Hid (DdSt w b a len cap (.slice (some ⟨g, 0, none⟩) ds.length cp) ds C a2 s2 w2) := HT1.out.step (ha2.apart hb2) hb2 hs2
      have d2 : 0 ≤ x2 ∧ x2 ≤ 3 := ⟨hx2.1, by rcases hx2.2 with h | h <;> omega⟩
      obtain ⟨d20, d21⟩ := d2
      obtain ⟨kd, hkd⟩ : ∃ kd, kd = 1 + x2 := ⟨_, rfl⟩
      have hk1 : 1 ≤ kd := by omega
      have hk4 : kd ≤ 4 := by omega
      have hwk : wrap64 (1 + x2) = kd := by unfold wrap64; omega
      have hwk' : IntKind.i64.wrap (1 + x2) = kd := by rw [hkd]; exact wrap_id _ (by omega) (by omega)
      clear hkd
      clear hs2 hb2 ha2 hx2 HT1
      go_wp2_with fail
      (first | go_at_call 21 | skip)
      refine (HNx.out 2 a2 s2 w2 (by omega) (by omega) HT2.out.src HT2.out.low).mono ?_
      rintro e w3 ⟨x3, a3, s3, rfl, hx3, ql3, qu3, hs3, hb3, ha3⟩
      have HT3 : Hid (DdSt w b a len cap (.slice (some ⟨g, 0, none⟩) ds.length cp) ds C a3 s3 w3) := HT2.out.step (ha3.apart hb3) hb3 hs3
      have d3 : 0 ≤ x3 ∧ x3 ≤ 1 := ⟨hx3.1, by rcases hx3.2 with h | h <;> omega⟩
      obtain ⟨d30, d31⟩ := d3
      obtain ⟨nd, hnd⟩ : ∃ nd, nd = 2 + x3 := ⟨_, rfl⟩
      have hn2 : 2 ≤ nd := by omega
      have hn3 : nd ≤ 3 := by omega
      have hwn : wrap64 (2 + x3) = nd := by unfold wrap64; omega
      have hwn' : IntKind.i64.wrap (2 + x3) = nd := by rw [hnd]; exact wrap_id _ (by omega) (by omega)
      clear hnd
      clear hs3 hb3 ha3 hx3 HT2
      go_wp2_with fail
      (first | go_at_call 21 | skip)
      refine (HNx.out 8 a3 s3 w3 (by omega) (by omega) HT3.out.src HT3.out.low).mono ?_
      rintro e w4 ⟨x4, a4, s4, rfl, hx4, ql4, qu4, hs4, hb4, ha4⟩
      have HT4 : Hid (DdSt w b a len cap (.slice (some ⟨g, 0, none⟩) ds.length cp) ds C a4 s4 w4) := HT3.out.step (ha4.apart hb4) hb4 hs4
      have d4 : 0 ≤ x4 ∧ x4 ≤ 7 := ⟨hx4.1, by rcases hx4.2 with h | h <;> omega⟩
      obtain ⟨d40, d41⟩ := d4
      obtain ⟨vl, hvl⟩ : ∃ vl, vl = 50 * x4 := ⟨_, rfl⟩
      have hv0 : 0 ≤ vl := by omega
      have hv4 : vl ≤ 350 := by omega
      have hwv : wrap64 (50 * x4) = vl := by unfold wrap64; omega
      have hwv' : IntKind.i64.wrap (50 * x4) = vl := by rw [hvl]; exact wrap_id _ (by omega) (by omega)
      clear hvl
      clear hs4 hb4 ha4 hx4 HT3
      go_wp2_with fail
      (first | go_at_call 25 | skip)
      refine (HCh.out 3 a4 s4 w4 (by omega) (by omega) (by omega) HT4.out.src HT4.out.low).mono ?_
      rintro e w5 ⟨on, a5, s5, rfl, ql5, qu5, hs5, hb5, ha5⟩
      have HT5 : Hid (DdSt w b a len cap (.slice (some ⟨g, 0, none⟩) ds.length cp) ds C a5 s5 w5) := HT4.out.step (ha5.apart hb5) hb5 hs5
      clear hs5 hb5 ha5 HT4
      go_wp2_with fail
      (first | go_at_call 23 | skip)
      refine (HAr.out a5 s5 w5 (by omega) HT5.out.src HT5.out.low).mono ?_
      rintro e w6 ⟨ja, a6, s6, hja, he6, ql6, qu6, hs6, hb6, ha6⟩
      obtain ⟨qa, hqa⟩ : ∃ q, q = arts.getD ja ⟨#[]⟩ := ⟨_, rfl⟩
      rw [← hqa] at he6
      subst he6
      have HQa : Hid (qa = arts.getD ja ⟨#[]⟩) := hqa
      have HT6 : Hid (DdSt w b a len cap (.slice (some ⟨g, 0, none⟩) ds.length cp) ds C a6 s6 w6) := HT5.out.step ha6 hb6 hs6
      have HNo : Hid (NoA ds C w6.heap.size) := HT6.out.noA
      clear hs6 hb6 ha6 HT5 hqa
      obtain ⟨W7, hW7⟩ : ∃ W7, W7 = (w6.alloc (Obj.cells #[.string qa] 9)).alloc (Obj.cells #[.string (⟨#[100, 101, 97, 108]⟩ ++ decS ds.length), .int .i64 kd, .slice (some ⟨w6.heap.size, 0, none⟩) 1 1, .int .i64 nd, .int .i64 vl, .bool on] 39) := ⟨_, rfl⟩
      have HW7 : Hid (W7 = (w6.alloc (Obj.cells #[.string qa] 9)).alloc (Obj.cells #[.string (⟨#[100, 101, 97, 108]⟩ ++ decS ds.length), .int .i64 kd, .slice (some ⟨w6.heap.size, 0, none⟩) 1 1, .int .i64 nd, .int .i64 vl, .bool on] 39)) := hW7
      have H7 : Hid (DdB w b a len cap g cp ds C a6 s6 (w6.heap.size + 1) w6.heap.size 1 ⟨⟨#[100, 101, 97, 108]⟩ ++ decS ds.length, kd, [qa], nd, vl, on⟩ W7) := DdB.new HT6.out _ qa kd nd vl on W7 hW7
      clear hW7 HT6
      go_wp2_with fail
      (first | go_at_call 23 | skip)
      rw [← HW7.out]
      refine (HAr.out a6 s6 W7 (by omega) H7.out.st.src H7.out.st.low).mono ?_
      rintro e w7 ⟨jb, a7, s7, hjb, he7, ql7, qu7, hs7, hb7, ha7⟩
      obtain ⟨qb, hqb⟩ : ∃ q, q = arts.getD jb ⟨#[]⟩ := ⟨_, rfl⟩
      rw [← hqb] at he7
      subst he7
      have HQb : Hid (qb = arts.getD jb ⟨#[]⟩) := hqb
      have HB7 : Hid (DdB w b a len cap g cp ds C a7 s7 (w6.heap.size + 1) w6.heap.size 1 ⟨⟨#[100, 101, 97, 108]⟩ ++ decS ds.length, kd, [qa], nd, vl, on⟩ w7) := H7.out.step ha7 hb7 hs7
      clear hs7 hb7 ha7 H7 HW7 hqb
      generalize hbb : w6.heap.size + 1 = bb at *
      generalize hag : w6.heap.size = ag at *
      clear hbb hag
      have c0 := blkCell HB7.out.box 0 _ rfl
      have c1 := blkCell HB7.out.box 1 _ rfl
      have c2 := blkCell HB7.out.box 2 _ rfl
      have c3 := blkCell HB7.out.box 3 _ rfl
      have c4 := blkCell HB7.out.box 4 _ rfl
      have c5 := blkCell HB7.out.box 5 _ rfl
      have f2 := blkFree HB7.out.box 2
      dsimp only [List.length_cons, List.length_nil] at c0 c1 c2 c3 c4 c5
      have z0 := HB7.out.arts.cellAt 0 (by simp)
      simp only [List.map_cons, List.map_nil, List.getElem?_cons_zero] at z0
      rcases Bool.eq_false_or_eq_true (qb.toList == qa.toList) with hbq | hbq
      · have HL : Hid (DrA [qa]) := .inl ⟨ja, hja, by rw [HQa.out]⟩
        clear HQa HQb HNo
        by_cases h1 : kd = 1
        · skip
          subst h1
          have c0 := blkCell HB7.out.box 0 _ rfl
          have c1 := blkCell HB7.out.box 1 _ rfl
          have c2 := blkCell HB7.out.box 2 _ rfl
          have c3 := blkCell HB7.out.box 3 _ rfl
          have c4 := blkCell HB7.out.box 4 _ rfl
          have c5 := blkCell HB7.out.box 5 _ rfl
          have f3 := blkFree HB7.out.box 3
          have f4 := blkFree HB7.out.box 4
          dsimp only [List.length_cons, List.length_nil] at c0 c1 c2 c3 c4 c5
          have HS3 : Hid (DdB w b a len cap g cp ds C a7 s7 bb ag 1 ⟨((⟨#[100, 101, 97, 108]⟩ : ByteArray) ++ decS ds.length), 1, [qa], 1, vl, on⟩ (w7.setCell ⟨bb, 3, none⟩ (.int .i64 1))) := HB7.out.set3 1
          go_wp2_with fail
          (first | go_at_call 21 | skip)
          refine (HNx.out 12 a7 s7 _ (by omega) (by omega) HS3.out.st.src HS3.out.st.low).mono ?_
          rintro e w18 ⟨x8, a8, s8, rfl, hx8, ql8, qu8, hs8, hb8, ha8⟩
          have H8 : Hid (DdB w b a len cap g cp ds C a8 s8 bb ag 1 ⟨((⟨#[100, 101, 97, 108]⟩ : ByteArray) ++ decS ds.length), 1, [qa], 1, vl, on⟩ w18) := HS3.out.step (ha8.apart hb8) hb8 hs8
          have d8 : 0 ≤ x8 ∧ x8 ≤ 11 := ⟨hx8.1, by rcases hx8.2 with h | h <;> omega⟩
          obtain ⟨d80, d81⟩ := d8
          clear hs8 hb8 ha8 hx8 HS3 c0 c1 c2 c3 c4 c5 f3 f4
          have c0 := blkCell H8.out.box 0 _ rfl
          have c1 := blkCell H8.out.box 1 _ rfl
          have c2 := blkCell H8.out.box 2 _ rfl
          have c3 := blkCell H8.out.box 3 _ rfl
          have c4 := blkCell H8.out.box 4 _ rfl
          have c5 := blkCell H8.out.box 5 _ rfl
          have f3 := blkFree H8.out.box 3
          have f4 := blkFree H8.out.box 4
          dsimp only [List.length_cons, List.length_nil] at c0 c1 c2 c3 c4 c5
          obtain ⟨v8, hv8⟩ : ∃ v, v = 5 * x8 := ⟨_, rfl⟩
          have hv80 : 0 ≤ v8 := by omega
          have hv81 : v8 ≤ 100 := by omega
          have hw8 : wrap64 (5 * x8) = v8 := by unfold wrap64; omega
          have hw8' : IntKind.i64.wrap (5 * x8) = v8 := by rw [hv8]; exact wrap_id _ (by omega) (by omega)
          clear hv8
          have hl18 : bb < w18.heap.size := blkLt H8.out.box
          have HS4 : Hid (DdB w b a len cap g cp ds C a8 s8 bb ag 1 ⟨((⟨#[100, 101, 97, 108]⟩ : ByteArray) ++ decS ds.length), 1, [qa], 1, v8, on⟩ (w18.setCell ⟨bb, 4, none⟩ (.int .i64 v8))) := H8.out.set4 v8
          have HR : Hid (((w18.setCell ⟨bb, 4, none⟩ (.int .i64 v8)).alloc (Obj.cells #[.string ((⟨#[100, 101, 97, 108]⟩ : ByteArray) ++ decS ds.length), .int .i64 1, .slice (some ⟨ag, 0, none⟩) 1 1, .int .i64 1, .int .i64 v8, .bool on] 39)).ownsRow (b + 1) 39 6 (.slice (some ⟨g, 0, none⟩) ds.length cp) ds.length C) := HS4.out.st.own.alloc _
          have HB9 : Hid (b + 1 ≤ ((w18.setCell ⟨bb, 4, none⟩ (.int .i64 v8)).alloc (Obj.cells #[.string ((⟨#[100, 101, 97, 108]⟩ : ByteArray) ++ decS ds.length), .int .i64 1, .slice (some ⟨ag, 0, none⟩) 1 1, .int .i64 1, .int .i64 v8, .bool on] 39)).heap.size) := le_alloc HS4.out.st.top _
          have HNw : Hid (∀ j u, [.string ((⟨#[100, 101, 97, 108]⟩ : ByteArray) ++ decS ds.length), .int .i64 1, .slice (some ⟨ag, 0, none⟩) 1 1, .int .i64 1, .int .i64 v8, .bool on][j]? = some u → ((w18.setCell ⟨bb, 4, none⟩ (.int .i64 v8)).alloc (Obj.cells #[.string ((⟨#[100, 101, 97, 108]⟩ : ByteArray) ++ decS ds.length), .int .i64 1, .slice (some ⟨ag, 0, none⟩) 1 1, .int .i64 1, .int .i64 v8, .bool on] 39)).cell? ((⟨w18.heap.size, 0, none⟩ : Addr).add j) = some u) := newsZ (w18.setCell ⟨bb, 4, none⟩ (.int .i64 v8)) w18.heap.size (by simp) #[.string ((⟨#[100, 101, 97, 108]⟩ : ByteArray) ++ decS ds.length), .int .i64 1, .slice (some ⟨ag, 0, none⟩) 1 1, .int .i64 1, .int .i64 v8, .bool on] _
          have c0 := blkCell HS4.out.box 0 _ rfl
          have c1 := blkCell HS4.out.box 1 _ rfl
          have c2 := blkCell HS4.out.box 2 _ rfl
          have c3 := blkCell HS4.out.box 3 _ rfl
          have c4 := blkCell HS4.out.box 4 _ rfl
          have c5 := blkCell HS4.out.box 5 _ rfl
          dsimp only [List.length_cons, List.length_nil] at c0 c1 c2 c3 c4 c5
          go_wp2_with (at_builtin; refine wpList_append_lies _ rfl _ _ 24 rfl (b + 1) 39 i0 (.agg #[.string ⟨#[]⟩, .int .i64 0, .slice none 0 0, .int .i64 0, .int .i64 0, .bool false]) 6 72 Try.underlying24 hti hi0 hi1 hi2 rfl (by decide) _ _ _ rfl HR.out ⟨w18.heap.size, 0, none⟩ 1 1 [.string ((⟨#[100, 101, 97, 108]⟩ : ByteArray) ++ decS ds.length), .int .i64 1, .slice (some ⟨ag, 0, none⟩) 1 1, .int .i64 1, .int .i64 v8, .bool on] rfl rfl HNw.out (by simp [Value.oneCell']) (by omega) (by unfold maxLen; omega) (by omega) HB9.out _ rfl ?_; intro g9 c9 w9 hown9 hgrow9 hat9 hglt9; have H9 : Hid (DdSt w b a len cap (.slice (some ⟨g9, 0, none⟩) (ds.length + 1) c9) (ds ++ [⟨((⟨#[100, 101, 97, 108]⟩ : ByteArray) ++ decS ds.length), 1, [qa], 1, v8, on⟩]) _ a8 s8 w9) := HS4.out.push hown9 hgrow9; clear hown9 hgrow9 hat9 hglt9)
          go_roundw
          case rel => exact ⟨ds ++ [⟨((⟨#[100, 101, 97, 108]⟩ : ByteArray) ++ decS ds.length), 1, [qa], 1, v8, on⟩], _, g9, c9, i - 1, a8, s8, by simp, by go_num, by omega, by simp; omega, by omega, dr_push HG.out (drD_of (by omega) HL.out (by omega)), by rw [List.length_append]; exact H9.out⟩
          case measure => simp [intOf]; omega
        · by_cases h3 : kd = 3
          · skip
            subst h3
            have c0 := blkCell HB7.out.box 0 _ rfl
            have c1 := blkCell HB7.out.box 1 _ rfl
            have c2 := blkCell HB7.out.box 2 _ rfl
            have c3 := blkCell HB7.out.box 3 _ rfl
            have c4 := blkCell HB7.out.box 4 _ rfl
            have c5 := blkCell HB7.out.box 5 _ rfl
            have f3 := blkFree HB7.out.box 3
            have f4 := blkFree HB7.out.box 4
            dsimp only [List.length_cons, List.length_nil] at c0 c1 c2 c3 c4 c5
            have hl18 : bb < w7.heap.size := by have := blkLt HB7.out.box; simpa using this
            have HS4 : Hid (DdB w b a len cap g cp ds C a7 s7 bb ag 1 ⟨((⟨#[100, 101, 97, 108]⟩ : ByteArray) ++ decS ds.length), 3, [qa], nd, 0, on⟩ (w7.setCell ⟨bb, 4, none⟩ (.int .i64 0))) := HB7.out.set4 0
            have HR : Hid (((w7.setCell ⟨bb, 4, none⟩ (.int .i64 0)).alloc (Obj.cells #[.string ((⟨#[100, 101, 97, 108]⟩ : ByteArray) ++ decS ds.length), .int .i64 3, .slice (some ⟨ag, 0, none⟩) 1 1, .int .i64 nd, .int .i64 0, .bool on] 39)).ownsRow (b + 1) 39 6 (.slice (some ⟨g, 0, none⟩) ds.length cp) ds.length C) := HS4.out.st.own.alloc _
            have HB9 : Hid (b + 1 ≤ ((w7.setCell ⟨bb, 4, none⟩ (.int .i64 0)).alloc (Obj.cells #[.string ((⟨#[100, 101, 97, 108]⟩ : ByteArray) ++ decS ds.length), .int .i64 3, .slice (some ⟨ag, 0, none⟩) 1 1, .int .i64 nd, .int .i64 0, .bool on] 39)).heap.size) := le_alloc HS4.out.st.top _
            have HNw : Hid (∀ j u, [.string ((⟨#[100, 101, 97, 108]⟩ : ByteArray) ++ decS ds.length), .int .i64 3, .slice (some ⟨ag, 0, none⟩) 1 1, .int .i64 nd, .int .i64 0, .bool on][j]? = some u → ((w7.setCell ⟨bb, 4, none⟩ (.int .i64 0)).alloc (Obj.cells #[.string ((⟨#[100, 101, 97, 108]⟩ : ByteArray) ++ decS ds.length), .int .i64 3, .slice (some ⟨ag, 0, none⟩) 1 1, .int .i64 nd, .int .i64 0, .bool on] 39)).cell? ((⟨w7.heap.size, 0, none⟩ : Addr).add j) = some u) := newsZ (w7.setCell ⟨bb, 4, none⟩ (.int .i64 0)) w7.heap.size (by simp) #[.string ((⟨#[100, 101, 97, 108]⟩ : ByteArray) ++ decS ds.length), .int .i64 3, .slice (some ⟨ag, 0, none⟩) 1 1, .int .i64 nd, .int .i64 0, .bool on] _
            have c0 := blkCell HS4.out.box 0 _ rfl
            have c1 := blkCell HS4.out.box 1 _ rfl
            have c2 := blkCell HS4.out.box 2 _ rfl
            have c3 := blkCell HS4.out.box 3 _ rfl
            have c4 := blkCell HS4.out.box 4 _ rfl
            have c5 := blkCell HS4.out.box 5 _ rfl
            dsimp only [List.length_cons, List.length_nil] at c0 c1 c2 c3 c4 c5
            go_wp2_with (at_builtin; refine wpList_append_lies _ rfl _ _ 24 rfl (b + 1) 39 i0 (.agg #[.string ⟨#[]⟩, .int .i64 0, .slice none 0 0, .int .i64 0, .int .i64 0, .bool false]) 6 72 Try.underlying24 hti hi0 hi1 hi2 rfl (by decide) _ _ _ rfl HR.out ⟨w7.heap.size, 0, none⟩ 1 1 [.string ((⟨#[100, 101, 97, 108]⟩ : ByteArray) ++ decS ds.length), .int .i64 3, .slice (some ⟨ag, 0, none⟩) 1 1, .int .i64 nd, .int .i64 0, .bool on] rfl rfl HNw.out (by simp [Value.oneCell']) (by omega) (by unfold maxLen; omega) (by omega) HB9.out _ rfl ?_; intro g9 c9 w9 hown9 hgrow9 hat9 hglt9; have H9 : Hid (DdSt w b a len cap (.slice (some ⟨g9, 0, none⟩) (ds.length + 1) c9) (ds ++ [⟨((⟨#[100, 101, 97, 108]⟩ : ByteArray) ++ decS ds.length), 3, [qa], nd, 0, on⟩]) _ a7 s7 w9) := HS4.out.push hown9 hgrow9; clear hown9 hgrow9 hat9 hglt9)
            go_roundw
            case rel => exact ⟨ds ++ [⟨((⟨#[100, 101, 97, 108]⟩ : ByteArray) ++ decS ds.length), 3, [qa], nd, 0, on⟩], _, g9, c9, i - 1, a7, s7, by simp, by go_num, by omega, by simp; omega, by omega, dr_push HG.out (drD_of (by omega) HL.out (by omega)), by rw [List.length_append]; exact H9.out⟩
            case measure => simp [intOf]; omega
          · skip
            have hb1 : (kd == 1) = false := by simpa using h1
            have hb3 : (kd == 3) = false := by simpa using h3
            have HR : Hid ((w7.alloc (Obj.cells #[.string ((⟨#[100, 101, 97, 108]⟩ : ByteArray) ++ decS ds.length), .int .i64 kd, .slice (some ⟨ag, 0, none⟩) 1 1, .int .i64 nd, .int .i64 vl, .bool on] 39)).ownsRow (b + 1) 39 6 (.slice (some ⟨g, 0, none⟩) ds.length cp) ds.length C) := HB7.out.st.own.alloc _
            have HB9 : Hid (b + 1 ≤ (w7.alloc (Obj.cells #[.string ((⟨#[100, 101, 97, 108]⟩ : ByteArray) ++ decS ds.length), .int .i64 kd, .slice (some ⟨ag, 0, none⟩) 1 1, .int .i64 nd, .int .i64 vl, .bool on] 39)).heap.size) := le_alloc HB7.out.st.top _
            have HNw : Hid (∀ j u, [.string ((⟨#[100, 101, 97, 108]⟩ : ByteArray) ++ decS ds.length), .int .i64 kd, .slice (some ⟨ag, 0, none⟩) 1 1, .int .i64 nd, .int .i64 vl, .bool on][j]? = some u → (w7.alloc (Obj.cells #[.string ((⟨#[100, 101, 97, 108]⟩ : ByteArray) ++ decS ds.length), .int .i64 kd, .slice (some ⟨ag, 0, none⟩) 1 1, .int .i64 nd, .int .i64 vl, .bool on] 39)).cell? ((⟨w7.heap.size, 0, none⟩ : Addr).add j) = some u) := newsZ w7 w7.heap.size (by simp) #[.string ((⟨#[100, 101, 97, 108]⟩ : ByteArray) ++ decS ds.length), .int .i64 kd, .slice (some ⟨ag, 0, none⟩) 1 1, .int .i64 nd, .int .i64 vl, .bool on] _
            have c0 := blkCell HB7.out.box 0 _ rfl
            have c1 := blkCell HB7.out.box 1 _ rfl
            have c2 := blkCell HB7.out.box 2 _ rfl
            have c3 := blkCell HB7.out.box 3 _ rfl
            have c4 := blkCell HB7.out.box 4 _ rfl
            have c5 := blkCell HB7.out.box 5 _ rfl
            dsimp only [List.length_cons, List.length_nil] at c0 c1 c2 c3 c4 c5
            go_wp2_with (at_builtin; refine wpList_append_lies _ rfl _ _ 24 rfl (b + 1) 39 i0 (.agg #[.string ⟨#[]⟩, .int .i64 0, .slice none 0 0, .int .i64 0, .int .i64 0, .bool false]) 6 72 Try.underlying24 hti hi0 hi1 hi2 rfl (by decide) _ _ _ rfl HR.out ⟨w7.heap.size, 0, none⟩ 1 1 [.string ((⟨#[100, 101, 97, 108]⟩ : ByteArray) ++ decS ds.length), .int .i64 kd, .slice (some ⟨ag, 0, none⟩) 1 1, .int .i64 nd, .int .i64 vl, .bool on] rfl rfl HNw.out (by simp [Value.oneCell']) (by omega) (by unfold maxLen; omega) (by omega) HB9.out _ rfl ?_; intro g9 c9 w9 hown9 hgrow9 hat9 hglt9; have H9 : Hid (DdSt w b a len cap (.slice (some ⟨g9, 0, none⟩) (ds.length + 1) c9) (ds ++ [⟨((⟨#[100, 101, 97, 108]⟩ : ByteArray) ++ decS ds.length), kd, [qa], nd, vl, on⟩]) _ a7 s7 w9) := HB7.out.push hown9 hgrow9; clear hown9 hgrow9 hat9 hglt9)
            go_roundw
            case rel => exact ⟨ds ++ [⟨((⟨#[100, 101, 97, 108]⟩ : ByteArray) ++ decS ds.length), kd, [qa], nd, vl, on⟩], _, g9, c9, i - 1, a7, s7, by simp, by go_num, by omega, by simp; omega, by omega, dr_push HG.out (drD_of (by omega) HL.out (by omega)), by rw [List.length_append]; exact H9.out⟩
            case measure => simp [intOf]; omega
      · have HL : Hid (DrA [qa, qb]) := .inr ⟨ja, jb, hja, hjb, by
          rw [← HQa.out, ← HQb.out]
          intro e
          rw [e] at hbq
          simp at hbq, by rw [HQa.out, HQb.out]⟩
        have HR2 : Hid ((w7.alloc (Obj.cells #[.string qb] 9)).ownsRow (b + 1) 9 1 (.slice (some ⟨ag, 0, none⟩) 1 1) 1 [.string qa]) := HB7.out.arts.alloc _
        have HB8 : Hid (b + 1 ≤ (w7.alloc (Obj.cells #[.string qb] 9)).heap.size) := le_alloc HB7.out.st.top _
        clear HQa HQb
        by_cases h1 : kd = 1
        · skip
          subst h1
          go_wp2_with (at_builtin; refine wpList_append_lies _ rfl _ _ 37 rfl (b + 1) 9 sti (.string ⟨#[]⟩) 1 16 Try.underlying37 hsi hs0' hs1' hs2' rfl (by decide) _ _ _ rfl HR2.out ⟨w7.heap.size, 0, none⟩ 1 1 [.string qb] rfl rfl (World.news_of_block (heapNew w7 (Obj.cells #[.string qb] 9))) (by simp [Value.oneCell']) (by omega) (by unfold maxLen; omega) (by omega) HB8.out _ rfl ?_; intro ag2 ac2 w8 hown8 hgrow8 hat8 hglt8; have hmo := HB7.out.more HNo.out hown8 hgrow8; have HD8 : Hid (DdB w b a len cap g cp ds C a7 s7 bb ag2 ac2 ⟨(⟨#[100, 101, 97, 108]⟩ : ByteArray) ++ decS ds.length, 1, [qa, qb], nd, vl, on⟩ (w8.setCell ⟨bb, 2, none⟩ (.slice (some ⟨ag2, 0, none⟩) 2 ac2))) := hmo.2; have g0 := blkCell hmo.1 0 _ rfl; have g1 := blkCell hmo.1 1 _ rfl; have g2 := blkCell hmo.1 2 _ rfl; have g3 := blkCell hmo.1 3 _ rfl; have g4 := blkCell hmo.1 4 _ rfl; have g5 := blkCell hmo.1 5 _ rfl; have k2 := blkFree hmo.1 2; have k3 := blkFree hmo.1 3; have k4 := blkFree hmo.1 4; have hl8 : bb < w8.heap.size := blkLt hmo.1; clear hmo hown8 hgrow8 hat8 hglt8 c0 c1 c2 c3 c4 c5 f2 z0)
          have c0 := blkCell HD8.out.box 0 _ rfl
          have c1 := blkCell HD8.out.box 1 _ rfl
          have c2 := blkCell HD8.out.box 2 _ rfl
          have c3 := blkCell HD8.out.box 3 _ rfl
          have c4 := blkCell HD8.out.box 4 _ rfl
          have c5 := blkCell HD8.out.box 5 _ rfl
          have f3 := blkFree HD8.out.box 3
          have f4 := blkFree HD8.out.box 4
          dsimp only [List.length_cons, List.length_nil] at c0 c1 c2 c3 c4 c5
          have HS3 : Hid (DdB w b a len cap g cp ds C a7 s7 bb ag2 ac2 ⟨((⟨#[100, 101, 97, 108]⟩ : ByteArray) ++ decS ds.length), 1, [qa, qb], 1, vl, on⟩ ((w8.setCell ⟨bb, 2, none⟩ (.slice (some ⟨ag2, 0, none⟩) 2 ac2)).setCell ⟨bb, 3, none⟩ (.int .i64 1))) := HD8.out.set3 1
          go_wp2_with fail
          (first | go_at_call 21 | skip)
          refine (HNx.out 12 a7 s7 _ (by omega) (by omega) HS3.out.st.src HS3.out.st.low).mono ?_
          rintro e w18 ⟨x8, a8, s8, rfl, hx8, ql8, qu8, hs8, hb8, ha8⟩
          have H8 : Hid (DdB w b a len cap g cp ds C a8 s8 bb ag2 ac2 ⟨((⟨#[100, 101, 97, 108]⟩ : ByteArray) ++ decS ds.length), 1, [qa, qb], 1, vl, on⟩ w18) := HS3.out.step (ha8.apart hb8) hb8 hs8
          have d8 : 0 ≤ x8 ∧ x8 ≤ 11 := ⟨hx8.1, by rcases hx8.2 with h | h <;> omega⟩
          obtain ⟨d80, d81⟩ := d8
          clear hs8 hb8 ha8 hx8 HS3 c0 c1 c2 c3 c4 c5 f3 f4
          have c0 := blkCell H8.out.box 0 _ rfl
          have c1 := blkCell H8.out.box 1 _ rfl
          have c2 := blkCell H8.out.box 2 _ rfl
          have c3 := blkCell H8.out.box 3 _ rfl
          have c4 := blkCell H8.out.box 4 _ rfl
          have c5 := blkCell H8.out.box 5 _ rfl
          have f3 := blkFree H8.out.box 3
          have f4 := blkFree H8.out.box 4
          dsimp only [List.length_cons, List.length_nil] at c0 c1 c2 c3 c4 c5
          obtain ⟨v8, hv8⟩ : ∃ v, v = 5 * x8 := ⟨_, rfl⟩
          have hv80 : 0 ≤ v8 := by omega
          have hv81 : v8 ≤ 100 := by omega
          have hw8 : wrap64 (5 * x8) = v8 := by unfold wrap64; omega
          have hw8' : IntKind.i64.wrap (5 * x8) = v8 := by rw [hv8]; exact wrap_id _ (by omega) (by omega)
          clear hv8
          have hl18 : bb < w18.heap.size := blkLt H8.out.box
          have HS4 : Hid (DdB w b a len cap g cp ds C a8 s8 bb ag2 ac2 ⟨((⟨#[100, 101, 97, 108]⟩ : ByteArray) ++ decS ds.length), 1, [qa, qb], 1, v8, on⟩ (w18.setCell ⟨bb, 4, none⟩ (.int .i64 v8))) := H8.out.set4 v8
          have HR : Hid (((w18.setCell ⟨bb, 4, none⟩ (.int .i64 v8)).alloc (Obj.cells #[.string ((⟨#[100, 101, 97, 108]⟩ : ByteArray) ++ decS ds.length), .int .i64 1, .slice (some ⟨ag2, 0, none⟩) 2 ac2, .int .i64 1, .int .i64 v8, .bool on] 39)).ownsRow (b + 1) 39 6 (.slice (some ⟨g, 0, none⟩) ds.length cp) ds.length C) := HS4.out.st.own.alloc _
          have HB9 : Hid (b + 1 ≤ ((w18.setCell ⟨bb, 4, none⟩ (.int .i64 v8)).alloc (Obj.cells #[.string ((⟨#[100, 101, 97, 108]⟩ : ByteArray) ++ decS ds.length), .int .i64 1, .slice (some ⟨ag2, 0, none⟩) 2 ac2, .int .i64 1, .int .i64 v8, .bool on] 39)).heap.size) := le_alloc HS4.out.st.top _
          have HNw : Hid (∀ j u, [.string ((⟨#[100, 101, 97, 108]⟩ : ByteArray) ++ decS ds.length), .int .i64 1, .slice (some ⟨ag2, 0, none⟩) 2 ac2, .int .i64 1, .int .i64 v8, .bool on][j]? = some u → ((w18.setCell ⟨bb, 4, none⟩ (.int .i64 v8)).alloc (Obj.cells #[.string ((⟨#[100, 101, 97, 108]⟩ : ByteArray) ++ decS ds.length), .int .i64 1, .slice (some ⟨ag2, 0, none⟩) 2 ac2, .int .i64 1, .int .i64 v8, .bool on] 39)).cell? ((⟨w18.heap.size, 0, none⟩ : Addr).add j) = some u) := newsZ (w18.setCell ⟨bb, 4, none⟩ (.int .i64 v8)) w18.heap.size (by simp) #[.string ((⟨#[100, 101, 97, 108]⟩ : ByteArray) ++ decS ds.length), .int .i64 1, .slice (some ⟨ag2, 0, none⟩) 2 ac2, .int .i64 1, .int .i64 v8, .bool on] _
          have c0 := blkCell HS4.out.box 0 _ rfl
          have c1 := blkCell HS4.out.box 1 _ rfl
          have c2 := blkCell HS4.out.box 2 _ rfl
          have c3 := blkCell HS4.out.box 3 _ rfl
          have c4 := blkCell HS4.out.box 4 _ rfl
          have c5 := blkCell HS4.out.box 5 _ rfl
          dsimp only [List.length_cons, List.length_nil] at c0 c1 c2 c3 c4 c5
          go_wp2_with (at_builtin; refine wpList_append_lies _ rfl _ _ 24 rfl (b + 1) 39 i0 (.agg #[.string ⟨#[]⟩, .int .i64 0, .slice none 0 0, .int .i64 0, .int .i64 0, .bool false]) 6 72 Try.underlying24 hti hi0 hi1 hi2 rfl (by decide) _ _ _ rfl HR.out ⟨w18.heap.size, 0, none⟩ 1 1 [.string ((⟨#[100, 101, 97, 108]⟩ : ByteArray) ++ decS ds.length), .int .i64 1, .slice (some ⟨ag2, 0, none⟩) 2 ac2, .int .i64 1, .int .i64 v8, .bool on] rfl rfl HNw.out (by simp [Value.oneCell']) (by omega) (by unfold maxLen; omega) (by omega) HB9.out _ rfl ?_; intro g9 c9 w9 hown9 hgrow9 hat9 hglt9; have H9 : Hid (DdSt w b a len cap (.slice (some ⟨g9, 0, none⟩) (ds.length + 1) c9) (ds ++ [⟨((⟨#[100, 101, 97, 108]⟩ : ByteArray) ++ decS ds.length), 1, [qa, qb], 1, v8, on⟩]) _ a8 s8 w9) := HS4.out.push hown9 hgrow9; clear hown9 hgrow9 hat9 hglt9)
          go_roundw
          case rel => exact ⟨ds ++ [⟨((⟨#[100, 101, 97, 108]⟩ : ByteArray) ++ decS ds.length), 1, [qa, qb], 1, v8, on⟩], _, g9, c9, i - 1, a8, s8, by simp, by go_num, by omega, by simp; omega, by omega, dr_push HG.out (drD_of (by omega) HL.out (by omega)), by rw [List.length_append]; exact H9.out⟩
          case measure => simp [intOf]; omega
        · by_cases h3 : kd = 3
          · skip
            subst h3
            go_upto_region 15 with (at_builtin; refine wpList_append_lies _ rfl _ _ 37 rfl (b + 1) 9 sti (.string ⟨#[]⟩) 1 16 Try.underlying37 hsi hs0' hs1' hs2' rfl (by decide) _ _ _ rfl HR2.out ⟨w7.heap.size, 0, none⟩ 1 1 [.string qb] rfl rfl (World.news_of_block (heapNew w7 (Obj.cells #[.string qb] 9))) (by simp [Value.oneCell']) (by omega) (by unfold maxLen; omega) (by omega) HB8.out _ rfl ?_; intro ag2 ac2 w8 hown8 hgrow8 hat8 hglt8; have hmo := HB7.out.more HNo.out hown8 hgrow8; have HD8 : Hid (DdB w b a len cap g cp ds C a7 s7 bb ag2 ac2 ⟨(⟨#[100, 101, 97, 108]⟩ : ByteArray) ++ decS ds.length, 3, [qa, qb], nd, vl, on⟩ (w8.setCell ⟨bb, 2, none⟩ (.slice (some ⟨ag2, 0, none⟩) 2 ac2))) := hmo.2; have g0 := blkCell hmo.1 0 _ rfl; have g1 := blkCell hmo.1 1 _ rfl; have g2 := blkCell hmo.1 2 _ rfl; have g3 := blkCell hmo.1 3 _ rfl; have g4 := blkCell hmo.1 4 _ rfl; have g5 := blkCell hmo.1 5 _ rfl; have k2 := blkFree hmo.1 2; have k3 := blkFree hmo.1 3; have k4 := blkFree hmo.1 4; have hl8 : bb < w8.heap.size := blkLt hmo.1; clear hmo hown8 hgrow8 hat8 hglt8 c0 c1 c2 c3 c4 c5 f2 z0)
            have c0 := blkCell HD8.out.box 0 _ rfl
            have c1 := blkCell HD8.out.box 1 _ rfl
            have c2 := blkCell HD8.out.box 2 _ rfl
            have c3 := blkCell HD8.out.box 3 _ rfl
            have c4 := blkCell HD8.out.box 4 _ rfl
            have c5 := blkCell HD8.out.box 5 _ rfl
            have f3 := blkFree HD8.out.box 3
            have f4 := blkFree HD8.out.box 4
            dsimp only [List.length_cons, List.length_nil] at c0 c1 c2 c3 c4 c5
            have hl18 : bb < w8.heap.size := by have := blkLt HD8.out.box; simpa using this
            have HS4 : Hid (DdB w b a len cap g cp ds C a7 s7 bb ag2 ac2 ⟨((⟨#[100, 101, 97, 108]⟩ : ByteArray) ++ decS ds.length), 3, [qa, qb], nd, 0, on⟩ ((w8.setCell ⟨bb, 2, none⟩ (.slice (some ⟨ag2, 0, none⟩) 2 ac2)).setCell ⟨bb, 4, none⟩ (.int .i64 0))) := HD8.out.set4 0
            have HR : Hid ((((w8.setCell ⟨bb, 2, none⟩ (.slice (some ⟨ag2, 0, none⟩) 2 ac2)).setCell ⟨bb, 4, none⟩ (.int .i64 0)).alloc (Obj.cells #[.string ((⟨#[100, 101, 97, 108]⟩ : ByteArray) ++ decS ds.length), .int .i64 3, .slice (some ⟨ag2, 0, none⟩) 2 ac2, .int .i64 nd, .int .i64 0, .bool on] 39)).ownsRow (b + 1) 39 6 (.slice (some ⟨g, 0, none⟩) ds.length cp) ds.length C) := HS4.out.st.own.alloc _
            have HB9 : Hid (b + 1 ≤ (((w8.setCell ⟨bb, 2, none⟩ (.slice (some ⟨ag2, 0, none⟩) 2 ac2)).setCell ⟨bb, 4, none⟩ (.int .i64 0)).alloc (Obj.cells #[.string ((⟨#[100, 101, 97, 108]⟩ : ByteArray) ++ decS ds.length), .int .i64 3, .slice (some ⟨ag2, 0, none⟩) 2 ac2, .int .i64 nd, .int .i64 0, .bool on] 39)).heap.size) := le_alloc HS4.out.st.top _
            have HNw : Hid (∀ j u, [.string ((⟨#[100, 101, 97, 108]⟩ : ByteArray) ++ decS ds.length), .int .i64 3, .slice (some ⟨ag2, 0, none⟩) 2 ac2, .int .i64 nd, .int .i64 0, .bool on][j]? = some u → (((w8.setCell ⟨bb, 2, none⟩ (.slice (some ⟨ag2, 0, none⟩) 2 ac2)).setCell ⟨bb, 4, none⟩ (.int .i64 0)).alloc (Obj.cells #[.string ((⟨#[100, 101, 97, 108]⟩ : ByteArray) ++ decS ds.length), .int .i64 3, .slice (some ⟨ag2, 0, none⟩) 2 ac2, .int .i64 nd, .int .i64 0, .bool on] 39)).cell? ((⟨w8.heap.size, 0, none⟩ : Addr).add j) = some u) := newsZ ((w8.setCell ⟨bb, 2, none⟩ (.slice (some ⟨ag2, 0, none⟩) 2 ac2)).setCell ⟨bb, 4, none⟩ (.int .i64 0)) w8.heap.size (by simp) #[.string ((⟨#[100, 101, 97, 108]⟩ : ByteArray) ++ decS ds.length), .int .i64 3, .slice (some ⟨ag2, 0, none⟩) 2 ac2, .int .i64 nd, .int .i64 0, .bool on] _
            have c0 := blkCell HS4.out.box 0 _ rfl
            have c1 := blkCell HS4.out.box 1 _ rfl
            have c2 := blkCell HS4.out.box 2 _ rfl
            have c3 := blkCell HS4.out.box 3 _ rfl
            have c4 := blkCell HS4.out.box 4 _ rfl
            have c5 := blkCell HS4.out.box 5 _ rfl
            dsimp only [List.length_cons, List.length_nil] at c0 c1 c2 c3 c4 c5
            go_wp2_with (at_builtin; refine wpList_append_lies _ rfl _ _ 24 rfl (b + 1) 39 i0 (.agg #[.string ⟨#[]⟩, .int .i64 0, .slice none 0 0, .int .i64 0, .int .i64 0, .bool false]) 6 72 Try.underlying24 hti hi0 hi1 hi2 rfl (by decide) _ _ _ rfl HR.out ⟨w8.heap.size, 0, none⟩ 1 1 [.string ((⟨#[100, 101, 97, 108]⟩ : ByteArray) ++ decS ds.length), .int .i64 3, .slice (some ⟨ag2, 0, none⟩) 2 ac2, .int .i64 nd, .int .i64 0, .bool on] rfl rfl HNw.out (by simp [Value.oneCell']) (by omega) (by unfold maxLen; omega) (by omega) HB9.out _ rfl ?_; intro g9 c9 w9 hown9 hgrow9 hat9 hglt9; have H9 : Hid (DdSt w b a len cap (.slice (some ⟨g9, 0, none⟩) (ds.length + 1) c9) (ds ++ [⟨((⟨#[100, 101, 97, 108]⟩ : ByteArray) ++ decS ds.length), 3, [qa, qb], nd, 0, on⟩]) _ a7 s7 w9) := HS4.out.push hown9 hgrow9; clear hown9 hgrow9 hat9 hglt9)
            go_roundw
            case rel => exact ⟨ds ++ [⟨((⟨#[100, 101, 97, 108]⟩ : ByteArray) ++ decS ds.length), 3, [qa, qb], nd, 0, on⟩], _, g9, c9, i - 1, a7, s7, by simp, by go_num, by omega, by simp; omega, by omega, dr_push HG.out (drD_of (by omega) HL.out (by omega)), by rw [List.length_append]; exact H9.out⟩
            case measure => simp [intOf]; omega
          · skip
            have hb1 : (kd == 1) = false := by simpa using h1
            have hb3 : (kd == 3) = false := by simpa using h3
            go_upto_region 15 with (at_builtin; refine wpList_append_lies _ rfl _ _ 37 rfl (b + 1) 9 sti (.string ⟨#[]⟩) 1 16 Try.underlying37 hsi hs0' hs1' hs2' rfl (by decide) _ _ _ rfl HR2.out ⟨w7.heap.size, 0, none⟩ 1 1 [.string qb] rfl rfl (World.news_of_block (heapNew w7 (Obj.cells #[.string qb] 9))) (by simp [Value.oneCell']) (by omega) (by unfold maxLen; omega) (by omega) HB8.out _ rfl ?_; intro ag2 ac2 w8 hown8 hgrow8 hat8 hglt8; have hmo := HB7.out.more HNo.out hown8 hgrow8; have HD8 : Hid (DdB w b a len cap g cp ds C a7 s7 bb ag2 ac2 ⟨(⟨#[100, 101, 97, 108]⟩ : ByteArray) ++ decS ds.length, kd, [qa, qb], nd, vl, on⟩ (w8.setCell ⟨bb, 2, none⟩ (.slice (some ⟨ag2, 0, none⟩) 2 ac2))) := hmo.2; have g0 := blkCell hmo.1 0 _ rfl; have g1 := blkCell hmo.1 1 _ rfl; have g2 := blkCell hmo.1 2 _ rfl; have g3 := blkCell hmo.1 3 _ rfl; have g4 := blkCell hmo.1 4 _ rfl; have g5 := blkCell hmo.1 5 _ rfl; have k2 := blkFree hmo.1 2; have k3 := blkFree hmo.1 3; have k4 := blkFree hmo.1 4; have hl8 : bb < w8.heap.size := blkLt hmo.1; clear hmo hown8 hgrow8 hat8 hglt8 c0 c1 c2 c3 c4 c5 f2 z0)
            have HR : Hid (((w8.setCell ⟨bb, 2, none⟩ (.slice (some ⟨ag2, 0, none⟩) 2 ac2)).alloc (Obj.cells #[.string ((⟨#[100, 101, 97, 108]⟩ : ByteArray) ++ decS ds.length), .int .i64 kd, .slice (some ⟨ag2, 0, none⟩) 2 ac2, .int .i64 nd, .int .i64 vl, .bool on] 39)).ownsRow (b + 1) 39 6 (.slice (some ⟨g, 0, none⟩) ds.length cp) ds.length C) := HD8.out.st.own.alloc _
            have HB9 : Hid (b + 1 ≤ ((w8.setCell ⟨bb, 2, none⟩ (.slice (some ⟨ag2, 0, none⟩) 2 ac2)).alloc (Obj.cells #[.string ((⟨#[100, 101, 97, 108]⟩ : ByteArray) ++ decS ds.length), .int .i64 kd, .slice (some ⟨ag2, 0, none⟩) 2 ac2, .int .i64 nd, .int .i64 vl, .bool on] 39)).heap.size) := le_alloc HD8.out.st.top _
            have HNw : Hid (∀ j u, [.string ((⟨#[100, 101, 97, 108]⟩ : ByteArray) ++ decS ds.length), .int .i64 kd, .slice (some ⟨ag2, 0, none⟩) 2 ac2, .int .i64 nd, .int .i64 vl, .bool on][j]? = some u → ((w8.setCell ⟨bb, 2, none⟩ (.slice (some ⟨ag2, 0, none⟩) 2 ac2)).alloc (Obj.cells #[.string ((⟨#[100, 101, 97, 108]⟩ : ByteArray) ++ decS ds.length), .int .i64 kd, .slice (some ⟨ag2, 0, none⟩) 2 ac2, .int .i64 nd, .int .i64 vl, .bool on] 39)).cell? ((⟨w8.heap.size, 0, none⟩ : Addr).add j) = some u) := newsZ (w8.setCell ⟨bb, 2, none⟩ (.slice (some ⟨ag2, 0, none⟩) 2 ac2)) w8.heap.size (by simp) #[.string ((⟨#[100, 101, 97, 108]⟩ : ByteArray) ++ decS ds.length), .int .i64 kd, .slice (some ⟨ag2, 0, none⟩) 2 ac2, .int .i64 nd, .int .i64 vl, .bool on] _
            have c0 := blkCell HD8.out.box 0 _ rfl
            have c1 := blkCell HD8.out.box 1 _ rfl
            have c2 := blkCell HD8.out.box 2 _ rfl
            have c3 := blkCell HD8.out.box 3 _ rfl
            have c4 := blkCell HD8.out.box 4 _ rfl
            have c5 := blkCell HD8.out.box 5 _ rfl
            dsimp only [List.length_cons, List.length_nil] at c0 c1 c2 c3 c4 c5
            go_wp2_with (at_builtin; refine wpList_append_lies _ rfl _ _ 24 rfl (b + 1) 39 i0 (.agg #[.string ⟨#[]⟩, .int .i64 0, .slice none 0 0, .int .i64 0, .int .i64 0, .bool false]) 6 72 Try.underlying24 hti hi0 hi1 hi2 rfl (by decide) _ _ _ rfl HR.out ⟨w8.heap.size, 0, none⟩ 1 1 [.string ((⟨#[100, 101, 97, 108]⟩ : ByteArray) ++ decS ds.length), .int .i64 kd, .slice (some ⟨ag2, 0, none⟩) 2 ac2, .int .i64 nd, .int .i64 vl, .bool on] rfl rfl HNw.out (by simp [Value.oneCell']) (by omega) (by unfold maxLen; omega) (by omega) HB9.out _ rfl ?_; intro g9 c9 w9 hown9 hgrow9 hat9 hglt9; have H9 : Hid (DdSt w b a len cap (.slice (some ⟨g9, 0, none⟩) (ds.length + 1) c9) (ds ++ [⟨((⟨#[100, 101, 97, 108]⟩ : ByteArray) ++ decS ds.length), kd, [qa, qb], nd, vl, on⟩]) _ a7 s7 w9) := HD8.out.push hown9 hgrow9; clear hown9 hgrow9 hat9 hglt9)
            go_roundw
            case rel => exact ⟨ds ++ [⟨((⟨#[100, 101, 97, 108]⟩ : ByteArray) ++ decS ds.length), kd, [qa, qb], nd, vl, on⟩], _, g9, c9, i - 1, a7, s7, by simp, by go_num, by omega, by simp; omega, by omega, dr_push HG.out (drD_of (by omega) HL.out (by omega)), by rw [List.length_append]; exact H9.out⟩
            case measure => simp [intOf]; omega
end Go.Proofs.Ytkfmifbffgbiiaa
