/-
  The specification's drawn facings: whatever the code, they are right.
-/
import Derived.Test.YtphefbaogfknoaaFdA
import Derived.Test.YtphefbaogfknoaaFbB
import Derived.Test.YtphefbaogfknoaaRegZ
namespace Go.Proofs.Ytphefbaogfknoaa
open Go.ChangeShapes Go.WideShapes Go.ChangeAt Go.RowKit Go.Deep
set_option linter.unusedVariables false

theorem FdB.later {w : World} {b : Nat} {a : Option Addr} {len cap g cp : Nat} {ds : List CFc} {C : List Value} {V : World} {at' sd : Int} {hv : Option Addr} {ac : Nat} {r : CFc} {wr w' : World} (h : FdB w b a len cap g cp ds C V at' sd hv ac r wr) (hb : Below wr.heap.size wr w') : FdB w b a len cap g cp ds C V at' sd hv ac r w' :=
  h.step (later_apart hb) (hb.mono (by have := src_ltW h.src; omega)) (src_sameW h.src (hb.block b (src_ltW h.src)) hb.size)
theorem le_allocW {W : World} {B : Nat} (h : B ≤ W.heap.size) (o : Obj) : B ≤ (W.alloc o).heap.size := by simp; omega
theorem newsW (W : World) (B : Nat) (hz : W.heap.size = B) (cs : Array Value) (t : TypeId) : ∀ j u, cs.toList[j]? = some u → (W.alloc (Obj.cells cs t)).cell? ((⟨B, 0, none⟩ : Addr).add j) = some u := by
  subst hz
  exact World.news_of_block (heapNew W (Obj.cells cs t))
def FdPost (a : Option Addr) (len cap : Nat) (b : Nat) (at0 : Int) (w : World) (e : Ending) (w' : World) : Prop := ∃ (ds : List CFc) (C : List Value) (g cp : Nat) (at' sd : Int), e = .returned (.slice (some ⟨g, 0, none⟩) ds.length cp) ∧ ds.length ≤ 6 ∧ at' ≤ at0 + 150 ∧ (∀ i, i < ds.length → DrF i (ds.getD i zFc)) ∧ FdSt w b a len cap (.slice (some ⟨g, 0, none⟩) ds.length cp) ds C at' sd w'
set_option maxHeartbeats 16000000 in
set_option maxRecDepth 8000 in
theorem facings_any (b : Nat) (a : Option Addr) (len cap : Nat) (zs : List Int) (at0 seed : Int) (w : World) (hs : Src w b a len cap at0 seed) (hr : RowB b w a len zs) (h0 : at0 ≤ 1000) :
    Calls Try.prog 25 #[.pointer (some ⟨b, 0, none⟩)] w (FdPost a len cap b at0 w) := by
  have hlen : len ≤ maxLen := hr.1
  have HR : Hid (RowB b w a len zs) := hr
  have HNx : Hid (∀ (n at' sd : Int) (W : World), n ≤ 256 → at' ≤ 999999999000 → Src W b a len cap at' sd → Below b w W → Calls Try.prog 26 #[.pointer (some ⟨b, 0, none⟩), .int .i64 n] W fun e w' => ∃ x at2 s' : Int, e = .returned (.int .i64 x) ∧ Drawn x n ∧ at' ≤ at2 ∧ at2 ≤ at' + 3 ∧ Src w' b a len cap at2 s' ∧ Below b W w' ∧ Apt b W w') := fun n at' sd W hn ha hS hB => next_anyA b b a len cap zs n at' sd W (Nat.le_refl _) hS (HR.out.below hB) ha hn
  have HT0 : Hid (FdSt w b a len cap (.slice (some ⟨w.heap.size, 0, none⟩) 0 0) [] [] at0 seed (w.alloc (Obj.cells #[] 51))) := FdSt.start hs
  have HSz : Hid (Calls Try.prog 48 #[.pointer (some ⟨b, 0, none⟩), .int .i64 6] (w.alloc (Obj.cells #[] 51)) fun e w' => (∃ x : Int, e = .returned (.int .i64 x) ∧ 1 ≤ x ∧ x ≤ 6) ∧ w' = w.alloc (Obj.cells #[] 51)) := size_src b a len cap 6 at0 seed _ HT0.out.src hlen (by omega) (by omega)
  obtain ⟨i0, hti, hzz⟩ := Option.map_eq_some_iff.1 fcInfo
  simp only [Prod.mk.injEq] at hzz
  obtain ⟨hi0, hi1, hi2⟩ := hzz
  obtain ⟨i1, htj, hzz⟩ := Option.map_eq_some_iff.1 intInfo
  simp only [Prod.mk.injEq] at hzz
  obtain ⟨hj0, hj1, hj2⟩ := hzz
  clear hs hr
  go_enter Try.func25, Try.ntmps25
  go_wp2_with fail
  (first | go_at_call 48 | skip)
  refine HSz.out.mono ?_
  rintro e w0 ⟨⟨y, rfl, y1, y2⟩, hw0⟩
  rw [hw0]
  clear hw0 w0
  go_wp2_with fail
  (first | go_at_call 26 | skip)
  refine (HNx.out _ _ _ _ (by omega) (by omega) HT0.out.src HT0.out.low).mono ?_
  rintro e w0 ⟨x0, a0, s0, rfl, hx0, ql0, qu0, hs0, hb0, ha0⟩
  have HT1 : Hid (FdSt w b a len cap (.slice (some ⟨w.heap.size, 0, none⟩) 0 0) [] [] a0 s0 w0) := HT0.out.step (ha0.apart hb0) hb0 hs0
  have hx00 : 0 ≤ x0 := hx0.1
  have hx01 : x0 ≤ 6 := by rcases hx0.2 with h | h <;> omega
  clear hs0 hb0 ha0 hx0 HT0 HSz
  go_wp2_with fail
  go_loopw [3, 4, 5, 6] (fun v c _ _ wr => ∃ (ds : List CFc) (C : List Value) (g cp : Nat) (i at' sd : Int), v = .slice (some ⟨g, 0, none⟩) ds.length cp ∧ c = .int .i64 i ∧ 0 ≤ i ∧ (ds.length : Int) + i ≤ 6 ∧ at' + 21 * i ≤ at0 + 150 ∧ (∀ i, i < ds.length → DrF i (ds.getD i zFc)) ∧ FdSt w b a len cap (.slice (some ⟨g, 0, none⟩) ds.length cp) ds C at' sd wr) (fun _ c _ _ _ => (intOf c).toNat)
  case atStart => exact ⟨[], [], w.heap.size, 0, x0, a0, s0, rfl, rfl, by omega, by simp; omega, by omega, by simp, HT1.out⟩
  case round =>
    clear HT1
    obtain ⟨ds, C, g, cp, i, at', sd, rfl, rfl, hi, hil, hat, hdr, hT⟩ := hrel
    have HT : Hid (FdSt w b a len cap (.slice (some ⟨g, 0, none⟩) ds.length cp) ds C at' sd wr) := hT
    have HG : Hid (∀ i, i < ds.length → DrF i (ds.getD i zFc)) := hdr
    clear hT hdr
    by_cases hz : i = 0
    · subst hz
      go_wp2
      go_ret
      exact ⟨ds, C, g, cp, at', sd, rfl, by omega, by omega, HG.out, HT.out⟩
    · have hpos : 1 ≤ i := by omega
      clear hz
      go_wp2_with fail
      (first | go_at_call 49 | skip)
      refine (digits_any ds.length (by omega) wr).mono ?_
      rintro e w1 ⟨rfl, hb1⟩
      have HT1 : Hid (FdSt w b a len cap (.slice (some ⟨g, 0, none⟩) ds.length cp) ds C at' sd w1) := HT.out.later hb1
      clear hb1 HT
      have hz : (decS ds.length).size ≤ 10 := by have := decS_size ds.length; omega
      go_wp2_with fail
      (first | go_at_call 26 | skip)
      refine (HNx.out 40 at' sd w1 (by omega) (by omega) HT1.out.src HT1.out.low).mono ?_
      rintro e w2 ⟨x2, a2, s2, rfl, hx2, ql2, qu2, hs2, hb2, ha2⟩
      have HT2 : Hid (FdSt w b a len cap (.slice (some ⟨g, 0, none⟩) ds.length cp) ds C a2 s2 w2) := HT1.out.step (ha2.apart hb2) hb2 hs2
      have d2 : 0 ≤ x2 ∧ x2 ≤ 39 := ⟨hx2.1, by rcases hx2.2 with h | h <;> omega⟩
      obtain ⟨wf, hwfe⟩ : ∃ wf, wf = 5 + x2 := ⟨_, rfl⟩
      have hwf1 : 5 ≤ wf := by omega
      have hwf2 : wf ≤ 44 := by omega
      have hwk : wrap64 (5 + x2) = wf := by unfold wrap64; omega
      have hwk' : IntKind.i64.wrap (5 + x2) = wf := by rw [hwfe]; exact wrap_id _ (by omega) (by omega)
      clear hwfe hs2 hb2 ha2 hx2 HT1
      obtain ⟨W3, hW3⟩ : ∃ W3, W3 = w2.alloc (Obj.cells #[.string ((⟨#[102]⟩ : ByteArray) ++ decS ds.length), .int .i64 wf, .int .i64 0, .slice none 0 0] 51) := ⟨_, rfl⟩
      have HW3 : Hid (W3 = w2.alloc (Obj.cells #[.string ((⟨#[102]⟩ : ByteArray) ++ decS ds.length), .int .i64 wf, .int .i64 0, .slice none 0 0] 51)) := hW3
      have H3 : Hid (FdB w b a len cap g cp ds C w2 a2 s2 none 0 ⟨((⟨#[102]⟩ : ByteArray) ++ decS ds.length), wf, 0, []⟩ W3) := FdB.new HT2.out _ wf 0 W3 hW3
      clear hW3 HT2
      go_wp2_with fail
      (first | go_at_call 26 | skip)
      rw [← HW3.out]
      refine (HNx.out 4 a2 s2 W3 (by omega) (by omega) H3.out.st.src H3.out.st.low).mono ?_
      rintro e w4 ⟨x4, a4, s4, rfl, hx4, ql4, qu4, hs4, hb4, ha4⟩
      have H4 : Hid (FdB w b a len cap g cp ds C w2 a4 s4 none 0 ⟨((⟨#[102]⟩ : ByteArray) ++ decS ds.length), wf, 0, []⟩ w4) := H3.out.step (ha4.apart hb4) hb4 hs4
      have d4 : 0 ≤ x4 ∧ x4 ≤ 3 := ⟨hx4.1, by rcases hx4.2 with h | h <;> omega⟩
      obtain ⟨d40, d41⟩ := d4
      clear hs4 hb4 ha4 hx4 H3 HW3 hwk hwk' d2
      go_wp2_with fail
      go_loopw [6] (fun c wr => ∃ (m : Int) (gs : List Int) (hv : Option Addr) (ac : Nat) (at2 sd2 : Int), c = .int .i64 m ∧ -1 ≤ m ∧ (gs.length : Int) + m + 1 ≤ 4 ∧ (0 ≤ m ∨ 1 ≤ gs.length) ∧ at2 + 3 * (m + 1) + 3 + 21 * (i - 1) ≤ at0 + 150 ∧ (∀ x ∈ gs, 0 ≤ x ∧ x ≤ 89) ∧ FdB w b a len cap g cp ds C w2 at2 sd2 hv ac ⟨((⟨#[102]⟩ : ByteArray) ++ decS ds.length), wf, 0, gs⟩ wr) (fun c _ => (intOf c + 1).toNat)
      case atStart => exact ⟨x4, [], none, 0, a4, s4, rfl, by omega, by simp; omega, by omega, by omega, by simp, H4.out⟩
      case round =>
        clear H4
        obtain ⟨m, gs, hv, ac, at2, sd2, rfl, hm1, hml, hmo, hat2, hgb, hB⟩ := hrel
        obtain ⟨wj, hwj⟩ : ∃ wj, wj = wr := ⟨_, rfl⟩
        rw [← hwj] at hB ⊢
        have HB : Hid (FdB w b a len cap g cp ds C w2 at2 sd2 hv ac ⟨((⟨#[102]⟩ : ByteArray) ++ decS ds.length), wf, 0, gs⟩ wj) := hB
        have HGb : Hid (∀ x ∈ gs, 0 ≤ x ∧ x ≤ 89) := hgb
        clear hB hwj hgb
        by_cases hm : 0 ≤ m
        · go_upto_region 9 with fail
          have HBd : Hid (FdB w b a len cap g cp ds C w2 at2 sd2 hv ac ⟨((⟨#[102]⟩ : ByteArray) ++ decS ds.length), wf, 0, gs⟩ wj.drew) := HB.out.later (below_drew _)
          have hS0 : wj.drew.heap[w2.heap.size]? = some (.cells #[.string ((⟨#[102]⟩ : ByteArray) ++ decS ds.length), .int .i64 wf, .int .i64 0, .slice hv gs.length ac] 51 (0, 0)) := HBd.out.box
          clear HB
          refine wp_region_z (S := fun W' => W'.heap[w2.heap.size]? = some (.cells #[.string ((⟨#[102]⟩ : ByteArray) ++ decS ds.length), .int .i64 wf, .int .i64 0, .slice hv gs.length ac] 51 (0, 0))) 7 (by kernel_rfl) hS0 (fun hH => ?_)
          refine wpAnyZ_take (i := 0) (v := .pointer (some ⟨w2.heap.size, 3, none⟩)) rfl (by kernel_rfl) (by kernel_rfl) (by kernel_rfl) (by kernel_rfl) (fun _ _ _ h => h) (Or.inl ⟨by rfl, fun w hSw => by clear hSw; go_simp⟩) hH ?_
          refine wpAnyZ_take (i := 1) (v := .slice hv gs.length ac) rfl (by kernel_rfl) (by kernel_rfl) (by kernel_rfl) (by kernel_rfl) (fun _ _ _ h => h) (Or.inl ⟨by rfl, fun w hSw => by have f := blkCell hSw 3 _ rfl; simp only [List.getElem_toArray, List.getElem_cons_zero, List.getElem_cons_succ] at f; clear hSw; go_simp⟩) hH ?_
          try simp only [Act.put, List.setIfInBounds_toArray, List.set_cons_zero, List.set_cons_succ, List.getElem_toArray, List.getElem_cons_succ, List.getElem_cons_zero]
          refine wpAnyZ_take (i := 2) (v := .pointer (some ⟨b, 0, none⟩)) rfl (by kernel_rfl) (by kernel_rfl) (by kernel_rfl) (by kernel_rfl) (fun _ _ _ h => h) (Or.inl ⟨by rfl, fun w hSw => by clear hSw; go_simp⟩) hH ?_
          try simp only [Act.put, List.setIfInBounds_toArray, List.set_cons_zero, List.set_cons_succ, List.getElem_toArray, List.getElem_cons_succ, List.getElem_cons_zero]
          refine wpAnyZ_ready (rs := [3]) (by kernel_rfl) (by simp) ?_
          refine AllReadyZ.cons rfl (fun K hK => ?_) AllReadyZ.nil
          go_simp
          go_at_call 26
          refine (HNx.out 90 at2 sd2 _ (by omega) (by omega) HBd.out.src HBd.out.st.low).mono ?_
          rintro e w5 ⟨x5, a5, s5, rfl, hx5, ql5, qu5, hs5, hb5, ha5⟩
          have HB5 : Hid (FdB w b a len cap g cp ds C w2 a5 s5 hv ac ⟨((⟨#[102]⟩ : ByteArray) ++ decS ds.length), wf, 0, gs⟩ w5) := HBd.out.step (ha5.apart hb5) hb5 hs5
          have d5 : 0 ≤ x5 ∧ x5 ≤ 89 := ⟨hx5.1, by rcases hx5.2 with h | h <;> omega⟩
          have hS5 : w5.heap[w2.heap.size]? = some (.cells #[.string ((⟨#[102]⟩ : ByteArray) ++ decS ds.length), .int .i64 wf, .int .i64 0, .slice hv gs.length ac] 51 (0, 0)) := HB5.out.box
          clear hs5 hb5 ha5 hx5
          refine hK.out _ _ (Or.inr hS5) (fun _ => ?_)
          clear hK K
          try simp only [Act.put, List.setIfInBounds_toArray, List.set_cons_zero, List.set_cons_succ, List.getElem_toArray, List.getElem_cons_succ, List.getElem_cons_zero]
          refine wpAnyZ_ready (rs := [4]) (by kernel_rfl) (by simp) ?_
          refine AllReadyZ.cons rfl (fun K hK => ?_) AllReadyZ.nil
          go_simp
          have hb6 : (w5.alloc (Obj.cells #[.int .i64 x5] 3)).heap[w5.heap.size]? = some (.cells #[.int .i64 x5] 3 (0, 0)) := heapNew w5 _
          have hS6 : (w5.alloc (Obj.cells #[.int .i64 x5] 3)).heap[w2.heap.size]? = some (.cells #[.string ((⟨#[102]⟩ : ByteArray) ++ decS ds.length), .int .i64 wf, .int .i64 0, .slice hv gs.length ac] 51 (0, 0)) := (Below.heap_alloc _ _ _ (blkLt hS5)).trans hS5
          have HR6 : Hid ((w5.alloc (Obj.cells #[.int .i64 x5] 3)).ownsRow (w2.heap.size + 1) 3 1 (.slice hv gs.length ac) gs.length (gs.map (.int .i64))) := HB5.out.gains.alloc _
          have HZ6 : Hid (w2.heap.size + 1 ≤ (w5.alloc (Obj.cells #[.int .i64 x5] 3)).heap.size) := le_allocW (blkLt hS5) _
          refine hK.out _ _ (Or.inr hS6) (fun _ => ?_)
          clear hK K
          try simp only [Act.put, List.setIfInBounds_toArray, List.set_cons_zero, List.set_cons_succ, List.getElem_toArray, List.getElem_cons_succ, List.getElem_cons_zero]
          refine wpAnyZ_ready (rs := [5]) (by kernel_rfl) (by simp) ?_
          refine AllReadyZ.cons rfl (fun K hK => ?_) AllReadyZ.nil
          refine step_append_any rfl (.tmp 32) (.tmp 35) 24 rfl (w2.heap.size + 1) 3 i1 (.int .i64 0) 1 8 Try.underlying24 htj hj0 hj1 hj2 rfl (by decide) (.slice hv gs.length ac) _ _ (by simp [Act.eval]) HR6.out (some ⟨w5.heap.size, 0, none⟩) 1 1 [.int .i64 x5] (by simp [Act.eval]) rfl (fun _ => ⟨_, rfl, World.news_of_block hb6⟩) (by simp [Value.oneCell']) (by unfold maxLen; omega) (by omega) HZ6.out (fun h7 c7 w7 hown hgrow hat7 => ?_)
          have H7 := HB5.out.more hown hgrow
          have hS7 := H7.1
          have HB7 : Hid (FdB w b a len cap g cp ds C w2 a5 s5 h7 c7 ⟨((⟨#[102]⟩ : ByteArray) ++ decS ds.length), wf, 0, (gs ++ [x5])⟩ (w7.setCell ⟨w2.heap.size, 3, none⟩ (.slice h7 (gs.length + 1) c7))) := H7.2
          clear hown hgrow hat7 H7 hb6
          refine hK.out _ _ (Or.inr hS7) (fun _ => ?_)
          clear hK K
          try simp only [Act.put, List.setIfInBounds_toArray, List.set_cons_zero, List.set_cons_succ, List.getElem_toArray, List.getElem_cons_succ, List.getElem_cons_zero]
          refine wpAnyZ_take (i := 6) (v := .pointer (some ⟨w2.heap.size, 3, none⟩)) rfl (by kernel_rfl) (by kernel_rfl) (by kernel_rfl) (by kernel_rfl) (fun _ _ _ h => h) (Or.inl ⟨by rfl, fun w hSw => by clear hSw; go_simp⟩) hS7 ?_
          try simp only [Act.put, List.setIfInBounds_toArray, List.set_cons_zero, List.set_cons_succ, List.getElem_toArray, List.getElem_cons_succ, List.getElem_cons_zero]
          refine wpAnyZ_ready (rs := [7]) (by kernel_rfl) (by simp) ?_
          refine AllReadyZ.cons rfl (fun K hK => ?_) AllReadyZ.nil
          have y0 := blkCell hS7 3 _ rfl
          have y1 := blkFree hS7 3
          simp only [List.getElem_toArray, List.getElem_cons_zero, List.getElem_cons_succ] at y0
          clear hH hS6 hS5 hS0
          go_simp
          refine hK.out _ _ (Or.inl rfl) (fun _ => ?_)
          clear hK K
          try simp only [Act.put, List.setIfInBounds_toArray, List.set_cons_zero, List.set_cons_succ, List.getElem_toArray, List.getElem_cons_succ, List.getElem_cons_zero]
          refine wpAnyZ_done (by kernel_rfl) ?_ _
          clear y0 y1 hS7 HB5 HR6 HZ6 HBd
          generalize w7.setCell ⟨w2.heap.size, 3, none⟩ (.slice h7 (gs.length + 1) c7) = wb at *
          have hwm : IntKind.i64.wrap (m - 1) = m - 1 := wrap_id _ (by omega) (by omega)
          go_wp2_with fail
          go_roundw
          case rel => exact ⟨m - 1, gs ++ [x5], h7, c7, a5, s5, rfl, by omega, by simp; omega, .inr (by simp), by omega, fun x hx => by rcases List.mem_append.1 hx with h | h; exact HGb.out x h; rw [List.mem_singleton.1 h]; exact d5, HB7.out⟩
          case measure => simp [intOf]; omega
        · have hme : m = -1 := by omega
          subst hme
          have hg1 : 1 ≤ gs.length := by omega
          clear hm hmo hm1
          have hg4 : gs.length ≤ 4 := by omega
          go_wp2_with fail
          (first | go_at_call 26 | skip)
          refine (HNx.out 3 at2 sd2 wj (by omega) (by omega) HB.out.src HB.out.st.low).mono ?_
          rintro e w8 ⟨x8, a8, s8, rfl, hx8, ql8, qu8, hs8, hb8, ha8⟩
          have H8 : Hid (FdB w b a len cap g cp ds C w2 a8 s8 hv ac ⟨((⟨#[102]⟩ : ByteArray) ++ decS ds.length), wf, 0, gs⟩ w8) := HB.out.step (ha8.apart hb8) hb8 hs8
          have d8 : 0 ≤ x8 ∧ x8 ≤ 2 := ⟨hx8.1, by rcases hx8.2 with h | h <;> omega⟩
          clear hs8 hb8 ha8 hx8 HB
          obtain ⟨lv, hlv⟩ : ∃ lv, lv = x8 / 2 := ⟨_, rfl⟩
          have hl0 : 0 ≤ lv := by omega
          have hl1 : lv ≤ 1 := by omega
          have hq1 : x8 / 2 = lv := hlv.symm
          have hq2 : x8.tdiv 2 = lv := by rw [Int.tdiv_eq_ediv_of_nonneg d8.1, hq1]
          have hq3 : IntKind.i64.wrap lv = lv := wrap_id _ (by omega) (by omega)
          clear hlv
          have c0 := blkCell H8.out.box 0 _ rfl
          have c1 := blkCell H8.out.box 1 _ rfl
          have c2 := blkCell H8.out.box 2 _ rfl
          have c3 := blkCell H8.out.box 3 _ rfl
          have f2 := blkFree H8.out.box 2
          simp only [List.getElem_toArray, List.getElem_cons_zero, List.getElem_cons_succ] at c0 c1 c2 c3
          have HS9 : Hid (FdB w b a len cap g cp ds C w2 a8 s8 hv ac ⟨((⟨#[102]⟩ : ByteArray) ++ decS ds.length), wf, lv, gs⟩ (w8.setCell ⟨w2.heap.size, 2, none⟩ (.int .i64 lv))) := H8.out.setLs lv
          clear H8
          go_upto_region 11 with fail
          clear c0 c1 c2 c3 f2 hq1 hq2 hq3
          obtain ⟨w9, hw9⟩ : ∃ w9, w9 = w8.setCell ⟨w2.heap.size, 2, none⟩ (.int .i64 lv) := ⟨_, rfl⟩
          rw [← hw9] at HS9 ⊢
          clear hw9
          have c0 := blkCell HS9.out.box 0 _ rfl
          have c1 := blkCell HS9.out.box 1 _ rfl
          have c2 := blkCell HS9.out.box 2 _ rfl
          have c3 := blkCell HS9.out.box 3 _ rfl
          simp only [List.getElem_toArray, List.getElem_cons_zero, List.getElem_cons_succ] at c0 c1 c2 c3
          have HRo : Hid ((w9.alloc (Obj.cells #[.string ((⟨#[102]⟩ : ByteArray) ++ decS ds.length), .int .i64 wf, .int .i64 lv, .slice hv gs.length ac] 51)).ownsRow (b + 1) 51 4 (.slice (some ⟨g, 0, none⟩) ds.length cp) ds.length C) := HS9.out.st.own.alloc _
          have HB9 : Hid (b + 1 ≤ (w9.alloc (Obj.cells #[.string ((⟨#[102]⟩ : ByteArray) ++ decS ds.length), .int .i64 wf, .int .i64 lv, .slice hv gs.length ac] 51)).heap.size) := le_allocW HS9.out.st.top _
          have HNw : Hid (∀ j u, [.string ((⟨#[102]⟩ : ByteArray) ++ decS ds.length), .int .i64 wf, .int .i64 lv, .slice hv gs.length ac][j]? = some u → (w9.alloc (Obj.cells #[.string ((⟨#[102]⟩ : ByteArray) ++ decS ds.length), .int .i64 wf, .int .i64 lv, .slice hv gs.length ac] 51)).cell? ((⟨w9.heap.size, 0, none⟩ : Addr).add j) = some u) := newsW w9 w9.heap.size rfl #[.string ((⟨#[102]⟩ : ByteArray) ++ decS ds.length), .int .i64 wf, .int .i64 lv, .slice hv gs.length ac] _
          go_wp2_with (at_builtin; refine wpList_append_lies _ rfl _ _ 23 rfl (b + 1) 51 i0 (.agg #[.string ⟨#[]⟩, .int .i64 0, .int .i64 0, .slice none 0 0]) 4 56 Try.underlying23 hti hi0 hi1 hi2 rfl (by decide) _ _ _ rfl HRo.out ⟨w9.heap.size, 0, none⟩ 1 1 [.string ((⟨#[102]⟩ : ByteArray) ++ decS ds.length), .int .i64 wf, .int .i64 lv, .slice hv gs.length ac] rfl rfl HNw.out (by simp [Value.oneCell']) (by omega) (by unfold maxLen; omega) (by omega) HB9.out _ rfl ?_; intro g9 c9 w10 hown9 hgrow9 hat9 hglt9; have H9 : Hid (FdSt w b a len cap (.slice (some ⟨g9, 0, none⟩) (ds.length + 1) c9) (ds ++ [⟨((⟨#[102]⟩ : ByteArray) ++ decS ds.length), wf, lv, gs⟩]) _ a8 s8 w10) := HS9.out.push hg1 hown9 hgrow9; clear hown9 hgrow9 hat9 hglt9)
          go_roundw
          case rel => exact ⟨ds ++ [⟨((⟨#[102]⟩ : ByteArray) ++ decS ds.length), wf, lv, gs⟩], _, g9, c9, i - 1, a8, s8, by simp, by go_num, by omega, by simp; omega, by omega, drF_push HG.out (drF_of (by omega) ⟨hwf1, hwf2⟩ ⟨hl0, hl1⟩ ⟨hg1, hg4⟩ HGb.out), by rw [List.length_append]; exact H9.out⟩
          case measure => simp [intOf]; omega
end Go.Proofs.Ytphefbaogfknoaa
