/-
  Contract of the specification's Settle, for every two lists.
-/
import Derived.Test.YtgjffmeafdpfhaaSxD
import Derived.Test.YtgjffmeafdpfhaaRegZ
namespace Go.Proofs.Ytgjffmeafdpfhaa
open Go.ChangeShapes Go.WideShapes Go.ChangeAt Go.RowKit Go.Deep
set_option linter.unusedVariables false

theorem part_ways2 (id : ByteArray) (am : Int) (id' : ByteArray) (am' : Int) (t : Bool) : (t = true ∧ sePart ⟨id', am'⟩ t ⟨id, am⟩ = false) ∨ (t = false ∧ seEq ⟨id, am⟩ ⟨id', am'⟩ = false ∧ sePart ⟨id', am'⟩ t ⟨id, am⟩ = false) ∨ (t = false ∧ seEq ⟨id, am⟩ ⟨id', am'⟩ = true ∧ sePart ⟨id', am'⟩ t ⟨id, am⟩ = true) := by
  unfold sePart
  cases h : seEq ⟨id, am⟩ ⟨id', am'⟩
  · cases t
    · exact .inr (.inl ⟨rfl, rfl, rfl⟩)
    · exact .inl ⟨rfl, rfl⟩
  · cases t
    · exact .inr (.inr ⟨rfl, rfl, rfl⟩)
    · exact .inl ⟨rfl, rfl⟩
set_option maxHeartbeats 16000000 in
set_option maxRecDepth 4000 in
theorem specSettle_any (ma ba : Option Addr) (mc bc : Nat) (mine bank : List RSe) (hlm : mine.length ≤ 100000000) (hlb : bank.length ≤ 100000000) (hpm : ∀ r ∈ mine, SeOK r) (hpb : ∀ r ∈ bank, SeOK r) (w : World) (hrm : ReadsSe w.heap.size w ma mine) (hrb : ReadsSe w.heap.size w ba bank) :
    Calls Try.prog 8 #[.slice ma mine.length mc, .slice ba bank.length bc] w (MtP w (mtR mine bank) (fltS mine bank)) := by
  have HRm : Hid (ReadsSe w.heap.size w ma mine) := hrm
  have HRb : Hid (ReadsSe w.heap.size w ba bank) := hrb
  have HOm : Hid (∀ b, seAll mine = b → ∀ W, Below w.heap.size w W → Calls Try.prog 23 #[.slice ma mine.length mc] W fun e w' => e = .returned (.bool b) ∧ Below W.heap.size W w') := fun b h W hW => h ▸ right11_any ma mc mine hlm hpm W (hrm.later hW)
  have HOb : Hid (∀ b, seAll bank = b → ∀ W, Below w.heap.size w W → Calls Try.prog 23 #[.slice ba bank.length bc] W fun e w' => e = .returned (.bool b) ∧ Below W.heap.size W w') := fun b h W hW => h ▸ right11_any ba bc bank hlb hpb W (hrb.later hW)
  have HNo : Hid (∀ (W : World) (c : Int), Below w.heap.size w W → MtP w noMt c (.returned (.tuple #[.agg #[.slice none 0 0, .slice none 0 0, .slice none 0 0, .int .i64 0], .int .i64 c])) W) := fun W c hW => ⟨none, none, none, 0, 0, 0, _, rfl, ansM_none _ _, hW⟩
  clear hrm hrb hpm hpb
  rcases flt_ways mine bank with ⟨h1, hf⟩ | ⟨h1, h2, hf⟩ | ⟨h1, h2, h3, hf⟩ | ⟨h1, h2, h3, h4, hf⟩ | ⟨h1, h2, h3, h4, h5, hf⟩ | ⟨h1, h2, h3, h4, h5, h6, hf⟩ | ⟨h1, h2, h3, h4, h5, h6, hf⟩
  · rw [mtR_no hf (by decide), hf]
    clear hf
    go_enter Try.func8, Try.ntmps8
    go_wp2
    refine bodyPost_ret (v := .tuple #[.agg #[.slice none 0 0, .slice none 0 0, .slice none 0 0, .int .i64 0], .int .i64 2]) (by simp [results, Try.results8, go_sem]) rfl ?_
    exact HNo.out _ _ (below_alloc _ _)
  · rw [mtR_no hf (by decide), hf]
    clear hf
    go_enter Try.func8, Try.ntmps8
    go_wp2
    refine bodyPost_ret (v := .tuple #[.agg #[.slice none 0 0, .slice none 0 0, .slice none 0 0, .int .i64 0], .int .i64 2]) (by simp [results, Try.results8, go_sem]) rfl ?_
    exact HNo.out _ _ (below_alloc _ _)
  · rw [mtR_no hf (by decide), hf]
    clear hf
    go_enter Try.func8, Try.ntmps8
    go_wp2
    refine bodyPost_ret (v := .tuple #[.agg #[.slice none 0 0, .slice none 0 0, .slice none 0 0, .int .i64 0], .int .i64 9]) (by simp [results, Try.results8, go_sem]) rfl ?_
    exact HNo.out _ _ (below_alloc _ _)
  · rw [mtR_no hf (by decide), hf]
    clear hf
    go_enter Try.func8, Try.ntmps8
    go_wp2
    refine bodyPost_ret (v := .tuple #[.agg #[.slice none 0 0, .slice none 0 0, .slice none 0 0, .int .i64 0], .int .i64 9]) (by simp [results, Try.results8, go_sem]) rfl ?_
    exact HNo.out _ _ (below_alloc _ _)
  · rw [mtR_no hf (by decide), hf]
    have H1 : Hid _ := HOm.out _ h5
    clear h5
    clear hf
    go_enter Try.func8, Try.ntmps8
    go_wp2_with fail
    (first | go_at_call 23 | skip)
    refine (H1.out _ (below_alloc _ _)).mono ?_
    rintro e w1 ⟨rfl, hb_w1⟩
    have hbk : w1.heap[w.heap.size]? = some (.cells zM 29 (0, 0)) := (hb_w1.block w.heap.size (by simp)).trans (heapNew _ _)
    have r0 : w1.cell? ⟨w.heap.size, 0, none⟩ = some (.slice none 0 0) := blkCell hbk 0 _ rfl
    have r1 : w1.cell? ⟨w.heap.size, 1, none⟩ = some (.slice none 0 0) := blkCell hbk 1 _ rfl
    have r2 : w1.cell? ⟨w.heap.size, 2, none⟩ = some (.slice none 0 0) := blkCell hbk 2 _ rfl
    have r3 : w1.cell? ⟨w.heap.size, 3, none⟩ = some (.int .i64 0) := blkCell hbk 3 _ rfl
    have g0 := blkFree hbk 0
    have g1 := blkFree hbk 1
    have g2 := blkFree hbk 2
    have g3 := blkFree hbk 3
    have hwl : w.heap.size < w1.heap.size := blkLt hbk
    have HBw : Hid (Below w.heap.size w w1) := chain (below_alloc _ _) hb_w1
    clear hb_w1
    have HS4 := set4 w1 w.heap.size (.slice none 0 0) (.slice none 0 0) (.slice none 0 0) (.int .i64 0) zM 29 rfl hbk
    have H4 : Hid (∀ WE, WE = ((((w1.setCell ⟨w.heap.size, 0, none⟩ (.slice none 0 0)).setCell ⟨w.heap.size, 1, none⟩ (.slice none 0 0)).setCell ⟨w.heap.size, 2, none⟩ (.slice none 0 0)).setCell ⟨w.heap.size, 3, none⟩ (.int .i64 0)) → WE.heap[w.heap.size]? = some (.cells #[.slice none 0 0, .slice none 0 0, .slice none 0 0, .int .i64 0] 29 (0, 0)) ∧ (∀ q, q ≠ w.heap.size → WE.heap[q]? = w1.heap[q]?) ∧ ∀ B, B ≤ w.heap.size → Below B w1 WE) := HS4
    clear hbk HS4
    go_wp2
    obtain ⟨WE, hWE⟩ : ∃ WE, WE = ((((w1.setCell ⟨w.heap.size, 0, none⟩ (.slice none 0 0)).setCell ⟨w.heap.size, 1, none⟩ (.slice none 0 0)).setCell ⟨w.heap.size, 2, none⟩ (.slice none 0 0)).setCell ⟨w.heap.size, 3, none⟩ (.int .i64 0)) := ⟨_, rfl⟩
    rw [← hWE]
    have HE4 : Hid _ := H4.out WE hWE
    have z0 : WE.cell? ⟨w.heap.size, 0, none⟩ = some (.slice none 0 0) := blkCell HE4.out.1 0 _ rfl
    have z1 : WE.cell? ⟨w.heap.size, 1, none⟩ = some (.slice none 0 0) := blkCell HE4.out.1 1 _ rfl
    have z2 : WE.cell? ⟨w.heap.size, 2, none⟩ = some (.slice none 0 0) := blkCell HE4.out.1 2 _ rfl
    have z3 : WE.cell? ⟨w.heap.size, 3, none⟩ = some (.int .i64 0) := blkCell HE4.out.1 3 _ rfl
    clear hWE
    refine bodyPost_ret (v := .tuple #[.agg #[.slice none 0 0, .slice none 0 0, .slice none 0 0, .int .i64 0], .int .i64 1]) (by simp [results, Try.results8, go_sem, z0, z1, z2, z3]) rfl ?_
    exact HNo.out _ _ (HBw.out.trans (HE4.out.2.2 _ (Nat.le_refl _)))
  · rw [mtR_no hf (by decide), hf]
    have H1 : Hid _ := HOm.out _ h5
    have H2 : Hid _ := HOb.out _ h6
    clear h5 h6
    clear hf
    go_enter Try.func8, Try.ntmps8
    go_wp2_with fail
    (first | go_at_call 23 | skip)
    refine (H1.out _ (below_alloc _ _)).mono ?_
    rintro e w1 ⟨rfl, hb_w1⟩
    go_wp2_with fail
    (first | go_at_call 23 | skip)
    refine (H2.out w1 (chain (below_alloc _ _) hb_w1)).mono ?_
    rintro e w2 ⟨rfl, hb_w2⟩
    have hb2 := chain hb_w1 hb_w2
    clear hb_w1 hb_w2
    have hbk : w2.heap[w.heap.size]? = some (.cells zM 29 (0, 0)) := (hb2.block w.heap.size (by simp)).trans (heapNew _ _)
    have r0 : w2.cell? ⟨w.heap.size, 0, none⟩ = some (.slice none 0 0) := blkCell hbk 0 _ rfl
    have r1 : w2.cell? ⟨w.heap.size, 1, none⟩ = some (.slice none 0 0) := blkCell hbk 1 _ rfl
    have r2 : w2.cell? ⟨w.heap.size, 2, none⟩ = some (.slice none 0 0) := blkCell hbk 2 _ rfl
    have r3 : w2.cell? ⟨w.heap.size, 3, none⟩ = some (.int .i64 0) := blkCell hbk 3 _ rfl
    have g0 := blkFree hbk 0
    have g1 := blkFree hbk 1
    have g2 := blkFree hbk 2
    have g3 := blkFree hbk 3
    have hwl : w.heap.size < w2.heap.size := blkLt hbk
    have HBw : Hid (Below w.heap.size w w2) := chain (below_alloc _ _) hb2
    clear hb2
    have HS4 := set4 w2 w.heap.size (.slice none 0 0) (.slice none 0 0) (.slice none 0 0) (.int .i64 0) zM 29 rfl hbk
    have H4 : Hid (∀ WE, WE = ((((w2.setCell ⟨w.heap.size, 0, none⟩ (.slice none 0 0)).setCell ⟨w.heap.size, 1, none⟩ (.slice none 0 0)).setCell ⟨w.heap.size, 2, none⟩ (.slice none 0 0)).setCell ⟨w.heap.size, 3, none⟩ (.int .i64 0)) → WE.heap[w.heap.size]? = some (.cells #[.slice none 0 0, .slice none 0 0, .slice none 0 0, .int .i64 0] 29 (0, 0)) ∧ (∀ q, q ≠ w.heap.size → WE.heap[q]? = w2.heap[q]?) ∧ ∀ B, B ≤ w.heap.size → Below B w2 WE) := HS4
    clear hbk HS4
    go_wp2
    obtain ⟨WE, hWE⟩ : ∃ WE, WE = ((((w2.setCell ⟨w.heap.size, 0, none⟩ (.slice none 0 0)).setCell ⟨w.heap.size, 1, none⟩ (.slice none 0 0)).setCell ⟨w.heap.size, 2, none⟩ (.slice none 0 0)).setCell ⟨w.heap.size, 3, none⟩ (.int .i64 0)) := ⟨_, rfl⟩
    rw [← hWE]
    have HE4 : Hid _ := H4.out WE hWE
    have z0 : WE.cell? ⟨w.heap.size, 0, none⟩ = some (.slice none 0 0) := blkCell HE4.out.1 0 _ rfl
    have z1 : WE.cell? ⟨w.heap.size, 1, none⟩ = some (.slice none 0 0) := blkCell HE4.out.1 1 _ rfl
    have z2 : WE.cell? ⟨w.heap.size, 2, none⟩ = some (.slice none 0 0) := blkCell HE4.out.1 2 _ rfl
    have z3 : WE.cell? ⟨w.heap.size, 3, none⟩ = some (.int .i64 0) := blkCell HE4.out.1 3 _ rfl
    clear hWE
    refine bodyPost_ret (v := .tuple #[.agg #[.slice none 0 0, .slice none 0 0, .slice none 0 0, .int .i64 0], .int .i64 1]) (by simp [results, Try.results8, go_sem, z0, z1, z2, z3]) rfl ?_
    exact HNo.out _ _ (HBw.out.trans (HE4.out.2.2 _ (Nat.le_refl _)))
  · rw [mtR_yes hf, hf]
    have HSm : Hid (∀ k, k ≤ mine.length → -1000000000 * (k : Int) ≤ sumS mine k ∧ sumS mine k ≤ 1000000000 * (k : Int)) := sumS_bound (seAll_am h5)
    have HSb : Hid (∀ k, k ≤ bank.length → -1000000000 * (k : Int) ≤ sumS bank k ∧ sumS bank k ≤ 1000000000 * (k : Int)) := sumS_bound (seAll_am h6)
    generalize hmt : mtOf mine bank = mt
    have HMt : Hid (mt = ⟨(msAt mine bank mine.length).ps, (msAt mine bank mine.length).ms, bkAt (msAt mine bank mine.length).tk bank.length, sumS mine mine.length - sumS bank bank.length⟩) := hmt.symm
    clear hmt
    have hmk := fun w => run_make_row' (P := Try.prog) 53 4 (.bool false) 1 Try.underlying53 boolInfo rfl .i64 .i64 bank.length (by omega) (by omega) w
    obtain ⟨i0, hi, hzz⟩ := Option.map_eq_some_iff.1 intInfo
    simp only [Prod.mk.injEq] at hzz
    obtain ⟨hi0, hi1, hi2⟩ := hzz
    obtain ⟨j0, hj, hzy⟩ := Option.map_eq_some_iff.1 slInfo
    simp only [Prod.mk.injEq] at hzy
    obtain ⟨hj0, hj1, hj2⟩ := hzy
    have H1 : Hid _ := HOm.out _ h5
    have H2 : Hid _ := HOb.out _ h6
    clear h5 h6
    clear hf
    go_enter Try.func8, Try.ntmps8
    go_wp2_with fail
    (first | go_at_call 23 | skip)
    refine (H1.out _ (below_alloc _ _)).mono ?_
    rintro e w1 ⟨rfl, hb_w1⟩
    go_wp2_with fail
    (first | go_at_call 23 | skip)
    refine (H2.out w1 (chain (below_alloc _ _) hb_w1)).mono ?_
    rintro e w2 ⟨rfl, hb_w2⟩
    have HB2 : Hid (Below (w.alloc (Obj.cells zM 29)).heap.size (w.alloc (Obj.cells zM 29)) w2) := chain hb_w1 hb_w2
    clear hb_w1 hb_w2
    generalize hw0 : w.alloc (Obj.cells zM 29) = w0 at *
    have H0 : Hid (∀ W5, W5 = (w2.alloc (Obj.cells #[.slice none 0 0, .slice none 0 0, .slice none 0 0, .int .i64 0] 29)).alloc (Obj.cells (madeCells #[.bool false] bank.length) 4) → Mx w0 w2.heap.size (w2.heap.size + 1) bank.length (fun _ => false) [] [] [] 0 (.slice none 0 0) (.slice none 0 0) (.slice none 0 0) (fun _ => .slice none 0 0) W5) := fun W5 e => by
      have hb3 := below_alloc w2 (Obj.cells #[.slice none 0 0, .slice none 0 0, .slice none 0 0, .int .i64 0] 29)
      have hn := heapNew w2 (Obj.cells #[.slice none 0 0, .slice none 0 0, .slice none 0 0, .int .i64 0] 29)
      have hs : (w2.alloc (Obj.cells #[.slice none 0 0, .slice none 0 0, .slice none 0 0, .int .i64 0] 29)).heap.size = w2.heap.size + 1 := by simp
      generalize (w2.alloc (Obj.cells #[.slice none 0 0, .slice none 0 0, .slice none 0 0, .int .i64 0] 29)) = w3 at *
      have hb4 := below_alloc w3 (Obj.cells (madeCells #[.bool false] bank.length) 4)
      have hr := World.rowIs_made w3 (.bool false) bank.length 4
      rw [← e] at hb4 hr
      rw [hs] at hr
      have hz := HB2.out.size
      exact ⟨(hb4.block _ (by omega)).trans hn, hr, ansM_none _ _, chain HB2.out (chain hb3 hb4), hz, by omega⟩
    have HB0 : Hid (Below w.heap.size w w0 ∧ w0.heap[w.heap.size]? = some (.cells zM 29 (0, 0)) ∧ w.heap.size < w0.heap.size) := ⟨hw0 ▸ below_alloc _ _, hw0 ▸ heapNew _ _, by rw [← hw0]; simp⟩
    clear hw0
    obtain ⟨mb, hmb⟩ : ∃ mb, mb = w2.heap.size := ⟨_, rfl⟩
    go_wp2
    rw [← hmb] at H0 ⊢
    clear HB2 hmk
    generalize hW3 : ((w2.alloc (Obj.cells #[.slice none 0 0, .slice none 0 0, .slice none 0 0, .int .i64 0] 29)).alloc (Obj.cells (madeCells #[.bool false] bank.length) 4)) = W3
    rw [hW3] at H0
    have H0' := H0.out _ rfl
    have HS0 : Hid (Mx w0 mb (mb + 1) bank.length (fun _ => false) [] [] [] 0 (.slice none 0 0) (.slice none 0 0) (.slice none 0 0) (fun _ => .slice none 0 0) W3) := H0'
    clear H0 H0' hW3 hmb
    generalize mb + 1 = pb at *
    go_loopw [8, 9, 10] (fun c _ _ wr => ∃ (i : Nat) (pv mv bv : Value) (vs : Nat → Value), i ≤ mine.length ∧ c = .int .i64 (i : Int) ∧ Mx w0 mb pb bank.length (msAt mine bank i).tk (msAt mine bank i).ps (msAt mine bank i).ms [] (sumS mine i) pv mv bv vs wr) (fun c _ _ _ => mine.length - (intOf c).toNat)
    case atStart => exact ⟨0, _, _, _, _, Nat.zero_le _, rfl, HS0.out⟩
    case round =>
      clear HS0
      obtain ⟨i, pv, mv, bv, vs, hil, rfl, hM⟩ := hrel
      obtain ⟨pa, pc, rfl⟩ := row_slice hM.ans.prow
      obtain ⟨ma2, mc2, rfl⟩ := row_slice hM.ans.mrow
      obtain ⟨ba2, bc2, rfl⟩ := row_slice hM.ans.brow
      have hlen := msAt_len mine bank i
      have HMs : Hid (∀ o, firstU bank (msAt mine bank i).tk (mine.getD i zSe) = o → msAt mine bank (i + 1) = msStep o i (msAt mine bank i)) := fun o h => by rw [msAt, h]
      have HM : Hid (Mx w0 mb pb bank.length (msAt mine bank i).tk (msAt mine bank i).ps (msAt mine bank i).ms [] (sumS mine i) (.slice pa (msAt mine bank i).ps.length pc) (.slice ma2 (msAt mine bank i).ms.length mc2) (.slice ba2 0 bc2) vs wr) := hM
      have hmbl : mb < wr.heap.size := blkLt hM.box
      clear hM
      by_cases hlt : i < mine.length
      · have hlt' : (i : Int) < (mine.length : Int) := by omega
        have HBw : Hid (Below w.heap.size w wr) := chain HB0.out.1 HM.out.low
        have hs1 := HSm.out i (by omega)
        have hs2 := HSm.out (i + 1) (by omega)
        have HSn : Hid (sumS mine (i + 1) = sumS mine i + (mine.getD i zSe).am) := rfl
        rw [HSn.out] at hs2
        rcases HRm.out with h | ⟨b0, o0, ha, hB0, ia⟩
        · rw [h] at hlt; simp at hlt
        obtain ⟨c0, c1⟩ := (ia.below HBw.out hB0) i hlt
        have hb0 : b0 < wr.heap.size := Nat.lt_of_lt_of_le hB0 HBw.out.size
        subst ha
        clear ia
        generalize mine.getD i zSe = q at *
        obtain ⟨qa, qp⟩ := q
        dsimp only at c0 c1 hs2 HSn
        generalize hs0 : sumS mine i = s0 at *
        clear hs0
        have hwd : wrap64 (s0 + qp) = s0 + qp := by unfold wrap64; omega
        have hwd' : IntKind.i64.wrap (s0 + qp) = s0 + qp := wrap_id _ (by omega) (by omega)
        generalize msAt mine bank i = st at *
        obtain ⟨tk, ps, ms⟩ := st
        dsimp only at HM HMs hlen
        have HC0 : Hid (wr.cell? ⟨b0, o0 + i * 2, none⟩ = some (.string qa)) := c0
        have HC1 : Hid (wr.cell? ⟨b0, o0 + i * 2 + 1, none⟩ = some (.int .i64 qp)) := c1
        clear c0 c1
        go_wp2
        obtain ⟨wo, rfl⟩ : ∃ wo, wo = wr := ⟨_, rfl⟩
        go_loopw [9, 10] (fun at' c wq => ∃ k : Nat, k ≤ bank.length ∧ c = .int .i64 (k : Int) ∧ Below wo.heap.size wo wq ∧ ((at' = .int .i64 (-1) ∧ ∀ j, j < k → sePart ⟨qa, qp⟩ (tk j) (bank.getD j zSe) = false) ∨ ∃ j : Nat, at' = .int .i64 (j : Int) ∧ firstU bank tk ⟨qa, qp⟩ = some j)) (fun _ c _ => bank.length - (intOf c).toNat)
        case atStart => exact ⟨0, Nat.zero_le _, rfl, Below.refl _ _, .inl ⟨rfl, fun j hj => by omega⟩⟩
        case round =>
          obtain ⟨k, hkl, rfl, hbq, hcase⟩ := hrel
          obtain ⟨wq, rfl⟩ : ∃ wq, wq = wr := ⟨_, rfl⟩
          have HBq : Hid (Below wo.heap.size wo wq) := hbq
          clear hbq
          rcases hcase with ⟨rfl, hno⟩ | ⟨j, rfl, hfu⟩
          · have HF : Hid (∀ j, j < k → sePart ⟨qa, qp⟩ (tk j) (bank.getD j zSe) = false) := hno
            clear hno
            by_cases hk : k < bank.length
            · have hk' : (k : Int) < (bank.length : Int) := by omega
              rcases HRb.out with h | ⟨b1, o1, ha, hB1, ib⟩
              · rw [h] at hk; simp at hk
              obtain ⟨e0, e1⟩ := (ib.below (chain HBw.out HBq.out) hB1) k hk
              subst ha
              have HX : Hid (sePart ⟨qa, qp⟩ (tk k) (bank.getD k zSe) = true → firstU bank tk ⟨qa, qp⟩ = some k) := fun h => firstU_at hk HF.out h
              have HN : Hid (sePart ⟨qa, qp⟩ (tk k) (bank.getD k zSe) = false → ∀ j, j < k + 1 → sePart ⟨qa, qp⟩ (tk j) (bank.getD j zSe) = false) := fun h j hj => by
                by_cases e : j = k
                · rw [e]; exact h
                · exact HF.out j (by omega)
              have p0 := (HM.out.later HBq.out).par.cell hk
              generalize hbk : bank.getD k zSe = q at *
              obtain ⟨xa, xp⟩ := q
              dsimp only at e0 e1 p0
              have HQ : Hid (∀ W : World, W = wq.drew → W.cell? ⟨pb, k, none⟩ = some (.bool (tk k)) ∧ W.cell? ⟨b1, o1 + k * 2, none⟩ = some (.string xa) ∧ W.cell? ⟨b1, o1 + k * 2 + 1, none⟩ = some (.int .i64 xp) ∧ W.cell? ⟨b0, o0 + i * 2, none⟩ = some (.string qa) ∧ W.cell? ⟨b0, o0 + i * 2 + 1, none⟩ = some (.int .i64 qp)) := fun W e => by
                rw [e]
                exact ⟨p0, e0, e1, (HBq.out.cell (p := ⟨b0, o0 + i * 2, none⟩) hb0).trans HC0.out, (HBq.out.cell (p := ⟨b0, o0 + i * 2 + 1, none⟩) hb0).trans HC1.out⟩
              clear e0 e1 p0 hbk HF
              have heq := fun W => seEql_run xa qa xp qp W
              go_wp2_with fail
              rcases part_ways2 xa xp qa qp (tk k) with ⟨h1, h3⟩ | ⟨h1, h2, h3⟩ | ⟨h1, h2, h3⟩
              · rw [h1] at HQ
                clear h1
                refine wp_region_held_drew (S := fun W => W = wq.drew) (by kernel_rfl) rfl (fun hH => ?_)
                generalize hWd : wq.drew = Wd at *
                refine wpAnyH_take (i := 0) (v := .slice (some ⟨pb, 0, none⟩) bank.length bank.length) rfl (by kernel_rfl) (by kernel_rfl) (by kernel_rfl) (fun _ _ _ h => h) (Or.inl ⟨by rfl, fun w hSw => by go_simp⟩) hH ?_
                refine wpAnyH_take (i := 1) (v := .int .i64 (k : Int)) rfl (by kernel_rfl) (by kernel_rfl) (by kernel_rfl) (fun _ _ _ h => h) (Or.inl ⟨by rfl, fun w hSw => by go_simp⟩) hH ?_
                try simp only [Act.put, List.setIfInBounds_toArray, List.set_cons_zero, List.set_cons_succ, List.getElem_toArray, List.getElem_cons_succ, List.getElem_cons_zero]
                refine wpAnyH_take (i := 2) (v := .pointer (some ⟨pb, k, none⟩)) rfl (by kernel_rfl) (by kernel_rfl) (by kernel_rfl) (fun _ _ _ h => h) (Or.inl ⟨by rfl, fun w hSw => by go_simp⟩) hH ?_
                try simp only [Act.put, List.setIfInBounds_toArray, List.set_cons_zero, List.set_cons_succ, List.getElem_toArray, List.getElem_cons_succ, List.getElem_cons_zero]
                refine wpAnyH_take (i := 3) (v := .bool true) rfl (by kernel_rfl) (by kernel_rfl) (by kernel_rfl) (fun _ _ _ h => h) (Or.inl ⟨by rfl, fun w hSw => by have f0 := (HQ.out _ hSw).1; clear hSw; go_simp⟩) hH ?_
                try simp only [Act.put, List.setIfInBounds_toArray, List.set_cons_zero, List.set_cons_succ, List.getElem_toArray, List.getElem_cons_succ, List.getElem_cons_zero]
                refine wpAnyH_take (i := 4) (v := .bool false) rfl (by kernel_rfl) (by kernel_rfl) (by kernel_rfl) (fun _ _ _ h => h) (Or.inl ⟨by rfl, fun w hSw => by go_simp⟩) hH ?_
                try simp only [Act.put, List.setIfInBounds_toArray, List.set_cons_zero, List.set_cons_succ, List.getElem_toArray, List.getElem_cons_succ, List.getElem_cons_zero]
                refine wpAnyH_take (i := 5) (v := .bool false) rfl (by kernel_rfl) (by kernel_rfl) (by kernel_rfl) (fun _ _ _ h => h) (Or.inl ⟨by rfl, fun w hSw => by go_simp⟩) hH ?_
                try simp only [Act.put, List.setIfInBounds_toArray, List.set_cons_zero, List.set_cons_succ, List.getElem_toArray, List.getElem_cons_succ, List.getElem_cons_zero]
                refine wpAnyH_take (i := 6) (v := undef) rfl (by kernel_rfl) (by kernel_rfl) (by kernel_rfl) (fun _ _ _ h => h) (Or.inr ⟨by rfl, rfl⟩) hH ?_
                try simp only [Act.put, List.setIfInBounds_toArray, List.set_cons_zero, List.set_cons_succ, List.getElem_toArray, List.getElem_cons_succ, List.getElem_cons_zero]
                refine wpAnyH_take (i := 7) (v := undef) rfl (by kernel_rfl) (by kernel_rfl) (by kernel_rfl) (fun _ _ _ h => h) (Or.inr ⟨by rfl, rfl⟩) hH ?_
                try simp only [Act.put, List.setIfInBounds_toArray, List.set_cons_zero, List.set_cons_succ, List.getElem_toArray, List.getElem_cons_succ, List.getElem_cons_zero]
                refine wpAnyH_take (i := 8) (v := undef) rfl (by kernel_rfl) (by kernel_rfl) (by kernel_rfl) (fun _ _ _ h => h) (Or.inr ⟨by rfl, rfl⟩) hH ?_
                try simp only [Act.put, List.setIfInBounds_toArray, List.set_cons_zero, List.set_cons_succ, List.getElem_toArray, List.getElem_cons_succ, List.getElem_cons_zero]
                refine wpAnyH_take (i := 9) (v := undef) rfl (by kernel_rfl) (by kernel_rfl) (by kernel_rfl) (fun _ _ _ h => h) (Or.inr ⟨by rfl, rfl⟩) hH ?_
                try simp only [Act.put, List.setIfInBounds_toArray, List.set_cons_zero, List.set_cons_succ, List.getElem_toArray, List.getElem_cons_succ, List.getElem_cons_zero]
                refine wpAnyH_take (i := 10) (v := undef) rfl (by kernel_rfl) (by kernel_rfl) (by kernel_rfl) (fun _ _ _ h => h) (Or.inr ⟨by rfl, rfl⟩) hH ?_
                try simp only [Act.put, List.setIfInBounds_toArray, List.set_cons_zero, List.set_cons_succ, List.getElem_toArray, List.getElem_cons_succ, List.getElem_cons_zero]
                refine wpAnyH_take (i := 11) (v := undef) rfl (by kernel_rfl) (by kernel_rfl) (by kernel_rfl) (fun _ _ _ h => h) (Or.inr ⟨by rfl, rfl⟩) hH ?_
                try simp only [Act.put, List.setIfInBounds_toArray, List.set_cons_zero, List.set_cons_succ, List.getElem_toArray, List.getElem_cons_succ, List.getElem_cons_zero]
                refine wpAnyH_take (i := 12) (v := undef) rfl (by kernel_rfl) (by kernel_rfl) (by kernel_rfl) (fun _ _ _ h => h) (Or.inr ⟨by rfl, rfl⟩) hH ?_
                try simp only [Act.put, List.setIfInBounds_toArray, List.set_cons_zero, List.set_cons_succ, List.getElem_toArray, List.getElem_cons_succ, List.getElem_cons_zero]
                refine wpAnyH_take (i := 13) (v := undef) rfl (by kernel_rfl) (by kernel_rfl) (by kernel_rfl) (fun _ _ _ h => h) (Or.inr ⟨by rfl, rfl⟩) hH ?_
                try simp only [Act.put, List.setIfInBounds_toArray, List.set_cons_zero, List.set_cons_succ, List.getElem_toArray, List.getElem_cons_succ, List.getElem_cons_zero]
                refine wpAnyH_take (i := 14) (v := undef) rfl (by kernel_rfl) (by kernel_rfl) (by kernel_rfl) (fun _ _ _ h => h) (Or.inr ⟨by rfl, rfl⟩) hH ?_
                try simp only [Act.put, List.setIfInBounds_toArray, List.set_cons_zero, List.set_cons_succ, List.getElem_toArray, List.getElem_cons_succ, List.getElem_cons_zero]
                refine wpAnyH_take (i := 15) (v := .bool false) rfl (by kernel_rfl) (by kernel_rfl) (by kernel_rfl) (fun _ _ _ h => h) (Or.inl ⟨by rfl, fun w hSw => by go_simp⟩) hH ?_
                try simp only [Act.put, List.setIfInBounds_toArray, List.set_cons_zero, List.set_cons_succ, List.getElem_toArray, List.getElem_cons_succ, List.getElem_cons_zero]
                refine wpAnyH_done (by kernel_rfl) ?_ _
                have HBd : Hid (Below wo.heap.size wo Wd) := by rw [← hWd]; exact chain HBq.out (below_drew _)
                clear hH hWd HQ
                go_wp2
                exact ⟨⟨k + 1, by omega, by go_num, HBd.out, .inl ⟨rfl, HN.out h3⟩⟩, by simp [intOf]; omega⟩
              · rw [h1] at HQ
                rw [h2] at heq
                clear h1 h2
                refine wp_region_held_drew (S := fun W => W = wq.drew) (by kernel_rfl) rfl (fun hH => ?_)
                generalize hWd : wq.drew = Wd at *
                refine wpAnyH_take (i := 0) (v := .slice (some ⟨pb, 0, none⟩) bank.length bank.length) rfl (by kernel_rfl) (by kernel_rfl) (by kernel_rfl) (fun _ _ _ h => h) (Or.inl ⟨by rfl, fun w hSw => by go_simp⟩) hH ?_
                refine wpAnyH_take (i := 1) (v := .int .i64 (k : Int)) rfl (by kernel_rfl) (by kernel_rfl) (by kernel_rfl) (fun _ _ _ h => h) (Or.inl ⟨by rfl, fun w hSw => by go_simp⟩) hH ?_
                try simp only [Act.put, List.setIfInBounds_toArray, List.set_cons_zero, List.set_cons_succ, List.getElem_toArray, List.getElem_cons_succ, List.getElem_cons_zero]
                refine wpAnyH_take (i := 2) (v := .pointer (some ⟨pb, k, none⟩)) rfl (by kernel_rfl) (by kernel_rfl) (by kernel_rfl) (fun _ _ _ h => h) (Or.inl ⟨by rfl, fun w hSw => by go_simp⟩) hH ?_
                try simp only [Act.put, List.setIfInBounds_toArray, List.set_cons_zero, List.set_cons_succ, List.getElem_toArray, List.getElem_cons_succ, List.getElem_cons_zero]
                refine wpAnyH_take (i := 3) (v := .bool false) rfl (by kernel_rfl) (by kernel_rfl) (by kernel_rfl) (fun _ _ _ h => h) (Or.inl ⟨by rfl, fun w hSw => by have f0 := (HQ.out _ hSw).1; clear hSw; go_simp⟩) hH ?_
                try simp only [Act.put, List.setIfInBounds_toArray, List.set_cons_zero, List.set_cons_succ, List.getElem_toArray, List.getElem_cons_succ, List.getElem_cons_zero]
                refine wpAnyH_take (i := 4) (v := .bool true) rfl (by kernel_rfl) (by kernel_rfl) (by kernel_rfl) (fun _ _ _ h => h) (Or.inl ⟨by rfl, fun w hSw => by go_simp⟩) hH ?_
                try simp only [Act.put, List.setIfInBounds_toArray, List.set_cons_zero, List.set_cons_succ, List.getElem_toArray, List.getElem_cons_succ, List.getElem_cons_zero]
                refine wpAnyH_take (i := 5) (v := .bool true) rfl (by kernel_rfl) (by kernel_rfl) (by kernel_rfl) (fun _ _ _ h => h) (Or.inl ⟨by rfl, fun w hSw => by go_simp⟩) hH ?_
                try simp only [Act.put, List.setIfInBounds_toArray, List.set_cons_zero, List.set_cons_succ, List.getElem_toArray, List.getElem_cons_succ, List.getElem_cons_zero]
                refine wpAnyH_take (i := 6) (v := .slice (some ⟨b1, o1, none⟩) bank.length bc) rfl (by kernel_rfl) (by kernel_rfl) (by kernel_rfl) (fun _ _ _ h => h) (Or.inl ⟨by rfl, fun w hSw => by go_simp⟩) hH ?_
                try simp only [Act.put, List.setIfInBounds_toArray, List.set_cons_zero, List.set_cons_succ, List.getElem_toArray, List.getElem_cons_succ, List.getElem_cons_zero]
                refine wpAnyH_take (i := 7) (v := .int .i64 (k : Int)) rfl (by kernel_rfl) (by kernel_rfl) (by kernel_rfl) (fun _ _ _ h => h) (Or.inl ⟨by rfl, fun w hSw => by go_simp⟩) hH ?_
                try simp only [Act.put, List.setIfInBounds_toArray, List.set_cons_zero, List.set_cons_succ, List.getElem_toArray, List.getElem_cons_succ, List.getElem_cons_zero]
                refine wpAnyH_take (i := 8) (v := .pointer (some ⟨b1, o1 + k * 2, none⟩)) rfl (by kernel_rfl) (by kernel_rfl) (by kernel_rfl) (fun _ _ _ h => h) (Or.inl ⟨by rfl, fun w hSw => by go_simp⟩) hH ?_
                try simp only [Act.put, List.setIfInBounds_toArray, List.set_cons_zero, List.set_cons_succ, List.getElem_toArray, List.getElem_cons_succ, List.getElem_cons_zero]
                refine wpAnyH_take (i := 9) (v := .agg #[.string xa, .int .i64 xp]) rfl (by kernel_rfl) (by kernel_rfl) (by kernel_rfl) (fun _ _ _ h => h) (Or.inl ⟨by rfl, fun w hSw => by have f0 := (HQ.out _ hSw).2.1; have f1 := (HQ.out _ hSw).2.2.1; clear hSw; go_simp⟩) hH ?_
                try simp only [Act.put, List.setIfInBounds_toArray, List.set_cons_zero, List.set_cons_succ, List.getElem_toArray, List.getElem_cons_succ, List.getElem_cons_zero]
                refine wpAnyH_take (i := 10) (v := .slice (some ⟨b0, o0, none⟩) mine.length mc) rfl (by kernel_rfl) (by kernel_rfl) (by kernel_rfl) (fun _ _ _ h => h) (Or.inl ⟨by rfl, fun w hSw => by go_simp⟩) hH ?_
                try simp only [Act.put, List.setIfInBounds_toArray, List.set_cons_zero, List.set_cons_succ, List.getElem_toArray, List.getElem_cons_succ, List.getElem_cons_zero]
                refine wpAnyH_take (i := 11) (v := .int .i64 (i : Int)) rfl (by kernel_rfl) (by kernel_rfl) (by kernel_rfl) (fun _ _ _ h => h) (Or.inl ⟨by rfl, fun w hSw => by go_simp⟩) hH ?_
                try simp only [Act.put, List.setIfInBounds_toArray, List.set_cons_zero, List.set_cons_succ, List.getElem_toArray, List.getElem_cons_succ, List.getElem_cons_zero]
                refine wpAnyH_take (i := 12) (v := .pointer (some ⟨b0, o0 + i * 2, none⟩)) rfl (by kernel_rfl) (by kernel_rfl) (by kernel_rfl) (fun _ _ _ h => h) (Or.inl ⟨by rfl, fun w hSw => by go_simp⟩) hH ?_
                try simp only [Act.put, List.setIfInBounds_toArray, List.set_cons_zero, List.set_cons_succ, List.getElem_toArray, List.getElem_cons_succ, List.getElem_cons_zero]
                refine wpAnyH_take (i := 13) (v := .agg #[.string qa, .int .i64 qp]) rfl (by kernel_rfl) (by kernel_rfl) (by kernel_rfl) (fun _ _ _ h => h) (Or.inl ⟨by rfl, fun w hSw => by have f0 := (HQ.out _ hSw).2.2.2.1; have f1 := (HQ.out _ hSw).2.2.2.2; clear hSw; go_simp⟩) hH ?_
                try simp only [Act.put, List.setIfInBounds_toArray, List.set_cons_zero, List.set_cons_succ, List.getElem_toArray, List.getElem_cons_succ, List.getElem_cons_zero]
                refine wpAnyH_take (i := 14) (v := .bool false) rfl (by kernel_rfl) (by kernel_rfl) (by kernel_rfl) (fun _ _ _ h => h) (Or.inl ⟨by rfl, fun w hSw => by have f0 := heq w; clear hSw; go_simp⟩) hH ?_
                try simp only [Act.put, List.setIfInBounds_toArray, List.set_cons_zero, List.set_cons_succ, List.getElem_toArray, List.getElem_cons_succ, List.getElem_cons_zero]
                refine wpAnyH_take (i := 15) (v := .bool false) rfl (by kernel_rfl) (by kernel_rfl) (by kernel_rfl) (fun _ _ _ h => h) (Or.inl ⟨by rfl, fun w hSw => by go_simp⟩) hH ?_
                try simp only [Act.put, List.setIfInBounds_toArray, List.set_cons_zero, List.set_cons_succ, List.getElem_toArray, List.getElem_cons_succ, List.getElem_cons_zero]
                refine wpAnyH_done (by kernel_rfl) ?_ _
                have HBd : Hid (Below wo.heap.size wo Wd) := by rw [← hWd]; exact chain HBq.out (below_drew _)
                clear hH hWd HQ
                go_wp2
                exact ⟨⟨k + 1, by omega, by go_num, HBd.out, .inl ⟨rfl, HN.out h3⟩⟩, by simp [intOf]; omega⟩
              · rw [h1] at HQ
                rw [h2] at heq
                clear h1 h2
                refine wp_region_held_drew (S := fun W => W = wq.drew) (by kernel_rfl) rfl (fun hH => ?_)
                generalize hWd : wq.drew = Wd at *
                refine wpAnyH_take (i := 0) (v := .slice (some ⟨pb, 0, none⟩) bank.length bank.length) rfl (by kernel_rfl) (by kernel_rfl) (by kernel_rfl) (fun _ _ _ h => h) (Or.inl ⟨by rfl, fun w hSw => by go_simp⟩) hH ?_
                refine wpAnyH_take (i := 1) (v := .int .i64 (k : Int)) rfl (by kernel_rfl) (by kernel_rfl) (by kernel_rfl) (fun _ _ _ h => h) (Or.inl ⟨by rfl, fun w hSw => by go_simp⟩) hH ?_
                try simp only [Act.put, List.setIfInBounds_toArray, List.set_cons_zero, List.set_cons_succ, List.getElem_toArray, List.getElem_cons_succ, List.getElem_cons_zero]
                refine wpAnyH_take (i := 2) (v := .pointer (some ⟨pb, k, none⟩)) rfl (by kernel_rfl) (by kernel_rfl) (by kernel_rfl) (fun _ _ _ h => h) (Or.inl ⟨by rfl, fun w hSw => by go_simp⟩) hH ?_
                try simp only [Act.put, List.setIfInBounds_toArray, List.set_cons_zero, List.set_cons_succ, List.getElem_toArray, List.getElem_cons_succ, List.getElem_cons_zero]
                refine wpAnyH_take (i := 3) (v := .bool false) rfl (by kernel_rfl) (by kernel_rfl) (by kernel_rfl) (fun _ _ _ h => h) (Or.inl ⟨by rfl, fun w hSw => by have f0 := (HQ.out _ hSw).1; clear hSw; go_simp⟩) hH ?_
                try simp only [Act.put, List.setIfInBounds_toArray, List.set_cons_zero, List.set_cons_succ, List.getElem_toArray, List.getElem_cons_succ, List.getElem_cons_zero]
                refine wpAnyH_take (i := 4) (v := .bool true) rfl (by kernel_rfl) (by kernel_rfl) (by kernel_rfl) (fun _ _ _ h => h) (Or.inl ⟨by rfl, fun w hSw => by go_simp⟩) hH ?_
                try simp only [Act.put, List.setIfInBounds_toArray, List.set_cons_zero, List.set_cons_succ, List.getElem_toArray, List.getElem_cons_succ, List.getElem_cons_zero]
                refine wpAnyH_take (i := 5) (v := .bool true) rfl (by kernel_rfl) (by kernel_rfl) (by kernel_rfl) (fun _ _ _ h => h) (Or.inl ⟨by rfl, fun w hSw => by go_simp⟩) hH ?_
                try simp only [Act.put, List.setIfInBounds_toArray, List.set_cons_zero, List.set_cons_succ, List.getElem_toArray, List.getElem_cons_succ, List.getElem_cons_zero]
                refine wpAnyH_take (i := 6) (v := .slice (some ⟨b1, o1, none⟩) bank.length bc) rfl (by kernel_rfl) (by kernel_rfl) (by kernel_rfl) (fun _ _ _ h => h) (Or.inl ⟨by rfl, fun w hSw => by go_simp⟩) hH ?_
                try simp only [Act.put, List.setIfInBounds_toArray, List.set_cons_zero, List.set_cons_succ, List.getElem_toArray, List.getElem_cons_succ, List.getElem_cons_zero]
                refine wpAnyH_take (i := 7) (v := .int .i64 (k : Int)) rfl (by kernel_rfl) (by kernel_rfl) (by kernel_rfl) (fun _ _ _ h => h) (Or.inl ⟨by rfl, fun w hSw => by go_simp⟩) hH ?_
                try simp only [Act.put, List.setIfInBounds_toArray, List.set_cons_zero, List.set_cons_succ, List.getElem_toArray, List.getElem_cons_succ, List.getElem_cons_zero]
                refine wpAnyH_take (i := 8) (v := .pointer (some ⟨b1, o1 + k * 2, none⟩)) rfl (by kernel_rfl) (by kernel_rfl) (by kernel_rfl) (fun _ _ _ h => h) (Or.inl ⟨by rfl, fun w hSw => by go_simp⟩) hH ?_
                try simp only [Act.put, List.setIfInBounds_toArray, List.set_cons_zero, List.set_cons_succ, List.getElem_toArray, List.getElem_cons_succ, List.getElem_cons_zero]
                refine wpAnyH_take (i := 9) (v := .agg #[.string xa, .int .i64 xp]) rfl (by kernel_rfl) (by kernel_rfl) (by kernel_rfl) (fun _ _ _ h => h) (Or.inl ⟨by rfl, fun w hSw => by have f0 := (HQ.out _ hSw).2.1; have f1 := (HQ.out _ hSw).2.2.1; clear hSw; go_simp⟩) hH ?_
                try simp only [Act.put, List.setIfInBounds_toArray, List.set_cons_zero, List.set_cons_succ, List.getElem_toArray, List.getElem_cons_succ, List.getElem_cons_zero]
                refine wpAnyH_take (i := 10) (v := .slice (some ⟨b0, o0, none⟩) mine.length mc) rfl (by kernel_rfl) (by kernel_rfl) (by kernel_rfl) (fun _ _ _ h => h) (Or.inl ⟨by rfl, fun w hSw => by go_simp⟩) hH ?_
                try simp only [Act.put, List.setIfInBounds_toArray, List.set_cons_zero, List.set_cons_succ, List.getElem_toArray, List.getElem_cons_succ, List.getElem_cons_zero]
                refine wpAnyH_take (i := 11) (v := .int .i64 (i : Int)) rfl (by kernel_rfl) (by kernel_rfl) (by kernel_rfl) (fun _ _ _ h => h) (Or.inl ⟨by rfl, fun w hSw => by go_simp⟩) hH ?_
                try simp only [Act.put, List.setIfInBounds_toArray, List.set_cons_zero, List.set_cons_succ, List.getElem_toArray, List.getElem_cons_succ, List.getElem_cons_zero]
                refine wpAnyH_take (i := 12) (v := .pointer (some ⟨b0, o0 + i * 2, none⟩)) rfl (by kernel_rfl) (by kernel_rfl) (by kernel_rfl) (fun _ _ _ h => h) (Or.inl ⟨by rfl, fun w hSw => by go_simp⟩) hH ?_
                try simp only [Act.put, List.setIfInBounds_toArray, List.set_cons_zero, List.set_cons_succ, List.getElem_toArray, List.getElem_cons_succ, List.getElem_cons_zero]
                refine wpAnyH_take (i := 13) (v := .agg #[.string qa, .int .i64 qp]) rfl (by kernel_rfl) (by kernel_rfl) (by kernel_rfl) (fun _ _ _ h => h) (Or.inl ⟨by rfl, fun w hSw => by have f0 := (HQ.out _ hSw).2.2.2.1; have f1 := (HQ.out _ hSw).2.2.2.2; clear hSw; go_simp⟩) hH ?_
                try simp only [Act.put, List.setIfInBounds_toArray, List.set_cons_zero, List.set_cons_succ, List.getElem_toArray, List.getElem_cons_succ, List.getElem_cons_zero]
                refine wpAnyH_take (i := 14) (v := .bool true) rfl (by kernel_rfl) (by kernel_rfl) (by kernel_rfl) (fun _ _ _ h => h) (Or.inl ⟨by rfl, fun w hSw => by have f0 := heq w; clear hSw; go_simp⟩) hH ?_
                try simp only [Act.put, List.setIfInBounds_toArray, List.set_cons_zero, List.set_cons_succ, List.getElem_toArray, List.getElem_cons_succ, List.getElem_cons_zero]
                refine wpAnyH_take (i := 15) (v := .bool true) rfl (by kernel_rfl) (by kernel_rfl) (by kernel_rfl) (fun _ _ _ h => h) (Or.inl ⟨by rfl, fun w hSw => by go_simp⟩) hH ?_
                try simp only [Act.put, List.setIfInBounds_toArray, List.set_cons_zero, List.set_cons_succ, List.getElem_toArray, List.getElem_cons_succ, List.getElem_cons_zero]
                refine wpAnyH_done (by kernel_rfl) ?_ _
                have HBd : Hid (Below wo.heap.size wo Wd) := by rw [← hWd]; exact chain HBq.out (below_drew _)
                clear hH hWd HQ
                go_wp2
                exact ⟨⟨k + 1, by omega, by go_num, HBd.out, .inr ⟨k, rfl, HX.out h3⟩⟩, by simp [intOf]; omega⟩
            · have hk' : (bank.length : Int) ≤ (k : Int) := by omega
              have HNx : Hid (msAt mine bank (i + 1) = msStep none i ⟨tk, ps, ms⟩) := HMs.out none (firstU_none (fun j hj => HF.out j (by omega)))
              clear HMs HF
              have HMd : Hid (Mx w0 mb pb bank.length tk ps ms [] s0 (.slice pa ps.length pc) (.slice ma2 ms.length mc2) (.slice ba2 0 bc2) vs wq.drew) := (HM.out.later HBq.out).later (below_drew _)
              have HDf : Hid (∀ W, W = wq.drew → Mx w0 mb pb bank.length tk ps ms [] s0 (.slice pa ps.length pc) (.slice ma2 ms.length mc2) (.slice ba2 0 bc2) vs W) := fun W e => by rw [e]; exact HMd.out
              have HQ : Hid (∀ W : World, W = wq.drew → W.cell? ⟨mb, 3, none⟩ = some (.int .i64 s0) ∧ W.cell? ⟨b0, o0 + i * 2 + 1, none⟩ = some (.int .i64 qp)) := fun W e => by
                rw [e]
                exact ⟨blkCell HMd.out.box 3 _ rfl, (HBq.out.cell (p := ⟨b0, o0 + i * 2 + 1, none⟩) hb0).trans HC1.out⟩
              go_wp2_with fail
              refine wp_region_z (S := fun W => W = wq.drew) 9 (by kernel_rfl) rfl (fun hH => ?_)
              generalize wq.drew = Wd at *
              refine wpAnyZ_take (i := 0) (v := .pointer (some ⟨mb, 3, none⟩)) rfl (by kernel_rfl) (by kernel_rfl) (by kernel_rfl) (by kernel_rfl) (fun _ _ _ h => h) (Or.inl ⟨by rfl, fun w hSw => by go_simp⟩) hH ?_
              refine wpAnyZ_take (i := 1) (v := .int .i64 s0) rfl (by kernel_rfl) (by kernel_rfl) (by kernel_rfl) (by kernel_rfl) (fun _ _ _ h => h) (Or.inl ⟨by rfl, fun w hSw => by have f0 := (HQ.out w hSw).1; clear hSw; go_simp⟩) hH ?_
              try simp only [Act.put, List.setIfInBounds_toArray, List.set_cons_zero, List.set_cons_succ, List.getElem_toArray, List.getElem_cons_succ, List.getElem_cons_zero]
              refine wpAnyZ_take (i := 2) (v := .slice (some ⟨b0, o0, none⟩) mine.length mc) rfl (by kernel_rfl) (by kernel_rfl) (by kernel_rfl) (by kernel_rfl) (fun _ _ _ h => h) (Or.inl ⟨by rfl, fun w hSw => by go_simp⟩) hH ?_
              try simp only [Act.put, List.setIfInBounds_toArray, List.set_cons_zero, List.set_cons_succ, List.getElem_toArray, List.getElem_cons_succ, List.getElem_cons_zero]
              refine wpAnyZ_take (i := 3) (v := .int .i64 (i : Int)) rfl (by kernel_rfl) (by kernel_rfl) (by kernel_rfl) (by kernel_rfl) (fun _ _ _ h => h) (Or.inl ⟨by rfl, fun w hSw => by go_simp⟩) hH ?_
              try simp only [Act.put, List.setIfInBounds_toArray, List.set_cons_zero, List.set_cons_succ, List.getElem_toArray, List.getElem_cons_succ, List.getElem_cons_zero]
              refine wpAnyZ_take (i := 4) (v := .pointer (some ⟨b0, o0 + i * 2, none⟩)) rfl (by kernel_rfl) (by kernel_rfl) (by kernel_rfl) (by kernel_rfl) (fun _ _ _ h => h) (Or.inl ⟨by rfl, fun w hSw => by go_simp⟩) hH ?_
              try simp only [Act.put, List.setIfInBounds_toArray, List.set_cons_zero, List.set_cons_succ, List.getElem_toArray, List.getElem_cons_succ, List.getElem_cons_zero]
              refine wpAnyZ_take (i := 5) (v := .pointer (some ⟨b0, o0 + i * 2 + 1, none⟩)) rfl (by kernel_rfl) (by kernel_rfl) (by kernel_rfl) (by kernel_rfl) (fun _ _ _ h => h) (Or.inl ⟨by rfl, fun w hSw => by go_simp⟩) hH ?_
              try simp only [Act.put, List.setIfInBounds_toArray, List.set_cons_zero, List.set_cons_succ, List.getElem_toArray, List.getElem_cons_succ, List.getElem_cons_zero]
              refine wpAnyZ_take (i := 6) (v := .int .i64 qp) rfl (by kernel_rfl) (by kernel_rfl) (by kernel_rfl) (by kernel_rfl) (fun _ _ _ h => h) (Or.inl ⟨by rfl, fun w hSw => by have f0 := (HQ.out w hSw).2; clear hSw; go_simp⟩) hH ?_
              try simp only [Act.put, List.setIfInBounds_toArray, List.set_cons_zero, List.set_cons_succ, List.getElem_toArray, List.getElem_cons_succ, List.getElem_cons_zero]
              refine wpAnyZ_take (i := 7) (v := .int .i64 (s0 + qp)) rfl (by kernel_rfl) (by kernel_rfl) (by kernel_rfl) (by kernel_rfl) (fun _ _ _ h => h) (Or.inl ⟨by rfl, fun w hSw => by go_simp⟩) hH ?_
              try simp only [Act.put, List.setIfInBounds_toArray, List.set_cons_zero, List.set_cons_succ, List.getElem_toArray, List.getElem_cons_succ, List.getElem_cons_zero]
              refine wpAnyZ_take (i := 8) (v := .pointer (some ⟨mb, 3, none⟩)) rfl (by kernel_rfl) (by kernel_rfl) (by kernel_rfl) (by kernel_rfl) (fun _ _ _ h => h) (Or.inl ⟨by rfl, fun w hSw => by go_simp⟩) hH ?_
              try simp only [Act.put, List.setIfInBounds_toArray, List.set_cons_zero, List.set_cons_succ, List.getElem_toArray, List.getElem_cons_succ, List.getElem_cons_zero]
              refine wpAnyZ_ready (rs := [9]) (by kernel_rfl) (by simp) ?_
              refine AllReadyZ.cons rfl (fun K hK => ?_) AllReadyZ.nil
              have f3 := (HQ.out _ rfl).1
              have f4 := blkFree (HDf.out _ rfl).box 3
              go_simp
              refine hK.out _ _ (Or.inl rfl) (fun _ => ?_)
              clear hK K
              try simp only [Act.put, List.setIfInBounds_toArray, List.set_cons_zero, List.set_cons_succ, List.getElem_toArray, List.getElem_cons_succ, List.getElem_cons_zero]
              refine wpAnyZ_done (by kernel_rfl) ?_ _
              have HMx : Hid (Mx w0 mb pb bank.length tk ps ms [] (s0 + qp) (.slice pa ps.length pc) (.slice ma2 ms.length mc2) (.slice ba2 0 bc2) vs (Wd.setCell ⟨mb, 3, none⟩ (.int .i64 (s0 + qp)))) := HMd.out.diff _
              clear hH HQ HDf HMd f3 f4
              generalize Wd.setCell ⟨mb, 3, none⟩ (.int .i64 (s0 + qp)) = w3 at *
              have hmbl3 : mb < w3.heap.size := blkLt HMx.out.box
              have HE : Hid (msAt mine bank (i + 1) = ⟨tk, ps, ms ++ [i]⟩) := HNx.out
              have y1 : w3.cell? ⟨mb, 1, none⟩ = some (.slice ma2 ms.length mc2) := blkCell HMx.out.box 1 _ rfl
              have HM4 : Hid (Mx w0 mb pb bank.length tk ps ms [] (s0 + qp) (.slice pa ps.length pc) (.slice ma2 ms.length mc2) (.slice ba2 0 bc2) vs (w3.alloc (Obj.cells #[.int .i64 (i : Int)] 3))) := HMx.out.later (below_alloc _ _)
              have hB4 : w0.heap.size ≤ (w3.alloc (Obj.cells #[.int .i64 (i : Int)] 3)).heap.size := HM4.out.low.size
              clear HNx HM
              go_wp2_with (at_builtin; refine wpList_append_any rfl _ _ 27 rfl w0.heap.size 3 i0 (.int .i64 0) 1 8 Try.underlying27 hi hi0 hi1 hi2 rfl (by decide) _ _ _ rfl HM4.out.ans.mrow (some ⟨w3.heap.size, 0, none⟩) 1 1 [nV i] rfl rfl (fun _ => ⟨_, rfl, newsOne w3 _ _⟩) (by intro u hu; simp at hu; subst hu; rfl) (by unfold maxLen; omega) (by omega) hB4 ?_; intro va vc w5 hown hgr hat; have HT : Hid _ := HM4.out.addM hown hgr hat; have z1 := blkCell HT.out.1 1 _ rfl; have f1 := blkFree HT.out.1 1; clear hown hgr hat)
              exact ⟨⟨i + 1, _, _, _, _, by omega, by go_num, by rw [HE.out, HSn.out]; exact HT.out.2⟩, by simp [intOf]; omega⟩
          · have hjl := (firstU_some hfu).1
            have HNx : Hid (msAt mine bank (i + 1) = msStep (some j) i ⟨tk, ps, ms⟩) := HMs.out (some j) hfu
            clear HMs hfu
            have hjn : ¬ ((j : Int) < 0) := by omega
            by_cases hk : (k : Int) < (bank.length : Int)
            · skip
              have HMd : Hid (Mx w0 mb pb bank.length tk ps ms [] s0 (.slice pa ps.length pc) (.slice ma2 ms.length mc2) (.slice ba2 0 bc2) vs wq.drew) := (HM.out.later HBq.out).later (below_drew _)
              have HDf : Hid (∀ W, W = wq.drew → Mx w0 mb pb bank.length tk ps ms [] s0 (.slice pa ps.length pc) (.slice ma2 ms.length mc2) (.slice ba2 0 bc2) vs W) := fun W e => by rw [e]; exact HMd.out
              have HQ : Hid (∀ W : World, W = wq.drew → W.cell? ⟨mb, 3, none⟩ = some (.int .i64 s0) ∧ W.cell? ⟨b0, o0 + i * 2 + 1, none⟩ = some (.int .i64 qp)) := fun W e => by
                rw [e]
                exact ⟨blkCell HMd.out.box 3 _ rfl, (HBq.out.cell (p := ⟨b0, o0 + i * 2 + 1, none⟩) hb0).trans HC1.out⟩
              go_wp2_with fail
              refine wp_region_z (S := fun W => W = wq.drew) 9 (by kernel_rfl) rfl (fun hH => ?_)
              generalize wq.drew = Wd at *
              refine wpAnyZ_take (i := 0) (v := .pointer (some ⟨mb, 3, none⟩)) rfl (by kernel_rfl) (by kernel_rfl) (by kernel_rfl) (by kernel_rfl) (fun _ _ _ h => h) (Or.inl ⟨by rfl, fun w hSw => by go_simp⟩) hH ?_
              refine wpAnyZ_take (i := 1) (v := .int .i64 s0) rfl (by kernel_rfl) (by kernel_rfl) (by kernel_rfl) (by kernel_rfl) (fun _ _ _ h => h) (Or.inl ⟨by rfl, fun w hSw => by have f0 := (HQ.out w hSw).1; clear hSw; go_simp⟩) hH ?_
              try simp only [Act.put, List.setIfInBounds_toArray, List.set_cons_zero, List.set_cons_succ, List.getElem_toArray, List.getElem_cons_succ, List.getElem_cons_zero]
              refine wpAnyZ_take (i := 2) (v := .slice (some ⟨b0, o0, none⟩) mine.length mc) rfl (by kernel_rfl) (by kernel_rfl) (by kernel_rfl) (by kernel_rfl) (fun _ _ _ h => h) (Or.inl ⟨by rfl, fun w hSw => by go_simp⟩) hH ?_
              try simp only [Act.put, List.setIfInBounds_toArray, List.set_cons_zero, List.set_cons_succ, List.getElem_toArray, List.getElem_cons_succ, List.getElem_cons_zero]
              refine wpAnyZ_take (i := 3) (v := .int .i64 (i : Int)) rfl (by kernel_rfl) (by kernel_rfl) (by kernel_rfl) (by kernel_rfl) (fun _ _ _ h => h) (Or.inl ⟨by rfl, fun w hSw => by go_simp⟩) hH ?_
              try simp only [Act.put, List.setIfInBounds_toArray, List.set_cons_zero, List.set_cons_succ, List.getElem_toArray, List.getElem_cons_succ, List.getElem_cons_zero]
              refine wpAnyZ_take (i := 4) (v := .pointer (some ⟨b0, o0 + i * 2, none⟩)) rfl (by kernel_rfl) (by kernel_rfl) (by kernel_rfl) (by kernel_rfl) (fun _ _ _ h => h) (Or.inl ⟨by rfl, fun w hSw => by go_simp⟩) hH ?_
              try simp only [Act.put, List.setIfInBounds_toArray, List.set_cons_zero, List.set_cons_succ, List.getElem_toArray, List.getElem_cons_succ, List.getElem_cons_zero]
              refine wpAnyZ_take (i := 5) (v := .pointer (some ⟨b0, o0 + i * 2 + 1, none⟩)) rfl (by kernel_rfl) (by kernel_rfl) (by kernel_rfl) (by kernel_rfl) (fun _ _ _ h => h) (Or.inl ⟨by rfl, fun w hSw => by go_simp⟩) hH ?_
              try simp only [Act.put, List.setIfInBounds_toArray, List.set_cons_zero, List.set_cons_succ, List.getElem_toArray, List.getElem_cons_succ, List.getElem_cons_zero]
              refine wpAnyZ_take (i := 6) (v := .int .i64 qp) rfl (by kernel_rfl) (by kernel_rfl) (by kernel_rfl) (by kernel_rfl) (fun _ _ _ h => h) (Or.inl ⟨by rfl, fun w hSw => by have f0 := (HQ.out w hSw).2; clear hSw; go_simp⟩) hH ?_
              try simp only [Act.put, List.setIfInBounds_toArray, List.set_cons_zero, List.set_cons_succ, List.getElem_toArray, List.getElem_cons_succ, List.getElem_cons_zero]
              refine wpAnyZ_take (i := 7) (v := .int .i64 (s0 + qp)) rfl (by kernel_rfl) (by kernel_rfl) (by kernel_rfl) (by kernel_rfl) (fun _ _ _ h => h) (Or.inl ⟨by rfl, fun w hSw => by go_simp⟩) hH ?_
              try simp only [Act.put, List.setIfInBounds_toArray, List.set_cons_zero, List.set_cons_succ, List.getElem_toArray, List.getElem_cons_succ, List.getElem_cons_zero]
              refine wpAnyZ_take (i := 8) (v := .pointer (some ⟨mb, 3, none⟩)) rfl (by kernel_rfl) (by kernel_rfl) (by kernel_rfl) (by kernel_rfl) (fun _ _ _ h => h) (Or.inl ⟨by rfl, fun w hSw => by go_simp⟩) hH ?_
              try simp only [Act.put, List.setIfInBounds_toArray, List.set_cons_zero, List.set_cons_succ, List.getElem_toArray, List.getElem_cons_succ, List.getElem_cons_zero]
              refine wpAnyZ_ready (rs := [9]) (by kernel_rfl) (by simp) ?_
              refine AllReadyZ.cons rfl (fun K hK => ?_) AllReadyZ.nil
              have f3 := (HQ.out _ rfl).1
              have f4 := blkFree (HDf.out _ rfl).box 3
              go_simp
              refine hK.out _ _ (Or.inl rfl) (fun _ => ?_)
              clear hK K
              try simp only [Act.put, List.setIfInBounds_toArray, List.set_cons_zero, List.set_cons_succ, List.getElem_toArray, List.getElem_cons_succ, List.getElem_cons_zero]
              refine wpAnyZ_done (by kernel_rfl) ?_ _
              have HMx : Hid (Mx w0 mb pb bank.length tk ps ms [] (s0 + qp) (.slice pa ps.length pc) (.slice ma2 ms.length mc2) (.slice ba2 0 bc2) vs (Wd.setCell ⟨mb, 3, none⟩ (.int .i64 (s0 + qp)))) := HMd.out.diff _
              clear hH HQ HDf HMd f3 f4
              generalize Wd.setCell ⟨mb, 3, none⟩ (.int .i64 (s0 + qp)) = w3 at *
              have hmbl3 : mb < w3.heap.size := blkLt HMx.out.box
              have HE : Hid (msAt mine bank (i + 1) = ⟨fun q => if q = j then true else tk q, ps ++ [(i, j)], ms⟩) := HNx.out
              have hj0' : ¬ ((j : Int) < 0) := by omega
              have hjl' : (j : Int) < (bank.length : Int) := by omega
              have hjl'' : (0 : Int) ≤ (j : Int) := by omega
              have p0 := HMx.out.par.cell hjl
              have pf := HMx.out.par.frozen j
              have hpl : pb < w3.heap.size := HMx.out.par.lt
              have y0 : w3.cell? ⟨mb, 0, none⟩ = some (.slice pa ps.length pc) := blkCell HMx.out.box 0 _ rfl
              have hne : pb ≠ mb := HMx.out.ne.1
              have hne' : mb ≠ pb := fun e => hne e.symm
              have HMt2 : Hid (Mx w0 mb pb bank.length (fun q => if q = j then true else tk q) ps ms [] (s0 + qp) (.slice pa ps.length pc) (.slice ma2 ms.length mc2) (.slice ba2 0 bc2) vs (w3.setCell ⟨pb, j, none⟩ (.bool true))) := HMx.out.take j
              clear HNx HM
              obtain ⟨W5, hW5⟩ : ∃ W5, W5 = ((w3.setCell ⟨pb, j, none⟩ (.bool true)).alloc (Obj.cells #[.int .i64 (i : Int), .int .i64 (j : Int)] 3)).alloc (Obj.cells #[.slice (some ⟨w3.heap.size, 0, none⟩) 2 2] 27) := ⟨_, rfl⟩
              have hs4 : (w3.setCell ⟨pb, j, none⟩ (.bool true)).heap.size = w3.heap.size := World.size_setCell _ _ _
              have HQ : Hid (Below (w3.setCell ⟨pb, j, none⟩ (.bool true)).heap.size (w3.setCell ⟨pb, j, none⟩ (.bool true)) W5 ∧ W5.heap[w3.heap.size]? = some (.cells #[nV i, nV j] 3 (0, 0)) ∧ ∀ k u, [Value.slice (some ⟨w3.heap.size, 0, none⟩) 2 2][k]? = some u → W5.cell? ((⟨w3.heap.size + 1, 0, none⟩ : Addr).add k) = some u) := by
                have q1 := below_alloc (w3.setCell ⟨pb, j, none⟩ (.bool true)) (Obj.cells #[.int .i64 (i : Int), .int .i64 (j : Int)] 3)
                have q2 := heapNew (w3.setCell ⟨pb, j, none⟩ (.bool true)) (Obj.cells #[.int .i64 (i : Int), .int .i64 (j : Int)] 3)
                have q3 : ((w3.setCell ⟨pb, j, none⟩ (.bool true)).alloc (Obj.cells #[.int .i64 (i : Int), .int .i64 (j : Int)] 3)).heap.size = w3.heap.size + 1 := by simp
                rw [hs4] at q2
                generalize (w3.setCell ⟨pb, j, none⟩ (.bool true)).alloc (Obj.cells #[.int .i64 (i : Int), .int .i64 (j : Int)] 3) = w4 at *
                have q4 := below_alloc w4 (Obj.cells #[.slice (some ⟨w3.heap.size, 0, none⟩) 2 2] 27)
                have q5 := newsOne w4 (.slice (some ⟨w3.heap.size, 0, none⟩) 2 2) 27
                rw [← hW5] at q4 q5
                rw [q3] at q5
                exact ⟨chain q1 q4, (q4.block _ (by omega)).trans q2, q5⟩
              have HP5 : Hid (W5.ownsRow w0.heap.size 27 1 (.slice pa ps.length pc) ps.length ((List.range ps.length).map vs)) := (HMt2.out.later HQ.out.1).ans.prow
              have hB5 : w0.heap.size ≤ W5.heap.size := (HMt2.out.later HQ.out.1).low.size
              clear hs4
              have hle5 : (w3.setCell ⟨pb, j, none⟩ (.bool true)).heap.size ≤ w3.heap.size := by rw [World.size_setCell]; exact Nat.le_refl _
              have HW5 : Hid (W5 = ((w3.setCell ⟨pb, j, none⟩ (.bool true)).alloc (Obj.cells #[.int .i64 (i : Int), .int .i64 (j : Int)] 3)).alloc (Obj.cells #[.slice (some ⟨w3.heap.size, 0, none⟩) 2 2] 27)) := hW5
              clear hW5
              go_wp2_with (at_builtin; rw [← HW5.out]; refine wpList_append_any rfl _ _ 26 rfl w0.heap.size 27 j0 (.slice none 0 0) 1 24 Try.underlying26 hj hj0 hj1 hj2 rfl (by decide) _ _ _ rfl HP5.out (some ⟨w3.heap.size + 1, 0, none⟩) 1 1 [.slice (some ⟨w3.heap.size, 0, none⟩) 2 2] rfl rfl (fun _ => ⟨_, rfl, HQ.out.2.2⟩) (by intro u hu; simp at hu; subst hu; rfl) (by unfold maxLen; omega) (by omega) hB5 ?_; intro va vc w5 hown hgr hat; have HT : Hid _ := HMt2.out.addP HQ.out.1 hle5 HQ.out.2.1 hown hgr; have z1 := blkCell HT.out.1 0 _ rfl; have f1 := blkFree HT.out.1 0; clear hown hgr hat)
              exact ⟨⟨i + 1, _, _, _, _, by omega, by go_num, by rw [HE.out, HSn.out]; exact HT.out.2⟩, by simp [intOf]; omega⟩
            · have hk' : (bank.length : Int) ≤ (k : Int) := by omega
              have HMd : Hid (Mx w0 mb pb bank.length tk ps ms [] s0 (.slice pa ps.length pc) (.slice ma2 ms.length mc2) (.slice ba2 0 bc2) vs wq.drew) := (HM.out.later HBq.out).later (below_drew _)
              have HDf : Hid (∀ W, W = wq.drew → Mx w0 mb pb bank.length tk ps ms [] s0 (.slice pa ps.length pc) (.slice ma2 ms.length mc2) (.slice ba2 0 bc2) vs W) := fun W e => by rw [e]; exact HMd.out
              have HQ : Hid (∀ W : World, W = wq.drew → W.cell? ⟨mb, 3, none⟩ = some (.int .i64 s0) ∧ W.cell? ⟨b0, o0 + i * 2 + 1, none⟩ = some (.int .i64 qp)) := fun W e => by
                rw [e]
                exact ⟨blkCell HMd.out.box 3 _ rfl, (HBq.out.cell (p := ⟨b0, o0 + i * 2 + 1, none⟩) hb0).trans HC1.out⟩
              go_wp2_with fail
              refine wp_region_z (S := fun W => W = wq.drew) 9 (by kernel_rfl) rfl (fun hH => ?_)
              generalize wq.drew = Wd at *
              refine wpAnyZ_take (i := 0) (v := .pointer (some ⟨mb, 3, none⟩)) rfl (by kernel_rfl) (by kernel_rfl) (by kernel_rfl) (by kernel_rfl) (fun _ _ _ h => h) (Or.inl ⟨by rfl, fun w hSw => by go_simp⟩) hH ?_
              refine wpAnyZ_take (i := 1) (v := .int .i64 s0) rfl (by kernel_rfl) (by kernel_rfl) (by kernel_rfl) (by kernel_rfl) (fun _ _ _ h => h) (Or.inl ⟨by rfl, fun w hSw => by have f0 := (HQ.out w hSw).1; clear hSw; go_simp⟩) hH ?_
              try simp only [Act.put, List.setIfInBounds_toArray, List.set_cons_zero, List.set_cons_succ, List.getElem_toArray, List.getElem_cons_succ, List.getElem_cons_zero]
              refine wpAnyZ_take (i := 2) (v := .slice (some ⟨b0, o0, none⟩) mine.length mc) rfl (by kernel_rfl) (by kernel_rfl) (by kernel_rfl) (by kernel_rfl) (fun _ _ _ h => h) (Or.inl ⟨by rfl, fun w hSw => by go_simp⟩) hH ?_
              try simp only [Act.put, List.setIfInBounds_toArray, List.set_cons_zero, List.set_cons_succ, List.getElem_toArray, List.getElem_cons_succ, List.getElem_cons_zero]
              refine wpAnyZ_take (i := 3) (v := .int .i64 (i : Int)) rfl (by kernel_rfl) (by kernel_rfl) (by kernel_rfl) (by kernel_rfl) (fun _ _ _ h => h) (Or.inl ⟨by rfl, fun w hSw => by go_simp⟩) hH ?_
              try simp only [Act.put, List.setIfInBounds_toArray, List.set_cons_zero, List.set_cons_succ, List.getElem_toArray, List.getElem_cons_succ, List.getElem_cons_zero]
              refine wpAnyZ_take (i := 4) (v := .pointer (some ⟨b0, o0 + i * 2, none⟩)) rfl (by kernel_rfl) (by kernel_rfl) (by kernel_rfl) (by kernel_rfl) (fun _ _ _ h => h) (Or.inl ⟨by rfl, fun w hSw => by go_simp⟩) hH ?_
              try simp only [Act.put, List.setIfInBounds_toArray, List.set_cons_zero, List.set_cons_succ, List.getElem_toArray, List.getElem_cons_succ, List.getElem_cons_zero]
              refine wpAnyZ_take (i := 5) (v := .pointer (some ⟨b0, o0 + i * 2 + 1, none⟩)) rfl (by kernel_rfl) (by kernel_rfl) (by kernel_rfl) (by kernel_rfl) (fun _ _ _ h => h) (Or.inl ⟨by rfl, fun w hSw => by go_simp⟩) hH ?_
              try simp only [Act.put, List.setIfInBounds_toArray, List.set_cons_zero, List.set_cons_succ, List.getElem_toArray, List.getElem_cons_succ, List.getElem_cons_zero]
              refine wpAnyZ_take (i := 6) (v := .int .i64 qp) rfl (by kernel_rfl) (by kernel_rfl) (by kernel_rfl) (by kernel_rfl) (fun _ _ _ h => h) (Or.inl ⟨by rfl, fun w hSw => by have f0 := (HQ.out w hSw).2; clear hSw; go_simp⟩) hH ?_
              try simp only [Act.put, List.setIfInBounds_toArray, List.set_cons_zero, List.set_cons_succ, List.getElem_toArray, List.getElem_cons_succ, List.getElem_cons_zero]
              refine wpAnyZ_take (i := 7) (v := .int .i64 (s0 + qp)) rfl (by kernel_rfl) (by kernel_rfl) (by kernel_rfl) (by kernel_rfl) (fun _ _ _ h => h) (Or.inl ⟨by rfl, fun w hSw => by go_simp⟩) hH ?_
              try simp only [Act.put, List.setIfInBounds_toArray, List.set_cons_zero, List.set_cons_succ, List.getElem_toArray, List.getElem_cons_succ, List.getElem_cons_zero]
              refine wpAnyZ_take (i := 8) (v := .pointer (some ⟨mb, 3, none⟩)) rfl (by kernel_rfl) (by kernel_rfl) (by kernel_rfl) (by kernel_rfl) (fun _ _ _ h => h) (Or.inl ⟨by rfl, fun w hSw => by go_simp⟩) hH ?_
              try simp only [Act.put, List.setIfInBounds_toArray, List.set_cons_zero, List.set_cons_succ, List.getElem_toArray, List.getElem_cons_succ, List.getElem_cons_zero]
              refine wpAnyZ_ready (rs := [9]) (by kernel_rfl) (by simp) ?_
              refine AllReadyZ.cons rfl (fun K hK => ?_) AllReadyZ.nil
              have f3 := (HQ.out _ rfl).1
              have f4 := blkFree (HDf.out _ rfl).box 3
              go_simp
              refine hK.out _ _ (Or.inl rfl) (fun _ => ?_)
              clear hK K
              try simp only [Act.put, List.setIfInBounds_toArray, List.set_cons_zero, List.set_cons_succ, List.getElem_toArray, List.getElem_cons_succ, List.getElem_cons_zero]
              refine wpAnyZ_done (by kernel_rfl) ?_ _
              have HMx : Hid (Mx w0 mb pb bank.length tk ps ms [] (s0 + qp) (.slice pa ps.length pc) (.slice ma2 ms.length mc2) (.slice ba2 0 bc2) vs (Wd.setCell ⟨mb, 3, none⟩ (.int .i64 (s0 + qp)))) := HMd.out.diff _
              clear hH HQ HDf HMd f3 f4
              generalize Wd.setCell ⟨mb, 3, none⟩ (.int .i64 (s0 + qp)) = w3 at *
              have hmbl3 : mb < w3.heap.size := blkLt HMx.out.box
              have HE : Hid (msAt mine bank (i + 1) = ⟨fun q => if q = j then true else tk q, ps ++ [(i, j)], ms⟩) := HNx.out
              have hj0' : ¬ ((j : Int) < 0) := by omega
              have hjl' : (j : Int) < (bank.length : Int) := by omega
              have hjl'' : (0 : Int) ≤ (j : Int) := by omega
              have p0 := HMx.out.par.cell hjl
              have pf := HMx.out.par.frozen j
              have hpl : pb < w3.heap.size := HMx.out.par.lt
              have y0 : w3.cell? ⟨mb, 0, none⟩ = some (.slice pa ps.length pc) := blkCell HMx.out.box 0 _ rfl
              have hne : pb ≠ mb := HMx.out.ne.1
              have hne' : mb ≠ pb := fun e => hne e.symm
              have HMt2 : Hid (Mx w0 mb pb bank.length (fun q => if q = j then true else tk q) ps ms [] (s0 + qp) (.slice pa ps.length pc) (.slice ma2 ms.length mc2) (.slice ba2 0 bc2) vs (w3.setCell ⟨pb, j, none⟩ (.bool true))) := HMx.out.take j
              clear HNx HM
              obtain ⟨W5, hW5⟩ : ∃ W5, W5 = ((w3.setCell ⟨pb, j, none⟩ (.bool true)).alloc (Obj.cells #[.int .i64 (i : Int), .int .i64 (j : Int)] 3)).alloc (Obj.cells #[.slice (some ⟨w3.heap.size, 0, none⟩) 2 2] 27) := ⟨_, rfl⟩
              have hs4 : (w3.setCell ⟨pb, j, none⟩ (.bool true)).heap.size = w3.heap.size := World.size_setCell _ _ _
              have HQ : Hid (Below (w3.setCell ⟨pb, j, none⟩ (.bool true)).heap.size (w3.setCell ⟨pb, j, none⟩ (.bool true)) W5 ∧ W5.heap[w3.heap.size]? = some (.cells #[nV i, nV j] 3 (0, 0)) ∧ ∀ k u, [Value.slice (some ⟨w3.heap.size, 0, none⟩) 2 2][k]? = some u → W5.cell? ((⟨w3.heap.size + 1, 0, none⟩ : Addr).add k) = some u) := by
                have q1 := below_alloc (w3.setCell ⟨pb, j, none⟩ (.bool true)) (Obj.cells #[.int .i64 (i : Int), .int .i64 (j : Int)] 3)
                have q2 := heapNew (w3.setCell ⟨pb, j, none⟩ (.bool true)) (Obj.cells #[.int .i64 (i : Int), .int .i64 (j : Int)] 3)
                have q3 : ((w3.setCell ⟨pb, j, none⟩ (.bool true)).alloc (Obj.cells #[.int .i64 (i : Int), .int .i64 (j : Int)] 3)).heap.size = w3.heap.size + 1 := by simp
                rw [hs4] at q2
                generalize (w3.setCell ⟨pb, j, none⟩ (.bool true)).alloc (Obj.cells #[.int .i64 (i : Int), .int .i64 (j : Int)] 3) = w4 at *
                have q4 := below_alloc w4 (Obj.cells #[.slice (some ⟨w3.heap.size, 0, none⟩) 2 2] 27)
                have q5 := newsOne w4 (.slice (some ⟨w3.heap.size, 0, none⟩) 2 2) 27
                rw [← hW5] at q4 q5
                rw [q3] at q5
                exact ⟨chain q1 q4, (q4.block _ (by omega)).trans q2, q5⟩
              have HP5 : Hid (W5.ownsRow w0.heap.size 27 1 (.slice pa ps.length pc) ps.length ((List.range ps.length).map vs)) := (HMt2.out.later HQ.out.1).ans.prow
              have hB5 : w0.heap.size ≤ W5.heap.size := (HMt2.out.later HQ.out.1).low.size
              clear hs4
              have hle5 : (w3.setCell ⟨pb, j, none⟩ (.bool true)).heap.size ≤ w3.heap.size := by rw [World.size_setCell]; exact Nat.le_refl _
              have HW5 : Hid (W5 = ((w3.setCell ⟨pb, j, none⟩ (.bool true)).alloc (Obj.cells #[.int .i64 (i : Int), .int .i64 (j : Int)] 3)).alloc (Obj.cells #[.slice (some ⟨w3.heap.size, 0, none⟩) 2 2] 27)) := hW5
              clear hW5
              go_wp2_with (at_builtin; rw [← HW5.out]; refine wpList_append_any rfl _ _ 26 rfl w0.heap.size 27 j0 (.slice none 0 0) 1 24 Try.underlying26 hj hj0 hj1 hj2 rfl (by decide) _ _ _ rfl HP5.out (some ⟨w3.heap.size + 1, 0, none⟩) 1 1 [.slice (some ⟨w3.heap.size, 0, none⟩) 2 2] rfl rfl (fun _ => ⟨_, rfl, HQ.out.2.2⟩) (by intro u hu; simp at hu; subst hu; rfl) (by unfold maxLen; omega) (by omega) hB5 ?_; intro va vc w5 hown hgr hat; have HT : Hid _ := HMt2.out.addP HQ.out.1 hle5 HQ.out.2.1 hown hgr; have z1 := blkCell HT.out.1 0 _ rfl; have f1 := blkFree HT.out.1 0; clear hown hgr hat)
              exact ⟨⟨i + 1, _, _, _, _, by omega, by go_num, by rw [HE.out, HSn.out]; exact HT.out.2⟩, by simp [intOf]; omega⟩
      · obtain rfl : i = mine.length := by omega
        have HMe : Hid (mt = ⟨(msAt mine bank mine.length).ps, (msAt mine bank mine.length).ms, bkAt (msAt mine bank mine.length).tk bank.length, sumS mine mine.length - sumS bank bank.length⟩) := HMt.out
        have hs1 := HSm.out mine.length (Nat.le_refl _)
        clear HMs HMt
        generalize msAt mine bank mine.length = st at *
        generalize sumS mine mine.length = sm at *
        obtain ⟨tk, ps, ms⟩ := st
        dsimp only at HM HMe hlen
        have hsz : sm - sumS bank 0 = sm := by simp [sumS]
        go_wp2
        go_loopw [11] (fun c wq => ∃ (k : Nat) (bv : Value), k ≤ bank.length ∧ c = .int .i64 (k : Int) ∧ Mx w0 mb pb bank.length tk ps ms (bkAt tk k) (sm - sumS bank k) (.slice pa ps.length pc) (.slice ma2 ms.length mc2) bv vs wq) (fun c _ => bank.length - (intOf c).toNat)
        case atStart => exact ⟨0, _, Nat.zero_le _, rfl, by rw [hsz]; exact HM.out⟩
        case round =>
          clear HM hmbl hsz
          obtain ⟨k, bv, hkl, rfl, hM⟩ := hrel
          obtain ⟨wq, rfl⟩ : ∃ wq, wq = wr := ⟨_, rfl⟩
          obtain ⟨ba3, bc3, rfl⟩ := row_slice hM.ans.brow
          have hbl := bkAt_len tk k
          have HM : Hid (Mx w0 mb pb bank.length tk ps ms (bkAt tk k) (sm - sumS bank k) (.slice pa ps.length pc) (.slice ma2 ms.length mc2) (.slice ba3 (bkAt tk k).length bc3) vs wq) := hM
          have hmbl : mb < wq.heap.size := blkLt hM.box
          have hpl : pb < wq.heap.size := hM.par.lt
          clear hM
          by_cases hk : k < bank.length
          · have hk' : (k : Int) < (bank.length : Int) := by omega
            have hs3 := HSb.out k (by omega)
            have hs4 := HSb.out (k + 1) (by omega)
            have HSn : Hid (sumS bank (k + 1) = sumS bank k + (bank.getD k zSe).am) := rfl
            rw [HSn.out] at hs4
            rcases HRb.out with h | ⟨b1, o1, ha, hB1, ib⟩
            · rw [h] at hk; simp at hk
            have HBw : Hid (Below w.heap.size w wq) := chain HB0.out.1 HM.out.low
            obtain ⟨e0, e1⟩ := (ib.below HBw.out hB1) k hk
            subst ha
            clear e0
            generalize bank.getD k zSe = q at *
            obtain ⟨xa, xp⟩ := q
            dsimp only at e1 hs4 HSn
            generalize hsg : sumS bank k = sk at *
            clear hsg
            have HSe : Hid (sm - (sk + xp) = sm - sk - xp) := by show _ = _; omega
            obtain ⟨s0, hs0⟩ : ∃ s0, s0 = sm - sk := ⟨_, rfl⟩
            rw [← hs0] at HM HSe
            have hwd : wrap64 (s0 - xp) = s0 - xp := by unfold wrap64; omega
            have hwd' : IntKind.i64.wrap (s0 - xp) = s0 - xp := wrap_id _ (by omega) (by omega)
            clear hs0 hs3 hs4
            have HMd : Hid (Mx w0 mb pb bank.length tk ps ms (bkAt tk k) s0 (.slice pa ps.length pc) (.slice ma2 ms.length mc2) (.slice ba3 (bkAt tk k).length bc3) vs wq.drew) := HM.out.later (below_drew _)
            have HDf : Hid (∀ W, W = wq.drew → Mx w0 mb pb bank.length tk ps ms (bkAt tk k) s0 (.slice pa ps.length pc) (.slice ma2 ms.length mc2) (.slice ba3 (bkAt tk k).length bc3) vs W) := fun W e => by rw [e]; exact HMd.out
            have HQ : Hid (∀ W : World, W = wq.drew → W.cell? ⟨mb, 3, none⟩ = some (.int .i64 s0) ∧ W.cell? ⟨b1, o1 + k * 2 + 1, none⟩ = some (.int .i64 xp)) := fun W e => by
              rw [e]
              exact ⟨blkCell HMd.out.box 3 _ rfl, e1⟩
            clear e1
            go_wp2_with fail
            refine wp_region_z (S := fun W => W = wq.drew) 9 (by kernel_rfl) rfl (fun hH => ?_)
            generalize wq.drew = Wd at *
            refine wpAnyZ_take (i := 0) (v := .pointer (some ⟨mb, 3, none⟩)) rfl (by kernel_rfl) (by kernel_rfl) (by kernel_rfl) (by kernel_rfl) (fun _ _ _ h => h) (Or.inl ⟨by rfl, fun w hSw => by go_simp⟩) hH ?_
            refine wpAnyZ_take (i := 1) (v := .int .i64 s0) rfl (by kernel_rfl) (by kernel_rfl) (by kernel_rfl) (by kernel_rfl) (fun _ _ _ h => h) (Or.inl ⟨by rfl, fun w hSw => by have f0 := (HQ.out w hSw).1; clear hSw; go_simp⟩) hH ?_
            try simp only [Act.put, List.setIfInBounds_toArray, List.set_cons_zero, List.set_cons_succ, List.getElem_toArray, List.getElem_cons_succ, List.getElem_cons_zero]
            refine wpAnyZ_take (i := 2) (v := .slice (some ⟨b1, o1, none⟩) bank.length bc) rfl (by kernel_rfl) (by kernel_rfl) (by kernel_rfl) (by kernel_rfl) (fun _ _ _ h => h) (Or.inl ⟨by rfl, fun w hSw => by go_simp⟩) hH ?_
            try simp only [Act.put, List.setIfInBounds_toArray, List.set_cons_zero, List.set_cons_succ, List.getElem_toArray, List.getElem_cons_succ, List.getElem_cons_zero]
            refine wpAnyZ_take (i := 3) (v := .int .i64 (k : Int)) rfl (by kernel_rfl) (by kernel_rfl) (by kernel_rfl) (by kernel_rfl) (fun _ _ _ h => h) (Or.inl ⟨by rfl, fun w hSw => by go_simp⟩) hH ?_
            try simp only [Act.put, List.setIfInBounds_toArray, List.set_cons_zero, List.set_cons_succ, List.getElem_toArray, List.getElem_cons_succ, List.getElem_cons_zero]
            refine wpAnyZ_take (i := 4) (v := .pointer (some ⟨b1, o1 + k * 2, none⟩)) rfl (by kernel_rfl) (by kernel_rfl) (by kernel_rfl) (by kernel_rfl) (fun _ _ _ h => h) (Or.inl ⟨by rfl, fun w hSw => by go_simp⟩) hH ?_
            try simp only [Act.put, List.setIfInBounds_toArray, List.set_cons_zero, List.set_cons_succ, List.getElem_toArray, List.getElem_cons_succ, List.getElem_cons_zero]
            refine wpAnyZ_take (i := 5) (v := .pointer (some ⟨b1, o1 + k * 2 + 1, none⟩)) rfl (by kernel_rfl) (by kernel_rfl) (by kernel_rfl) (by kernel_rfl) (fun _ _ _ h => h) (Or.inl ⟨by rfl, fun w hSw => by go_simp⟩) hH ?_
            try simp only [Act.put, List.setIfInBounds_toArray, List.set_cons_zero, List.set_cons_succ, List.getElem_toArray, List.getElem_cons_succ, List.getElem_cons_zero]
            refine wpAnyZ_take (i := 6) (v := .int .i64 xp) rfl (by kernel_rfl) (by kernel_rfl) (by kernel_rfl) (by kernel_rfl) (fun _ _ _ h => h) (Or.inl ⟨by rfl, fun w hSw => by have f0 := (HQ.out w hSw).2; clear hSw; go_simp⟩) hH ?_
            try simp only [Act.put, List.setIfInBounds_toArray, List.set_cons_zero, List.set_cons_succ, List.getElem_toArray, List.getElem_cons_succ, List.getElem_cons_zero]
            refine wpAnyZ_take (i := 7) (v := .int .i64 (s0 - xp)) rfl (by kernel_rfl) (by kernel_rfl) (by kernel_rfl) (by kernel_rfl) (fun _ _ _ h => h) (Or.inl ⟨by rfl, fun w hSw => by go_simp⟩) hH ?_
            try simp only [Act.put, List.setIfInBounds_toArray, List.set_cons_zero, List.set_cons_succ, List.getElem_toArray, List.getElem_cons_succ, List.getElem_cons_zero]
            refine wpAnyZ_take (i := 8) (v := .pointer (some ⟨mb, 3, none⟩)) rfl (by kernel_rfl) (by kernel_rfl) (by kernel_rfl) (by kernel_rfl) (fun _ _ _ h => h) (Or.inl ⟨by rfl, fun w hSw => by go_simp⟩) hH ?_
            try simp only [Act.put, List.setIfInBounds_toArray, List.set_cons_zero, List.set_cons_succ, List.getElem_toArray, List.getElem_cons_succ, List.getElem_cons_zero]
            refine wpAnyZ_ready (rs := [9]) (by kernel_rfl) (by simp) ?_
            refine AllReadyZ.cons rfl (fun K hK => ?_) AllReadyZ.nil
            have f3 := (HQ.out _ rfl).1
            have f4 := blkFree (HDf.out _ rfl).box 3
            go_simp
            refine hK.out _ _ (Or.inl rfl) (fun _ => ?_)
            clear hK K
            try simp only [Act.put, List.setIfInBounds_toArray, List.set_cons_zero, List.set_cons_succ, List.getElem_toArray, List.getElem_cons_succ, List.getElem_cons_zero]
            refine wpAnyZ_done (by kernel_rfl) ?_ _
            have HMx : Hid (Mx w0 mb pb bank.length tk ps ms (bkAt tk k) (s0 - xp) (.slice pa ps.length pc) (.slice ma2 ms.length mc2) (.slice ba3 (bkAt tk k).length bc3) vs (Wd.setCell ⟨mb, 3, none⟩ (.int .i64 (s0 - xp)))) := HMd.out.diff _
            clear hH HQ HDf HMd f3 f4 HM
            generalize Wd.setCell ⟨mb, 3, none⟩ (.int .i64 (s0 - xp)) = w3 at *
            have hmbl3 : mb < w3.heap.size := blkLt HMx.out.box
            have hpl3 : pb < w3.heap.size := HMx.out.par.lt
            have p0 := HMx.out.par.cell hk
            have y2 : w3.cell? ⟨mb, 2, none⟩ = some (.slice ba3 (bkAt tk k).length bc3) := blkCell HMx.out.box 2 _ rfl
            cases htk : tk k
            · have HE : Hid (bkAt tk (k + 1) = bkAt tk k ++ [k]) := by show _ = _; rw [bkAt, htk]; rfl
              rw [htk] at p0
              clear htk
              generalize bkAt tk k = bs at *
              have HM4 : Hid (Mx w0 mb pb bank.length tk ps ms bs (s0 - xp) (.slice pa ps.length pc) (.slice ma2 ms.length mc2) (.slice ba3 bs.length bc3) vs (w3.alloc (Obj.cells #[.int .i64 (k : Int)] 3))) := HMx.out.later (below_alloc _ _)
              have hB4 : w0.heap.size ≤ (w3.alloc (Obj.cells #[.int .i64 (k : Int)] 3)).heap.size := HM4.out.low.size
              go_wp2_with (at_builtin; refine wpList_append_any rfl _ _ 27 rfl w0.heap.size 3 i0 (.int .i64 0) 1 8 Try.underlying27 hi hi0 hi1 hi2 rfl (by decide) _ _ _ rfl HM4.out.ans.brow (some ⟨w3.heap.size, 0, none⟩) 1 1 [nV k] rfl rfl (fun _ => ⟨_, rfl, newsOne w3 _ _⟩) (by intro u hu; simp at hu; subst hu; rfl) (by unfold maxLen; omega) (by omega) hB4 ?_; intro va vc w5 hown hgr hat; have HT : Hid _ := HM4.out.addB hown hgr hat; have z1 := blkCell HT.out.1 2 _ rfl; have f1 := blkFree HT.out.1 2; clear hown hgr hat)
              exact ⟨⟨k + 1, _, by omega, by go_num, by rw [HE.out, HSn.out, HSe.out]; exact HT.out.2⟩, by simp [intOf]; omega⟩
            · have HE : Hid (bkAt tk (k + 1) = bkAt tk k) := by show _ = _; rw [bkAt, htk]; rfl
              rw [htk] at p0
              clear htk
              go_wp2
              exact ⟨⟨k + 1, _, by omega, by go_num, by rw [HE.out, HSn.out, HSe.out]; exact HMx.out⟩, by simp [intOf]; omega⟩
          · obtain rfl : k = bank.length := by omega
            generalize sumS bank bank.length = sb at *
            have y0 : wq.cell? ⟨mb, 0, none⟩ = some (.slice pa ps.length pc) := blkCell HM.out.box 0 _ rfl
            have y1 : wq.cell? ⟨mb, 1, none⟩ = some (.slice ma2 ms.length mc2) := blkCell HM.out.box 1 _ rfl
            have y2 : wq.cell? ⟨mb, 2, none⟩ = some (.slice ba3 (bkAt tk bank.length).length bc3) := blkCell HM.out.box 2 _ rfl
            have y3 : wq.cell? ⟨mb, 3, none⟩ = some (.int .i64 (sm - sb)) := blkCell HM.out.box 3 _ rfl
            have hbk : wq.heap[w.heap.size]? = some (.cells zM 29 (0, 0)) := (HM.out.low.block _ HB0.out.2.2).trans HB0.out.2.1
            have HLe : Hid (w.heap.size ≤ w0.heap.size ∧ Below w.heap.size w wq) := ⟨HB0.out.1.size, chain HB0.out.1 HM.out.low⟩
            have HKp : Hid (∀ W, (∀ q, q ≠ w.heap.size → W.heap[q]? = wq.heap[q]?) → AnsM w.heap.size ps ms (bkAt tk bank.length) (.slice pa ps.length pc) (.slice ma2 ms.length mc2) (.slice ba3 (bkAt tk bank.length).length bc3) vs W) := fun W hW => (HM.out.ans.same (fun q hq => hW q (fun e => by have := (HM.out.ans.lt q hq).1; have := HB0.out.2.2; omega))).mono HLe.out.1
            generalize bkAt tk bank.length = bs at *
            have r0 : wq.cell? ⟨w.heap.size, 0, none⟩ = some (.slice none 0 0) := blkCell hbk 0 _ rfl
            have r1 : wq.cell? ⟨w.heap.size, 1, none⟩ = some (.slice none 0 0) := blkCell hbk 1 _ rfl
            have r2 : wq.cell? ⟨w.heap.size, 2, none⟩ = some (.slice none 0 0) := blkCell hbk 2 _ rfl
            have r3 : wq.cell? ⟨w.heap.size, 3, none⟩ = some (.int .i64 0) := blkCell hbk 3 _ rfl
            have g0 := blkFree hbk 0
            have g1 := blkFree hbk 1
            have g2 := blkFree hbk 2
            have g3 := blkFree hbk 3
            have hwl : w.heap.size < wq.heap.size := blkLt hbk
            have HS4 := set4 wq w.heap.size (.slice pa ps.length pc) (.slice ma2 ms.length mc2) (.slice ba3 bs.length bc3) (.int .i64 (sm - sb)) zM 29 rfl hbk
            have H4 : Hid (∀ WE, WE = ((((wq.setCell ⟨w.heap.size, 0, none⟩ (.slice pa ps.length pc)).setCell ⟨w.heap.size, 1, none⟩ (.slice ma2 ms.length mc2)).setCell ⟨w.heap.size, 2, none⟩ (.slice ba3 bs.length bc3)).setCell ⟨w.heap.size, 3, none⟩ (.int .i64 (sm - sb))) → WE.heap[w.heap.size]? = some (.cells #[.slice pa ps.length pc, .slice ma2 ms.length mc2, .slice ba3 bs.length bc3, .int .i64 (sm - sb)] 29 (0, 0)) ∧ (∀ q, q ≠ w.heap.size → WE.heap[q]? = wq.heap[q]?) ∧ ∀ B, B ≤ w.heap.size → Below B wq WE) := HS4
            clear hbk HS4
            go_wp2
            obtain ⟨WE, hWE⟩ : ∃ WE, WE = ((((wq.setCell ⟨w.heap.size, 0, none⟩ (.slice pa ps.length pc)).setCell ⟨w.heap.size, 1, none⟩ (.slice ma2 ms.length mc2)).setCell ⟨w.heap.size, 2, none⟩ (.slice ba3 bs.length bc3)).setCell ⟨w.heap.size, 3, none⟩ (.int .i64 (sm - sb))) := ⟨_, rfl⟩
            rw [← hWE]
            have HE4 : Hid _ := H4.out WE hWE
            have z0 : WE.cell? ⟨w.heap.size, 0, none⟩ = some (.slice pa ps.length pc) := blkCell HE4.out.1 0 _ rfl
            have z1 : WE.cell? ⟨w.heap.size, 1, none⟩ = some (.slice ma2 ms.length mc2) := blkCell HE4.out.1 1 _ rfl
            have z2 : WE.cell? ⟨w.heap.size, 2, none⟩ = some (.slice ba3 bs.length bc3) := blkCell HE4.out.1 2 _ rfl
            have z3 : WE.cell? ⟨w.heap.size, 3, none⟩ = some (.int .i64 (sm - sb)) := blkCell HE4.out.1 3 _ rfl
            clear hWE
            refine bodyPost_ret (v := .tuple #[.agg #[.slice pa ps.length pc, .slice ma2 ms.length mc2, .slice ba3 bs.length bc3, .int .i64 (sm - sb)], .int .i64 0]) (by simp [results, Try.results8, go_sem, z0, z1, z2, z3]) rfl ?_
            rw [HMe.out]
            exact ⟨pa, ma2, ba3, pc, mc2, bc3, vs, rfl, HKp.out WE HE4.out.2.1, HLe.out.2.trans (HE4.out.2.2 _ (Nat.le_refl _))⟩
end Go.Proofs.Ytgjffmeafdpfhaa
