/-
  Contracts of the program's matched and Settle.
-/
import Derived.Test.YtgjffmeafdpfhaaSxC
import Derived.Test.YtgjffmeafdpfhaaRow1
namespace Go.Proofs.Ytgjffmeafdpfhaa
open Go.ChangeShapes Go.WideShapes Go.ChangeAt Go.RowKit Go.Deep
set_option linter.unusedVariables false

theorem boolInfo : (Try.prog.info? 4).map (fun i => (i.zero, i.size, i.bytes)) = some (some (.bool false), 1, 1) := by kernel_rfl
theorem slInfo : (Try.prog.info? 27).map (fun i => (i.zero, i.size, i.bytes)) = some (some (.slice none 0 0), 1, 24) := by kernel_rfl
theorem ownsRow_mono {w : World} {B B' : Nat} {e : TypeId} {k : Nat} {v : Value} {n : Nat} {xs : List Value} (h : w.ownsRow B e k v n xs) (hb : B' ≤ B) : w.ownsRow B' e k v n xs := by
  refine ⟨h.1, ?_⟩
  rcases h.2 with h2 | ⟨g, cap, cur, e, hB, r⟩
  · exact .inl h2
  · exact .inr ⟨g, cap, cur, e, by omega, r⟩
theorem AnsM.mono {B B' : Nat} {ps : List (Nat × Nat)} {ms bs : List Nat} {pv mv bv : Value} {vs : Nat → Value} {W : World} (h : AnsM B ps ms bs pv mv bv vs W) (hb : B' ≤ B) : AnsM B' ps ms bs pv mv bv vs W :=
  ⟨ownsRow_mono h.prow hb, fun i hi => ownsRow_mono (h.each i hi) hb, h.far, ownsRow_mono h.mrow hb, ownsRow_mono h.brow hb, h.mb, h.vm, h.vb⟩
def zM : Array Value := #[.slice none 0 0, .slice none 0 0, .slice none 0 0, .int .i64 0]
/-- What Settle answers: the struct's parts under a letter. -/
def MtP (w : World) (t : Mt) (c : Int) (e : Ending) (w' : World) : Prop := ∃ (pa ma ba : Option Addr) (pc mc bc : Nat) (vs : Nat → Value), e = .returned (.tuple #[.agg #[.slice pa t.ps.length pc, .slice ma t.ms.length mc, .slice ba t.bs.length bc, .int .i64 t.df], .int .i64 c]) ∧ AnsM w.heap.size t.ps t.ms t.bs (.slice pa t.ps.length pc) (.slice ma t.ms.length mc) (.slice ba t.bs.length bc) vs w' ∧ Below w.heap.size w w'
theorem set4 (W : World) (b : Nat) (a0 a1 a2 a3 : Value) (cs : Array Value) (t : TypeId) (hs : cs.size = 4) (h : W.heap[b]? = some (.cells cs t (0, 0))) (WE : World) (hE : WE = (((W.setCell ⟨b, 0, none⟩ a0).setCell ⟨b, 1, none⟩ a1).setCell ⟨b, 2, none⟩ a2).setCell ⟨b, 3, none⟩ a3) :
    WE.heap[b]? = some (.cells #[a0, a1, a2, a3] t (0, 0)) ∧ (∀ q, q ≠ b → WE.heap[q]? = W.heap[q]?) ∧ ∀ B, B ≤ b → Below B W WE := by
  subst hE
  refine ⟨?_, fun q hq => ?_, fun B hB => ((((Below.refl B W).setCell hB _).setCell hB _).setCell hB _).setCell hB _⟩
  · have h1 := Go.heap_setCell_same _ _ 0 _ _ a0 h
    have h2 := Go.heap_setCell_same _ _ 1 _ _ a1 h1
    have h3 := Go.heap_setCell_same _ _ 2 _ _ a2 h2
    have h4 := Go.heap_setCell_same _ _ 3 _ _ a3 h3
    rw [h4]
    obtain ⟨l⟩ := cs
    match l, hs with
    | [x0, x1, x2, x3], _ => rfl
  · rw [Below.heap_setCell _ _ _ _ hq, Below.heap_setCell _ _ _ _ hq, Below.heap_setCell _ _ _ _ hq, Below.heap_setCell _ _ _ _ hq]
set_option maxHeartbeats 8000000 in
set_option maxRecDepth 4000 in
theorem matched_any (ma ba : Option Addr) (mc bc : Nat) (mine bank : List RSe) (hm : mine.length ≤ 60) (hb : bank.length ≤ 60) (hsm : ∀ r ∈ mine, -1000000000 ≤ r.am ∧ r.am ≤ 1000000000) (hsb : ∀ r ∈ bank, -1000000000 ≤ r.am ∧ r.am ≤ 1000000000) (w : World) (hrm : ReadsSe w.heap.size w ma mine) (hrb : ReadsSe w.heap.size w ba bank) :
    Calls Try.prog 21 #[.slice ma mine.length mc, .slice ba bank.length bc] w fun e w' => ∃ (pa ma ba : Option Addr) (pc mc bc : Nat) (vs : Nat → Value), e = .returned (.agg #[.slice pa (mtOf mine bank).ps.length pc, .slice ma (mtOf mine bank).ms.length mc, .slice ba (mtOf mine bank).bs.length bc, .int .i64 (mtOf mine bank).df]) ∧ AnsM w.heap.size (mtOf mine bank).ps (mtOf mine bank).ms (mtOf mine bank).bs (.slice pa (mtOf mine bank).ps.length pc) (.slice ma (mtOf mine bank).ms.length mc) (.slice ba (mtOf mine bank).bs.length bc) vs w' ∧ Below w.heap.size w w' := by
  have HRm : Hid (ReadsSe w.heap.size w ma mine) := hrm
  have HRb : Hid (ReadsSe w.heap.size w ba bank) := hrb
  have HSm : Hid (∀ W, ReadsSe W.heap.size W ma mine → Calls Try.prog 37 #[.slice ma mine.length mc] W fun e w' => e = .returned (.int .i64 (sumS mine mine.length)) ∧ Below W.heap.size W w') := fun W h => settledSum_any ma mc mine hm hsm W h
  have HSb : Hid (∀ W, ReadsSe W.heap.size W ba bank → Calls Try.prog 37 #[.slice ba bank.length bc] W fun e w' => e = .returned (.int .i64 (sumS bank bank.length)) ∧ Below W.heap.size W w') := fun W h => settledSum_any ba bc bank hb hsb W h
  have hx1 := sumS_bound hsm mine.length (Nat.le_refl _)
  have hx2 := sumS_bound hsb bank.length (Nat.le_refl _)
  generalize hmt : mtOf mine bank = mt
  have HMt : Hid (mt = ⟨(msAt mine bank mine.length).ps, (msAt mine bank mine.length).ms, bkAt (msAt mine bank mine.length).tk bank.length, sumS mine mine.length - sumS bank bank.length⟩) := hmt.symm
  clear hrm hrb hsm hsb hmt
  have hmk := fun w => run_make_row' (P := Try.prog) 53 4 (.bool false) 1 Try.underlying53 boolInfo rfl .i64 .i64 bank.length (by omega) (by omega) w
  obtain ⟨i0, hi, hzz⟩ := Option.map_eq_some_iff.1 intInfo
  simp only [Prod.mk.injEq] at hzz
  obtain ⟨hi0, hi1, hi2⟩ := hzz
  obtain ⟨j0, hj, hzy⟩ := Option.map_eq_some_iff.1 slInfo
  simp only [Prod.mk.injEq] at hzy
  obtain ⟨hj0, hj1, hj2⟩ := hzy
  generalize sumS mine mine.length = sm at *
  generalize sumS bank bank.length = sb at *
  have hwd : wrap64 (sm - sb) = sm - sb := by unfold wrap64; omega
  have hwd' : IntKind.i64.wrap (sm - sb) = sm - sb := wrap_id _ (by omega) (by omega)
  clear hx1 hx2
  go_enter Try.func21, Try.ntmps21
  go_wp2_with fail
  (first | go_at_call 37 | skip)
  refine (HSm.out _ (HRm.out.later (below_alloc _ _))).mono ?_
  rintro e w1 ⟨rfl, hb1⟩
  have HB1 : Hid (Below (w.alloc (Obj.cells zM 29)).heap.size (w.alloc (Obj.cells zM 29)) w1) := hb1
  clear hb1 HSm
  go_wp2_with fail
  (first | go_at_call 37 | skip)
  refine (HSb.out _ (HRb.out.later (chain (below_alloc _ _) HB1.out))).mono ?_
  rintro e w2 ⟨rfl, hb2⟩
  have HB2 : Hid (Below (w.alloc (Obj.cells zM 29)).heap.size (w.alloc (Obj.cells zM 29)) w2) := chain HB1.out hb2
  clear hb2 HSb HB1
  generalize hw0 : w.alloc (Obj.cells zM 29) = w0 at *
  have H0 : Hid (∀ W5, W5 = (w2.alloc (Obj.cells #[.slice none 0 0, .slice none 0 0, .slice none 0 0, .int .i64 (sm - sb)] 29)).alloc (Obj.cells (madeCells #[.bool false] bank.length) 4) → Mx w0 w2.heap.size (w2.heap.size + 1) bank.length (fun _ => false) [] [] [] (sm - sb) (.slice none 0 0) (.slice none 0 0) (.slice none 0 0) (fun _ => .slice none 0 0) W5) := fun W5 e => by
    have hb3 := below_alloc w2 (Obj.cells #[.slice none 0 0, .slice none 0 0, .slice none 0 0, .int .i64 (sm - sb)] 29)
    have hn := heapNew w2 (Obj.cells #[.slice none 0 0, .slice none 0 0, .slice none 0 0, .int .i64 (sm - sb)] 29)
    have hs : (w2.alloc (Obj.cells #[.slice none 0 0, .slice none 0 0, .slice none 0 0, .int .i64 (sm - sb)] 29)).heap.size = w2.heap.size + 1 := by simp
    generalize (w2.alloc (Obj.cells #[.slice none 0 0, .slice none 0 0, .slice none 0 0, .int .i64 (sm - sb)] 29)) = w3 at *
    have hb4 := below_alloc w3 (Obj.cells (madeCells #[.bool false] bank.length) 4)
    have hr := World.rowIs_made w3 (.bool false) bank.length 4
    rw [← e] at hb4 hr
    rw [hs] at hr
    have hz := HB2.out.size
    exact ⟨(hb4.block _ (by omega)).trans hn, hr, ansM_none _ _, chain HB2.out (chain hb3 hb4), hz, by omega⟩
  have HB0 : Hid (Below w.heap.size w w0 ∧ w0.heap[w.heap.size]? = some (.cells zM 29 (0, 0)) ∧ w.heap.size < w0.heap.size) := ⟨hw0 ▸ below_alloc _ _, hw0 ▸ heapNew _ _, by rw [← hw0]; simp⟩
  clear hw0
  obtain ⟨mb, hmb⟩ : ∃ mb, mb = w2.heap.size := ⟨_, rfl⟩
  go_wp2
  rw [← hmb] at H0 ⊢
  clear HB2 hmk
  generalize hW3 : ((w2.alloc (Obj.cells #[.slice none 0 0, .slice none 0 0, .slice none 0 0, .int .i64 (sm - sb)] 29)).alloc (Obj.cells (madeCells #[.bool false] bank.length) 4)) = W3
  rw [hW3] at H0
  have H0' := H0.out _ rfl
  have HS0 : Hid (Mx w0 mb (mb + 1) bank.length (fun _ => false) [] [] [] (sm - sb) (.slice none 0 0) (.slice none 0 0) (.slice none 0 0) (fun _ => .slice none 0 0) W3) := H0'
  clear H0 H0' hW3 hmb
  generalize mb + 1 = pb at *
  go_loopw [7, 8, 9, 23] (fun _ _ _ c wr => ∃ (i : Nat) (pv mv bv : Value) (vs : Nat → Value), i ≤ mine.length ∧ c = .int .i64 (i : Int) ∧ Mx w0 mb pb bank.length (msAt mine bank i).tk (msAt mine bank i).ps (msAt mine bank i).ms [] (sm - sb) pv mv bv vs wr) (fun _ _ _ c _ => mine.length - (intOf c).toNat)
  case atStart => exact ⟨0, _, _, _, _, Nat.zero_le _, rfl, HS0.out⟩
  case round =>
    clear HS0
    obtain ⟨i, pv, mv, bv, vs, hil, rfl, hM⟩ := hrel
    obtain ⟨pa, pc, rfl⟩ := row_slice hM.ans.prow
    obtain ⟨ma2, mc2, rfl⟩ := row_slice hM.ans.mrow
    obtain ⟨ba2, bc2, rfl⟩ := row_slice hM.ans.brow
    have hlen := msAt_len mine bank i
    have HMs : Hid (∀ o, firstU bank (msAt mine bank i).tk (mine.getD i zSe) = o → msAt mine bank (i + 1) = msStep o i (msAt mine bank i)) := fun o h => by rw [msAt, h]
    have HM : Hid (Mx w0 mb pb bank.length (msAt mine bank i).tk (msAt mine bank i).ps (msAt mine bank i).ms [] (sm - sb) (.slice pa (msAt mine bank i).ps.length pc) (.slice ma2 (msAt mine bank i).ms.length mc2) (.slice ba2 0 bc2) vs wr) := hM
    have hmbl : mb < wr.heap.size := blkLt hM.box
    clear hM
    by_cases hlt : i < mine.length
    · have hlt' : (i : Int) < (mine.length : Int) := by omega
      have HBw : Hid (Below w.heap.size w wr) := chain HB0.out.1 HM.out.low
      rcases HRm.out with h | ⟨b0, o0, ha, hB0, ia⟩
      · rw [h] at hlt; simp at hlt
      obtain ⟨c0, c1⟩ := (ia.below HBw.out hB0) i hlt
      have hb0 : b0 < wr.heap.size := Nat.lt_of_lt_of_le hB0 HBw.out.size
      subst ha
      clear ia
      generalize mine.getD i zSe = q at *
      obtain ⟨qa, qp⟩ := q
      dsimp only at c0 c1
      have HFU : Hid (∀ W, Below wr.heap.size wr W → Calls Try.prog 38 #[.slice ba bank.length bc, .slice (some ⟨pb, 0, none⟩) bank.length bank.length, .agg #[.string qa, .int .i64 qp]] W fun e w' => e = .returned (.int .i64 (fuI (firstU bank (msAt mine bank i).tk ⟨qa, qp⟩))) ∧ Below W.heap.size W w') := fun W hW => firstUn_any ba bc bank hb pb _ qa qp W (HRb.out.later (chain HBw.out hW)) (HM.out.later hW).par
      obtain ⟨o, ho⟩ : ∃ o, firstU bank (msAt mine bank i).tk ⟨qa, qp⟩ = o := ⟨_, rfl⟩
      rw [ho] at HFU
      have HNx : Hid (msAt mine bank (i + 1) = msStep o i (msAt mine bank i)) := HMs.out o ho
      have HFs : Hid (∀ j, o = some j → j < bank.length) := fun j hj => (firstU_some (ho.trans hj)).1
      clear HMs ho
      generalize msAt mine bank i = st at *
      obtain ⟨tk, ps, ms⟩ := st
      dsimp only at HM HNx hlen
      go_wp2_with fail
      (first | go_at_call 38 | skip)
      refine (HFU.out _ (below_alloc _ _)).mono ?_
      rintro e w3 ⟨rfl, hb3⟩
      have HM3 : Hid (Mx w0 mb pb bank.length tk ps ms [] (sm - sb) (.slice pa ps.length pc) (.slice ma2 ms.length mc2) (.slice ba2 0 bc2) vs w3) := HM.out.later (chain (below_alloc _ _) hb3)
      have hmbl3 : mb < w3.heap.size := blkLt HM3.out.box
      clear hb3 HFU HM c0 c1
      cases o with
      | none =>
        have hfu : fuI none = -1 := rfl
        rw [hfu]
        have HE : Hid (msAt mine bank (i + 1) = ⟨tk, ps, ms ++ [i]⟩) := HNx.out
        have y1 := blkCell HM3.out.box 1 _ rfl
        have HM4 : Hid (Mx w0 mb pb bank.length tk ps ms [] (sm - sb) (.slice pa ps.length pc) (.slice ma2 ms.length mc2) (.slice ba2 0 bc2) vs (w3.alloc (Obj.cells #[.int .i64 (i : Int)] 3))) := HM3.out.later (below_alloc _ _)
        have hB4 : w0.heap.size ≤ (w3.alloc (Obj.cells #[.int .i64 (i : Int)] 3)).heap.size := HM4.out.low.size
        clear HNx HFs hfu
        go_wp2_with (at_builtin; refine wpList_append_any rfl _ _ 27 rfl w0.heap.size 3 i0 (.int .i64 0) 1 8 Try.underlying27 hi hi0 hi1 hi2 rfl (by decide) _ _ _ rfl HM4.out.ans.mrow (some ⟨w3.heap.size, 0, none⟩) 1 1 [nV i] rfl rfl (fun _ => ⟨_, rfl, newsOne w3 _ _⟩) (by intro u hu; simp at hu; subst hu; rfl) (by unfold maxLen; omega) (by omega) hB4 ?_; intro va vc w5 hown hgr hat; have HT : Hid _ := HM4.out.addM hown hgr hat; have z1 := blkCell HT.out.1 1 _ rfl; have f1 := blkFree HT.out.1 1; clear hown hgr hat)
        exact ⟨⟨i + 1, _, _, _, _, by omega, by go_num, by rw [HE.out]; exact HT.out.2⟩, by simp [intOf]; omega⟩
      | some j =>
        have hjl := HFs.out j rfl
        have hfu : fuI (some j) = (j : Int) := rfl
        rw [hfu]
        have HE : Hid (msAt mine bank (i + 1) = ⟨fun q => if q = j then true else tk q, ps ++ [(i, j)], ms⟩) := HNx.out
        have hj0' : ¬ ((j : Int) < 0) := by omega
        have hjl' : (j : Int) < (bank.length : Int) := by omega
        have hjl'' : (0 : Int) ≤ (j : Int) := by omega
        have p0 := HM3.out.par.cell hjl
        have pf := HM3.out.par.frozen j
        have hpl : pb < w3.heap.size := HM3.out.par.lt
        have y0 : w3.cell? ⟨mb, 0, none⟩ = some (.slice pa ps.length pc) := blkCell HM3.out.box 0 _ rfl
        have hne : pb ≠ mb := HM3.out.ne.1
        have hne' : mb ≠ pb := fun e => hne e.symm
        have HMt2 : Hid (Mx w0 mb pb bank.length (fun q => if q = j then true else tk q) ps ms [] (sm - sb) (.slice pa ps.length pc) (.slice ma2 ms.length mc2) (.slice ba2 0 bc2) vs (w3.setCell ⟨pb, j, none⟩ (.bool true))) := HM3.out.take j
        clear HNx HFs hfu
        obtain ⟨W5, hW5⟩ : ∃ W5, W5 = ((w3.setCell ⟨pb, j, none⟩ (.bool true)).alloc (Obj.cells #[.int .i64 (i : Int), .int .i64 (j : Int)] 3)).alloc (Obj.cells #[.slice (some ⟨w3.heap.size, 0, none⟩) 2 2] 27) := ⟨_, rfl⟩
        have hs4 : (w3.setCell ⟨pb, j, none⟩ (.bool true)).heap.size = w3.heap.size := World.size_setCell _ _ _
        have HQ : Hid (Below (w3.setCell ⟨pb, j, none⟩ (.bool true)).heap.size (w3.setCell ⟨pb, j, none⟩ (.bool true)) W5 ∧ W5.heap[w3.heap.size]? = some (.cells #[nV i, nV j] 3 (0, 0)) ∧ ∀ k u, [Value.slice (some ⟨w3.heap.size, 0, none⟩) 2 2][k]? = some u → W5.cell? ((⟨w3.heap.size + 1, 0, none⟩ : Addr).add k) = some u) := by
          have q1 := below_alloc (w3.setCell ⟨pb, j, none⟩ (.bool true)) (Obj.cells #[.int .i64 (i : Int), .int .i64 (j : Int)] 3)
          have q2 := heapNew (w3.setCell ⟨pb, j, none⟩ (.bool true)) (Obj.cells #[.int .i64 (i : Int), .int .i64 (j : Int)] 3)
          have q3 : ((w3.setCell ⟨pb, j, none⟩ (.bool true)).alloc (Obj.cells #[.int .i64 (i : Int), .int .i64 (j : Int)] 3)).heap.size = w3.heap.size + 1 := by simp
          rw [hs4] at q2
          generalize (w3.setCell ⟨pb, j, none⟩ (.bool true)).alloc (Obj.cells #[.int .i64 (i : Int), .int .i64 (j : Int)] 3) = w4 at *
          have q4 := below_alloc w4 (Obj.cells #[.slice (some ⟨w3.heap.size, 0, none⟩) 2 2] 27)
          have q5 := newsOne w4 (.slice (some ⟨w3.heap.size, 0, none⟩) 2 2) 27
          rw [← hW5] at q4 q5
          rw [q3] at q5
          exact ⟨chain q1 q4, (q4.block _ (by omega)).trans q2, q5⟩
        have HP5 : Hid (W5.ownsRow w0.heap.size 27 1 (.slice pa ps.length pc) ps.length ((List.range ps.length).map vs)) := (HMt2.out.later HQ.out.1).ans.prow
        have hB5 : w0.heap.size ≤ W5.heap.size := (HMt2.out.later HQ.out.1).low.size
        clear hs4
        have hle5 : (w3.setCell ⟨pb, j, none⟩ (.bool true)).heap.size ≤ w3.heap.size := by rw [World.size_setCell]; exact Nat.le_refl _
        have HW5 : Hid (W5 = ((w3.setCell ⟨pb, j, none⟩ (.bool true)).alloc (Obj.cells #[.int .i64 (i : Int), .int .i64 (j : Int)] 3)).alloc (Obj.cells #[.slice (some ⟨w3.heap.size, 0, none⟩) 2 2] 27)) := hW5
        clear hW5
        go_wp2_with (at_builtin; rw [← HW5.out]; refine wpList_append_any rfl _ _ 26 rfl w0.heap.size 27 j0 (.slice none 0 0) 1 24 Try.underlying26 hj hj0 hj1 hj2 rfl (by decide) _ _ _ rfl HP5.out (some ⟨w3.heap.size + 1, 0, none⟩) 1 1 [.slice (some ⟨w3.heap.size, 0, none⟩) 2 2] rfl rfl (fun _ => ⟨_, rfl, HQ.out.2.2⟩) (by intro u hu; simp at hu; subst hu; rfl) (by unfold maxLen; omega) (by omega) hB5 ?_; intro va vc w5 hown hgr hat; have HT : Hid _ := HMt2.out.addP HQ.out.1 hle5 HQ.out.2.1 hown hgr; have z1 := blkCell HT.out.1 0 _ rfl; have f1 := blkFree HT.out.1 0; clear hown hgr hat)
        exact ⟨⟨i + 1, _, _, _, _, by omega, by go_num, by rw [HE.out]; exact HT.out.2⟩, by simp [intOf]; omega⟩
    · obtain rfl : i = mine.length := by omega
      have HMe : Hid (mt = ⟨(msAt mine bank mine.length).ps, (msAt mine bank mine.length).ms, bkAt (msAt mine bank mine.length).tk bank.length, sm - sb⟩) := HMt.out
      clear HMs HMt
      generalize msAt mine bank mine.length = st at *
      obtain ⟨tk, ps, ms⟩ := st
      dsimp only at HM HMe hlen
      go_wp2
      go_loopw [10, 11, 54] (fun _ _ c wq => ∃ (k : Nat) (bv : Value), k ≤ bank.length ∧ c = .int .i64 (k : Int) ∧ Mx w0 mb pb bank.length tk ps ms (bkAt tk k) (sm - sb) (.slice pa ps.length pc) (.slice ma2 ms.length mc2) bv vs wq) (fun _ _ c _ => bank.length - (intOf c).toNat)
      case atStart => exact ⟨0, _, Nat.zero_le _, rfl, HM.out⟩
      case round =>
        clear HM hmbl
        obtain ⟨k, bv, hkl, rfl, hM⟩ := hrel
        obtain ⟨ba3, bc3, rfl⟩ := row_slice hM.ans.brow
        have hbl := bkAt_len tk k
        have HM : Hid (Mx w0 mb pb bank.length tk ps ms (bkAt tk k) (sm - sb) (.slice pa ps.length pc) (.slice ma2 ms.length mc2) (.slice ba3 (bkAt tk k).length bc3) vs wr) := hM
        have hmbl : mb < wr.heap.size := blkLt hM.box
        have hpl : pb < wr.heap.size := hM.par.lt
        clear hM
        by_cases hk : k < bank.length
        · have hk' : (k : Int) < (bank.length : Int) := by omega
          have p0 := HM.out.par.cell hk
          have y2 : wr.cell? ⟨mb, 2, none⟩ = some (.slice ba3 (bkAt tk k).length bc3) := blkCell HM.out.box 2 _ rfl
          cases htk : tk k
          · have HE : Hid (bkAt tk (k + 1) = bkAt tk k ++ [k]) := by show _ = _; rw [bkAt, htk]; rfl
            rw [htk] at p0
            clear htk
            generalize bkAt tk k = bs at *
            have HM4 : Hid (Mx w0 mb pb bank.length tk ps ms bs (sm - sb) (.slice pa ps.length pc) (.slice ma2 ms.length mc2) (.slice ba3 bs.length bc3) vs (wr.alloc (Obj.cells #[.int .i64 (k : Int)] 3))) := HM.out.later (below_alloc _ _)
            have hB4 : w0.heap.size ≤ (wr.alloc (Obj.cells #[.int .i64 (k : Int)] 3)).heap.size := HM4.out.low.size
            go_wp2_with (at_builtin; refine wpList_append_any rfl _ _ 27 rfl w0.heap.size 3 i0 (.int .i64 0) 1 8 Try.underlying27 hi hi0 hi1 hi2 rfl (by decide) _ _ _ rfl HM4.out.ans.brow (some ⟨wr.heap.size, 0, none⟩) 1 1 [nV k] rfl rfl (fun _ => ⟨_, rfl, newsOne wr _ _⟩) (by intro u hu; simp at hu; subst hu; rfl) (by unfold maxLen; omega) (by omega) hB4 ?_; intro va vc w5 hown hgr hat; have HT : Hid _ := HM4.out.addB hown hgr hat; have z1 := blkCell HT.out.1 2 _ rfl; have f1 := blkFree HT.out.1 2; clear hown hgr hat)
            exact ⟨⟨k + 1, _, by omega, by go_num, by rw [HE.out]; exact HT.out.2⟩, by simp [intOf]; omega⟩
          · have HE : Hid (bkAt tk (k + 1) = bkAt tk k) := by show _ = _; rw [bkAt, htk]; rfl
            rw [htk] at p0
            clear htk
            go_wp2
            exact ⟨⟨k + 1, _, by omega, by go_num, by rw [HE.out]; exact HM.out⟩, by simp [intOf]; omega⟩
        · obtain rfl : k = bank.length := by omega
          have y0 : wr.cell? ⟨mb, 0, none⟩ = some (.slice pa ps.length pc) := blkCell HM.out.box 0 _ rfl
          have y1 : wr.cell? ⟨mb, 1, none⟩ = some (.slice ma2 ms.length mc2) := blkCell HM.out.box 1 _ rfl
          have y2 : wr.cell? ⟨mb, 2, none⟩ = some (.slice ba3 (bkAt tk bank.length).length bc3) := blkCell HM.out.box 2 _ rfl
          have y3 : wr.cell? ⟨mb, 3, none⟩ = some (.int .i64 (sm - sb)) := blkCell HM.out.box 3 _ rfl
          have hrw : w.heap.size < wr.heap.size := Nat.lt_of_lt_of_le HB0.out.2.2 HM.out.low.size
          have hrb : wr.heap[w.heap.size]? = some (.cells zM 29 (0, 0)) := (HM.out.low.block _ HB0.out.2.2).trans HB0.out.2.1
          have r0 : wr.cell? ⟨w.heap.size, 0, none⟩ = some (.slice none 0 0) := blkCell hrb 0 _ rfl
          have r1 : wr.cell? ⟨w.heap.size, 1, none⟩ = some (.slice none 0 0) := blkCell hrb 1 _ rfl
          have r2 : wr.cell? ⟨w.heap.size, 2, none⟩ = some (.slice none 0 0) := blkCell hrb 2 _ rfl
          have r3 : wr.cell? ⟨w.heap.size, 3, none⟩ = some (.int .i64 0) := blkCell hrb 3 _ rfl
          have g0 := blkFree hrb 0
          have g1 := blkFree hrb 1
          have g2 := blkFree hrb 2
          have g3 := blkFree hrb 3
          have HLe : Hid (w.heap.size ≤ w0.heap.size ∧ Below w.heap.size w wr) := ⟨HB0.out.1.size, chain HB0.out.1 HM.out.low⟩
          have HKp : Hid (∀ W, (∀ q, q ≠ w.heap.size → W.heap[q]? = wr.heap[q]?) → AnsM w.heap.size ps ms (bkAt tk bank.length) (.slice pa ps.length pc) (.slice ma2 ms.length mc2) (.slice ba3 (bkAt tk bank.length).length bc3) vs W) := fun W hW => (HM.out.ans.same (fun q hq => hW q (fun e => by have := (HM.out.ans.lt q hq).1; have := HB0.out.2.2; omega))).mono HLe.out.1
          have HS4 := set4 wr w.heap.size (.slice pa ps.length pc) (.slice ma2 ms.length mc2) (.slice ba3 (bkAt tk bank.length).length bc3) (.int .i64 (sm - sb)) zM 29 rfl hrb
          have H4 : Hid (∀ WE, WE = (((wr.setCell ⟨w.heap.size, 0, none⟩ (.slice pa ps.length pc)).setCell ⟨w.heap.size, 1, none⟩ (.slice ma2 ms.length mc2)).setCell ⟨w.heap.size, 2, none⟩ (.slice ba3 (bkAt tk bank.length).length bc3)).setCell ⟨w.heap.size, 3, none⟩ (.int .i64 (sm - sb)) → WE.heap[w.heap.size]? = some (.cells #[.slice pa ps.length pc, .slice ma2 ms.length mc2, .slice ba3 (bkAt tk bank.length).length bc3, .int .i64 (sm - sb)] 29 (0, 0)) ∧ (∀ q, q ≠ w.heap.size → WE.heap[q]? = wr.heap[q]?) ∧ ∀ B, B ≤ w.heap.size → Below B wr WE) := HS4
          clear hrb HS4
          go_wp2
          obtain ⟨WE, hWE⟩ : ∃ WE, WE = (((wr.setCell ⟨w.heap.size, 0, none⟩ (.slice pa ps.length pc)).setCell ⟨w.heap.size, 1, none⟩ (.slice ma2 ms.length mc2)).setCell ⟨w.heap.size, 2, none⟩ (.slice ba3 (bkAt tk bank.length).length bc3)).setCell ⟨w.heap.size, 3, none⟩ (.int .i64 (sm - sb)) := ⟨_, rfl⟩
          rw [← hWE]
          have HE4 : Hid _ := H4.out WE hWE
          have z0 : WE.cell? ⟨w.heap.size, 0, none⟩ = some (.slice pa ps.length pc) := blkCell HE4.out.1 0 _ rfl
          have z1 : WE.cell? ⟨w.heap.size, 1, none⟩ = some (.slice ma2 ms.length mc2) := blkCell HE4.out.1 1 _ rfl
          have z2 : WE.cell? ⟨w.heap.size, 2, none⟩ = some (.slice ba3 (bkAt tk bank.length).length bc3) := blkCell HE4.out.1 2 _ rfl
          have z3 : WE.cell? ⟨w.heap.size, 3, none⟩ = some (.int .i64 (sm - sb)) := blkCell HE4.out.1 3 _ rfl
          clear hWE
          refine bodyPost_ret (v := .agg #[.slice pa ps.length pc, .slice ma2 ms.length mc2, .slice ba3 (bkAt tk bank.length).length bc3, .int .i64 (sm - sb)]) (by simp [results, Try.results21, go_sem, z0, z1, z2, z3]) rfl ?_
          rw [HMe.out]
          exact ⟨pa, ma2, ba3, pc, mc2, bc3, vs, rfl, HKp.out WE HE4.out.2.1, HLe.out.2.trans (HE4.out.2.2 _ (Nat.le_refl _))⟩
theorem flt_ways (mine bank : List RSe) : ((4096 : Int) < (mine.length : Int) ∧ fltS mine bank = 2) ∨ ((mine.length : Int) ≤ 4096 ∧ (4096 : Int) < (bank.length : Int) ∧ fltS mine bank = 2) ∨ ((mine.length : Int) ≤ 4096 ∧ (bank.length : Int) ≤ 4096 ∧ (60 : Int) < (mine.length : Int) ∧ fltS mine bank = 9) ∨ ((mine.length : Int) ≤ 4096 ∧ (bank.length : Int) ≤ 4096 ∧ (mine.length : Int) ≤ 60 ∧ (60 : Int) < (bank.length : Int) ∧ fltS mine bank = 9) ∨
    ((mine.length : Int) ≤ 4096 ∧ (bank.length : Int) ≤ 4096 ∧ (mine.length : Int) ≤ 60 ∧ (bank.length : Int) ≤ 60 ∧ seAll mine = false ∧ fltS mine bank = 1) ∨ ((mine.length : Int) ≤ 4096 ∧ (bank.length : Int) ≤ 4096 ∧ (mine.length : Int) ≤ 60 ∧ (bank.length : Int) ≤ 60 ∧ seAll mine = true ∧ seAll bank = false ∧ fltS mine bank = 1) ∨ ((mine.length : Int) ≤ 4096 ∧ (bank.length : Int) ≤ 4096 ∧ (mine.length : Int) ≤ 60 ∧ (bank.length : Int) ≤ 60 ∧ seAll mine = true ∧ seAll bank = true ∧ fltS mine bank = 0) := by
  unfold fltS
  by_cases h1 : 4096 < mine.length
  · exact .inl ⟨by omega, by rw [if_pos (.inl h1)]⟩
  by_cases h2 : 4096 < bank.length
  · exact .inr (.inl ⟨by omega, by omega, by rw [if_pos (.inr h2)]⟩)
  rw [if_neg (by omega)]
  by_cases h3 : 60 < mine.length
  · exact .inr (.inr (.inl ⟨by omega, by omega, by omega, by rw [if_pos (.inl h3)]⟩))
  by_cases h4 : 60 < bank.length
  · exact .inr (.inr (.inr (.inl ⟨by omega, by omega, by omega, by omega, by rw [if_pos (.inr h4)]⟩)))
  rw [if_neg (by omega)]
  cases h5 : seAll mine
  · exact .inr (.inr (.inr (.inr (.inl ⟨by omega, by omega, by omega, by omega, rfl, rfl⟩))))
  cases h6 : seAll bank
  · exact .inr (.inr (.inr (.inr (.inr (.inl ⟨by omega, by omega, by omega, by omega, rfl, rfl, rfl⟩)))))
  · exact .inr (.inr (.inr (.inr (.inr (.inr ⟨by omega, by omega, by omega, by omega, rfl, rfl, rfl⟩)))))
theorem mtR_no {mine bank : List RSe} {c : Int} (h : fltS mine bank = c) (hc : c ≠ 0) : mtR mine bank = noMt := by unfold mtR; rw [h, if_neg hc]
theorem mtR_yes {mine bank : List RSe} (h : fltS mine bank = 0) : mtR mine bank = mtOf mine bank := by unfold mtR; rw [if_pos h]
set_option maxHeartbeats 8000000 in
set_option maxRecDepth 4000 in
theorem implSettle_any (ma ba : Option Addr) (mc bc : Nat) (mine bank : List RSe) (hlm : mine.length ≤ 100000000) (hlb : bank.length ≤ 100000000) (hpm : ∀ r ∈ mine, SeOK r) (hpb : ∀ r ∈ bank, SeOK r) (w : World) (hrm : ReadsSe w.heap.size w ma mine) (hrb : ReadsSe w.heap.size w ba bank) :
    Calls Try.prog 6 #[.slice ma mine.length mc, .slice ba bank.length bc] w (MtP w (mtR mine bank) (fltS mine bank)) := by
  have HRm : Hid (ReadsSe w.heap.size w ma mine) := hrm
  have HRb : Hid (ReadsSe w.heap.size w ba bank) := hrb
  have HOm : Hid (∀ b, seAll mine = b → ∀ W, Below w.heap.size w W → Calls Try.prog 20 #[.slice ma mine.length mc] W fun e w' => e = .returned (.bool b) ∧ Below W.heap.size W w') := fun b h W hW => h ▸ settledOK_any ma mc mine hlm hpm W (hrm.later hW)
  have HOb : Hid (∀ b, seAll bank = b → ∀ W, Below w.heap.size w W → Calls Try.prog 20 #[.slice ba bank.length bc] W fun e w' => e = .returned (.bool b) ∧ Below W.heap.size W w') := fun b h W hW => h ▸ settledOK_any ba bc bank hlb hpb W (hrb.later hW)
  have HNo : Hid (∀ (W : World) (c : Int), Below w.heap.size w W → MtP w noMt c (.returned (.tuple #[.agg #[.slice none 0 0, .slice none 0 0, .slice none 0 0, .int .i64 0], .int .i64 c])) W) := fun W c hW => ⟨none, none, none, 0, 0, 0, _, rfl, ansM_none _ _, hW⟩
  clear hrm hrb hpm hpb
  rcases flt_ways mine bank with ⟨h1, hf⟩ | ⟨h1, h2, hf⟩ | ⟨h1, h2, h3, hf⟩ | ⟨h1, h2, h3, h4, hf⟩ | ⟨h1, h2, h3, h4, h5, hf⟩ | ⟨h1, h2, h3, h4, h5, h6, hf⟩ | ⟨h1, h2, h3, h4, h5, h6, hf⟩
  · rw [mtR_no hf (by decide), hf]
    clear hf
    go_enter Try.func6, Try.ntmps6
    go_wp2
    refine bodyPost_ret (v := .tuple #[.agg #[.slice none 0 0, .slice none 0 0, .slice none 0 0, .int .i64 0], .int .i64 2]) (by simp [results, Try.results6, go_sem]) rfl ?_
    exact HNo.out _ _ (below_alloc _ _)
  · rw [mtR_no hf (by decide), hf]
    clear hf
    go_enter Try.func6, Try.ntmps6
    go_wp2
    refine bodyPost_ret (v := .tuple #[.agg #[.slice none 0 0, .slice none 0 0, .slice none 0 0, .int .i64 0], .int .i64 2]) (by simp [results, Try.results6, go_sem]) rfl ?_
    exact HNo.out _ _ (below_alloc _ _)
  · rw [mtR_no hf (by decide), hf]
    clear hf
    go_enter Try.func6, Try.ntmps6
    go_wp2
    refine bodyPost_ret (v := .tuple #[.agg #[.slice none 0 0, .slice none 0 0, .slice none 0 0, .int .i64 0], .int .i64 9]) (by simp [results, Try.results6, go_sem]) rfl ?_
    exact HNo.out _ _ (below_alloc _ _)
  · rw [mtR_no hf (by decide), hf]
    clear hf
    go_enter Try.func6, Try.ntmps6
    go_wp2
    refine bodyPost_ret (v := .tuple #[.agg #[.slice none 0 0, .slice none 0 0, .slice none 0 0, .int .i64 0], .int .i64 9]) (by simp [results, Try.results6, go_sem]) rfl ?_
    exact HNo.out _ _ (below_alloc _ _)
  · rw [mtR_no hf (by decide), hf]
    have H1 : Hid _ := HOm.out _ h5
    clear h5
    clear hf
    go_enter Try.func6, Try.ntmps6
    go_wp2_with fail
    (first | go_at_call 20 | skip)
    refine (H1.out _ (below_alloc _ _)).mono ?_
    rintro e w1 ⟨rfl, hb_w1⟩
    have hbk : w1.heap[w.heap.size]? = some (.cells zM 29 (0, 0)) := (hb_w1.block w.heap.size (by simp)).trans (heapNew _ _)
    have r0 : w1.cell? ⟨w.heap.size, 0, none⟩ = some (.slice none 0 0) := blkCell hbk 0 _ rfl
    have r1 : w1.cell? ⟨w.heap.size, 1, none⟩ = some (.slice none 0 0) := blkCell hbk 1 _ rfl
    have r2 : w1.cell? ⟨w.heap.size, 2, none⟩ = some (.slice none 0 0) := blkCell hbk 2 _ rfl
    have r3 : w1.cell? ⟨w.heap.size, 3, none⟩ = some (.int .i64 0) := blkCell hbk 3 _ rfl
    have g0 := blkFree hbk 0
    have g1 := blkFree hbk 1
    have g2 := blkFree hbk 2
    have g3 := blkFree hbk 3
    have hwl : w.heap.size < w1.heap.size := blkLt hbk
    have HBw : Hid (Below w.heap.size w w1) := chain (below_alloc _ _) hb_w1
    clear hb_w1
    have HS4 := set4 w1 w.heap.size (.slice none 0 0) (.slice none 0 0) (.slice none 0 0) (.int .i64 0) zM 29 rfl hbk
    have H4 : Hid (∀ WE, WE = ((((w1.setCell ⟨w.heap.size, 0, none⟩ (.slice none 0 0)).setCell ⟨w.heap.size, 1, none⟩ (.slice none 0 0)).setCell ⟨w.heap.size, 2, none⟩ (.slice none 0 0)).setCell ⟨w.heap.size, 3, none⟩ (.int .i64 0)) → WE.heap[w.heap.size]? = some (.cells #[.slice none 0 0, .slice none 0 0, .slice none 0 0, .int .i64 0] 29 (0, 0)) ∧ (∀ q, q ≠ w.heap.size → WE.heap[q]? = w1.heap[q]?) ∧ ∀ B, B ≤ w.heap.size → Below B w1 WE) := HS4
    clear hbk HS4
    go_wp2
    obtain ⟨WE, hWE⟩ : ∃ WE, WE = ((((w1.setCell ⟨w.heap.size, 0, none⟩ (.slice none 0 0)).setCell ⟨w.heap.size, 1, none⟩ (.slice none 0 0)).setCell ⟨w.heap.size, 2, none⟩ (.slice none 0 0)).setCell ⟨w.heap.size, 3, none⟩ (.int .i64 0)) := ⟨_, rfl⟩
    rw [← hWE]
    have HE4 : Hid _ := H4.out WE hWE
    have z0 : WE.cell? ⟨w.heap.size, 0, none⟩ = some (.slice none 0 0) := blkCell HE4.out.1 0 _ rfl
    have z1 : WE.cell? ⟨w.heap.size, 1, none⟩ = some (.slice none 0 0) := blkCell HE4.out.1 1 _ rfl
    have z2 : WE.cell? ⟨w.heap.size, 2, none⟩ = some (.slice none 0 0) := blkCell HE4.out.1 2 _ rfl
    have z3 : WE.cell? ⟨w.heap.size, 3, none⟩ = some (.int .i64 0) := blkCell HE4.out.1 3 _ rfl
    clear hWE
    refine bodyPost_ret (v := .tuple #[.agg #[.slice none 0 0, .slice none 0 0, .slice none 0 0, .int .i64 0], .int .i64 1]) (by simp [results, Try.results6, go_sem, z0, z1, z2, z3]) rfl ?_
    exact HNo.out _ _ (HBw.out.trans (HE4.out.2.2 _ (Nat.le_refl _)))
  · rw [mtR_no hf (by decide), hf]
    have H1 : Hid _ := HOm.out _ h5
    have H2 : Hid _ := HOb.out _ h6
    clear h5 h6
    clear hf
    go_enter Try.func6, Try.ntmps6
    go_wp2_with fail
    (first | go_at_call 20 | skip)
    refine (H1.out _ (below_alloc _ _)).mono ?_
    rintro e w1 ⟨rfl, hb_w1⟩
    go_wp2_with fail
    (first | go_at_call 20 | skip)
    refine (H2.out w1 (chain (below_alloc _ _) hb_w1)).mono ?_
    rintro e w2 ⟨rfl, hb_w2⟩
    have hb2 := chain hb_w1 hb_w2
    clear hb_w1 hb_w2
    have hbk : w2.heap[w.heap.size]? = some (.cells zM 29 (0, 0)) := (hb2.block w.heap.size (by simp)).trans (heapNew _ _)
    have r0 : w2.cell? ⟨w.heap.size, 0, none⟩ = some (.slice none 0 0) := blkCell hbk 0 _ rfl
    have r1 : w2.cell? ⟨w.heap.size, 1, none⟩ = some (.slice none 0 0) := blkCell hbk 1 _ rfl
    have r2 : w2.cell? ⟨w.heap.size, 2, none⟩ = some (.slice none 0 0) := blkCell hbk 2 _ rfl
    have r3 : w2.cell? ⟨w.heap.size, 3, none⟩ = some (.int .i64 0) := blkCell hbk 3 _ rfl
    have g0 := blkFree hbk 0
    have g1 := blkFree hbk 1
    have g2 := blkFree hbk 2
    have g3 := blkFree hbk 3
    have hwl : w.heap.size < w2.heap.size := blkLt hbk
    have HBw : Hid (Below w.heap.size w w2) := chain (below_alloc _ _) hb2
    clear hb2
    have HS4 := set4 w2 w.heap.size (.slice none 0 0) (.slice none 0 0) (.slice none 0 0) (.int .i64 0) zM 29 rfl hbk
    have H4 : Hid (∀ WE, WE = ((((w2.setCell ⟨w.heap.size, 0, none⟩ (.slice none 0 0)).setCell ⟨w.heap.size, 1, none⟩ (.slice none 0 0)).setCell ⟨w.heap.size, 2, none⟩ (.slice none 0 0)).setCell ⟨w.heap.size, 3, none⟩ (.int .i64 0)) → WE.heap[w.heap.size]? = some (.cells #[.slice none 0 0, .slice none 0 0, .slice none 0 0, .int .i64 0] 29 (0, 0)) ∧ (∀ q, q ≠ w.heap.size → WE.heap[q]? = w2.heap[q]?) ∧ ∀ B, B ≤ w.heap.size → Below B w2 WE) := HS4
    clear hbk HS4
    go_wp2
    obtain ⟨WE, hWE⟩ : ∃ WE, WE = ((((w2.setCell ⟨w.heap.size, 0, none⟩ (.slice none 0 0)).setCell ⟨w.heap.size, 1, none⟩ (.slice none 0 0)).setCell ⟨w.heap.size, 2, none⟩ (.slice none 0 0)).setCell ⟨w.heap.size, 3, none⟩ (.int .i64 0)) := ⟨_, rfl⟩
    rw [← hWE]
    have HE4 : Hid _ := H4.out WE hWE
    have z0 : WE.cell? ⟨w.heap.size, 0, none⟩ = some (.slice none 0 0) := blkCell HE4.out.1 0 _ rfl
    have z1 : WE.cell? ⟨w.heap.size, 1, none⟩ = some (.slice none 0 0) := blkCell HE4.out.1 1 _ rfl
    have z2 : WE.cell? ⟨w.heap.size, 2, none⟩ = some (.slice none 0 0) := blkCell HE4.out.1 2 _ rfl
    have z3 : WE.cell? ⟨w.heap.size, 3, none⟩ = some (.int .i64 0) := blkCell HE4.out.1 3 _ rfl
    clear hWE
    refine bodyPost_ret (v := .tuple #[.agg #[.slice none 0 0, .slice none 0 0, .slice none 0 0, .int .i64 0], .int .i64 1]) (by simp [results, Try.results6, go_sem, z0, z1, z2, z3]) rfl ?_
    exact HNo.out _ _ (HBw.out.trans (HE4.out.2.2 _ (Nat.le_refl _)))
  · rw [mtR_yes hf, hf]
    have HMa : Hid (∀ W, Below w.heap.size w W → Calls Try.prog 21 #[.slice ma mine.length mc, .slice ba bank.length bc] W fun e w' => ∃ (pa ma ba : Option Addr) (pc mc bc : Nat) (vs : Nat → Value), e = .returned (.agg #[.slice pa (mtOf mine bank).ps.length pc, .slice ma (mtOf mine bank).ms.length mc, .slice ba (mtOf mine bank).bs.length bc, .int .i64 (mtOf mine bank).df]) ∧ AnsM W.heap.size (mtOf mine bank).ps (mtOf mine bank).ms (mtOf mine bank).bs (.slice pa (mtOf mine bank).ps.length pc) (.slice ma (mtOf mine bank).ms.length mc) (.slice ba (mtOf mine bank).bs.length bc) vs w' ∧ Below W.heap.size W w') := fun W hW => matched_any ma ba mc bc mine bank (by omega) (by omega) (seAll_am h5) (seAll_am h6) W (HRm.out.later hW) (HRb.out.later hW)
    generalize mtOf mine bank = t at *
    have H1 : Hid _ := HOm.out _ h5
    have H2 : Hid _ := HOb.out _ h6
    clear h5 h6
    clear hf
    go_enter Try.func6, Try.ntmps6
    go_wp2_with fail
    (first | go_at_call 20 | skip)
    refine (H1.out _ (below_alloc _ _)).mono ?_
    rintro e w1 ⟨rfl, hb_w1⟩
    go_wp2_with fail
    (first | go_at_call 20 | skip)
    refine (H2.out w1 (chain (below_alloc _ _) hb_w1)).mono ?_
    rintro e w2 ⟨rfl, hb_w2⟩
    have HB2 : Hid (Below (w.alloc (Obj.cells zM 29)).heap.size (w.alloc (Obj.cells zM 29)) w2) := chain hb_w1 hb_w2
    clear hb_w1 hb_w2
    go_wp2_with fail
    (first | go_at_call 21 | skip)
    refine (HMa.out w2 (chain (below_alloc _ _) HB2.out)).mono ?_
    rintro e w3 ⟨pa, xa, ya, pc, xc, yc, vs, rfl, hA, hb3⟩
    have hb2 := chain HB2.out hb3
    have HA : Hid (AnsM w2.heap.size t.ps t.ms t.bs (.slice pa t.ps.length pc) (.slice xa t.ms.length xc) (.slice ya t.bs.length yc) vs w3) := hA
    have hw2 : w.heap.size < w2.heap.size := Nat.lt_of_lt_of_le (by simp) HB2.out.size
    clear hb3 hA HB2
    have hbk : w3.heap[w.heap.size]? = some (.cells zM 29 (0, 0)) := (hb2.block w.heap.size (by simp)).trans (heapNew _ _)
    have r0 : w3.cell? ⟨w.heap.size, 0, none⟩ = some (.slice none 0 0) := blkCell hbk 0 _ rfl
    have r1 : w3.cell? ⟨w.heap.size, 1, none⟩ = some (.slice none 0 0) := blkCell hbk 1 _ rfl
    have r2 : w3.cell? ⟨w.heap.size, 2, none⟩ = some (.slice none 0 0) := blkCell hbk 2 _ rfl
    have r3 : w3.cell? ⟨w.heap.size, 3, none⟩ = some (.int .i64 0) := blkCell hbk 3 _ rfl
    have g0 := blkFree hbk 0
    have g1 := blkFree hbk 1
    have g2 := blkFree hbk 2
    have g3 := blkFree hbk 3
    have hwl : w.heap.size < w3.heap.size := blkLt hbk
    have HBw : Hid (Below w.heap.size w w3) := chain (below_alloc _ _) hb2
    clear hb2
    have HS4 := set4 w3 w.heap.size (.slice pa t.ps.length pc) (.slice xa t.ms.length xc) (.slice ya t.bs.length yc) (.int .i64 t.df) zM 29 rfl hbk
    have H4 : Hid (∀ WE, WE = ((((w3.setCell ⟨w.heap.size, 0, none⟩ (.slice pa t.ps.length pc)).setCell ⟨w.heap.size, 1, none⟩ (.slice xa t.ms.length xc)).setCell ⟨w.heap.size, 2, none⟩ (.slice ya t.bs.length yc)).setCell ⟨w.heap.size, 3, none⟩ (.int .i64 t.df)) → WE.heap[w.heap.size]? = some (.cells #[.slice pa t.ps.length pc, .slice xa t.ms.length xc, .slice ya t.bs.length yc, .int .i64 t.df] 29 (0, 0)) ∧ (∀ q, q ≠ w.heap.size → WE.heap[q]? = w3.heap[q]?) ∧ ∀ B, B ≤ w.heap.size → Below B w3 WE) := HS4
    clear hbk HS4
    go_wp2
    obtain ⟨WE, hWE⟩ : ∃ WE, WE = ((((w3.setCell ⟨w.heap.size, 0, none⟩ (.slice pa t.ps.length pc)).setCell ⟨w.heap.size, 1, none⟩ (.slice xa t.ms.length xc)).setCell ⟨w.heap.size, 2, none⟩ (.slice ya t.bs.length yc)).setCell ⟨w.heap.size, 3, none⟩ (.int .i64 t.df)) := ⟨_, rfl⟩
    rw [← hWE]
    have HE4 : Hid _ := H4.out WE hWE
    have z0 : WE.cell? ⟨w.heap.size, 0, none⟩ = some (.slice pa t.ps.length pc) := blkCell HE4.out.1 0 _ rfl
    have z1 : WE.cell? ⟨w.heap.size, 1, none⟩ = some (.slice xa t.ms.length xc) := blkCell HE4.out.1 1 _ rfl
    have z2 : WE.cell? ⟨w.heap.size, 2, none⟩ = some (.slice ya t.bs.length yc) := blkCell HE4.out.1 2 _ rfl
    have z3 : WE.cell? ⟨w.heap.size, 3, none⟩ = some (.int .i64 t.df) := blkCell HE4.out.1 3 _ rfl
    clear hWE
    refine bodyPost_ret (v := .tuple #[.agg #[.slice pa t.ps.length pc, .slice xa t.ms.length xc, .slice ya t.bs.length yc, .int .i64 t.df], .int .i64 0]) (by simp [results, Try.results6, go_sem, z0, z1, z2, z3]) rfl ?_
    exact ⟨pa, xa, ya, pc, xc, yc, vs, rfl, (HA.out.same (fun q hq => HE4.out.2.1 q (fun e => by have := (HA.out.lt q hq).1; omega))).mono (Nat.le_of_lt hw2), HBw.out.trans (HE4.out.2.2 _ (Nat.le_refl _))⟩
end Go.Proofs.Ytgjffmeafdpfhaa
