/-
  FnPoints' walk, over what PointsOf draws (a premise here).
-/
import Derived.Test.YtgjplolhcjiidaaPpN
import Derived.Test.YtgjplolhcjiidaaSrc
import Derived.Test.YtgjplolhcjiidaaDrawPa
namespace Go.Proofs.Ytgjplolhcjiidaa
open Go.ChangeShapes Go.WideShapes Go.ChangeAt Go.RowKit Go.Deep
set_option linter.unusedVariables false

theorem obCells_len : ∀ os : List (Int × Int), (obCells os).length = os.length * 2
  | [] => rfl
  | r :: L => by
    show (obC r ++ obCells L).length = _
    rw [List.length_append, obCells_len L]; simp [obC]; omega
theorem obCells_at : ∀ (L : List (Int × Int)) (i : Nat), i < L.length → (obCells L)[i * 2]? = some (.int .i64 (L.getD i (0, 0)).1) ∧ (obCells L)[i * 2 + 1]? = some (.int .i64 (L.getD i (0, 0)).2)
  | r :: L, 0, h => ⟨rfl, rfl⟩
  | r :: L, i + 1, h => by
    have := obCells_at L i (by simpa using h)
    rw [show (i + 1) * 2 = i * 2 + 1 + 1 by omega]
    exact this
/-- What PointsOf draws. -/
def DrawnPa (w : World) (e : Ending) (w' : World) : Prop := ∃ (g : Nat) (rs : List RPa) (cp : Nat), e = .returned (.slice (some ⟨g, 0, none⟩) rs.length cp) ∧ rs.length ≤ 30 ∧ (∀ r ∈ rs, PaD r) ∧ PasAt w' g 0 rs ∧ w.heap.size ≤ g ∧ g < w'.heap.size ∧ Below w.heap.size w w'
theorem PaD.wide {r : RPa} (h : PaD r) : PaWide r := by
  unfold PaD at h
  exact ⟨wfI_of _ (by omega) (by omega), wfI_of _ (by omega) (by omega), wfI_of _ (by omega) (by omega)⟩
set_option maxRecDepth 8000 in
set_option maxHeartbeats 8000000 in
theorem fnPoints_of (a0 : Option Addr) (len0 cap0 : Nat) (w : World) (hl0 : len0 ≤ 1048576) (hd : Calls Try.prog 4 #[.slice a0 len0 cap0] w (DrawnPa w)) :
    Calls Try.prog 3 #[.slice a0 len0 cap0] w fun e w' => e = .returned (.bool true) ∧ Below w.heap.size w w' := by
  have HD : Hid (Calls Try.prog 4 #[.slice a0 len0 cap0] w (DrawnPa w)) := hd
  have hli : ¬ (1048576 : Int) < (len0 : Int) := by omega
  clear hd
  go_enter Try.func3, Try.ntmps3
  go_wp2_with fail
  (first | go_at_call 4 | skip)
  refine HD.out.mono ?_
  rintro e w1 ⟨g, rs, cp, rfl, hrl, hrD, hrA, hg0, hg1, hb1⟩
  have hRun := pointsRun_ok (some ⟨g, 0, none⟩) cp rs (by omega) (fun r hr => (hrD r hr).wide) w1 (.inr ⟨g, 0, rfl, hg1, hrA⟩)
  have HA : Hid (PasAt w1 g 0 rs ∧ Below w.heap.size w w1) := ⟨hrA, hb1⟩
  have HRD : Hid (∀ r ∈ rs, PaD r) := hrD
  have HI : Hid (PtI rs.length (erS rs rs.length) (ptS rs rs.length) ∧ PsOk rs.length (ptS rs rs.length) ∧ 0 ≤ (ptS rs rs.length).sp) := ⟨pt_run rs _, ptS_ok rs _, pt_spent rs _⟩
  have hol := ptO_len rs rs.length
  have HOl : Hid ((ptO rs rs.length).length = rs.length) := hol
  clear hrA hb1 hrD
  have HRun : Hid (Calls Try.prog 5 #[.slice (some ⟨g, 0, none⟩) rs.length cp] w1 fun e w' => ∃ tv lv, e = .returned (.tuple #[tv, .agg #[.int .i64 (ptS rs rs.length).day, .int .i64 (ptS rs rs.length).sp, .int .i64 (ptS rs rs.length).ex, lv], .int .i64 0]) ∧ AnsP w1.heap.size (ptO rs rs.length) (ptS rs rs.length).L tv lv w' ∧ Below w1.heap.size w1 w') := hRun
  clear hRun
  go_wp2_with fail
  (first | go_at_call 5 | skip)
  refine HRun.out.mono ?_
  rintro e w2 ⟨tv, lv, rfl, ⟨hT, hL⟩, hb2⟩
  obtain ⟨ta, tc, rfl⟩ := row_slice hT
  obtain ⟨la, lc, rfl⟩ := row_slice hL
  rw [HOl.out] at hT
  have hz2 := hb2.size
  have H2 : Hid (w2.ownsRow w1.heap.size 32 2 (.slice ta rs.length tc) rs.length (obCells (ptO rs rs.length)) ∧ w2.ownsRow w1.heap.size 36 2 (.slice la (ptS rs rs.length).L.length lc) (ptS rs rs.length).L.length (loCells (ptS rs rs.length).L) ∧ Below w1.heap.size w1 w2) := ⟨hT, hL, hb2⟩
  rw [HOl.out]
  clear hT hL hb2 HRun hol
  have hnl : ((rs.length : Int) != (rs.length : Int)) = false := by simp
  have hIb := HI.out.1.bal
  have hIs := HI.out.2.2
  have hIe := HI.out.2.1.ex1
  have hIe2 := HI.out.2.1.ex2
  have hIs2 := HI.out.2.1.sp2
  have hLl := HI.out.2.1.len
  have HLive : Hid ((∀ r ∈ (ptS rs rs.length).L, LoN r) ∧ ∀ r ∈ (ptS rs rs.length).L, (ptS rs rs.length).day ≤ r.un) := ⟨HI.out.2.1.lot, HI.out.1.live⟩
  have hsl := HI.out.2.1.sum
  have HLf : Hid (sumP (ptS rs rs.length).L = sumP (ptS rs rs.length).L) := rfl
  clear HI
  have HLe : Hid (∃ L, L = (ptS rs rs.length).L) := ⟨_, rfl⟩
  obtain ⟨L, hLe⟩ := HLe.out
  have HLq : Hid (L = (ptS rs rs.length).L) := hLe
  rw [← hLe] at H2 hIb HLive hsl hLl
  rw [← hLe]
  clear hLe HLe HLf
  generalize (ptS rs rs.length).day = dy at *
  generalize (ptS rs rs.length).sp = sp at *
  generalize (ptS rs rs.length).ex = ex at *
  obtain ⟨W3, hW3⟩ : ∃ W3, W3 = w2.alloc (Obj.cells #[.int .i64 dy, .int .i64 sp, .int .i64 ex, .slice la L.length lc] 28) := ⟨_, rfl⟩
  have hz3 : W3.heap.size = w2.heap.size + 1 := by rw [hW3]; simp
  have H3 : Hid (W3.heap[w2.heap.size]? = some (.cells #[.int .i64 dy, .int .i64 sp, .int .i64 ex, .slice la L.length lc] 28 (0, 0)) ∧ Below w2.heap.size w2 W3) := by
    rw [hW3]; exact ⟨heapNew _ _, below_alloc _ _⟩
  have HOb : Hid (∀ W, Below W3.heap.size W3 W → ∀ i, i < rs.length → ∃ tb, ta = some ⟨tb, 0, none⟩ ∧ W.cell? ⟨tb, i * 2, none⟩ = some (.int .i64 (ptAct (i : Int) (rs.getD i zPa) (ptS rs i)).1) ∧ W.cell? ⟨tb, i * 2 + 1, none⟩ = some (.int .i64 (sumP (ptS rs (i + 1)).L)) ∧ W.cell? ⟨g, i * 3, none⟩ = some (.int .i64 (rs.getD i zPa).kd) ∧ W.cell? ⟨g, i * 3 + 1, none⟩ = some (.int .i64 (rs.getD i zPa).nu)) := fun W hW i hi => by
    have hb23 := chain H3.out.2 hW
    have hrow : W.ownsRow w1.heap.size 32 2 (.slice ta rs.length tc) rs.length (obCells (ptO rs rs.length)) := row_of H2.out.1 (fun q hq => hb23.block q (row_lt H2.out.1 q hq).2)
    obtain ⟨tb, c2, hq⟩ := row_some hrow (by omega)
    simp only [Value.slice.injEq, true_and] at hq
    obtain ⟨rfl, rfl⟩ := hq
    have hat := obCells_at (ptO rs rs.length) i (by rw [HOl.out]; exact hi)
    rw [ptO_at rs rs.length i hi] at hat
    have hac := (HA.out.1.below (H2.out.2.2.trans (hb23.mono hz2)) hg1) i hi
    refine ⟨tb, rfl, by rw [hrow.cellAt _ (by omega)]; exact hat.1, by rw [hrow.cellAt _ (by omega)]; exact hat.2, ?_, ?_⟩
    · have := hac.1; rw [Nat.zero_add] at this; exact this
    · have := hac.2.1; rw [Nat.zero_add] at this; exact this
  have HAc : Hid (∀ W, Below W3.heap.size W3 W → W.cell? ⟨w2.heap.size, 0, none⟩ = some (.int .i64 dy) ∧ W.cell? ⟨w2.heap.size, 1, none⟩ = some (.int .i64 sp) ∧ W.cell? ⟨w2.heap.size, 2, none⟩ = some (.int .i64 ex) ∧ W.cell? ⟨w2.heap.size, 3, none⟩ = some (.slice la L.length lc) ∧ Below w.heap.size w W ∧ ∀ i, i < L.length → ∃ lb, la = some ⟨lb, 0, none⟩ ∧ W.cell? ⟨lb, i * 2, none⟩ = some (.int .i64 (L.getD i zLo).nu) ∧ W.cell? ⟨lb, i * 2 + 1, none⟩ = some (.int .i64 (L.getD i zLo).un)) := fun W hW => by
    have hb23 := chain H3.out.2 hW
    have h3 := (hW.block _ (by omega)).trans H3.out.1
    have hrow : W.ownsRow w1.heap.size 36 2 (.slice la L.length lc) L.length (loCells L) := row_of H2.out.2.1 (fun q hq => hb23.block q (row_lt H2.out.2.1 q hq).2)
    refine ⟨blkCell h3 0 _ rfl, blkCell h3 1 _ rfl, blkCell h3 2 _ rfl, blkCell h3 3 _ rfl, chain (chain HA.out.2 H2.out.2.2) hb23, fun i hi => ?_⟩
    obtain ⟨lb, c2, hq⟩ := row_some hrow (by omega)
    simp only [Value.slice.injEq, true_and] at hq
    obtain ⟨rfl, rfl⟩ := hq
    have hat := loCells_at L i hi
    exact ⟨lb, rfl, by rw [hrow.cellAt _ (by omega)]; exact hat.1, by rw [hrow.cellAt _ (by omega)]; exact hat.2⟩
  clear H2 HA
  go_wp2_with fail
  rw [← hW3]
  clear hW3 hnl
  go_loopw [2, 7, 8, 9, 10] (fun r2 e7 l8 i9 _ wr => ∃ i : Nat, i ≤ rs.length ∧ r2 = .bool false ∧ e7 = .int .i64 (erS rs i) ∧ l8 = .int .i64 (sumP (ptS rs i).L) ∧ i9 = .int .i64 (i : Int) ∧ Below W3.heap.size W3 wr) (fun _ _ _ i9 _ _ => rs.length - (intOf i9).toNat)
  case atStart => exact ⟨0, Nat.zero_le _, rfl, rfl, rfl, rfl, Below.refl _ _⟩
  case round =>
    obtain ⟨i, hi, rfl, rfl, rfl, rfl, hb⟩ := hrel
    have HB : Hid (Below W3.heap.size W3 wr) := hb
    clear hb
    by_cases hlt : i < rs.length
    · have hlt' : (i : Int) < (rs.length : Int) := by omega
      obtain ⟨tb, rfl, o0, o1, k0, k1⟩ := HOb.out wr HB.out i hlt
      have hT := pt_tells rs i
      have hE : erS rs (i + 1) = erS rs i + erN (rs.getD i zPa) (ptAct (i : Int) (rs.getD i zPa) (ptS rs i)).1 := rfl
      have hEb := erS_bound rs i
      have hSb := (ptS_ok rs i).sum
      have hSb2 := (ptS_ok rs (i + 1)).sum
      have hD := getPa HRD.out hlt
      have HE : Hid (∃ q, q = erS rs (i + 1)) := ⟨_, rfl⟩
      generalize erS rs i = e0 at *
      generalize hen : erS rs (i + 1) = e1 at *
      generalize sumP (ptS rs i).L = s0 at *
      generalize hsn : sumP (ptS rs (i + 1)).L = s1 at *
      generalize (ptAct (i : Int) (rs.getD i zPa) (ptS rs i)).1 = c at *
      generalize rs.getD i zPa = r at *
      obtain ⟨kd, nu, un⟩ := r
      obtain ⟨t1, t2, t3, t4⟩ := hT
      have HN : Hid (erS rs (i + 1) = e1 ∧ sumP (ptS rs (i + 1)).L = s1) := ⟨hen, hsn⟩
      clear hen hsn HE
      dsimp only [PaD] at hD t1 t2 t3 t4 k0 k1 hE
      have HBa : Hid (Below W3.heap.size W3 (wr.alloc (Obj.cells #[.int .i64 c, .int .i64 s1] 32))) := chain HB.out (below_alloc _ _)
      have hgw : g < wr.heap.size := by have := HB.out.size; omega
      by_cases hc : c = 0
      · subst hc
        by_cases h1 : kd = 1
        · subst h1
          have e1q : e1 = e0 + nu := by rw [hE]; simp [erN]
          have s1q := t2 rfl rfl
          have hq : (s1 != s0 + nu) = false := by rw [s1q]; simp
          subst e1q
          clear t1 t2 t3 t4 hE s1q
          go_wp2_with fail
          go_quiet (fail)
          go_wp2
          exact ⟨⟨i + 1, by omega, rfl, by rw [HN.out.1], by rw [HN.out.2], by go_num, below_drewN HBa.out _⟩, by simp [intOf]; omega⟩
        by_cases h2 : kd = 2
        · subst h2
          have e1q : e1 = e0 := by rw [hE]; simp [erN]
          obtain ⟨s1q, s1p⟩ := t3 rfl rfl
          have hq : (s1 != s0 - nu) = false := by rw [s1q]; simp
          have hq2 : ¬ s1 < 0 := by omega
          subst e1q
          clear t1 t2 t3 t4 hE s1q
          go_wp2_with fail
          go_quiet (fail)
          go_wp2
          exact ⟨⟨i + 1, by omega, rfl, by rw [HN.out.1], by rw [HN.out.2], by go_num, below_drewN HBa.out _⟩, by simp [intOf]; omega⟩
        have e1q : e1 = e0 := by rw [hE]; simp [erN, h1]
        have hk1 : (kd == 1) = false := by rw [beq_eq_false_iff_ne]; exact h1
        have hk2 : (kd == 2) = false := by rw [beq_eq_false_iff_ne]; exact h2
        by_cases h3 : kd = 3
        · subst h3
          have hq := t4 rfl rfl
          have hq2 : ¬ s0 < s1 := by omega
          subst e1q
          clear t1 t2 t3 t4 hE hk1 hk2
          go_wp2
          exact ⟨⟨i + 1, by omega, rfl, by rw [HN.out.1], by rw [HN.out.2], by go_num, HBa.out⟩, by simp [intOf]; omega⟩
        · have hk3 : (kd == 3) = false := by rw [beq_eq_false_iff_ne]; exact h3
          subst e1q
          clear t1 t2 t3 t4 hE h1 h2 h3
          go_wp2
          exact ⟨⟨i + 1, by omega, rfl, by rw [HN.out.1], by rw [HN.out.2], by go_num, HBa.out⟩, by simp [intOf]; omega⟩
      · have hcb : (c != 0) = true := by simpa using hc
        have e1q : e1 = e0 := by rw [hE]; simp [erN, hc]
        have s1q := t1 hc
        have hq : (s1 != s0) = false := by rw [s1q]; simp
        subst e1q
        clear t1 t2 t3 t4 hE hc s1q
        go_wp2
        exact ⟨⟨i + 1, by omega, rfl, by rw [HN.out.1], by rw [HN.out.2], by go_num, HBa.out⟩, by simp [intOf]; omega⟩
    · obtain rfl : i = rs.length := by omega
      rw [← HLq.out]
      clear HOb HLq HRD
      generalize erS rs rs.length = er at *
      go_wp2_with fail
      go_loopw [2, 11, 12] (fun r2 t11 i12 wq => ∃ i : Nat, i ≤ L.length ∧ r2 = .bool false ∧ t11 = .int .i64 (sumP (L.take i)) ∧ i12 = .int .i64 (i : Int) ∧ Below W3.heap.size W3 wq) (fun _ _ i12 _ => L.length - (intOf i12).toNat)
      case atStart => exact ⟨0, Nat.zero_le _, rfl, rfl, rfl, HB.out⟩
      case round =>
        obtain ⟨i, hi, rfl, rfl, rfl, hb⟩ := hrel
        have HB2 : Hid (Below W3.heap.size W3 wr) := hb
        clear hb
        obtain ⟨q0, q1, q2, q3, qb, -⟩ := HAc.out wr HB2.out
        by_cases hlt : i < L.length
        · have hlt' : (i : Int) < (L.length : Int) := by omega
          obtain ⟨lb, rfl, n0, n1⟩ := (HAc.out wr HB2.out).2.2.2.2.2 i hlt
          have hlo := getLo' HLive.out.1 hlt
          have hli2 := getLo' HLive.out.2 hlt
          have hsn := sumP_next L i hlt
          have hst := sumP_take HLive.out.1 i (by omega)
          unfold LoN at hlo
          generalize L.getD i zLo = r at *
          obtain ⟨nu, un⟩ := r
          dsimp only at n0 n1 hlo hli2 hsn
          have HSn : Hid (sumP (L.take (i + 1)) = sumP (L.take i) + nu) := hsn
          clear hsn
          generalize sumP (L.take i) = s at *
          have ha1 : ¬ nu < 1 := by omega
          have ha2 : ¬ un < dy := by omega
          go_wp2_with fail
          go_quiet (fail)
          go_wp2
          exact ⟨⟨i + 1, by omega, rfl, by rw [HSn.out], by go_num, below_drewN HB2.out _⟩, by simp [intOf]; omega⟩
        · obtain rfl : i = L.length := by omega
          rw [List.take_length]
          generalize sumP L = s at *
          have hx1 : (er == s + sp + ex) = true := by rw [beq_iff_eq]; omega
          have hx2 : (s == s) = true := by simp
          go_wp2
          go_ret
          exact ⟨rfl, qb⟩
end Go.Proofs.Ytgjplolhcjiidaa
