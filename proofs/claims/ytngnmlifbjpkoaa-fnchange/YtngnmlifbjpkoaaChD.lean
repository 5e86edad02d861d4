/-
  Contracts of the program's mostOfTheLast and Change, for every list of coins and every amount.
-/
import Derived.Test.YtngnmlifbjpkoaaChC
namespace Go.Proofs.Ytngnmlifbjpkoaa
open Go.ChangeShapes Go.WideShapes Go.ChangeAt Go.RowKit
set_option linter.unusedVariables false

theorem tk_fits (rs : List RCo) (hr : ∀ r ∈ rs, 1 ≤ r.vl ∧ r.vl ≤ 100000 ∧ 0 ≤ r.ct ∧ r.ct ≤ 60) (due : Nat) (h0 : 0 ≤ rwS rs rs.length due) (j : Nat) (hj : j < rs.length) : tkS rs due j * (rs.getD (rs.length - (j + 1)) zCo).vl.toNat ≤ lfS rs due j ∧ tkS rs due j ≤ 60 := by
  have h := (lf_way rs hr due h0 j (by omega)).2.2 hj
  unfold doesS at h
  rw [Bool.and_eq_true] at h
  refine ⟨of_decide_eq_true h.1, ?_⟩
  have h1 := pick_le (rwS rs (rs.length - (j + 1))) (rs.getD (rs.length - (j + 1)) zCo).vl.toNat (lfS rs due j) (rwS rs (rs.length - (j + 1) + 1) (lfS rs due j)) (mS (rs.getD (rs.length - (j + 1)) zCo) (lfS rs due j))
  have h2 : tkS rs due j = pick (rwS rs (rs.length - (j + 1))) (rs.getD (rs.length - (j + 1)) zCo).vl.toNat (lfS rs due j) (rwS rs (rs.length - (j + 1) + 1) (lfS rs due j)) (mS (rs.getD (rs.length - (j + 1)) zCo) (lfS rs due j)) := rfl
  have h3 := (getCo hr (show rs.length - (j + 1) < rs.length by omega)).2.2.2
  have h4 : mS (rs.getD (rs.length - (j + 1)) zCo) (lfS rs due j) ≤ 60 := by unfold mS; omega
  omega
/-- The call of mostOfKind at step j answers what is taken. -/
theorem most_call (rs : List RCo) (h12 : rs.length ≤ 12) (hr : ∀ r ∈ rs, 1 ≤ r.vl ∧ r.vl ≤ 100000 ∧ 0 ≤ r.ct ∧ r.ct ≤ 60) (due : Nat) (hd : due ≤ 10000) (h0 : 0 ≤ rwS rs rs.length due) (j : Nat) (hj : j < rs.length) (b : Nat) (w : World) (hb : RwI w b (due + 1) (rwI rs (rs.length - (j + 1)))) :
    Calls Try.prog 25 #[.agg #[.int .i64 (rs.getD (rs.length - (j + 1)) zCo).vl, .int .i64 (rs.getD (rs.length - (j + 1)) zCo).ct], .slice (some ⟨b, 0, none⟩) (due + 1) (due + 1), .int .i64 (lfS rs due j : Int), .int .i64 (rwI rs (rs.length - (j + 1) + 1) (lfS rs due j))] w fun e w' => e = .returned (.int .i64 (tkS rs due j : Int)) ∧ Below w.heap.size w w' := by
  obtain ⟨h1, h2, h3⟩ := lf_way rs hr due h0 j (by omega)
  have h4 := h3 hj
  rw [show rs.length - j = rs.length - (j + 1) + 1 by omega] at h2
  have hE := rw_both rs hr h12 (rs.length - (j + 1) + 1) (by omega) (lfS rs due j)
  have hf : rwI rs (rs.length - (j + 1) + 1) (lfS rs due j) = rwS rs (rs.length - (j + 1) + 1) (lfS rs due j) ∧ rwS rs (rs.length - (j + 1) + 1) (lfS rs due j) ≤ 720 := by
    rcases hE with ⟨h5, _⟩ | ⟨h5, h6, h7⟩ <;> omega
  rw [hf.1]
  have hc := getCo hr (show rs.length - (j + 1) < rs.length by omega)
  exact mostOfKind_any (rs.getD (rs.length - (j + 1)) zCo) hc (due + 1) b (due + 1) (lfS rs due j) (by omega) (by omega) (rwS rs (rs.length - (j + 1))) (rwI rs (rs.length - (j + 1))) (60 * ((rs.length - (j + 1) : Nat) : Int)) (by omega) (fun i => rw_both rs hr h12 _ (by omega) i) _ ⟨h2, hf.2⟩ ⟨tkS rs due j, pick_le _ _ _ _ _, h4⟩ w hb

set_option maxHeartbeats 4000000 in
set_option maxRecDepth 4000 in
theorem most_any (a : Option Addr) (cap : Nat) (rs : List RCo) (h12 : rs.length ≤ 12) (hr : ∀ r ∈ rs, 1 ≤ r.vl ∧ r.vl ≤ 100000 ∧ 0 ≤ r.ct ∧ r.ct ≤ 60) (due : Nat) (hd : due ≤ 10000) (h0 : 0 ≤ rwS rs rs.length due) (g cp : Nat) (bs : Nat → Nat) (w : World) (hw : ReadsCo w.heap.size w a rs) (hg : GridAt w g (rs.length + 1) (due + 1) bs (rwI rs)) :
    Calls Try.prog 17 #[.int .i64 (due : Int), .slice a rs.length cap, .slice (some ⟨g, 0, none⟩) (rs.length + 1) cp] w fun e w' => ∃ ob, e = .returned (.slice (some ⟨ob, 0, none⟩) rs.length rs.length) ∧ w.heap.size ≤ ob ∧ RwI w' ob rs.length (cnS rs due) ∧ Below w.heap.size w w' := by
  have hmk := fun w => run_make_row' (P := Try.prog) 24 3 (.int .i64 0) 8 Try.underlying24 intInfo rfl .i64 .i64 rs.length (by omega) (by omega) w
  have HR : Hid (ReadsCo w.heap.size w a rs) := hw
  have HGr : Hid (GridAt w g (rs.length + 1) (due + 1) bs (rwI rs)) := hg
  have HOK : Hid (∀ r ∈ rs, 1 ≤ r.vl ∧ r.vl ≤ 100000 ∧ 0 ≤ r.ct ∧ r.ct ≤ 60) := hr
  have HC : Hid (∀ j, j < rs.length → ∀ b w, RwI w b (due + 1) (rwI rs (rs.length - (j + 1))) → Calls Try.prog 25 #[.agg #[.int .i64 (rs.getD (rs.length - (j + 1)) zCo).vl, .int .i64 (rs.getD (rs.length - (j + 1)) zCo).ct], .slice (some ⟨b, 0, none⟩) (due + 1) (due + 1), .int .i64 (lfS rs due j : Int), .int .i64 (rwI rs (rs.length - (j + 1) + 1) (lfS rs due j))] w fun e w' => e = .returned (.int .i64 (tkS rs due j : Int)) ∧ Below w.heap.size w w') := fun j hj b w hb => most_call rs h12 hr due hd h0 j hj b w hb
  have HFt : Hid (∀ j, j < rs.length → tkS rs due j * (rs.getD (rs.length - (j + 1)) zCo).vl.toNat ≤ lfS rs due j ∧ tkS rs due j ≤ 60) := fun j hj => tk_fits rs hr due h0 j hj
  have HLf : Hid (∀ j, j ≤ rs.length → lfS rs due j ≤ due) := fun j hj => (lf_way rs hr due h0 j hj).1
  have HSt : Hid (∀ j, lfS rs due (j + 1) = lfS rs due j - tkS rs due j * (rs.getD (rs.length - (j + 1)) zCo).vl.toNat) := fun j => rfl
  have HCn : Hid (∀ i, cnS rs due i = (tkS rs due (rs.length - 1 - i) : Int)) := fun i => rfl
  have HM : Hid (RwI (w.alloc (Obj.cells (madeCells #[.int .i64 0] rs.length) 3)) w.heap.size rs.length (fun _ => 0)) := World.rowIs_made w (.int .i64 0) rs.length 3
  have hl0 : lfS rs due 0 = due := rfl
  have HL0 : Hid (lfS rs due 0 = due) := hl0
  clear hw hg hr h0 hl0
  generalize lfS rs due = lf at *
  generalize tkS rs due = tk at *
  generalize cnS rs due = cn at *
  go_enter Try.func17, Try.ntmps17
  go_wp2
  obtain ⟨ob, hob⟩ : ∃ ob, ob = w.heap.size := ⟨_, rfl⟩
  have HOb : Hid (w.heap.size ≤ ob) := by rw [hob]; exact Nat.le_refl _
  have HM2 : Hid (RwI (w.alloc (Obj.cells (madeCells #[.int .i64 0] rs.length) 3)) ob rs.length (fun i => if rs.length - 0 ≤ i then cn i else 0)) := by rw [hob]; exact HM.out.congr (fun i hi => by rw [if_neg (by omega)])
  rw [← hob]
  clear hob HM hmk
  go_loopw [8, 17] (fun y x wr => ∃ j : Nat, j ≤ rs.length ∧ x = .int .i64 (j : Int) ∧ y = .int .i64 (lf j : Int) ∧ RwI wr ob rs.length (fun i => if rs.length - j ≤ i then cn i else 0) ∧ Below w.heap.size w wr) (fun _ x _ => rs.length - (intOf x).toNat)
  case atStart => exact ⟨0, Nat.zero_le _, rfl, by rw [HL0.out], HM2.out, below_alloc _ _⟩
  case round =>
    clear HM2
    obtain ⟨j, hj, rfl, rfl, hrw, hbw⟩ := hrel
    have HRw : Hid (RwI wr ob rs.length (fun i => if rs.length - j ≤ i then cn i else 0)) := hrw
    have HB : Hid (Below w.heap.size w wr) := hbw
    clear hrw hbw
    by_cases hjl : j < rs.length
    · have hjl' : (j : Int) < (rs.length : Int) := by omega
      rcases HR.out with h | ⟨b0, o0, ha, hB0, ia⟩
      · rw [h] at hjl; simp at hjl
      subst ha
      have hq1 : (rs.length : Int) - 1 - (j : Int) = ((rs.length - (j + 1) : Nat) : Int) := by omega
      have HQ0 : Hid (∀ W, Below w.heap.size w W → CoAt W b0 (o0 + (rs.length - (j + 1)) * 2) (rs.getD (rs.length - (j + 1)) zCo)) := fun W hW => (ia.below hW hB0) _ (by omega)
      have hC := HC.out j hjl
      have hFt := HFt.out j hjl
      have hLf := HLf.out j (by omega)
      have HSj := HSt.out j
      have HCj : Hid (cn (rs.length - (j + 1)) = (tk j : Int)) := by show _ = _; rw [HCn.out, show rs.length - 1 - (rs.length - (j + 1)) = j by omega]
      have HGa := HGr.out (rs.length - (j + 1)) (by omega)
      have HGb := HGr.out (rs.length - (j + 1) + 1) (by omega)
      have hql : rs.length - (j + 1) < rs.length := by omega
      have HQj : Hid (rs.length - j = rs.length - (j + 1) + 1) := by show _ = _; omega
      clear ia
      generalize rs.length - (j + 1) = q at *
      have hql' : (q : Int) < (rs.length : Int) := by omega
      have hql2 : (q : Int) + 1 < (rs.length : Int) + 1 := by omega
      have hz1 : ((rs.length : Int) + 1 ≤ (q : Int)) = False := eq_false (by omega)
      have hz2 : ((q : Int) + 1 < 0) = False := eq_false (by omega)
      have hz3 : ((rs.length : Int) + 1 ≤ (q : Int) + 1) = False := eq_false (by omega)
      have HB1 : Hid (bs q < w.heap.size) := HGa.2.1.lt
      have HB2 : Hid (bs (q + 1) < w.heap.size) := HGb.2.1.lt
      have HGq : Hid (RwI w (bs q) (due + 1) (rwI rs q)) := HGa.2.1
      have HQ : Hid (∀ W, Below w.heap.size w W → W.cell? ⟨b0, o0 + q * 2, none⟩ = some (.int .i64 (rs.getD q zCo).vl) ∧ W.cell? ⟨b0, o0 + q * 2 + 1, none⟩ = some (.int .i64 (rs.getD q zCo).ct) ∧ W.cell? ⟨g, q, none⟩ = some (.slice (some ⟨bs q, 0, none⟩) (due + 1) (due + 1)) ∧ W.cell? ⟨g, q + 1, none⟩ = some (.slice (some ⟨bs (q + 1), 0, none⟩) (due + 1) (due + 1)) ∧ W.cell? ⟨bs (q + 1), lf j, none⟩ = some (.int .i64 (rwI rs (q + 1) (lf j)))) := fun W hW => ⟨(HQ0.out W hW).1, (HQ0.out W hW).2, (hW.cell (p := ⟨g, q, none⟩) HGa.2.2).trans HGa.1, (hW.cell (p := ⟨g, q + 1, none⟩) HGb.2.2).trans HGb.1, (hW.cell (p := ⟨bs (q + 1), lf j, none⟩) HB2.out).trans (HGb.2.1.cell (by omega))⟩
      have hcv := getCo HOK.out hql
      generalize rs.getD q zCo = r at *
      obtain ⟨v, c⟩ := r
      dsimp only at HQ hC hFt HSj hcv
      obtain ⟨hv1, hv2, _, _⟩ := hcv
      clear HQ0 HGa HGb HB2 HOK
      generalize bs (q + 1) = b2 at *
      generalize bs q = b1 at *
      generalize rwI rs (q + 1) (lf j) = f at *
      generalize hl2 : lf (j + 1) = left2 at *
      have HL2 : Hid (lf (j + 1) = left2) := hl2
      clear hl2
      generalize lf j = left at *
      have hll : (left : Int) < (due : Int) + 1 := by omega
      have hdd : ((due + 1 : Nat) : Int) = (due : Int) + 1 := by omega
      generalize htk : tk j = t at *
      have hmul : (t : Int) * v = ((t * v.toNat : Nat) : Int) := by
        have : (v.toNat : Int) = v := by omega
        rw [Int.natCast_mul, this]
      generalize t * v.toNat = p at *
      have hpl := hFt.1
      have hsub : (left : Int) - (p : Int) = (left2 : Int) := by omega
      have g1 : IntKind.i64.wrap ((q : Int) + 1) = (q : Int) + 1 := wrap_id _ (by omega) (by omega)
      have g2 : IntKind.i64.wrap (p : Int) = (p : Int) := wrap_id _ (by omega) (by omega)
      have g3 : IntKind.i64.wrap (left2 : Int) = (left2 : Int) := wrap_id _ (by omega) (by omega)
      have HCall : Hid (∀ w, RwI w b1 (due + 1) (rwI rs q) → Calls Try.prog 25 #[.agg #[.int .i64 v, .int .i64 c], .slice (some ⟨b1, 0, none⟩) (due + 1) (due + 1), .int .i64 (left : Int), .int .i64 f] w fun e w' => e = .returned (.int .i64 (t : Int)) ∧ Below w.heap.size w w') := fun w h => hC b1 w h
      clear hC
      have HTk : Hid (tk j = t) := htk
      clear htk
      go_wp2
      refine wp_region_held_drew (S := fun W => Below w.heap.size w W) (by kernel_rfl) (chain HB.out (below_drew _)) (fun hH => ?_)
      refine wpAnyH_take (i := 0) (v := .slice (some ⟨ob, 0, none⟩) rs.length rs.length) rfl (by kernel_rfl) (by kernel_rfl) (by kernel_rfl) (fun _ _ _ h => h) (Or.inl ⟨by rfl, fun w hSw => by go_simp⟩) hH ?_
      refine wpAnyH_take (i := 1) (v := .int .i64 ((q : Int))) rfl (by kernel_rfl) (by kernel_rfl) (by kernel_rfl) (fun _ _ _ h => h) (Or.inl ⟨by rfl, fun w hSw => by go_simp⟩) hH ?_
      try simp only [Act.put, List.setIfInBounds_toArray, List.set_cons_zero, List.set_cons_succ, List.getElem_toArray, List.getElem_cons_succ, List.getElem_cons_zero]
      refine wpAnyH_take (i := 2) (v := .slice (some ⟨b0, o0, none⟩) rs.length cap) rfl (by kernel_rfl) (by kernel_rfl) (by kernel_rfl) (fun _ _ _ h => h) (Or.inl ⟨by rfl, fun w hSw => by go_simp⟩) hH ?_
      try simp only [Act.put, List.setIfInBounds_toArray, List.set_cons_zero, List.set_cons_succ, List.getElem_toArray, List.getElem_cons_succ, List.getElem_cons_zero]
      refine wpAnyH_take (i := 3) (v := .int .i64 ((q : Int))) rfl (by kernel_rfl) (by kernel_rfl) (by kernel_rfl) (fun _ _ _ h => h) (Or.inl ⟨by rfl, fun w hSw => by go_simp⟩) hH ?_
      try simp only [Act.put, List.setIfInBounds_toArray, List.set_cons_zero, List.set_cons_succ, List.getElem_toArray, List.getElem_cons_succ, List.getElem_cons_zero]
      refine wpAnyH_take (i := 4) (v := .pointer (some ⟨b0, o0 + q * 2, none⟩)) rfl (by kernel_rfl) (by kernel_rfl) (by kernel_rfl) (fun _ _ _ h => h) (Or.inl ⟨by rfl, fun w hSw => by go_simp⟩) hH ?_
      try simp only [Act.put, List.setIfInBounds_toArray, List.set_cons_zero, List.set_cons_succ, List.getElem_toArray, List.getElem_cons_succ, List.getElem_cons_zero]
      refine wpAnyH_take (i := 5) (v := .agg #[.int .i64 v, .int .i64 c]) rfl (by kernel_rfl) (by kernel_rfl) (by kernel_rfl) (fun _ _ _ h => h) (Or.inl ⟨by rfl, fun w hSw => by obtain ⟨s1, s2, s3, s4, s5⟩ := HQ.out w hSw; go_simp⟩) hH ?_
      try simp only [Act.put, List.setIfInBounds_toArray, List.set_cons_zero, List.set_cons_succ, List.getElem_toArray, List.getElem_cons_succ, List.getElem_cons_zero]
      refine wpAnyH_take (i := 6) (v := .slice (some ⟨g, 0, none⟩) (rs.length + 1) cp) rfl (by kernel_rfl) (by kernel_rfl) (by kernel_rfl) (fun _ _ _ h => h) (Or.inl ⟨by rfl, fun w hSw => by go_simp⟩) hH ?_
      try simp only [Act.put, List.setIfInBounds_toArray, List.set_cons_zero, List.set_cons_succ, List.getElem_toArray, List.getElem_cons_succ, List.getElem_cons_zero]
      refine wpAnyH_take (i := 7) (v := .int .i64 ((q : Int))) rfl (by kernel_rfl) (by kernel_rfl) (by kernel_rfl) (fun _ _ _ h => h) (Or.inl ⟨by rfl, fun w hSw => by go_simp⟩) hH ?_
      try simp only [Act.put, List.setIfInBounds_toArray, List.set_cons_zero, List.set_cons_succ, List.getElem_toArray, List.getElem_cons_succ, List.getElem_cons_zero]
      refine wpAnyH_take (i := 8) (v := .pointer (some ⟨g, q, none⟩)) rfl (by kernel_rfl) (by kernel_rfl) (by kernel_rfl) (fun _ _ _ h => h) (Or.inl ⟨by rfl, fun w hSw => by go_simp⟩) hH ?_
      try simp only [Act.put, List.setIfInBounds_toArray, List.set_cons_zero, List.set_cons_succ, List.getElem_toArray, List.getElem_cons_succ, List.getElem_cons_zero]
      refine wpAnyH_take (i := 9) (v := .slice (some ⟨b1, 0, none⟩) (due + 1) (due + 1)) rfl (by kernel_rfl) (by kernel_rfl) (by kernel_rfl) (fun _ _ _ h => h) (Or.inl ⟨by rfl, fun w hSw => by obtain ⟨s1, s2, s3, s4, s5⟩ := HQ.out w hSw; go_simp⟩) hH ?_
      try simp only [Act.put, List.setIfInBounds_toArray, List.set_cons_zero, List.set_cons_succ, List.getElem_toArray, List.getElem_cons_succ, List.getElem_cons_zero]
      refine wpAnyH_take (i := 10) (v := .int .i64 ((left : Int))) rfl (by kernel_rfl) (by kernel_rfl) (by kernel_rfl) (fun _ _ _ h => h) (Or.inl ⟨by rfl, fun w hSw => by go_simp⟩) hH ?_
      try simp only [Act.put, List.setIfInBounds_toArray, List.set_cons_zero, List.set_cons_succ, List.getElem_toArray, List.getElem_cons_succ, List.getElem_cons_zero]
      refine wpAnyH_take (i := 11) (v := .slice (some ⟨g, 0, none⟩) (rs.length + 1) cp) rfl (by kernel_rfl) (by kernel_rfl) (by kernel_rfl) (fun _ _ _ h => h) (Or.inl ⟨by rfl, fun w hSw => by go_simp⟩) hH ?_
      try simp only [Act.put, List.setIfInBounds_toArray, List.set_cons_zero, List.set_cons_succ, List.getElem_toArray, List.getElem_cons_succ, List.getElem_cons_zero]
      refine wpAnyH_take (i := 12) (v := .int .i64 ((q : Int))) rfl (by kernel_rfl) (by kernel_rfl) (by kernel_rfl) (fun _ _ _ h => h) (Or.inl ⟨by rfl, fun w hSw => by go_simp⟩) hH ?_
      try simp only [Act.put, List.setIfInBounds_toArray, List.set_cons_zero, List.set_cons_succ, List.getElem_toArray, List.getElem_cons_succ, List.getElem_cons_zero]
      refine wpAnyH_take (i := 13) (v := .int .i64 ((q : Int) + 1)) rfl (by kernel_rfl) (by kernel_rfl) (by kernel_rfl) (fun _ _ _ h => h) (Or.inl ⟨by rfl, fun w hSw => by go_simp⟩) hH ?_
      try simp only [Act.put, List.setIfInBounds_toArray, List.set_cons_zero, List.set_cons_succ, List.getElem_toArray, List.getElem_cons_succ, List.getElem_cons_zero]
      refine wpAnyH_take (i := 14) (v := .pointer (some ⟨g, q + 1, none⟩)) rfl (by kernel_rfl) (by kernel_rfl) (by kernel_rfl) (fun _ _ _ h => h) (Or.inl ⟨by rfl, fun w hSw => by go_simp⟩) hH ?_
      try simp only [Act.put, List.setIfInBounds_toArray, List.set_cons_zero, List.set_cons_succ, List.getElem_toArray, List.getElem_cons_succ, List.getElem_cons_zero]
      refine wpAnyH_take (i := 15) (v := .slice (some ⟨b2, 0, none⟩) (due + 1) (due + 1)) rfl (by kernel_rfl) (by kernel_rfl) (by kernel_rfl) (fun _ _ _ h => h) (Or.inl ⟨by rfl, fun w hSw => by obtain ⟨s1, s2, s3, s4, s5⟩ := HQ.out w hSw; go_simp⟩) hH ?_
      try simp only [Act.put, List.setIfInBounds_toArray, List.set_cons_zero, List.set_cons_succ, List.getElem_toArray, List.getElem_cons_succ, List.getElem_cons_zero]
      refine wpAnyH_take (i := 16) (v := .int .i64 ((left : Int))) rfl (by kernel_rfl) (by kernel_rfl) (by kernel_rfl) (fun _ _ _ h => h) (Or.inl ⟨by rfl, fun w hSw => by go_simp⟩) hH ?_
      try simp only [Act.put, List.setIfInBounds_toArray, List.set_cons_zero, List.set_cons_succ, List.getElem_toArray, List.getElem_cons_succ, List.getElem_cons_zero]
      refine wpAnyH_take (i := 17) (v := .pointer (some ⟨b2, left, none⟩)) rfl (by kernel_rfl) (by kernel_rfl) (by kernel_rfl) (fun _ _ _ h => h) (Or.inl ⟨by rfl, fun w hSw => by go_simp⟩) hH ?_
      try simp only [Act.put, List.setIfInBounds_toArray, List.set_cons_zero, List.set_cons_succ, List.getElem_toArray, List.getElem_cons_succ, List.getElem_cons_zero]
      refine wpAnyH_take (i := 18) (v := .int .i64 f) rfl (by kernel_rfl) (by kernel_rfl) (by kernel_rfl) (fun _ _ _ h => h) (Or.inl ⟨by rfl, fun w hSw => by obtain ⟨s1, s2, s3, s4, s5⟩ := HQ.out w hSw; go_simp⟩) hH ?_
      try simp only [Act.put, List.setIfInBounds_toArray, List.set_cons_zero, List.set_cons_succ, List.getElem_toArray, List.getElem_cons_succ, List.getElem_cons_zero]
      refine wpAnyH_ready (rs := [19]) (by kernel_rfl) (by simp) ?_
      refine AllReadyH.cons rfl (fun K hK => ?_) AllReadyH.nil
      go_simp
      go_at_call 25
      refine (HCall.out _ (HGq.out.below hH HB1.out)).mono ?_
      rintro e w2 ⟨rfl, hb2⟩
      have hw2 : Below w.heap.size w w2 := chain hH hb2
      have HR2 : Hid (RwI w2 ob rs.length (fun i => if rs.length - j ≤ i then cn i else 0)) := (HRw.out.below (below_drew _) HRw.out.lt).below hb2 HRw.out.lt
      clear hb2 HRw HB
      refine hK.out _ _ hw2 (fun _ => ?_)
      clear hK K
      try simp only [Act.put, List.setIfInBounds_toArray, List.set_cons_zero, List.set_cons_succ, List.getElem_toArray, List.getElem_cons_succ, List.getElem_cons_zero]
      refine wpAnyH_take (i := 20) (v := .pointer (some ⟨ob, q, none⟩)) rfl (by kernel_rfl) (by kernel_rfl) (by kernel_rfl) (fun _ _ _ h => h) (Or.inl ⟨by rfl, fun w hSw => by go_simp⟩) hw2 ?_
      try simp only [Act.put, List.setIfInBounds_toArray, List.set_cons_zero, List.set_cons_succ, List.getElem_toArray, List.getElem_cons_succ, List.getElem_cons_zero]
      refine wpAnyH_ready (rs := [21]) (by kernel_rfl) (by simp) ?_
      refine AllReadyH.cons rfl (fun K hK => ?_) AllReadyH.nil
      have q5 := HR2.out.cell hql
      have qf := HR2.out.frozen q
      have hw3 : Below w.heap.size w (w2.setCell ⟨ob, q, none⟩ (.int .i64 (t : Int))) := hw2.setCell HOb.out _
      have HR3 : Hid (RwI (w2.setCell ⟨ob, q, none⟩ (.int .i64 (t : Int))) ob rs.length (fun i => if rs.length - (j + 1) ≤ i then cn i else 0)) := (RwI.put HR2.out q (t : Int)).congr (fun i hi => by
        have hqj := HQj.out
        by_cases e : i = q
        · rw [if_pos e, if_pos (by omega), e, HCj.out]
        · rw [if_neg e]
          by_cases e1 : rs.length - j ≤ i
          · rw [if_pos e1, if_pos (by omega)]
          · rw [if_neg e1, if_neg (by omega)])
      go_simp
      clear q5 qf hw2 HR2
      refine hK.out _ _ hw3 (fun _ => ?_)
      clear hK K
      try simp only [Act.put, List.setIfInBounds_toArray, List.set_cons_zero, List.set_cons_succ, List.getElem_toArray, List.getElem_cons_succ, List.getElem_cons_zero]
      refine wpAnyH_done (by kernel_rfl) ?_ _
      try simp
      generalize w2.setCell ⟨ob, q, none⟩ (.int .i64 (t : Int)) = w3 at *
      obtain ⟨s1, s2, s3, s4, s5⟩ := HQ.out w3 hw3
      have k1 : w3.cell? ⟨ob, q, none⟩ = some (.int .i64 (t : Int)) := (HR3.out.cell hql).trans (by have := HQj.out; dsimp only; rw [if_pos (by omega), HCj.out])
      go_wp2
      go_quiet (fail)
      go_wp2
      go_roundw
      case rel => exact ⟨j + 1, by omega, by go_num, by rw [HL2.out]; exact congrArg (fun n : Nat => Value.int .i64 (n : Int)) HSj.symm, HR3.out.below (below_drewN (Below.refl _ _) _) HR3.out.lt, below_drewN hw3 _⟩
      case measure => simp [intOf]; omega
    · obtain rfl : j = rs.length := by omega
      go_wp2
      go_ret
      exact ⟨ob, rfl, HOb.out, HRw.out.congr (fun i hi => by rw [if_pos (by omega)]), HB.out⟩

theorem ch_ways (due : Int) (rs : List RCo) : (4096 < rs.length ∧ chCode due rs = 2) ∨ (rs.length ≤ 4096 ∧ heAll rs = false ∧ chCode due rs = 1) ∨ (rs.length ≤ 4096 ∧ heAll rs = true ∧ (due < 0 ∨ 10000 < due) ∧ chCode due rs = 5) ∨ (rs.length ≤ 4096 ∧ heAll rs = true ∧ (0 ≤ due ∧ due ≤ 10000) ∧ rwS rs rs.length due.toNat < 0 ∧ chCode due rs = 8) ∨ (rs.length ≤ 4096 ∧ heAll rs = true ∧ (0 ≤ due ∧ due ≤ 10000) ∧ 0 ≤ rwS rs rs.length due.toNat ∧ chCode due rs = 0) := by
  unfold chCode
  by_cases h1 : 4096 < rs.length
  · exact .inl ⟨h1, by rw [if_pos h1]⟩
  rw [if_neg h1]
  cases h2 : heAll rs
  · exact .inr (.inl ⟨by omega, rfl, by rw [if_pos rfl]⟩)
  rw [if_neg (by simp)]
  by_cases h3 : due < 0 ∨ 10000 < due
  · exact .inr (.inr (.inl ⟨by omega, rfl, h3, by rw [if_pos h3]⟩))
  rw [if_neg h3]
  by_cases h4 : rwS rs rs.length due.toNat < 0
  · exact .inr (.inr (.inr (.inl ⟨by omega, rfl, by omega, h4, by rw [if_pos h4]⟩)))
  · exact .inr (.inr (.inr (.inr ⟨by omega, rfl, by omega, by omega, by rw [if_neg h4]⟩)))
theorem ch_none {due : Int} {rs : List RCo} {c : Int} (h : chCode due rs = c) (hc : c ≠ 0) : chList due rs = [] := by unfold chList; rw [if_neg (by rw [h]; exact hc)]
theorem ch_some {due : Int} {rs : List RCo} (h : chCode due rs = 0) : chList due rs = chL rs due.toNat := by unfold chList; rw [if_pos h]
/-- What Change answers: a list of its own, and a code. -/
def AnsC (B : Nat) (w' : World) (L : List Int) (c : Int) (e : Ending) : Prop := ∃ g cp, e = .returned (.tuple #[.slice g L.length cp, .int .i64 c]) ∧ Own2 B w' g L
theorem own_of_row {B : Nat} {w : World} {ob n : Nat} {f : Nat → Int} (hB : B ≤ ob) (h : RwI w ob n f) : Own2 B w (some ⟨ob, 0, none⟩) ((List.range n).map f) := by
  refine .inr ⟨ob, rfl, hB, h.lt, fun i hi => ?_, fun i hi => ?_⟩
  · have hin : i < n := by simpa using hi
    rw [Nat.zero_add, h.cell hin]
    simp [List.getD_eq_getElem?_getD, hin]
  · rw [Nat.zero_add]; exact h.frozen i

set_option maxHeartbeats 4000000 in
set_option maxRecDepth 4000 in
theorem implChange_any (a : Option Addr) (cap : Nat) (rs : List RCo) (hl : rs.length ≤ 100000000) (due : Int) (w : World) (hw : ReadsCo w.heap.size w a rs) :
    Calls Try.prog 6 #[.int .i64 due, .slice a rs.length cap] w fun e w' => AnsC w.heap.size w' (chList due rs) (chCode due rs) e ∧ Below w.heap.size w w' := by
  have hH := implHeld_any a cap rs hl w hw
  have HR : Hid (ReadsCo w.heap.size w a rs) := hw
  clear hw
  rcases ch_ways due rs with ⟨h1, hc⟩ | ⟨h1, h2, hc⟩ | ⟨h1, h2, h3, hc⟩ | ⟨h1, h2, h3, h4, hc⟩ | ⟨h1, h2, h3, h4, hc⟩
  · rw [ch_none hc (by omega), hc]
    have h1' : 4096 < (rs.length : Int) := by omega
    clear hc hH
    go_enter Try.func6, Try.ntmps6
    go_wp2
    go_ret2
    exact ⟨⟨none, 0, rfl, .inl rfl⟩, Below.refl _ _⟩
  · rw [ch_none hc (by omega), hc]
    rw [h2] at hH
    have h1' : (rs.length : Int) ≤ 4096 := by omega
    clear hc h2
    go_enter Try.func6, Try.ntmps6
    go_wp2_with (go_at_call 7; refine hH.mono ?_; rintro e w2 ⟨rfl, hb2⟩; have HB2 : Hid (Below w.heap.size w w2) := hb2; clear hb2)
    go_ret2
    exact ⟨⟨none, 0, rfl, .inl rfl⟩, HB2.out⟩
  · rw [ch_none hc (by omega), hc]
    rw [h2] at hH
    have h1' : (rs.length : Int) ≤ 4096 := by omega
    clear hc h2
    rcases h3 with h3 | h3
    · go_enter Try.func6, Try.ntmps6
      go_wp2_with (go_at_call 7; refine hH.mono ?_; rintro e w2 ⟨rfl, hb2⟩; have HB2 : Hid (Below w.heap.size w w2) := hb2; clear hb2)
      go_ret2
      exact ⟨⟨none, 0, rfl, .inl rfl⟩, HB2.out⟩
    · have h3' : ¬ due < 0 := by omega
      go_enter Try.func6, Try.ntmps6
      go_wp2_with (go_at_call 7; refine hH.mono ?_; rintro e w2 ⟨rfl, hb2⟩; have HB2 : Hid (Below w.heap.size w w2) := hb2; clear hb2)
      go_ret2
      exact ⟨⟨none, 0, rfl, .inl rfl⟩, HB2.out⟩
  all_goals
    obtain ⟨h12, hr⟩ := heAll_mem h2
    obtain ⟨dn, rfl⟩ : ∃ dn : Nat, due = (dn : Int) := ⟨due.toNat, by omega⟩
    rw [Int.toNat_natCast] at h4
    have hE := rw_both rs hr h12 rs.length (Nat.le_refl _) dn
    have HF : Hid (∀ W, Below w.heap.size w W → Calls Try.prog 16 #[.int .i64 (dn : Int), .slice a rs.length cap] W fun e w' => ∃ v, e = .returned v ∧ Grid W W.heap.size v (rs.length + 1) (dn + 1) (rwI rs) w') := fun W hW => fewest_any a cap rs h12 hr dn (by omega) W ((HR.out.below hW).mono hW.size)
    rw [h2] at hH
    have h1' : (rs.length : Int) ≤ 4096 := by omega
  · rw [ch_none hc (by omega), hc]
    have hI : rwI rs rs.length dn = 721 := by rcases hE with ⟨_, h⟩ | ⟨h, _, _⟩ <;> omega
    clear hc h2 hE h4
    go_enter Try.func6, Try.ntmps6
    go_wp2_with (go_at_call 7; refine hH.mono ?_; rintro e w2 ⟨rfl, hb2⟩; have HB2 : Hid (Below w.heap.size w w2) := hb2; clear hb2)
    (first | go_at_call 16 | skip)
    refine (HF.out _ HB2.out).mono ?_
    rintro e w3 ⟨v, rfl, hG⟩
    obtain ⟨g, cp, bs, rfl, hgB, hGA, hb3⟩ := hG.reads (by omega)
    have HB3 : Hid (Below w.heap.size w w3) := chain HB2.out hb3
    obtain ⟨k1, k2, k3⟩ := hGA rs.length (by omega)
    have k4 : w3.cell? ⟨bs rs.length, dn, none⟩ = some (.int .i64 721) := (k2.cell (by omega)).trans (by rw [hI])
    have hz : (rs.length : Int) < (rs.length : Int) + 1 := by omega
    have hz2 : (dn : Int) < (dn : Int) + 1 := by omega
    clear hG hGA hb3 k2
    go_wp2
    go_ret2
    exact ⟨⟨none, 0, rfl, .inl rfl⟩, HB3.out⟩
  · rw [ch_some hc, hc, Int.toNat_natCast]
    have hI : (rwI rs rs.length dn == 721) = false := by
      have : rwI rs rs.length dn ≠ 721 := by rcases hE with ⟨h, _⟩ | ⟨h, h5, h6⟩ <;> omega
      simp [this]
    have hMo : Hid (∀ (g cp : Nat) (bs : Nat → Nat) (W : World), Below w.heap.size w W → GridAt W g (rs.length + 1) (dn + 1) bs (rwI rs) → Calls Try.prog 17 #[.int .i64 (dn : Int), .slice a rs.length cap, .slice (some ⟨g, 0, none⟩) (rs.length + 1) cp] W fun e w' => ∃ ob, e = .returned (.slice (some ⟨ob, 0, none⟩) rs.length rs.length) ∧ W.heap.size ≤ ob ∧ RwI w' ob rs.length (cnS rs dn) ∧ Below W.heap.size W w') := fun g cp bs W hW hg => most_any a cap rs h12 hr dn (by omega) h4 g cp bs W ((HR.out.below hW).mono hW.size) hg
    have hLen : (chL rs dn).length = rs.length := by unfold chL; simp
    have HOw : Hid (∀ ob W, w.heap.size ≤ ob → RwI W ob rs.length (cnS rs dn) → Own2 w.heap.size W (some ⟨ob, 0, none⟩) (chL rs dn)) := fun ob W hB h => own_of_row hB h
    clear hc h2 hE h4
    go_enter Try.func6, Try.ntmps6
    go_wp2_with (go_at_call 7; refine hH.mono ?_; rintro e w2 ⟨rfl, hb2⟩; have HB2 : Hid (Below w.heap.size w w2) := hb2; clear hb2)
    (first | go_at_call 16 | skip)
    refine (HF.out _ HB2.out).mono ?_
    rintro e w3 ⟨v, rfl, hG⟩
    obtain ⟨g, cp, bs, rfl, hgB, hGA, hb3⟩ := hG.reads (by omega)
    have HB3 : Hid (Below w.heap.size w w3) := chain HB2.out hb3
    have HGA : Hid (GridAt w3 g (rs.length + 1) (dn + 1) bs (rwI rs)) := hGA
    obtain ⟨k1, k2, k3⟩ := hGA rs.length (by omega)
    have k4 : w3.cell? ⟨bs rs.length, dn, none⟩ = some (.int .i64 (rwI rs rs.length dn)) := k2.cell (by omega)
    have hz : (rs.length : Int) < (rs.length : Int) + 1 := by omega
    have hz2 : (dn : Int) < (dn : Int) + 1 := by omega
    clear hG hGA hb3 k2
    generalize rwI rs rs.length dn = fw at *
    go_wp2_with fail
    (first | go_at_call 17 | skip)
    refine (hMo.out _ _ _ _ HB3.out HGA.out).mono ?_
    rintro e w4 ⟨ob, rfl, ho1, ho2, hb4⟩
    have HB4 : Hid (Below w.heap.size w w4) := chain HB3.out hb4
    have HO4 : Hid (Own2 w.heap.size w4 (some ⟨ob, 0, none⟩) (chL rs dn)) := HOw.out ob w4 (Nat.le_trans HB3.out.size ho1) ho2
    clear hb4 ho1 ho2 k1 k3 k4
    go_wp2
    go_ret2
    exact ⟨⟨some ⟨ob, 0, none⟩, rs.length, by rw [hLen]; rfl, HO4.out⟩, HB4.out⟩
end Go.Proofs.Ytngnmlifbjpkoaa
