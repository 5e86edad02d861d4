/-
  Contract of the specification's Change, for every list of coins and every amount.
-/
import Derived.Test.YtngnmlifbjpkoaaChD
import Derived.Test.YtngnmlifbjpkoaaChE
namespace Go.Proofs.Ytngnmlifbjpkoaa
open Go.ChangeShapes Go.WideShapes Go.ChangeAt Go.RowKit
set_option linter.unusedVariables false

theorem pick_cut {row : Nat → Int} {v left : Nat} {f : Int} {m : Nat} (h : ∀ d, m < d → doesS row v left f d = false) : ∀ c, m ≤ c → pick row v left f c = pick row v left f m
  | 0, hc => by rw [show m = 0 by omega]
  | c + 1, hc => by
    rcases (by omega : m = c + 1 ∨ m ≤ c) with rfl | h'
    · rfl
    · rw [pick_next (h (c + 1) (by omega))]; exact pick_cut h c h'
theorem mS_no (r : RCo) (hv : 1 ≤ r.vl) (left : Nat) (row : Nat → Int) (f : Int) (d : Nat) (hd : mS r left < d) (hc : d ≤ r.ct.toNat) : doesS row r.vl.toNat left f d = false := by
  unfold doesS
  rw [decide_eq_false, Bool.false_and]
  intro h
  have := mS_max r hv left d hc h
  omega
theorem tk_ct (rs : List RCo) (hr : ∀ r ∈ rs, 1 ≤ r.vl ∧ r.vl ≤ 100000 ∧ 0 ≤ r.ct ∧ r.ct ≤ 60) (due j : Nat) (hj : j < rs.length) : pick (rwS rs (rs.length - (j + 1))) (rs.getD (rs.length - (j + 1)) zCo).vl.toNat (lfS rs due j) (rwS rs (rs.length - (j + 1) + 1) (lfS rs due j)) (rs.getD (rs.length - (j + 1)) zCo).ct.toNat = tkS rs due j := by
  have hc := getCo hr (show rs.length - (j + 1) < rs.length by omega)
  have h1 : mS (rs.getD (rs.length - (j + 1)) zCo) (lfS rs due j) ≤ (rs.getD (rs.length - (j + 1)) zCo).ct.toNat := by unfold mS; omega
  have ht : tkS rs due j = pick (rwS rs (rs.length - (j + 1))) (rs.getD (rs.length - (j + 1)) zCo).vl.toNat (lfS rs due j) (rwS rs (rs.length - (j + 1) + 1) (lfS rs due j)) (mS (rs.getD (rs.length - (j + 1)) zCo) (lfS rs due j)) := rfl
  have go : ∀ c, mS (rs.getD (rs.length - (j + 1)) zCo) (lfS rs due j) ≤ c → c ≤ (rs.getD (rs.length - (j + 1)) zCo).ct.toNat → pick (rwS rs (rs.length - (j + 1))) (rs.getD (rs.length - (j + 1)) zCo).vl.toNat (lfS rs due j) (rwS rs (rs.length - (j + 1) + 1) (lfS rs due j)) c = tkS rs due j := by
    intro c
    induction c with
    | zero => intro h _; have : mS (rs.getD (rs.length - (j + 1)) zCo) (lfS rs due j) = 0 := by omega
              rw [ht, this]
    | succ c ih =>
      intro h h'
      rcases (by omega : mS (rs.getD (rs.length - (j + 1)) zCo) (lfS rs due j) = c + 1 ∨ mS (rs.getD (rs.length - (j + 1)) zCo) (lfS rs due j) ≤ c) with e | e
      · rw [ht, e]
      · rw [pick_next (mS_no _ hc.1 _ _ _ (c + 1) (by omega) h')]; exact ih e (by omega)
  exact go _ h1 (Nat.le_refl _)
theorem does_ways (row : Nat → Int) (v left : Nat) (f : Int) (c : Nat) : (left < c * v ∧ doesS row v left f c = false) ∨ (c * v ≤ left ∧ row (left - c * v) < 0 ∧ doesS row v left f c = false) ∨ (c * v ≤ left ∧ 0 ≤ row (left - c * v) ∧ row (left - c * v) + (c : Int) ≠ f ∧ doesS row v left f c = false) ∨ (c * v ≤ left ∧ 0 ≤ row (left - c * v) ∧ row (left - c * v) + (c : Int) = f ∧ doesS row v left f c = true) := by
  unfold doesS
  rcases (by omega : left < c * v ∨ c * v ≤ left) with h | h
  · exact .inl ⟨h, by rw [decide_eq_false (by omega)]; rfl⟩
  · rcases (by omega : row (left - c * v) < 0 ∨ 0 ≤ row (left - c * v)) with h2 | h2
    · exact .inr (.inl ⟨h, h2, by rw [decide_eq_false (show ¬ 0 ≤ row (left - c * v) by omega), Bool.false_and, Bool.and_false]⟩)
    · by_cases h3 : row (left - c * v) + (c : Int) = f
      · exact .inr (.inr (.inr ⟨h, h2, h3, by rw [decide_eq_true h, decide_eq_true h2, decide_eq_true h3]; rfl⟩))
      · exact .inr (.inr (.inl ⟨h, h2, h3, by rw [decide_eq_false h3, Bool.and_false, Bool.and_false]⟩))

set_option maxHeartbeats 8000000 in
set_option maxRecDepth 4000 in
theorem specChange_any (a : Option Addr) (cap : Nat) (rs : List RCo) (hl : rs.length ≤ 100000000) (due0 : Int) (w : World) (hw : ReadsCo w.heap.size w a rs) :
    Calls Try.prog 10 #[.int .i64 due0, .slice a rs.length cap] w fun e w' => AnsC w.heap.size w' (chList due0 rs) (chCode due0 rs) e ∧ Below w.heap.size w w' := by
  have hH := specHeld_any a cap rs hl w hw
  have HR : Hid (ReadsCo w.heap.size w a rs) := hw
  have hin := in_any due0 0 10000
  unfold inB at hin
  clear hw
  rcases ch_ways due0 rs with ⟨h1, hc⟩ | ⟨h1, h2, hc⟩ | ⟨h1, h2, h3, hc⟩ | ⟨h1, h2, h3, h4, hc⟩ | ⟨h1, h2, h3, h4, hc⟩
  · rw [ch_none hc (by omega), hc]
    have h1' : 4096 < (rs.length : Int) := by omega
    clear hc hH hin
    go_enter Try.func10, Try.ntmps10
    go_wp2
    go_ret2
    exact ⟨⟨_, _, rfl, .inl rfl⟩, below_alloc _ _⟩
  · rw [ch_none hc (by omega), hc]
    rw [h2] at hH
    have h1' : (rs.length : Int) ≤ 4096 := by omega
    clear hc h2 hin
    go_enter Try.func10, Try.ntmps10
    go_wp2_with (go_at_call 19; refine hH.mono ?_; rintro e w2 ⟨rfl, hb2⟩; have HB2 : Hid (Below w.heap.size w w2) := hb2; clear hb2)
    go_ret2
    exact ⟨⟨_, _, rfl, .inl rfl⟩, chain HB2.out (below_alloc _ _)⟩
  · rw [ch_none hc (by omega), hc]
    rw [h2] at hH
    rw [decide_eq_false (by omega)] at hin
    have h1' : (rs.length : Int) ≤ 4096 := by omega
    clear hc h2 h3
    go_enter Try.func10, Try.ntmps10
    go_wp2_with (go_at_call 19; refine hH.mono ?_; rintro e w2 ⟨rfl, hb2⟩; have HB2 : Hid (Below w.heap.size w w2) := hb2; clear hb2)
    (first | go_at_call 20 | skip)
    refine (hin _).mono ?_
    rintro e w3 ⟨rfl, hq⟩
    rw [hq]
    clear hq w3
    go_wp2
    go_ret2
    exact ⟨⟨_, _, rfl, .inl rfl⟩, chain HB2.out (below_alloc _ _)⟩
  all_goals
    obtain ⟨h12, hr⟩ := heAll_mem h2
    rw [decide_eq_true h3] at hin
    obtain ⟨due, rfl⟩ : ∃ due : Nat, due0 = (due : Int) := ⟨due0.toNat, by omega⟩
    rw [Int.toNat_natCast] at h4
    have HF : Hid (∀ W, Below w.heap.size w W → Calls Try.prog 21 #[.int .i64 (due : Int), .slice a rs.length cap] W fun e w' => ∃ v, e = .returned v ∧ Grid W W.heap.size v (rs.length + 1) (due + 1) (rwS rs) w') := fun W hW => specFewest_any a cap rs h12 hr due (by omega) W ((HR.out.below hW).mono hW.size)
    rw [h2] at hH
    have h1' : (rs.length : Int) ≤ 4096 := by omega
  · rw [ch_none hc (by omega), hc]
    clear hc h2
    go_enter Try.func10, Try.ntmps10
    go_wp2_with (go_at_call 19; refine hH.mono ?_; rintro e w2 ⟨rfl, hb2⟩; have HB2 : Hid (Below w.heap.size w w2) := hb2; clear hb2)
    (first | go_at_call 20 | skip)
    refine (hin _).mono ?_
    rintro e w3 ⟨rfl, hq⟩
    rw [hq]
    clear hq w3
    go_wp2_with fail
    (first | go_at_call 21 | skip)
    refine (HF.out _ HB2.out).mono ?_
    rintro e w3 ⟨v, rfl, hG⟩
    obtain ⟨g, cp, bs, rfl, hgB, hGA, hb3⟩ := hG.reads (by omega)
    have HB3 : Hid (Below w.heap.size w w3) := chain HB2.out hb3
    obtain ⟨k1, k2, k3⟩ := hGA rs.length (by omega)
    have k4 : w3.cell? ⟨bs rs.length, due, none⟩ = some (.int .i64 (rwS rs rs.length due)) := k2.cell (by omega)
    have hz : (rs.length : Int) < (rs.length : Int) + 1 := by omega
    have hz2 : (due : Int) < (due : Int) + 1 := by omega
    clear hG hGA hb3 k2
    generalize rwS rs rs.length due = fw at *
    go_wp2
    go_ret2
    exact ⟨⟨_, _, rfl, .inl rfl⟩, chain HB3.out (below_alloc _ _)⟩
  · rw [ch_some hc, hc, Int.toNat_natCast]
    have hmk := fun w => run_make_row' (P := Try.prog) 24 3 (.int .i64 0) 8 Try.underlying24 intInfo rfl .i64 .i64 rs.length (by omega) (by omega) w
    have hLen : (chL rs due).length = rs.length := by unfold chL; simp
    have HOw : Hid (∀ ob W, w.heap.size ≤ ob → RwI W ob rs.length (cnS rs due) → Own2 w.heap.size W (some ⟨ob, 0, none⟩) (chL rs due)) := fun ob W hB h => own_of_row hB h
    have HOK : Hid (∀ r ∈ rs, 1 ≤ r.vl ∧ r.vl ≤ 100000 ∧ 0 ≤ r.ct ∧ r.ct ≤ 60) := hr
    have HTk : Hid (∀ j, j < rs.length → pick (rwS rs (rs.length - (j + 1))) (rs.getD (rs.length - (j + 1)) zCo).vl.toNat (lfS rs due j) (rwS rs (rs.length - (j + 1) + 1) (lfS rs due j)) (rs.getD (rs.length - (j + 1)) zCo).ct.toNat = tkS rs due j ∧ doesS (rwS rs (rs.length - (j + 1))) (rs.getD (rs.length - (j + 1)) zCo).vl.toNat (lfS rs due j) (rwS rs (rs.length - (j + 1) + 1) (lfS rs due j)) (tkS rs due j) = true) := fun j hj => ⟨tk_ct rs hr due j hj, (lf_way rs hr due h4 j (by omega)).2.2 hj⟩
    have HLf : Hid (∀ j, j ≤ rs.length → lfS rs due j ≤ due) := fun j hj => (lf_way rs hr due h4 j hj).1
    have HSt : Hid (∀ j, lfS rs due (j + 1) = lfS rs due j - tkS rs due j * (rs.getD (rs.length - (j + 1)) zCo).vl.toNat) := fun j => rfl
    have HCn : Hid (∀ i, cnS rs due i = (tkS rs due (rs.length - 1 - i) : Int)) := fun i => rfl
    have HL0 : Hid (lfS rs due 0 = due) := rfl
    have HBd : Hid (∀ k, k ≤ rs.length → ∀ n, -1 ≤ rwS rs k n ∧ rwS rs k n ≤ 720) := fun k hk n => rwS_bound rs hr h12 k hk n
    clear hc h2 hr
    go_enter Try.func10, Try.ntmps10
    go_wp2_with (go_at_call 19; refine hH.mono ?_; rintro e w2 ⟨rfl, hb2⟩; have HB2 : Hid (Below w.heap.size w w2) := hb2; clear hb2)
    (first | go_at_call 20 | skip)
    refine (hin _).mono ?_
    rintro e w3 ⟨rfl, hq⟩
    rw [hq]
    clear hq w3
    go_wp2_with fail
    (first | go_at_call 21 | skip)
    refine (HF.out _ HB2.out).mono ?_
    rintro e w3 ⟨v, rfl, hG⟩
    obtain ⟨g, cp, bs, rfl, hgB, hGA, hb3⟩ := hG.reads (by omega)
    have HB3 : Hid (Below w.heap.size w w3) := chain HB2.out hb3
    have HGr : Hid (GridAt w3 g (rs.length + 1) (due + 1) bs (rwS rs)) := hGA
    obtain ⟨k1, k2, k3⟩ := hGA rs.length (by omega)
    have k4 : w3.cell? ⟨bs rs.length, due, none⟩ = some (.int .i64 (rwS rs rs.length due)) := k2.cell (by omega)
    have hz : (rs.length : Int) < (rs.length : Int) + 1 := by omega
    have hz2 : (due : Int) < (due : Int) + 1 := by omega
    have hd0 : decide (rwS rs rs.length due < 0) = false := decide_eq_false (by omega)
    have hW3 : w.heap.size ≤ w3.heap.size := HB3.out.size
    clear hG hGA hb3 k2 hgB
    have HM : Hid (RwI (w3.alloc (Obj.cells (madeCells #[.int .i64 0] rs.length) 3)) w3.heap.size rs.length (fun _ => 0)) := World.rowIs_made w3 (.int .i64 0) rs.length 3
    go_wp2
    clear k1 k3 k4 hd0 hz hz2 h4 hmk HF hH hin
    obtain ⟨ob, hob⟩ : ∃ ob, ob = w3.heap.size := ⟨_, rfl⟩
    have HOb : Hid (w3.heap.size ≤ ob) := by rw [hob]; exact Nat.le_refl _
    have HM2 : Hid (RwI (w3.alloc (Obj.cells (madeCells #[.int .i64 0] rs.length) 3)) ob rs.length (fun i => if rs.length - 0 ≤ i then cnS rs due i else 0)) := by rw [hob]; exact HM.out.congr (fun i hi => by rw [if_neg (by omega)])
    rw [← hob]
    clear hob HM
    go_loopw [8, 9] (fun y x wr => ∃ (j : Nat) (z : Int), j ≤ rs.length ∧ x = .int .i64 z ∧ z = (rs.length : Int) - 1 - (j : Int) ∧ y = .int .i64 (lfS rs due j : Int) ∧ RwI wr ob rs.length (fun i => if rs.length - j ≤ i then cnS rs due i else 0) ∧ Below w3.heap.size w3 wr) (fun _ x _ => (intOf x + 1).toNat)
    case atStart => exact ⟨0, _, Nat.zero_le _, rfl, by omega, by rw [HL0.out], HM2.out, below_alloc _ _⟩
    case round =>
      clear HM2
      obtain ⟨j, z, hj, rfl, hz, rfl, hrw, hbw⟩ := hrel
      obtain ⟨wo, rfl⟩ : ∃ wo : World, wo = wr := ⟨wr, rfl⟩
      have HRw : Hid (RwI wo ob rs.length (fun i => if rs.length - j ≤ i then cnS rs due i else 0)) := hrw
      have HB : Hid (Below w3.heap.size w3 wo) := hbw
      clear hrw hbw
      by_cases hjl : j < rs.length
      · rcases HR.out with h | ⟨b0, o0, ha, hB0, ia⟩
        · rw [h] at hjl; simp at hjl
        subst ha
        have hq1 : z = ((rs.length - (j + 1) : Nat) : Int) := by omega
        subst hq1
        have HQ0 : Hid (∀ W, Below w3.heap.size w3 W → CoAt W b0 (o0 + (rs.length - (j + 1)) * 2) (rs.getD (rs.length - (j + 1)) zCo)) := fun W hW => (ia.below (HB3.out.trans (hW.mono hW3)) hB0) _ (by omega)
        have hTk := HTk.out j hjl
        have hLf := HLf.out j (by omega)
        have hLf2 := HLf.out (j + 1) (by omega)
        have HSj := HSt.out j
        have HCj : Hid (cnS rs due (rs.length - (j + 1)) = (tkS rs due j : Int)) := by show _ = _; rw [HCn.out, show rs.length - 1 - (rs.length - (j + 1)) = j by omega]
        have HGa := HGr.out (rs.length - (j + 1)) (by omega)
        have HGb := HGr.out (rs.length - (j + 1) + 1) (by omega)
        have hql : rs.length - (j + 1) < rs.length := by omega
        have HQj : Hid (rs.length - j = rs.length - (j + 1) + 1) := by show _ = _; omega
        have hyb := HBd.out (rs.length - (j + 1)) (by omega)
        have hfb := HBd.out (rs.length - (j + 1) + 1) (by omega) (lfS rs due j)
        clear ia hz
        generalize rs.length - (j + 1) = q at *
        have hql' : (q : Int) < (rs.length : Int) := by omega
        have hz1 : ((rs.length : Int) + 1 ≤ (q : Int)) = False := eq_false (by omega)
        have hz2 : ((q : Int) + 1 < 0) = False := eq_false (by omega)
        have hz3 : ((rs.length : Int) + 1 ≤ (q : Int) + 1) = False := eq_false (by omega)
        have HB1 : Hid (bs q < w3.heap.size) := HGa.2.1.lt
        have HB2' : Hid (bs (q + 1) < w3.heap.size) := HGb.2.1.lt
        have HGq : Hid (RwI w3 (bs q) (due + 1) (rwS rs q)) := HGa.2.1
        have HQ1 : Hid (∀ W, Below w3.heap.size w3 W → W.cell? ⟨g, q, none⟩ = some (.slice (some ⟨bs q, 0, none⟩) (due + 1) (due + 1)) ∧ W.cell? ⟨g, q + 1, none⟩ = some (.slice (some ⟨bs (q + 1), 0, none⟩) (due + 1) (due + 1)) ∧ W.cell? ⟨bs (q + 1), lfS rs due j, none⟩ = some (.int .i64 (rwS rs (q + 1) (lfS rs due j)))) := fun W hW => ⟨(hW.cell (p := ⟨g, q, none⟩) HGa.2.2).trans HGa.1, (hW.cell (p := ⟨g, q + 1, none⟩) HGb.2.2).trans HGb.1, (hW.cell (p := ⟨bs (q + 1), lfS rs due j, none⟩) HB2'.out).trans (HGb.2.1.cell (by omega))⟩
        have hcv := getCo HOK.out hql
        generalize hre : rs.getD q zCo = r at *
        clear hre
        obtain ⟨v, c⟩ := r
        dsimp only at hTk HSj hcv
        obtain ⟨hv1, hv2, hc1, hc2⟩ := hcv
        clear HGa HGb HB2' HOK
        generalize bs (q + 1) = b2 at *
        generalize bs q = b1 at *
        generalize rwS rs (q + 1) (lfS rs due j) = f at *
        generalize hl2 : lfS rs due (j + 1) = left2 at *
        have HL2 : Hid (lfS rs due (j + 1) = left2) := hl2
        generalize lfS rs due j = left at *
        generalize tkS rs due j = tt at *
        generalize hrow : rwS rs q = row at *
        clear hrow hl2
        obtain ⟨hpk, hdo⟩ := hTk
        obtain ⟨c0, c1⟩ := HQ0.out wo HB.out
        obtain ⟨cn, rfl⟩ : ∃ cn : Nat, c = (cn : Int) := ⟨c.toNat, by omega⟩
        rw [Int.toNat_natCast] at hpk
        dsimp only at c0 c1
        have HPk : Hid (pick row v.toNat left f cn = tt) := hpk
        have HDo : Hid (doesS row v.toNat left f tt = true) := hdo
        clear hpk hdo
        go_wp2
        go_loopw [8, 10] (fun y x wr => ∃ cc : Nat, cc ≤ cn ∧ x = .int .i64 (cc : Int) ∧ y = .int .i64 (left : Int) ∧ pick row v.toNat left f cc = tt ∧ RwI wr ob rs.length (fun i => if rs.length - j ≤ i then cnS rs due i else 0) ∧ Below w3.heap.size w3 wr) (fun _ x _ => (intOf x).toNat)
        case atStart => exact ⟨cn, Nat.le_refl _, rfl, rfl, HPk.out, HRw.out, HB.out⟩
        case round =>
        clear HPk c0 c1 HRw HB
        obtain ⟨cc, hcc, rfl, rfl, hpc, hrw, hbw⟩ := hrel
        have HPc : Hid (pick row v.toNat left f cc = tt) := hpc
        have HRw : Hid (RwI wr ob rs.length (fun i => if rs.length - j ≤ i then cnS rs due i else 0)) := hrw
        have HB : Hid (Below w3.heap.size w3 wr) := hbw
        clear hpc hrw hbw
        obtain ⟨c0, c1⟩ := HQ0.out wr HB.out
        dsimp only at c0 c1
        have hmul : (cc : Int) * v = ((cc * v.toNat : Nat) : Int) := by
          have : (v.toNat : Int) = v := by omega
          rw [Int.natCast_mul, this]
        have hpb : (cc * v.toNat : Nat) ≤ 61 * 100000 := Nat.mul_le_mul (by omega) (by omega)
        have g1 : IntKind.i64.wrap ((q : Int) + 1) = (q : Int) + 1 := wrap_id _ (by omega) (by omega)
        have HRx : Hid (∀ W x, Below w3.heap.size w3 W → x < due + 1 → W.cell? ⟨b1, x, none⟩ = some (.int .i64 (row x))) := fun W x hW hx => (HGq.out.below hW HB1.out).cell hx
        have hdw := does_ways row v.toNat left f cc
        have HStop : Hid (doesS row v.toNat left f cc = true → cc = tt) := fun h => (pick_stop h).symm.trans HPc.out
        have HNext : Hid (doesS row v.toNat left f cc = false → 1 ≤ cc ∧ pick row v.toNat left f (cc - 1) = tt) := fun h => by
          rcases Nat.eq_zero_or_pos cc with e | e
          · exfalso
            have h0 := HPc.out
            rw [e] at h0 h
            have : tt = 0 := h0.symm
            have h2 := HDo.out
            rw [this, h] at h2
            simp at h2
          · refine ⟨e, ?_⟩
            have := pick_next (row := row) (v := v.toNat) (left := left) (f := f) (c := cc - 1) (by rw [show cc - 1 + 1 = cc by omega]; exact h)
            rw [show cc - 1 + 1 = cc by omega] at this
            rw [← this]; exact HPc.out
        clear HPc
        have HSq : Hid (cc = tt → left2 = left - cc * v.toNat) := fun h => by rw [h]; exact HSj
        generalize hpe : cc * v.toNat = p at *
        clear hpe
        have g2 : IntKind.i64.wrap (p : Int) = (p : Int) := wrap_id _ (by omega) (by omega)
        rcases hdw with ⟨d1, d2⟩ | ⟨d1, d2, d3⟩ | ⟨d1, d2, d3, d4⟩ | ⟨d1, d2, d3, d4⟩
        · obtain ⟨hc0, HPn⟩ := HNext.out d2
          have HPn' : Hid (pick row v.toNat left f (cc - 1) = tt) := HPn
          obtain ⟨nn, hnn⟩ : ∃ nn : Int, (left : Int) - (p : Int) = nn := ⟨_, rfl⟩
          have hn0 : nn < 0 := by omega
          have g3 : IntKind.i64.wrap nn = nn := wrap_id _ (by omega) (by omega)
          have hn1 : (0 ≤ nn) = False := eq_false (by omega)
          have HQ : Hid (∀ W, Below w3.heap.size w3 W → True ∧ True ∧ True ∧ True) := fun W _ => ⟨trivial, trivial, trivial, trivial⟩
          clear HPn d2 HNext HStop
          go_wp2
          refine wp_region_held_drew (S := fun W => Below w3.heap.size w3 W) (by kernel_rfl) (chain HB.out (below_drew _)) (fun hH => ?_)
          refine wpAnyH_take (i := 0) (v := .int .i64 nn) rfl (by kernel_rfl) (by kernel_rfl) (by kernel_rfl) (fun _ _ _ h => h) (Or.inl ⟨by rfl, fun w hSw => by go_simp⟩) hH ?_
          refine wpAnyH_take (i := 1) (v := .bool false) rfl (by kernel_rfl) (by kernel_rfl) (by kernel_rfl) (fun _ _ _ h => h) (Or.inl ⟨by rfl, fun w hSw => by go_simp⟩) hH ?_
          try simp only [Act.put, List.setIfInBounds_toArray, List.set_cons_zero, List.set_cons_succ, List.getElem_toArray, List.getElem_cons_succ, List.getElem_cons_zero]
          refine wpAnyH_take (i := 2) (v := .bool false) rfl (by kernel_rfl) (by kernel_rfl) (by kernel_rfl) (fun _ _ _ h => h) (Or.inl ⟨by rfl, fun w hSw => by go_simp⟩) hH ?_
          try simp only [Act.put, List.setIfInBounds_toArray, List.set_cons_zero, List.set_cons_succ, List.getElem_toArray, List.getElem_cons_succ, List.getElem_cons_zero]
          refine wpAnyH_take (i := 3) (v := undef) rfl (by kernel_rfl) (by kernel_rfl) (by kernel_rfl) (fun _ _ _ h => h) (Or.inr ⟨by rfl, rfl⟩) hH ?_
          try simp only [Act.put, List.setIfInBounds_toArray, List.set_cons_zero, List.set_cons_succ, List.getElem_toArray, List.getElem_cons_succ, List.getElem_cons_zero]
          refine wpAnyH_take (i := 4) (v := undef) rfl (by kernel_rfl) (by kernel_rfl) (by kernel_rfl) (fun _ _ _ h => h) (Or.inr ⟨by rfl, rfl⟩) hH ?_
          try simp only [Act.put, List.setIfInBounds_toArray, List.set_cons_zero, List.set_cons_succ, List.getElem_toArray, List.getElem_cons_succ, List.getElem_cons_zero]
          refine wpAnyH_take (i := 5) (v := undef) rfl (by kernel_rfl) (by kernel_rfl) (by kernel_rfl) (fun _ _ _ h => h) (Or.inr ⟨by rfl, rfl⟩) hH ?_
          try simp only [Act.put, List.setIfInBounds_toArray, List.set_cons_zero, List.set_cons_succ, List.getElem_toArray, List.getElem_cons_succ, List.getElem_cons_zero]
          refine wpAnyH_take (i := 6) (v := undef) rfl (by kernel_rfl) (by kernel_rfl) (by kernel_rfl) (fun _ _ _ h => h) (Or.inr ⟨by rfl, rfl⟩) hH ?_
          try simp only [Act.put, List.setIfInBounds_toArray, List.set_cons_zero, List.set_cons_succ, List.getElem_toArray, List.getElem_cons_succ, List.getElem_cons_zero]
          refine wpAnyH_take (i := 7) (v := undef) rfl (by kernel_rfl) (by kernel_rfl) (by kernel_rfl) (fun _ _ _ h => h) (Or.inr ⟨by rfl, rfl⟩) hH ?_
          try simp only [Act.put, List.setIfInBounds_toArray, List.set_cons_zero, List.set_cons_succ, List.getElem_toArray, List.getElem_cons_succ, List.getElem_cons_zero]
          refine wpAnyH_take (i := 8) (v := undef) rfl (by kernel_rfl) (by kernel_rfl) (by kernel_rfl) (fun _ _ _ h => h) (Or.inr ⟨by rfl, rfl⟩) hH ?_
          try simp only [Act.put, List.setIfInBounds_toArray, List.set_cons_zero, List.set_cons_succ, List.getElem_toArray, List.getElem_cons_succ, List.getElem_cons_zero]
          refine wpAnyH_take (i := 9) (v := undef) rfl (by kernel_rfl) (by kernel_rfl) (by kernel_rfl) (fun _ _ _ h => h) (Or.inr ⟨by rfl, rfl⟩) hH ?_
          try simp only [Act.put, List.setIfInBounds_toArray, List.set_cons_zero, List.set_cons_succ, List.getElem_toArray, List.getElem_cons_succ, List.getElem_cons_zero]
          refine wpAnyH_take (i := 10) (v := undef) rfl (by kernel_rfl) (by kernel_rfl) (by kernel_rfl) (fun _ _ _ h => h) (Or.inr ⟨by rfl, rfl⟩) hH ?_
          try simp only [Act.put, List.setIfInBounds_toArray, List.set_cons_zero, List.set_cons_succ, List.getElem_toArray, List.getElem_cons_succ, List.getElem_cons_zero]
          refine wpAnyH_take (i := 11) (v := .bool false) rfl (by kernel_rfl) (by kernel_rfl) (by kernel_rfl) (fun _ _ _ h => h) (Or.inl ⟨by rfl, fun w hSw => by go_simp⟩) hH ?_
          try simp only [Act.put, List.setIfInBounds_toArray, List.set_cons_zero, List.set_cons_succ, List.getElem_toArray, List.getElem_cons_succ, List.getElem_cons_zero]
          refine wpAnyH_take (i := 12) (v := .bool false) rfl (by kernel_rfl) (by kernel_rfl) (by kernel_rfl) (fun _ _ _ h => h) (Or.inl ⟨by rfl, fun w hSw => by go_simp⟩) hH ?_
          try simp only [Act.put, List.setIfInBounds_toArray, List.set_cons_zero, List.set_cons_succ, List.getElem_toArray, List.getElem_cons_succ, List.getElem_cons_zero]
          refine wpAnyH_take (i := 13) (v := undef) rfl (by kernel_rfl) (by kernel_rfl) (by kernel_rfl) (fun _ _ _ h => h) (Or.inr ⟨by rfl, rfl⟩) hH ?_
          try simp only [Act.put, List.setIfInBounds_toArray, List.set_cons_zero, List.set_cons_succ, List.getElem_toArray, List.getElem_cons_succ, List.getElem_cons_zero]
          refine wpAnyH_take (i := 14) (v := undef) rfl (by kernel_rfl) (by kernel_rfl) (by kernel_rfl) (fun _ _ _ h => h) (Or.inr ⟨by rfl, rfl⟩) hH ?_
          try simp only [Act.put, List.setIfInBounds_toArray, List.set_cons_zero, List.set_cons_succ, List.getElem_toArray, List.getElem_cons_succ, List.getElem_cons_zero]
          refine wpAnyH_take (i := 15) (v := undef) rfl (by kernel_rfl) (by kernel_rfl) (by kernel_rfl) (fun _ _ _ h => h) (Or.inr ⟨by rfl, rfl⟩) hH ?_
          try simp only [Act.put, List.setIfInBounds_toArray, List.set_cons_zero, List.set_cons_succ, List.getElem_toArray, List.getElem_cons_succ, List.getElem_cons_zero]
          refine wpAnyH_take (i := 16) (v := undef) rfl (by kernel_rfl) (by kernel_rfl) (by kernel_rfl) (fun _ _ _ h => h) (Or.inr ⟨by rfl, rfl⟩) hH ?_
          try simp only [Act.put, List.setIfInBounds_toArray, List.set_cons_zero, List.set_cons_succ, List.getElem_toArray, List.getElem_cons_succ, List.getElem_cons_zero]
          refine wpAnyH_take (i := 17) (v := undef) rfl (by kernel_rfl) (by kernel_rfl) (by kernel_rfl) (fun _ _ _ h => h) (Or.inr ⟨by rfl, rfl⟩) hH ?_
          try simp only [Act.put, List.setIfInBounds_toArray, List.set_cons_zero, List.set_cons_succ, List.getElem_toArray, List.getElem_cons_succ, List.getElem_cons_zero]
          refine wpAnyH_take (i := 18) (v := undef) rfl (by kernel_rfl) (by kernel_rfl) (by kernel_rfl) (fun _ _ _ h => h) (Or.inr ⟨by rfl, rfl⟩) hH ?_
          try simp only [Act.put, List.setIfInBounds_toArray, List.set_cons_zero, List.set_cons_succ, List.getElem_toArray, List.getElem_cons_succ, List.getElem_cons_zero]
          refine wpAnyH_take (i := 19) (v := undef) rfl (by kernel_rfl) (by kernel_rfl) (by kernel_rfl) (fun _ _ _ h => h) (Or.inr ⟨by rfl, rfl⟩) hH ?_
          try simp only [Act.put, List.setIfInBounds_toArray, List.set_cons_zero, List.set_cons_succ, List.getElem_toArray, List.getElem_cons_succ, List.getElem_cons_zero]
          refine wpAnyH_take (i := 20) (v := undef) rfl (by kernel_rfl) (by kernel_rfl) (by kernel_rfl) (fun _ _ _ h => h) (Or.inr ⟨by rfl, rfl⟩) hH ?_
          try simp only [Act.put, List.setIfInBounds_toArray, List.set_cons_zero, List.set_cons_succ, List.getElem_toArray, List.getElem_cons_succ, List.getElem_cons_zero]
          refine wpAnyH_take (i := 21) (v := undef) rfl (by kernel_rfl) (by kernel_rfl) (by kernel_rfl) (fun _ _ _ h => h) (Or.inr ⟨by rfl, rfl⟩) hH ?_
          try simp only [Act.put, List.setIfInBounds_toArray, List.set_cons_zero, List.set_cons_succ, List.getElem_toArray, List.getElem_cons_succ, List.getElem_cons_zero]
          refine wpAnyH_take (i := 22) (v := undef) rfl (by kernel_rfl) (by kernel_rfl) (by kernel_rfl) (fun _ _ _ h => h) (Or.inr ⟨by rfl, rfl⟩) hH ?_
          try simp only [Act.put, List.setIfInBounds_toArray, List.set_cons_zero, List.set_cons_succ, List.getElem_toArray, List.getElem_cons_succ, List.getElem_cons_zero]
          refine wpAnyH_take (i := 23) (v := undef) rfl (by kernel_rfl) (by kernel_rfl) (by kernel_rfl) (fun _ _ _ h => h) (Or.inr ⟨by rfl, rfl⟩) hH ?_
          try simp only [Act.put, List.setIfInBounds_toArray, List.set_cons_zero, List.set_cons_succ, List.getElem_toArray, List.getElem_cons_succ, List.getElem_cons_zero]
          refine wpAnyH_take (i := 24) (v := undef) rfl (by kernel_rfl) (by kernel_rfl) (by kernel_rfl) (fun _ _ _ h => h) (Or.inr ⟨by rfl, rfl⟩) hH ?_
          try simp only [Act.put, List.setIfInBounds_toArray, List.set_cons_zero, List.set_cons_succ, List.getElem_toArray, List.getElem_cons_succ, List.getElem_cons_zero]
          refine wpAnyH_take (i := 25) (v := undef) rfl (by kernel_rfl) (by kernel_rfl) (by kernel_rfl) (fun _ _ _ h => h) (Or.inr ⟨by rfl, rfl⟩) hH ?_
          try simp only [Act.put, List.setIfInBounds_toArray, List.set_cons_zero, List.set_cons_succ, List.getElem_toArray, List.getElem_cons_succ, List.getElem_cons_zero]
          refine wpAnyH_take (i := 26) (v := undef) rfl (by kernel_rfl) (by kernel_rfl) (by kernel_rfl) (fun _ _ _ h => h) (Or.inr ⟨by rfl, rfl⟩) hH ?_
          try simp only [Act.put, List.setIfInBounds_toArray, List.set_cons_zero, List.set_cons_succ, List.getElem_toArray, List.getElem_cons_succ, List.getElem_cons_zero]
          refine wpAnyH_take (i := 27) (v := undef) rfl (by kernel_rfl) (by kernel_rfl) (by kernel_rfl) (fun _ _ _ h => h) (Or.inr ⟨by rfl, rfl⟩) hH ?_
          try simp only [Act.put, List.setIfInBounds_toArray, List.set_cons_zero, List.set_cons_succ, List.getElem_toArray, List.getElem_cons_succ, List.getElem_cons_zero]
          refine wpAnyH_take (i := 28) (v := undef) rfl (by kernel_rfl) (by kernel_rfl) (by kernel_rfl) (fun _ _ _ h => h) (Or.inr ⟨by rfl, rfl⟩) hH ?_
          try simp only [Act.put, List.setIfInBounds_toArray, List.set_cons_zero, List.set_cons_succ, List.getElem_toArray, List.getElem_cons_succ, List.getElem_cons_zero]
          refine wpAnyH_take (i := 29) (v := undef) rfl (by kernel_rfl) (by kernel_rfl) (by kernel_rfl) (fun _ _ _ h => h) (Or.inr ⟨by rfl, rfl⟩) hH ?_
          try simp only [Act.put, List.setIfInBounds_toArray, List.set_cons_zero, List.set_cons_succ, List.getElem_toArray, List.getElem_cons_succ, List.getElem_cons_zero]
          refine wpAnyH_take (i := 30) (v := undef) rfl (by kernel_rfl) (by kernel_rfl) (by kernel_rfl) (fun _ _ _ h => h) (Or.inr ⟨by rfl, rfl⟩) hH ?_
          try simp only [Act.put, List.setIfInBounds_toArray, List.set_cons_zero, List.set_cons_succ, List.getElem_toArray, List.getElem_cons_succ, List.getElem_cons_zero]
          refine wpAnyH_take (i := 31) (v := .bool false) rfl (by kernel_rfl) (by kernel_rfl) (by kernel_rfl) (fun _ _ _ h => h) (Or.inl ⟨by rfl, fun w hSw => by go_simp⟩) hH ?_
          try simp only [Act.put, List.setIfInBounds_toArray, List.set_cons_zero, List.set_cons_succ, List.getElem_toArray, List.getElem_cons_succ, List.getElem_cons_zero]
          refine wpAnyH_done (by kernel_rfl) ?_ _
          try simp
          go_wp2
          go_roundw
          case rel => exact ⟨cc - 1, by omega, by go_num, rfl, HPn'.out, HRw.out.below (below_drew _) HRw.out.lt, hH⟩
          case measure => simp [intOf]; omega
        · obtain ⟨hc0, HPn⟩ := HNext.out d3
          have HPn' : Hid (pick row v.toNat left f (cc - 1) = tt) := HPn
          clear HPn d3 HNext HStop
          have hsub : (left : Int) - (p : Int) = ((left - p : Nat) : Int) := by omega
          have hxl0 : left - p < due + 1 := by omega
          have HRq := fun W hW => HRx.out W (left - p) hW hxl0
          have hyb2 := hyb (left - p)
          generalize row (left - p) = y at *
          generalize left - p = x at *
          have hxl : (x : Int) < (due : Int) + 1 := by omega
          have hll : (left : Int) < (due : Int) + 1 := by omega
          have g3 : IntKind.i64.wrap (x : Int) = (x : Int) := wrap_id _ (by omega) (by omega)
          have g4 : IntKind.i64.wrap (y + (cc : Int)) = y + (cc : Int) := wrap_id _ (by omega) (by omega)
          have HQ : Hid (∀ W, Below w3.heap.size w3 W → W.cell? ⟨g, q, none⟩ = some (.slice (some ⟨b1, 0, none⟩) (due + 1) (due + 1)) ∧ W.cell? ⟨g, q + 1, none⟩ = some (.slice (some ⟨b2, 0, none⟩) (due + 1) (due + 1)) ∧ W.cell? ⟨b1, x, none⟩ = some (.int .i64 y) ∧ W.cell? ⟨b2, left, none⟩ = some (.int .i64 f)) := fun W hW => ⟨(HQ1.out W hW).1, (HQ1.out W hW).2.1, HRq W hW, (HQ1.out W hW).2.2⟩
          clear HRq
          go_wp2
          refine wp_region_held_drew (S := fun W => Below w3.heap.size w3 W) (by kernel_rfl) (chain HB.out (below_drew _)) (fun hH => ?_)
          refine wpAnyH_take (i := 0) (v := .int .i64 ((x : Int))) rfl (by kernel_rfl) (by kernel_rfl) (by kernel_rfl) (fun _ _ _ h => h) (Or.inl ⟨by rfl, fun w hSw => by go_simp⟩) hH ?_
          refine wpAnyH_take (i := 1) (v := .bool true) rfl (by kernel_rfl) (by kernel_rfl) (by kernel_rfl) (fun _ _ _ h => h) (Or.inl ⟨by rfl, fun w hSw => by go_simp⟩) hH ?_
          try simp only [Act.put, List.setIfInBounds_toArray, List.set_cons_zero, List.set_cons_succ, List.getElem_toArray, List.getElem_cons_succ, List.getElem_cons_zero]
          refine wpAnyH_take (i := 2) (v := .bool true) rfl (by kernel_rfl) (by kernel_rfl) (by kernel_rfl) (fun _ _ _ h => h) (Or.inl ⟨by rfl, fun w hSw => by go_simp⟩) hH ?_
          try simp only [Act.put, List.setIfInBounds_toArray, List.set_cons_zero, List.set_cons_succ, List.getElem_toArray, List.getElem_cons_succ, List.getElem_cons_zero]
          refine wpAnyH_take (i := 3) (v := .slice (some ⟨g, 0, none⟩) (rs.length + 1) cp) rfl (by kernel_rfl) (by kernel_rfl) (by kernel_rfl) (fun _ _ _ h => h) (Or.inl ⟨by rfl, fun w hSw => by go_simp⟩) hH ?_
          try simp only [Act.put, List.setIfInBounds_toArray, List.set_cons_zero, List.set_cons_succ, List.getElem_toArray, List.getElem_cons_succ, List.getElem_cons_zero]
          refine wpAnyH_take (i := 4) (v := .int .i64 ((q : Int))) rfl (by kernel_rfl) (by kernel_rfl) (by kernel_rfl) (fun _ _ _ h => h) (Or.inl ⟨by rfl, fun w hSw => by go_simp⟩) hH ?_
          try simp only [Act.put, List.setIfInBounds_toArray, List.set_cons_zero, List.set_cons_succ, List.getElem_toArray, List.getElem_cons_succ, List.getElem_cons_zero]
          refine wpAnyH_take (i := 5) (v := .pointer (some ⟨g, q, none⟩)) rfl (by kernel_rfl) (by kernel_rfl) (by kernel_rfl) (fun _ _ _ h => h) (Or.inl ⟨by rfl, fun w hSw => by go_simp⟩) hH ?_
          try simp only [Act.put, List.setIfInBounds_toArray, List.set_cons_zero, List.set_cons_succ, List.getElem_toArray, List.getElem_cons_succ, List.getElem_cons_zero]
          refine wpAnyH_take (i := 6) (v := .slice (some ⟨b1, 0, none⟩) (due + 1) (due + 1)) rfl (by kernel_rfl) (by kernel_rfl) (by kernel_rfl) (fun _ _ _ h => h) (Or.inl ⟨by rfl, fun w hSw => by obtain ⟨s1, s2, s3, s4⟩ := HQ.out w hSw; go_simp⟩) hH ?_
          try simp only [Act.put, List.setIfInBounds_toArray, List.set_cons_zero, List.set_cons_succ, List.getElem_toArray, List.getElem_cons_succ, List.getElem_cons_zero]
          refine wpAnyH_take (i := 7) (v := .int .i64 ((x : Int))) rfl (by kernel_rfl) (by kernel_rfl) (by kernel_rfl) (fun _ _ _ h => h) (Or.inl ⟨by rfl, fun w hSw => by go_simp⟩) hH ?_
          try simp only [Act.put, List.setIfInBounds_toArray, List.set_cons_zero, List.set_cons_succ, List.getElem_toArray, List.getElem_cons_succ, List.getElem_cons_zero]
          refine wpAnyH_take (i := 8) (v := .pointer (some ⟨b1, x, none⟩)) rfl (by kernel_rfl) (by kernel_rfl) (by kernel_rfl) (fun _ _ _ h => h) (Or.inl ⟨by rfl, fun w hSw => by go_simp⟩) hH ?_
          try simp only [Act.put, List.setIfInBounds_toArray, List.set_cons_zero, List.set_cons_succ, List.getElem_toArray, List.getElem_cons_succ, List.getElem_cons_zero]
          refine wpAnyH_take (i := 9) (v := .int .i64 y) rfl (by kernel_rfl) (by kernel_rfl) (by kernel_rfl) (fun _ _ _ h => h) (Or.inl ⟨by rfl, fun w hSw => by obtain ⟨s1, s2, s3, s4⟩ := HQ.out w hSw; go_simp⟩) hH ?_
          try simp only [Act.put, List.setIfInBounds_toArray, List.set_cons_zero, List.set_cons_succ, List.getElem_toArray, List.getElem_cons_succ, List.getElem_cons_zero]
          refine wpAnyH_take (i := 10) (v := .bool false) rfl (by kernel_rfl) (by kernel_rfl) (by kernel_rfl) (fun _ _ _ h => h) (Or.inl ⟨by rfl, fun w hSw => by go_simp⟩) hH ?_
          try simp only [Act.put, List.setIfInBounds_toArray, List.set_cons_zero, List.set_cons_succ, List.getElem_toArray, List.getElem_cons_succ, List.getElem_cons_zero]
          refine wpAnyH_take (i := 11) (v := .bool false) rfl (by kernel_rfl) (by kernel_rfl) (by kernel_rfl) (fun _ _ _ h => h) (Or.inl ⟨by rfl, fun w hSw => by go_simp⟩) hH ?_
          try simp only [Act.put, List.setIfInBounds_toArray, List.set_cons_zero, List.set_cons_succ, List.getElem_toArray, List.getElem_cons_succ, List.getElem_cons_zero]
          refine wpAnyH_take (i := 12) (v := .bool false) rfl (by kernel_rfl) (by kernel_rfl) (by kernel_rfl) (fun _ _ _ h => h) (Or.inl ⟨by rfl, fun w hSw => by go_simp⟩) hH ?_
          try simp only [Act.put, List.setIfInBounds_toArray, List.set_cons_zero, List.set_cons_succ, List.getElem_toArray, List.getElem_cons_succ, List.getElem_cons_zero]
          refine wpAnyH_take (i := 13) (v := undef) rfl (by kernel_rfl) (by kernel_rfl) (by kernel_rfl) (fun _ _ _ h => h) (Or.inr ⟨by rfl, rfl⟩) hH ?_
          try simp only [Act.put, List.setIfInBounds_toArray, List.set_cons_zero, List.set_cons_succ, List.getElem_toArray, List.getElem_cons_succ, List.getElem_cons_zero]
          refine wpAnyH_take (i := 14) (v := undef) rfl (by kernel_rfl) (by kernel_rfl) (by kernel_rfl) (fun _ _ _ h => h) (Or.inr ⟨by rfl, rfl⟩) hH ?_
          try simp only [Act.put, List.setIfInBounds_toArray, List.set_cons_zero, List.set_cons_succ, List.getElem_toArray, List.getElem_cons_succ, List.getElem_cons_zero]
          refine wpAnyH_take (i := 15) (v := undef) rfl (by kernel_rfl) (by kernel_rfl) (by kernel_rfl) (fun _ _ _ h => h) (Or.inr ⟨by rfl, rfl⟩) hH ?_
          try simp only [Act.put, List.setIfInBounds_toArray, List.set_cons_zero, List.set_cons_succ, List.getElem_toArray, List.getElem_cons_succ, List.getElem_cons_zero]
          refine wpAnyH_take (i := 16) (v := undef) rfl (by kernel_rfl) (by kernel_rfl) (by kernel_rfl) (fun _ _ _ h => h) (Or.inr ⟨by rfl, rfl⟩) hH ?_
          try simp only [Act.put, List.setIfInBounds_toArray, List.set_cons_zero, List.set_cons_succ, List.getElem_toArray, List.getElem_cons_succ, List.getElem_cons_zero]
          refine wpAnyH_take (i := 17) (v := undef) rfl (by kernel_rfl) (by kernel_rfl) (by kernel_rfl) (fun _ _ _ h => h) (Or.inr ⟨by rfl, rfl⟩) hH ?_
          try simp only [Act.put, List.setIfInBounds_toArray, List.set_cons_zero, List.set_cons_succ, List.getElem_toArray, List.getElem_cons_succ, List.getElem_cons_zero]
          refine wpAnyH_take (i := 18) (v := undef) rfl (by kernel_rfl) (by kernel_rfl) (by kernel_rfl) (fun _ _ _ h => h) (Or.inr ⟨by rfl, rfl⟩) hH ?_
          try simp only [Act.put, List.setIfInBounds_toArray, List.set_cons_zero, List.set_cons_succ, List.getElem_toArray, List.getElem_cons_succ, List.getElem_cons_zero]
          refine wpAnyH_take (i := 19) (v := undef) rfl (by kernel_rfl) (by kernel_rfl) (by kernel_rfl) (fun _ _ _ h => h) (Or.inr ⟨by rfl, rfl⟩) hH ?_
          try simp only [Act.put, List.setIfInBounds_toArray, List.set_cons_zero, List.set_cons_succ, List.getElem_toArray, List.getElem_cons_succ, List.getElem_cons_zero]
          refine wpAnyH_take (i := 20) (v := undef) rfl (by kernel_rfl) (by kernel_rfl) (by kernel_rfl) (fun _ _ _ h => h) (Or.inr ⟨by rfl, rfl⟩) hH ?_
          try simp only [Act.put, List.setIfInBounds_toArray, List.set_cons_zero, List.set_cons_succ, List.getElem_toArray, List.getElem_cons_succ, List.getElem_cons_zero]
          refine wpAnyH_take (i := 21) (v := undef) rfl (by kernel_rfl) (by kernel_rfl) (by kernel_rfl) (fun _ _ _ h => h) (Or.inr ⟨by rfl, rfl⟩) hH ?_
          try simp only [Act.put, List.setIfInBounds_toArray, List.set_cons_zero, List.set_cons_succ, List.getElem_toArray, List.getElem_cons_succ, List.getElem_cons_zero]
          refine wpAnyH_take (i := 22) (v := undef) rfl (by kernel_rfl) (by kernel_rfl) (by kernel_rfl) (fun _ _ _ h => h) (Or.inr ⟨by rfl, rfl⟩) hH ?_
          try simp only [Act.put, List.setIfInBounds_toArray, List.set_cons_zero, List.set_cons_succ, List.getElem_toArray, List.getElem_cons_succ, List.getElem_cons_zero]
          refine wpAnyH_take (i := 23) (v := undef) rfl (by kernel_rfl) (by kernel_rfl) (by kernel_rfl) (fun _ _ _ h => h) (Or.inr ⟨by rfl, rfl⟩) hH ?_
          try simp only [Act.put, List.setIfInBounds_toArray, List.set_cons_zero, List.set_cons_succ, List.getElem_toArray, List.getElem_cons_succ, List.getElem_cons_zero]
          refine wpAnyH_take (i := 24) (v := undef) rfl (by kernel_rfl) (by kernel_rfl) (by kernel_rfl) (fun _ _ _ h => h) (Or.inr ⟨by rfl, rfl⟩) hH ?_
          try simp only [Act.put, List.setIfInBounds_toArray, List.set_cons_zero, List.set_cons_succ, List.getElem_toArray, List.getElem_cons_succ, List.getElem_cons_zero]
          refine wpAnyH_take (i := 25) (v := undef) rfl (by kernel_rfl) (by kernel_rfl) (by kernel_rfl) (fun _ _ _ h => h) (Or.inr ⟨by rfl, rfl⟩) hH ?_
          try simp only [Act.put, List.setIfInBounds_toArray, List.set_cons_zero, List.set_cons_succ, List.getElem_toArray, List.getElem_cons_succ, List.getElem_cons_zero]
          refine wpAnyH_take (i := 26) (v := undef) rfl (by kernel_rfl) (by kernel_rfl) (by kernel_rfl) (fun _ _ _ h => h) (Or.inr ⟨by rfl, rfl⟩) hH ?_
          try simp only [Act.put, List.setIfInBounds_toArray, List.set_cons_zero, List.set_cons_succ, List.getElem_toArray, List.getElem_cons_succ, List.getElem_cons_zero]
          refine wpAnyH_take (i := 27) (v := undef) rfl (by kernel_rfl) (by kernel_rfl) (by kernel_rfl) (fun _ _ _ h => h) (Or.inr ⟨by rfl, rfl⟩) hH ?_
          try simp only [Act.put, List.setIfInBounds_toArray, List.set_cons_zero, List.set_cons_succ, List.getElem_toArray, List.getElem_cons_succ, List.getElem_cons_zero]
          refine wpAnyH_take (i := 28) (v := undef) rfl (by kernel_rfl) (by kernel_rfl) (by kernel_rfl) (fun _ _ _ h => h) (Or.inr ⟨by rfl, rfl⟩) hH ?_
          try simp only [Act.put, List.setIfInBounds_toArray, List.set_cons_zero, List.set_cons_succ, List.getElem_toArray, List.getElem_cons_succ, List.getElem_cons_zero]
          refine wpAnyH_take (i := 29) (v := undef) rfl (by kernel_rfl) (by kernel_rfl) (by kernel_rfl) (fun _ _ _ h => h) (Or.inr ⟨by rfl, rfl⟩) hH ?_
          try simp only [Act.put, List.setIfInBounds_toArray, List.set_cons_zero, List.set_cons_succ, List.getElem_toArray, List.getElem_cons_succ, List.getElem_cons_zero]
          refine wpAnyH_take (i := 30) (v := undef) rfl (by kernel_rfl) (by kernel_rfl) (by kernel_rfl) (fun _ _ _ h => h) (Or.inr ⟨by rfl, rfl⟩) hH ?_
          try simp only [Act.put, List.setIfInBounds_toArray, List.set_cons_zero, List.set_cons_succ, List.getElem_toArray, List.getElem_cons_succ, List.getElem_cons_zero]
          refine wpAnyH_take (i := 31) (v := .bool false) rfl (by kernel_rfl) (by kernel_rfl) (by kernel_rfl) (fun _ _ _ h => h) (Or.inl ⟨by rfl, fun w hSw => by go_simp⟩) hH ?_
          try simp only [Act.put, List.setIfInBounds_toArray, List.set_cons_zero, List.set_cons_succ, List.getElem_toArray, List.getElem_cons_succ, List.getElem_cons_zero]
          refine wpAnyH_done (by kernel_rfl) ?_ _
          try simp
          go_wp2
          go_roundw
          case rel => exact ⟨cc - 1, by omega, by go_num, rfl, HPn'.out, HRw.out.below (below_drew _) HRw.out.lt, hH⟩
          case measure => simp [intOf]; omega
        · obtain ⟨hc0, HPn⟩ := HNext.out d4
          have HPn' : Hid (pick row v.toNat left f (cc - 1) = tt) := HPn
          clear HPn d4 HNext HStop
          have hsub : (left : Int) - (p : Int) = ((left - p : Nat) : Int) := by omega
          have hxl0 : left - p < due + 1 := by omega
          have HRq := fun W hW => HRx.out W (left - p) hW hxl0
          have hyb2 := hyb (left - p)
          generalize row (left - p) = y at *
          generalize left - p = x at *
          have hxl : (x : Int) < (due : Int) + 1 := by omega
          have hll : (left : Int) < (due : Int) + 1 := by omega
          have g3 : IntKind.i64.wrap (x : Int) = (x : Int) := wrap_id _ (by omega) (by omega)
          have g4 : IntKind.i64.wrap (y + (cc : Int)) = y + (cc : Int) := wrap_id _ (by omega) (by omega)
          have HQ : Hid (∀ W, Below w3.heap.size w3 W → W.cell? ⟨g, q, none⟩ = some (.slice (some ⟨b1, 0, none⟩) (due + 1) (due + 1)) ∧ W.cell? ⟨g, q + 1, none⟩ = some (.slice (some ⟨b2, 0, none⟩) (due + 1) (due + 1)) ∧ W.cell? ⟨b1, x, none⟩ = some (.int .i64 y) ∧ W.cell? ⟨b2, left, none⟩ = some (.int .i64 f)) := fun W hW => ⟨(HQ1.out W hW).1, (HQ1.out W hW).2.1, HRq W hW, (HQ1.out W hW).2.2⟩
          clear HRq
          have hne : (y + (cc : Int) = f) = False := eq_false d3
          go_wp2
          refine wp_region_held_drew (S := fun W => Below w3.heap.size w3 W) (by kernel_rfl) (chain HB.out (below_drew _)) (fun hH => ?_)
          refine wpAnyH_take (i := 0) (v := .int .i64 ((x : Int))) rfl (by kernel_rfl) (by kernel_rfl) (by kernel_rfl) (fun _ _ _ h => h) (Or.inl ⟨by rfl, fun w hSw => by go_simp⟩) hH ?_
          refine wpAnyH_take (i := 1) (v := .bool true) rfl (by kernel_rfl) (by kernel_rfl) (by kernel_rfl) (fun _ _ _ h => h) (Or.inl ⟨by rfl, fun w hSw => by go_simp⟩) hH ?_
          try simp only [Act.put, List.setIfInBounds_toArray, List.set_cons_zero, List.set_cons_succ, List.getElem_toArray, List.getElem_cons_succ, List.getElem_cons_zero]
          refine wpAnyH_take (i := 2) (v := .bool true) rfl (by kernel_rfl) (by kernel_rfl) (by kernel_rfl) (fun _ _ _ h => h) (Or.inl ⟨by rfl, fun w hSw => by go_simp⟩) hH ?_
          try simp only [Act.put, List.setIfInBounds_toArray, List.set_cons_zero, List.set_cons_succ, List.getElem_toArray, List.getElem_cons_succ, List.getElem_cons_zero]
          refine wpAnyH_take (i := 3) (v := .slice (some ⟨g, 0, none⟩) (rs.length + 1) cp) rfl (by kernel_rfl) (by kernel_rfl) (by kernel_rfl) (fun _ _ _ h => h) (Or.inl ⟨by rfl, fun w hSw => by go_simp⟩) hH ?_
          try simp only [Act.put, List.setIfInBounds_toArray, List.set_cons_zero, List.set_cons_succ, List.getElem_toArray, List.getElem_cons_succ, List.getElem_cons_zero]
          refine wpAnyH_take (i := 4) (v := .int .i64 ((q : Int))) rfl (by kernel_rfl) (by kernel_rfl) (by kernel_rfl) (fun _ _ _ h => h) (Or.inl ⟨by rfl, fun w hSw => by go_simp⟩) hH ?_
          try simp only [Act.put, List.setIfInBounds_toArray, List.set_cons_zero, List.set_cons_succ, List.getElem_toArray, List.getElem_cons_succ, List.getElem_cons_zero]
          refine wpAnyH_take (i := 5) (v := .pointer (some ⟨g, q, none⟩)) rfl (by kernel_rfl) (by kernel_rfl) (by kernel_rfl) (fun _ _ _ h => h) (Or.inl ⟨by rfl, fun w hSw => by go_simp⟩) hH ?_
          try simp only [Act.put, List.setIfInBounds_toArray, List.set_cons_zero, List.set_cons_succ, List.getElem_toArray, List.getElem_cons_succ, List.getElem_cons_zero]
          refine wpAnyH_take (i := 6) (v := .slice (some ⟨b1, 0, none⟩) (due + 1) (due + 1)) rfl (by kernel_rfl) (by kernel_rfl) (by kernel_rfl) (fun _ _ _ h => h) (Or.inl ⟨by rfl, fun w hSw => by obtain ⟨s1, s2, s3, s4⟩ := HQ.out w hSw; go_simp⟩) hH ?_
          try simp only [Act.put, List.setIfInBounds_toArray, List.set_cons_zero, List.set_cons_succ, List.getElem_toArray, List.getElem_cons_succ, List.getElem_cons_zero]
          refine wpAnyH_take (i := 7) (v := .int .i64 ((x : Int))) rfl (by kernel_rfl) (by kernel_rfl) (by kernel_rfl) (fun _ _ _ h => h) (Or.inl ⟨by rfl, fun w hSw => by go_simp⟩) hH ?_
          try simp only [Act.put, List.setIfInBounds_toArray, List.set_cons_zero, List.set_cons_succ, List.getElem_toArray, List.getElem_cons_succ, List.getElem_cons_zero]
          refine wpAnyH_take (i := 8) (v := .pointer (some ⟨b1, x, none⟩)) rfl (by kernel_rfl) (by kernel_rfl) (by kernel_rfl) (fun _ _ _ h => h) (Or.inl ⟨by rfl, fun w hSw => by go_simp⟩) hH ?_
          try simp only [Act.put, List.setIfInBounds_toArray, List.set_cons_zero, List.set_cons_succ, List.getElem_toArray, List.getElem_cons_succ, List.getElem_cons_zero]
          refine wpAnyH_take (i := 9) (v := .int .i64 y) rfl (by kernel_rfl) (by kernel_rfl) (by kernel_rfl) (fun _ _ _ h => h) (Or.inl ⟨by rfl, fun w hSw => by obtain ⟨s1, s2, s3, s4⟩ := HQ.out w hSw; go_simp⟩) hH ?_
          try simp only [Act.put, List.setIfInBounds_toArray, List.set_cons_zero, List.set_cons_succ, List.getElem_toArray, List.getElem_cons_succ, List.getElem_cons_zero]
          refine wpAnyH_take (i := 10) (v := .bool true) rfl (by kernel_rfl) (by kernel_rfl) (by kernel_rfl) (fun _ _ _ h => h) (Or.inl ⟨by rfl, fun w hSw => by go_simp⟩) hH ?_
          try simp only [Act.put, List.setIfInBounds_toArray, List.set_cons_zero, List.set_cons_succ, List.getElem_toArray, List.getElem_cons_succ, List.getElem_cons_zero]
          refine wpAnyH_take (i := 11) (v := .bool true) rfl (by kernel_rfl) (by kernel_rfl) (by kernel_rfl) (fun _ _ _ h => h) (Or.inl ⟨by rfl, fun w hSw => by go_simp⟩) hH ?_
          try simp only [Act.put, List.setIfInBounds_toArray, List.set_cons_zero, List.set_cons_succ, List.getElem_toArray, List.getElem_cons_succ, List.getElem_cons_zero]
          refine wpAnyH_take (i := 12) (v := .bool true) rfl (by kernel_rfl) (by kernel_rfl) (by kernel_rfl) (fun _ _ _ h => h) (Or.inl ⟨by rfl, fun w hSw => by go_simp⟩) hH ?_
          try simp only [Act.put, List.setIfInBounds_toArray, List.set_cons_zero, List.set_cons_succ, List.getElem_toArray, List.getElem_cons_succ, List.getElem_cons_zero]
          refine wpAnyH_take (i := 13) (v := .slice (some ⟨g, 0, none⟩) (rs.length + 1) cp) rfl (by kernel_rfl) (by kernel_rfl) (by kernel_rfl) (fun _ _ _ h => h) (Or.inl ⟨by rfl, fun w hSw => by go_simp⟩) hH ?_
          try simp only [Act.put, List.setIfInBounds_toArray, List.set_cons_zero, List.set_cons_succ, List.getElem_toArray, List.getElem_cons_succ, List.getElem_cons_zero]
          refine wpAnyH_take (i := 14) (v := .int .i64 ((q : Int))) rfl (by kernel_rfl) (by kernel_rfl) (by kernel_rfl) (fun _ _ _ h => h) (Or.inl ⟨by rfl, fun w hSw => by go_simp⟩) hH ?_
          try simp only [Act.put, List.setIfInBounds_toArray, List.set_cons_zero, List.set_cons_succ, List.getElem_toArray, List.getElem_cons_succ, List.getElem_cons_zero]
          refine wpAnyH_take (i := 15) (v := .pointer (some ⟨g, q, none⟩)) rfl (by kernel_rfl) (by kernel_rfl) (by kernel_rfl) (fun _ _ _ h => h) (Or.inl ⟨by rfl, fun w hSw => by go_simp⟩) hH ?_
          try simp only [Act.put, List.setIfInBounds_toArray, List.set_cons_zero, List.set_cons_succ, List.getElem_toArray, List.getElem_cons_succ, List.getElem_cons_zero]
          refine wpAnyH_take (i := 16) (v := .slice (some ⟨b1, 0, none⟩) (due + 1) (due + 1)) rfl (by kernel_rfl) (by kernel_rfl) (by kernel_rfl) (fun _ _ _ h => h) (Or.inl ⟨by rfl, fun w hSw => by obtain ⟨s1, s2, s3, s4⟩ := HQ.out w hSw; go_simp⟩) hH ?_
          try simp only [Act.put, List.setIfInBounds_toArray, List.set_cons_zero, List.set_cons_succ, List.getElem_toArray, List.getElem_cons_succ, List.getElem_cons_zero]
          refine wpAnyH_take (i := 17) (v := .int .i64 ((x : Int))) rfl (by kernel_rfl) (by kernel_rfl) (by kernel_rfl) (fun _ _ _ h => h) (Or.inl ⟨by rfl, fun w hSw => by go_simp⟩) hH ?_
          try simp only [Act.put, List.setIfInBounds_toArray, List.set_cons_zero, List.set_cons_succ, List.getElem_toArray, List.getElem_cons_succ, List.getElem_cons_zero]
          refine wpAnyH_take (i := 18) (v := .pointer (some ⟨b1, x, none⟩)) rfl (by kernel_rfl) (by kernel_rfl) (by kernel_rfl) (fun _ _ _ h => h) (Or.inl ⟨by rfl, fun w hSw => by go_simp⟩) hH ?_
          try simp only [Act.put, List.setIfInBounds_toArray, List.set_cons_zero, List.set_cons_succ, List.getElem_toArray, List.getElem_cons_succ, List.getElem_cons_zero]
          refine wpAnyH_take (i := 19) (v := .int .i64 y) rfl (by kernel_rfl) (by kernel_rfl) (by kernel_rfl) (fun _ _ _ h => h) (Or.inl ⟨by rfl, fun w hSw => by obtain ⟨s1, s2, s3, s4⟩ := HQ.out w hSw; go_simp⟩) hH ?_
          try simp only [Act.put, List.setIfInBounds_toArray, List.set_cons_zero, List.set_cons_succ, List.getElem_toArray, List.getElem_cons_succ, List.getElem_cons_zero]
          refine wpAnyH_take (i := 20) (v := .int .i64 ((cc : Int))) rfl (by kernel_rfl) (by kernel_rfl) (by kernel_rfl) (fun _ _ _ h => h) (Or.inl ⟨by rfl, fun w hSw => by go_simp⟩) hH ?_
          try simp only [Act.put, List.setIfInBounds_toArray, List.set_cons_zero, List.set_cons_succ, List.getElem_toArray, List.getElem_cons_succ, List.getElem_cons_zero]
          refine wpAnyH_take (i := 21) (v := .int .i64 (y + (cc : Int))) rfl (by kernel_rfl) (by kernel_rfl) (by kernel_rfl) (fun _ _ _ h => h) (Or.inl ⟨by rfl, fun w hSw => by go_simp⟩) hH ?_
          try simp only [Act.put, List.setIfInBounds_toArray, List.set_cons_zero, List.set_cons_succ, List.getElem_toArray, List.getElem_cons_succ, List.getElem_cons_zero]
          refine wpAnyH_take (i := 22) (v := .slice (some ⟨g, 0, none⟩) (rs.length + 1) cp) rfl (by kernel_rfl) (by kernel_rfl) (by kernel_rfl) (fun _ _ _ h => h) (Or.inl ⟨by rfl, fun w hSw => by go_simp⟩) hH ?_
          try simp only [Act.put, List.setIfInBounds_toArray, List.set_cons_zero, List.set_cons_succ, List.getElem_toArray, List.getElem_cons_succ, List.getElem_cons_zero]
          refine wpAnyH_take (i := 23) (v := .int .i64 ((q : Int))) rfl (by kernel_rfl) (by kernel_rfl) (by kernel_rfl) (fun _ _ _ h => h) (Or.inl ⟨by rfl, fun w hSw => by go_simp⟩) hH ?_
          try simp only [Act.put, List.setIfInBounds_toArray, List.set_cons_zero, List.set_cons_succ, List.getElem_toArray, List.getElem_cons_succ, List.getElem_cons_zero]
          refine wpAnyH_take (i := 24) (v := .int .i64 ((q : Int) + 1)) rfl (by kernel_rfl) (by kernel_rfl) (by kernel_rfl) (fun _ _ _ h => h) (Or.inl ⟨by rfl, fun w hSw => by go_simp⟩) hH ?_
          try simp only [Act.put, List.setIfInBounds_toArray, List.set_cons_zero, List.set_cons_succ, List.getElem_toArray, List.getElem_cons_succ, List.getElem_cons_zero]
          refine wpAnyH_take (i := 25) (v := .pointer (some ⟨g, q + 1, none⟩)) rfl (by kernel_rfl) (by kernel_rfl) (by kernel_rfl) (fun _ _ _ h => h) (Or.inl ⟨by rfl, fun w hSw => by go_simp⟩) hH ?_
          try simp only [Act.put, List.setIfInBounds_toArray, List.set_cons_zero, List.set_cons_succ, List.getElem_toArray, List.getElem_cons_succ, List.getElem_cons_zero]
          refine wpAnyH_take (i := 26) (v := .slice (some ⟨b2, 0, none⟩) (due + 1) (due + 1)) rfl (by kernel_rfl) (by kernel_rfl) (by kernel_rfl) (fun _ _ _ h => h) (Or.inl ⟨by rfl, fun w hSw => by obtain ⟨s1, s2, s3, s4⟩ := HQ.out w hSw; go_simp⟩) hH ?_
          try simp only [Act.put, List.setIfInBounds_toArray, List.set_cons_zero, List.set_cons_succ, List.getElem_toArray, List.getElem_cons_succ, List.getElem_cons_zero]
          refine wpAnyH_take (i := 27) (v := .int .i64 ((left : Int))) rfl (by kernel_rfl) (by kernel_rfl) (by kernel_rfl) (fun _ _ _ h => h) (Or.inl ⟨by rfl, fun w hSw => by go_simp⟩) hH ?_
          try simp only [Act.put, List.setIfInBounds_toArray, List.set_cons_zero, List.set_cons_succ, List.getElem_toArray, List.getElem_cons_succ, List.getElem_cons_zero]
          refine wpAnyH_take (i := 28) (v := .pointer (some ⟨b2, left, none⟩)) rfl (by kernel_rfl) (by kernel_rfl) (by kernel_rfl) (fun _ _ _ h => h) (Or.inl ⟨by rfl, fun w hSw => by go_simp⟩) hH ?_
          try simp only [Act.put, List.setIfInBounds_toArray, List.set_cons_zero, List.set_cons_succ, List.getElem_toArray, List.getElem_cons_succ, List.getElem_cons_zero]
          refine wpAnyH_take (i := 29) (v := .int .i64 f) rfl (by kernel_rfl) (by kernel_rfl) (by kernel_rfl) (fun _ _ _ h => h) (Or.inl ⟨by rfl, fun w hSw => by obtain ⟨s1, s2, s3, s4⟩ := HQ.out w hSw; go_simp⟩) hH ?_
          try simp only [Act.put, List.setIfInBounds_toArray, List.set_cons_zero, List.set_cons_succ, List.getElem_toArray, List.getElem_cons_succ, List.getElem_cons_zero]
          refine wpAnyH_take (i := 30) (v := .bool false) rfl (by kernel_rfl) (by kernel_rfl) (by kernel_rfl) (fun _ _ _ h => h) (Or.inl ⟨by rfl, fun w hSw => by go_simp⟩) hH ?_
          try simp only [Act.put, List.setIfInBounds_toArray, List.set_cons_zero, List.set_cons_succ, List.getElem_toArray, List.getElem_cons_succ, List.getElem_cons_zero]
          refine wpAnyH_take (i := 31) (v := .bool false) rfl (by kernel_rfl) (by kernel_rfl) (by kernel_rfl) (fun _ _ _ h => h) (Or.inl ⟨by rfl, fun w hSw => by go_simp⟩) hH ?_
          try simp only [Act.put, List.setIfInBounds_toArray, List.set_cons_zero, List.set_cons_succ, List.getElem_toArray, List.getElem_cons_succ, List.getElem_cons_zero]
          refine wpAnyH_done (by kernel_rfl) ?_ _
          try simp
          go_wp2
          go_roundw
          case rel => exact ⟨cc - 1, by omega, by go_num, rfl, HPn'.out, HRw.out.below (below_drew _) HRw.out.lt, hH⟩
          case measure => simp [intOf]; omega
        · have HCt : Hid (cc = tt) := HStop.out d4
          have hlx := HSq.out HCt.out
          clear d4 HNext HStop
          have hsub : (left : Int) - (p : Int) = ((left - p : Nat) : Int) := by omega
          have hxl0 : left - p < due + 1 := by omega
          have HRq := fun W hW => HRx.out W (left - p) hW hxl0
          have hyb2 := hyb (left - p)
          generalize row (left - p) = y at *
          generalize left - p = x at *
          have HLx2 : Hid (left2 = x) := hlx
          have g5 : IntKind.i64.wrap f = f := wrap_id _ (by omega) (by omega)
          clear hlx
          have hxl : (x : Int) < (due : Int) + 1 := by omega
          have hll : (left : Int) < (due : Int) + 1 := by omega
          have g3 : IntKind.i64.wrap (x : Int) = (x : Int) := wrap_id _ (by omega) (by omega)
          have g4 : IntKind.i64.wrap (y + (cc : Int)) = y + (cc : Int) := wrap_id _ (by omega) (by omega)
          have HQ : Hid (∀ W, Below w3.heap.size w3 W → W.cell? ⟨g, q, none⟩ = some (.slice (some ⟨b1, 0, none⟩) (due + 1) (due + 1)) ∧ W.cell? ⟨g, q + 1, none⟩ = some (.slice (some ⟨b2, 0, none⟩) (due + 1) (due + 1)) ∧ W.cell? ⟨b1, x, none⟩ = some (.int .i64 y) ∧ W.cell? ⟨b2, left, none⟩ = some (.int .i64 f)) := fun W hW => ⟨(HQ1.out W hW).1, (HQ1.out W hW).2.1, HRq W hW, (HQ1.out W hW).2.2⟩
          clear HRq
          go_wp2
          refine wp_region_held_drew (S := fun W => Below w3.heap.size w3 W) (by kernel_rfl) (chain HB.out (below_drew _)) (fun hH => ?_)
          refine wpAnyH_take (i := 0) (v := .int .i64 ((x : Int))) rfl (by kernel_rfl) (by kernel_rfl) (by kernel_rfl) (fun _ _ _ h => h) (Or.inl ⟨by rfl, fun w hSw => by go_simp⟩) hH ?_
          refine wpAnyH_take (i := 1) (v := .bool true) rfl (by kernel_rfl) (by kernel_rfl) (by kernel_rfl) (fun _ _ _ h => h) (Or.inl ⟨by rfl, fun w hSw => by go_simp⟩) hH ?_
          try simp only [Act.put, List.setIfInBounds_toArray, List.set_cons_zero, List.set_cons_succ, List.getElem_toArray, List.getElem_cons_succ, List.getElem_cons_zero]
          refine wpAnyH_take (i := 2) (v := .bool true) rfl (by kernel_rfl) (by kernel_rfl) (by kernel_rfl) (fun _ _ _ h => h) (Or.inl ⟨by rfl, fun w hSw => by go_simp⟩) hH ?_
          try simp only [Act.put, List.setIfInBounds_toArray, List.set_cons_zero, List.set_cons_succ, List.getElem_toArray, List.getElem_cons_succ, List.getElem_cons_zero]
          refine wpAnyH_take (i := 3) (v := .slice (some ⟨g, 0, none⟩) (rs.length + 1) cp) rfl (by kernel_rfl) (by kernel_rfl) (by kernel_rfl) (fun _ _ _ h => h) (Or.inl ⟨by rfl, fun w hSw => by go_simp⟩) hH ?_
          try simp only [Act.put, List.setIfInBounds_toArray, List.set_cons_zero, List.set_cons_succ, List.getElem_toArray, List.getElem_cons_succ, List.getElem_cons_zero]
          refine wpAnyH_take (i := 4) (v := .int .i64 ((q : Int))) rfl (by kernel_rfl) (by kernel_rfl) (by kernel_rfl) (fun _ _ _ h => h) (Or.inl ⟨by rfl, fun w hSw => by go_simp⟩) hH ?_
          try simp only [Act.put, List.setIfInBounds_toArray, List.set_cons_zero, List.set_cons_succ, List.getElem_toArray, List.getElem_cons_succ, List.getElem_cons_zero]
          refine wpAnyH_take (i := 5) (v := .pointer (some ⟨g, q, none⟩)) rfl (by kernel_rfl) (by kernel_rfl) (by kernel_rfl) (fun _ _ _ h => h) (Or.inl ⟨by rfl, fun w hSw => by go_simp⟩) hH ?_
          try simp only [Act.put, List.setIfInBounds_toArray, List.set_cons_zero, List.set_cons_succ, List.getElem_toArray, List.getElem_cons_succ, List.getElem_cons_zero]
          refine wpAnyH_take (i := 6) (v := .slice (some ⟨b1, 0, none⟩) (due + 1) (due + 1)) rfl (by kernel_rfl) (by kernel_rfl) (by kernel_rfl) (fun _ _ _ h => h) (Or.inl ⟨by rfl, fun w hSw => by obtain ⟨s1, s2, s3, s4⟩ := HQ.out w hSw; go_simp⟩) hH ?_
          try simp only [Act.put, List.setIfInBounds_toArray, List.set_cons_zero, List.set_cons_succ, List.getElem_toArray, List.getElem_cons_succ, List.getElem_cons_zero]
          refine wpAnyH_take (i := 7) (v := .int .i64 ((x : Int))) rfl (by kernel_rfl) (by kernel_rfl) (by kernel_rfl) (fun _ _ _ h => h) (Or.inl ⟨by rfl, fun w hSw => by go_simp⟩) hH ?_
          try simp only [Act.put, List.setIfInBounds_toArray, List.set_cons_zero, List.set_cons_succ, List.getElem_toArray, List.getElem_cons_succ, List.getElem_cons_zero]
          refine wpAnyH_take (i := 8) (v := .pointer (some ⟨b1, x, none⟩)) rfl (by kernel_rfl) (by kernel_rfl) (by kernel_rfl) (fun _ _ _ h => h) (Or.inl ⟨by rfl, fun w hSw => by go_simp⟩) hH ?_
          try simp only [Act.put, List.setIfInBounds_toArray, List.set_cons_zero, List.set_cons_succ, List.getElem_toArray, List.getElem_cons_succ, List.getElem_cons_zero]
          refine wpAnyH_take (i := 9) (v := .int .i64 y) rfl (by kernel_rfl) (by kernel_rfl) (by kernel_rfl) (fun _ _ _ h => h) (Or.inl ⟨by rfl, fun w hSw => by obtain ⟨s1, s2, s3, s4⟩ := HQ.out w hSw; go_simp⟩) hH ?_
          try simp only [Act.put, List.setIfInBounds_toArray, List.set_cons_zero, List.set_cons_succ, List.getElem_toArray, List.getElem_cons_succ, List.getElem_cons_zero]
          refine wpAnyH_take (i := 10) (v := .bool true) rfl (by kernel_rfl) (by kernel_rfl) (by kernel_rfl) (fun _ _ _ h => h) (Or.inl ⟨by rfl, fun w hSw => by go_simp⟩) hH ?_
          try simp only [Act.put, List.setIfInBounds_toArray, List.set_cons_zero, List.set_cons_succ, List.getElem_toArray, List.getElem_cons_succ, List.getElem_cons_zero]
          refine wpAnyH_take (i := 11) (v := .bool true) rfl (by kernel_rfl) (by kernel_rfl) (by kernel_rfl) (fun _ _ _ h => h) (Or.inl ⟨by rfl, fun w hSw => by go_simp⟩) hH ?_
          try simp only [Act.put, List.setIfInBounds_toArray, List.set_cons_zero, List.set_cons_succ, List.getElem_toArray, List.getElem_cons_succ, List.getElem_cons_zero]
          refine wpAnyH_take (i := 12) (v := .bool true) rfl (by kernel_rfl) (by kernel_rfl) (by kernel_rfl) (fun _ _ _ h => h) (Or.inl ⟨by rfl, fun w hSw => by go_simp⟩) hH ?_
          try simp only [Act.put, List.setIfInBounds_toArray, List.set_cons_zero, List.set_cons_succ, List.getElem_toArray, List.getElem_cons_succ, List.getElem_cons_zero]
          refine wpAnyH_take (i := 13) (v := .slice (some ⟨g, 0, none⟩) (rs.length + 1) cp) rfl (by kernel_rfl) (by kernel_rfl) (by kernel_rfl) (fun _ _ _ h => h) (Or.inl ⟨by rfl, fun w hSw => by go_simp⟩) hH ?_
          try simp only [Act.put, List.setIfInBounds_toArray, List.set_cons_zero, List.set_cons_succ, List.getElem_toArray, List.getElem_cons_succ, List.getElem_cons_zero]
          refine wpAnyH_take (i := 14) (v := .int .i64 ((q : Int))) rfl (by kernel_rfl) (by kernel_rfl) (by kernel_rfl) (fun _ _ _ h => h) (Or.inl ⟨by rfl, fun w hSw => by go_simp⟩) hH ?_
          try simp only [Act.put, List.setIfInBounds_toArray, List.set_cons_zero, List.set_cons_succ, List.getElem_toArray, List.getElem_cons_succ, List.getElem_cons_zero]
          refine wpAnyH_take (i := 15) (v := .pointer (some ⟨g, q, none⟩)) rfl (by kernel_rfl) (by kernel_rfl) (by kernel_rfl) (fun _ _ _ h => h) (Or.inl ⟨by rfl, fun w hSw => by go_simp⟩) hH ?_
          try simp only [Act.put, List.setIfInBounds_toArray, List.set_cons_zero, List.set_cons_succ, List.getElem_toArray, List.getElem_cons_succ, List.getElem_cons_zero]
          refine wpAnyH_take (i := 16) (v := .slice (some ⟨b1, 0, none⟩) (due + 1) (due + 1)) rfl (by kernel_rfl) (by kernel_rfl) (by kernel_rfl) (fun _ _ _ h => h) (Or.inl ⟨by rfl, fun w hSw => by obtain ⟨s1, s2, s3, s4⟩ := HQ.out w hSw; go_simp⟩) hH ?_
          try simp only [Act.put, List.setIfInBounds_toArray, List.set_cons_zero, List.set_cons_succ, List.getElem_toArray, List.getElem_cons_succ, List.getElem_cons_zero]
          refine wpAnyH_take (i := 17) (v := .int .i64 ((x : Int))) rfl (by kernel_rfl) (by kernel_rfl) (by kernel_rfl) (fun _ _ _ h => h) (Or.inl ⟨by rfl, fun w hSw => by go_simp⟩) hH ?_
          try simp only [Act.put, List.setIfInBounds_toArray, List.set_cons_zero, List.set_cons_succ, List.getElem_toArray, List.getElem_cons_succ, List.getElem_cons_zero]
          refine wpAnyH_take (i := 18) (v := .pointer (some ⟨b1, x, none⟩)) rfl (by kernel_rfl) (by kernel_rfl) (by kernel_rfl) (fun _ _ _ h => h) (Or.inl ⟨by rfl, fun w hSw => by go_simp⟩) hH ?_
          try simp only [Act.put, List.setIfInBounds_toArray, List.set_cons_zero, List.set_cons_succ, List.getElem_toArray, List.getElem_cons_succ, List.getElem_cons_zero]
          refine wpAnyH_take (i := 19) (v := .int .i64 y) rfl (by kernel_rfl) (by kernel_rfl) (by kernel_rfl) (fun _ _ _ h => h) (Or.inl ⟨by rfl, fun w hSw => by obtain ⟨s1, s2, s3, s4⟩ := HQ.out w hSw; go_simp⟩) hH ?_
          try simp only [Act.put, List.setIfInBounds_toArray, List.set_cons_zero, List.set_cons_succ, List.getElem_toArray, List.getElem_cons_succ, List.getElem_cons_zero]
          refine wpAnyH_take (i := 20) (v := .int .i64 ((cc : Int))) rfl (by kernel_rfl) (by kernel_rfl) (by kernel_rfl) (fun _ _ _ h => h) (Or.inl ⟨by rfl, fun w hSw => by go_simp⟩) hH ?_
          try simp only [Act.put, List.setIfInBounds_toArray, List.set_cons_zero, List.set_cons_succ, List.getElem_toArray, List.getElem_cons_succ, List.getElem_cons_zero]
          refine wpAnyH_take (i := 21) (v := .int .i64 (y + (cc : Int))) rfl (by kernel_rfl) (by kernel_rfl) (by kernel_rfl) (fun _ _ _ h => h) (Or.inl ⟨by rfl, fun w hSw => by go_simp⟩) hH ?_
          try simp only [Act.put, List.setIfInBounds_toArray, List.set_cons_zero, List.set_cons_succ, List.getElem_toArray, List.getElem_cons_succ, List.getElem_cons_zero]
          refine wpAnyH_take (i := 22) (v := .slice (some ⟨g, 0, none⟩) (rs.length + 1) cp) rfl (by kernel_rfl) (by kernel_rfl) (by kernel_rfl) (fun _ _ _ h => h) (Or.inl ⟨by rfl, fun w hSw => by go_simp⟩) hH ?_
          try simp only [Act.put, List.setIfInBounds_toArray, List.set_cons_zero, List.set_cons_succ, List.getElem_toArray, List.getElem_cons_succ, List.getElem_cons_zero]
          refine wpAnyH_take (i := 23) (v := .int .i64 ((q : Int))) rfl (by kernel_rfl) (by kernel_rfl) (by kernel_rfl) (fun _ _ _ h => h) (Or.inl ⟨by rfl, fun w hSw => by go_simp⟩) hH ?_
          try simp only [Act.put, List.setIfInBounds_toArray, List.set_cons_zero, List.set_cons_succ, List.getElem_toArray, List.getElem_cons_succ, List.getElem_cons_zero]
          refine wpAnyH_take (i := 24) (v := .int .i64 ((q : Int) + 1)) rfl (by kernel_rfl) (by kernel_rfl) (by kernel_rfl) (fun _ _ _ h => h) (Or.inl ⟨by rfl, fun w hSw => by go_simp⟩) hH ?_
          try simp only [Act.put, List.setIfInBounds_toArray, List.set_cons_zero, List.set_cons_succ, List.getElem_toArray, List.getElem_cons_succ, List.getElem_cons_zero]
          refine wpAnyH_take (i := 25) (v := .pointer (some ⟨g, q + 1, none⟩)) rfl (by kernel_rfl) (by kernel_rfl) (by kernel_rfl) (fun _ _ _ h => h) (Or.inl ⟨by rfl, fun w hSw => by go_simp⟩) hH ?_
          try simp only [Act.put, List.setIfInBounds_toArray, List.set_cons_zero, List.set_cons_succ, List.getElem_toArray, List.getElem_cons_succ, List.getElem_cons_zero]
          refine wpAnyH_take (i := 26) (v := .slice (some ⟨b2, 0, none⟩) (due + 1) (due + 1)) rfl (by kernel_rfl) (by kernel_rfl) (by kernel_rfl) (fun _ _ _ h => h) (Or.inl ⟨by rfl, fun w hSw => by obtain ⟨s1, s2, s3, s4⟩ := HQ.out w hSw; go_simp⟩) hH ?_
          try simp only [Act.put, List.setIfInBounds_toArray, List.set_cons_zero, List.set_cons_succ, List.getElem_toArray, List.getElem_cons_succ, List.getElem_cons_zero]
          refine wpAnyH_take (i := 27) (v := .int .i64 ((left : Int))) rfl (by kernel_rfl) (by kernel_rfl) (by kernel_rfl) (fun _ _ _ h => h) (Or.inl ⟨by rfl, fun w hSw => by go_simp⟩) hH ?_
          try simp only [Act.put, List.setIfInBounds_toArray, List.set_cons_zero, List.set_cons_succ, List.getElem_toArray, List.getElem_cons_succ, List.getElem_cons_zero]
          refine wpAnyH_take (i := 28) (v := .pointer (some ⟨b2, left, none⟩)) rfl (by kernel_rfl) (by kernel_rfl) (by kernel_rfl) (fun _ _ _ h => h) (Or.inl ⟨by rfl, fun w hSw => by go_simp⟩) hH ?_
          try simp only [Act.put, List.setIfInBounds_toArray, List.set_cons_zero, List.set_cons_succ, List.getElem_toArray, List.getElem_cons_succ, List.getElem_cons_zero]
          refine wpAnyH_take (i := 29) (v := .int .i64 f) rfl (by kernel_rfl) (by kernel_rfl) (by kernel_rfl) (fun _ _ _ h => h) (Or.inl ⟨by rfl, fun w hSw => by obtain ⟨s1, s2, s3, s4⟩ := HQ.out w hSw; go_simp⟩) hH ?_
          try simp only [Act.put, List.setIfInBounds_toArray, List.set_cons_zero, List.set_cons_succ, List.getElem_toArray, List.getElem_cons_succ, List.getElem_cons_zero]
          refine wpAnyH_take (i := 30) (v := .bool true) rfl (by kernel_rfl) (by kernel_rfl) (by kernel_rfl) (fun _ _ _ h => h) (Or.inl ⟨by rfl, fun w hSw => by go_simp⟩) hH ?_
          try simp only [Act.put, List.setIfInBounds_toArray, List.set_cons_zero, List.set_cons_succ, List.getElem_toArray, List.getElem_cons_succ, List.getElem_cons_zero]
          refine wpAnyH_take (i := 31) (v := .bool true) rfl (by kernel_rfl) (by kernel_rfl) (by kernel_rfl) (fun _ _ _ h => h) (Or.inl ⟨by rfl, fun w hSw => by go_simp⟩) hH ?_
          try simp only [Act.put, List.setIfInBounds_toArray, List.set_cons_zero, List.set_cons_succ, List.getElem_toArray, List.getElem_cons_succ, List.getElem_cons_zero]
          refine wpAnyH_done (by kernel_rfl) ?_ _
          try simp
          have HRd : Hid (RwI wr.drew ob rs.length (fun i => if rs.length - j ≤ i then cnS rs due i else 0)) := HRw.out.below (below_drew _) HRw.out.lt
          generalize wr.drew = wd at *
          have k5 := HRd.out.cell hql
          have k6 : wd.frozen? ⟨ob, q, none⟩ = false := HRd.out.frozen q
          have HRs : Hid (RwI (wd.setCell ⟨ob, q, none⟩ (.int .i64 (cc : Int))) ob rs.length (fun i => if rs.length - (j + 1) ≤ i then cnS rs due i else 0)) := (RwI.put HRd.out q (cc : Int)).congr (fun i hi => by
            have hqj := HQj.out
            by_cases e : i = q
            · rw [if_pos e, if_pos (by omega), e, HCj.out, HCt.out]
            · rw [if_neg e]
              by_cases e1 : rs.length - j ≤ i
              · rw [if_pos e1, if_pos (by omega)]
              · rw [if_neg e1, if_neg (by omega)])
          have HBs : Hid (Below w3.heap.size w3 (wd.setCell ⟨ob, q, none⟩ (.int .i64 (cc : Int)))) := hH.setCell HOb.out _
          clear HRd HRw HB
          go_wp2
          go_roundw
          case rel => exact ⟨j + 1, _, by omega, rfl, by have := HQj.out; omega, by rw [HL2.out, HLx2.out], HRs.out, HBs.out⟩
          case measure => simp [intOf] <;> omega
      · have hj2 : j = rs.length := by omega
        have hzz : z = -1 := by omega
        subst hzz
        have HO4 : Hid (Own2 w.heap.size wo (some ⟨ob, 0, none⟩) (chL rs due)) := HOw.out ob wo (Nat.le_trans hW3 HOb.out) (HRw.out.congr (fun i hi => by rw [if_pos (by omega)]))
        clear hz
        go_wp2
        go_ret2
        exact ⟨⟨some ⟨ob, 0, none⟩, rs.length, by rw [hLen]; rfl, HO4.out⟩, HB3.out.trans (HB.out.mono hW3)⟩
end Go.Proofs.Ytngnmlifbjpkoaa
