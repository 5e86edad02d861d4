/-
  The program's BestShelf with counts that are not nil; what FnShelf asks, as mathematics.
-/
import Derived.Test.YtphefbaogfknoaaFeC
namespace Go.Proofs.Ytphefbaogfknoaa
open Go.ChangeShapes Go.WideShapes Go.ChangeAt Go.RowKit Go.Deep
set_option linter.unusedVariables false

def AnsB2 (rs : List CFc) (wd : Int) (w : World) (e : Ending) (w' : World) : Prop := ∃ q cq, e = .returned (.tuple #[.agg #[.slice q (bsL rs wd).length cq, .int .i64 (bsUs rs wd), .int .i64 (bsGa rs wd)], .int .i64 (bsCode rs wd)]) ∧ Own2 w.heap.size w' q (bsL rs wd) ∧ Below w.heap.size w w' ∧ (bsCode rs wd = 0 → ∃ g, q = some ⟨g, 0, none⟩)
theorem ansB2_none {rs : List CFc} {wd : Int} {w w' : World} {c : Int} (h : bsCode rs wd = c) (hc : c ≠ 0) (hb : Below w.heap.size w w') : AnsB2 rs wd w (.returned (.tuple #[.agg #[.slice none 0 0, .int .i64 0, .int .i64 0], .int .i64 c])) w' := by
  have hn : bsCode rs wd ≠ 0 := by rw [h]; exact hc
  unfold AnsB2 bsL bsUs bsGa
  rw [if_neg hn, if_neg hn, if_neg hn, h]
  exact ⟨none, 0, rfl, .inl rfl, hb, fun e => absurd e hc⟩
theorem ansB2_some {rs : List CFc} {wd : Int} {w w' : World} {q cq : Nat} (h : bsCode rs wd = 0) (ho : Own2 w.heap.size w' (some ⟨q, 0, none⟩) (plL rs wd.toNat)) (hb : Below w.heap.size w w') : AnsB2 rs wd w (.returned (.tuple #[.agg #[.slice (some ⟨q, 0, none⟩) (plL rs wd.toNat).length cq, .int .i64 (usN rs (plL rs wd.toNat) rs.length), .int .i64 (gaN rs (plL rs wd.toNat) rs.length)], .int .i64 0])) w' := by
  unfold AnsB2 bsL bsUs bsGa
  rw [if_pos h, if_pos h, if_pos h, h]
  exact ⟨_, cq, rfl, ho, hb, fun _ => ⟨q, rfl⟩⟩
theorem bs_code {rs : List CFc} (hall : fcAll rs = true) {wn : Nat} (hw : wn ≤ 2000) : bsCode rs (wn : Int) = if dp rs wn < 0 then 8 else 0 := by
  have h12 := (fcAll_r hall).1
  have hs : shFault rs (wn : Int) = 0 := by unfold shFault; rw [if_pos hall, if_neg (by omega)]
  unfold bsCode
  rw [if_neg (by omega), if_pos hs, Int.toNat_natCast]
theorem sh_code {rs : List CFc} (hall : fcAll rs = true) {wn : Nat} (hw : wn ≤ 2000) {cs : List Int} (hl : cs.length = rs.length) (hf : fitS rs cs rs.length = true) : shCode rs (wn : Int) cs = if (wn : Int) < usN rs cs rs.length then 14 else 0 := by
  have h12 := (fcAll_r hall).1
  have hs : shFault rs (wn : Int) = 0 := by unfold shFault; rw [if_pos hall, if_neg (by omega)]
  unfold shCode
  rw [if_neg (by omega), if_pos hs, hf, if_pos (by rw [decide_eq_true hl.symm]; rfl)]
theorem shf_facts {rs : List CFc} (hall : fcAll rs = true) {wn : Nat} (hw : wn ≤ 1000) {cs : List Int} (hl : cs.length = rs.length) (hf : fitS rs cs rs.length = true) :
    (shCode rs (wn : Int) cs = 0 ∨ shCode rs (wn : Int) cs = 14) ∧ (bsCode rs (wn : Int) = 0 ∨ bsCode rs (wn : Int) = 8) ∧ (shCode rs (wn : Int) cs = 0 → bsCode rs (wn : Int) = 0 ∧ shG rs (wn : Int) cs ≤ bsGa rs (wn : Int)) ∧
    (bsCode rs (wn : Int) = 0 → shCode rs (wn : Int) (bsL rs (wn : Int)) = 0 ∧ shG rs (wn : Int) (bsL rs (wn : Int)) = bsGa rs (wn : Int) ∧ shU rs (wn : Int) (bsL rs (wn : Int)) = bsUs rs (wn : Int) ∧ bsUs rs (wn : Int) ≤ (wn : Int) ∧ bsCode rs ((wn + 7 : Nat) : Int) = 0 ∧ bsGa rs (wn : Int) ≤ bsGa rs ((wn + 7 : Nat) : Int)) := by
  obtain ⟨h12, hrr⟩ := fcAll_r hall
  have e1 := sh_code hall (wn := wn) (by omega) hl hf
  have e2 := bs_code hall (wn := wn) (by omega)
  have e3 := bs_code hall (wn := wn + 7) (by omega)
  refine ⟨by rw [e1]; split <;> simp, by rw [e2]; split <;> simp, fun h => ?_, fun h => ?_⟩
  · have hu : usN rs cs rs.length ≤ (wn : Int) := by
      rw [e1] at h
      by_cases q : (wn : Int) < usN rs cs rs.length
      · rw [if_pos q] at h; omega
      · omega
    obtain ⟨h1, h2⟩ := dp_opt rs hrr cs wn hl hf hu
    have hb : bsCode rs (wn : Int) = 0 := by rw [e2, if_neg (by omega)]
    refine ⟨hb, ?_⟩
    unfold shG bsGa
    rw [if_pos h, if_pos hb, Int.toNat_natCast, (pl_ok rs hrr wn h2).2.2.2]
    exact h1
  · have hd : 0 ≤ dp rs wn := by
      rw [e2] at h
      by_cases q : dp rs wn < 0
      · rw [if_pos q] at h; omega
      · omega
    obtain ⟨p1, p2, p3, p4⟩ := pl_ok rs hrr wn hd
    obtain ⟨m1, m2⟩ := dp_mono hrr (show wn ≤ wn + 7 by omega) hd
    have hL : bsL rs (wn : Int) = plL rs wn := by unfold bsL; rw [if_pos h, Int.toNat_natCast]
    have hs : shCode rs (wn : Int) (plL rs wn) = 0 := by rw [sh_code hall (by omega) p1 p2, if_neg (by omega)]
    have h7 : bsCode rs ((wn + 7 : Nat) : Int) = 0 := by rw [e3, if_neg (by omega)]
    rw [hL]
    unfold shG shU bsGa bsUs
    rw [if_pos h, if_pos h, if_pos hs, if_pos hs, if_pos h7, Int.toNat_natCast, Int.toNat_natCast, (pl_ok rs hrr (wn + 7) m2).2.2.2]
    exact ⟨hs, rfl, rfl, p3, h7, by rw [p4]; exact m1⟩
set_option maxHeartbeats 8000000 in
set_option maxRecDepth 4000 in
theorem implBestShelf_some (a : Option Addr) (cap : Nat) (rs : List CFc) (hl : rs.length ≤ 100000000) (hp : ∀ r ∈ rs, FcOK r) (wd : Int) (w : World) (hr : ReadsFc w.heap.size w a rs) :
    Calls Try.prog 9 #[.slice a rs.length cap, .int .i64 wd] w (AnsB2 rs wd w) := by
  have HNo : Hid (∀ (c : Int) (w' : World), bsCode rs wd = c → c ≠ 0 → Below w.heap.size w w' → AnsB2 rs wd w (.returned (.tuple #[.agg #[.slice none 0 0, .int .i64 0, .int .i64 0], .int .i64 c])) w') := fun c w' h1 h2 h3 => ansB2_none h1 h2 h3
  have HCd : Hid (bsCode rs wd = if 4096 < rs.length then 2 else if shFault rs wd = 0 then (if dp rs wd.toNat < 0 then 8 else 0) else shFault rs wd) := rfl
  obtain ⟨W0, hW0⟩ : ∃ W0, W0 = w.alloc (Obj.cells #[.slice none 0 0, .int .i64 0, .int .i64 0] 28) := ⟨_, rfl⟩
  obtain ⟨R, hR⟩ : ∃ R, R = w.heap.size := ⟨_, rfl⟩
  have HW0 : Hid (W0 = w.alloc (Obj.cells #[.slice none 0 0, .int .i64 0, .int .i64 0] 28) ∧ R = w.heap.size) := ⟨hW0, hR⟩
  have HB0 : Hid (Below w.heap.size w W0) := by show Below _ _ _; rw [hW0]; exact below_alloc _ _
  have HRx : Hid (W0.heap[R]? = some (.cells #[.slice none 0 0, .int .i64 0, .int .i64 0] 28 (0, 0))) := by show _ = _; rw [hW0, hR]; exact heapNew _ _
  have hRw : w.heap.size ≤ R := by rw [hR]; exact Nat.le_refl _
  have HF : Hid (∀ W, Below w.heap.size w W → Calls Try.prog 27 #[.slice a rs.length cap, .int .i64 wd] W fun e w' => e = .returned (.int .i64 (shFault rs wd)) ∧ Below W.heap.size W w') := fun W hb => shelfFault_any a cap rs hl hp wd W (hr.later hb)
  have HR : Hid (ReadsFc w.heap.size w a rs) := hr
  clear hr hp hW0 hR
  by_cases h4 : (4096 : Int) < (rs.length : Int)
  · have HC : Hid (bsCode rs wd = 2) := by show _ = _; rw [HCd.out, if_pos (by omega)]
    clear HCd HF HR
    go_enter Try.func9, Try.ntmps9
    go_wp2
    refine bodyPost_ret (v := .tuple #[.agg #[.slice none 0 0, .int .i64 0, .int .i64 0], .int .i64 2]) (by simp [results, Try.results9, go_sem]) rfl ?_
    exact HNo.out 2 _ HC.out (by omega) (below_alloc _ _)
  have HCd2 : Hid (bsCode rs wd = if shFault rs wd = 0 then (if dp rs wd.toNat < 0 then 8 else 0) else shFault rs wd) := by show _ = _; rw [HCd.out, if_neg (by omega)]
  clear HCd
  by_cases hf : shFault rs wd = 0
  case neg =>
    have HC : Hid (bsCode rs wd = shFault rs wd) := by show _ = _; rw [HCd2.out, if_neg hf]
    have HNz : Hid (shFault rs wd ≠ 0) := hf
    have hfb : (shFault rs wd != 0) = true := by simpa using hf
    clear HCd2 HR hf
    generalize shFault rs wd = fv at *
    go_enter Try.func9, Try.ntmps9
    go_upto_region 3 with fail
    rw [← HW0.out.1, ← HW0.out.2]
    clear HW0
    go_wp2_with fail
    (first | go_at_call 27 | skip)
    refine (HF.out W0 HB0.out).mono ?_
    rintro e w1 ⟨rfl, hb1⟩
    have HB1 : Hid (Below W0.heap.size W0 w1) := hb1
    clear hb1 HF
    have hrx := (HB1.out.block R (blkLt HRx.out)).trans HRx.out
    have z0 := blkCell hrx 0 _ rfl
    have z1 := blkCell hrx 1 _ rfl
    have z2 := blkCell hrx 2 _ rfl
    have y0 := blkFree hrx 0
    have y1 := blkFree hrx 1
    have y2 := blkFree hrx 2
    simp only [List.getElem_toArray, List.getElem_cons_zero, List.getElem_cons_succ] at z0 z1 z2
    clear hrx
    go_wp2_with fail
    refine bodyPost_ret (v := .tuple #[.agg #[.slice none 0 0, .int .i64 0, .int .i64 0], .int .i64 fv]) (by simp [results, Try.results9, go_sem, z0, z1, z2]) rfl ?_
    refine HNo.out fv _ HC.out HNz.out ?_
    repeat refine Below.setCell ?_ (by dsimp only; omega) _
    exact chain HB0.out HB1.out
  obtain ⟨hall, hw0, hw2⟩ := bsCode_all hf
  obtain ⟨h12, hrr⟩ := fcAll_r hall
  have HYe : Hid (∀ (q : Nat) (cq : Nat) (w' : World), bsCode rs wd = 0 → Own2 w.heap.size w' (some ⟨q, 0, none⟩) (plL rs wd.toNat) → Below w.heap.size w w' → AnsB2 rs wd w (.returned (.tuple #[.agg #[.slice (some ⟨q, 0, none⟩) (plL rs wd.toNat).length cq, .int .i64 (usN rs (plL rs wd.toNat) rs.length), .int .i64 (gaN rs (plL rs wd.toNat) rs.length)], .int .i64 0])) w') := fun q cq w' h1 h2 h3 => ansB2_some h1 h2 h3
  have HCd3 : Hid (bsCode rs wd = if dp rs wd.toNat < 0 then 8 else 0) := by show _ = _; rw [HCd2.out, if_pos hf]
  rw [hf] at HF
  clear HCd2 hf hall
  obtain ⟨wn, hwn⟩ : ∃ wn : Nat, wd = (wn : Int) := ⟨wd.toNat, by omega⟩
  have hwt : wd.toNat = wn := by omega
  rw [hwt] at HYe HCd3
  have hwn2 : wn ≤ 2000 := by omega
  have HBg : Hid (∀ W, Below w.heap.size w W → Calls Try.prog 32 #[.slice a rs.length cap, .int .i64 (wn : Int)] W fun e w' => ∃ gb bs, e = .returned (.slice (some ⟨gb, 0, none⟩) (rs.length + 1) (rs.length + 1)) ∧ GrF rs (wn + 1) gb 0 bs w' ∧ Below W.heap.size W w') := fun W hb => bestGains_any a cap rs h12 hrr wn hwn2 W (HR.out.later hb)
  subst hwn
  clear hwt
  by_cases hd : dp rs wn < 0
  · have HC : Hid (bsCode rs (wn : Int) = 8) := by show _ = _; rw [HCd3.out, if_pos hd]
    have hd1 : dp rs wn = -1 := by have := dp_bound rs hrr wn; omega
    have HD1 : Hid (dp rs wn = -1) := hd1
    clear HCd3 hd hd1 HYe
    go_enter Try.func9, Try.ntmps9
    go_upto_region 3 with fail
    rw [← HW0.out.1, ← HW0.out.2]
    clear HW0
    go_wp2_with fail
    (first | go_at_call 27 | skip)
    refine (HF.out W0 HB0.out).mono ?_
    rintro e w1 ⟨rfl, hb1⟩
    have HB1 : Hid (Below W0.heap.size W0 w1) := hb1
    clear hb1 HF
    go_wp2_with fail
    (first | go_at_call 32 | skip)
    refine (HBg.out w1 (chain HB0.out HB1.out)).mono ?_
    rintro e w2 ⟨gb, bs, rfl, hG, hb2⟩
    have HB2 : Hid (Below W0.heap.size W0 w2) := chain HB1.out hb2
    have g0 := hG.top.cell (i := 0) (by omega)
    have g1 := (hG.row 0 (Nat.zero_le _) (Nat.zero_le _)).cell (i := wn) (by omega)
    try dsimp only at g0
    rw [if_pos (Nat.zero_le _)] at g0
    rw [List.drop_zero, HD1.out] at g1
    have hwl : (wn : Int) < (wn : Int) + 1 := by omega
    have hll : (0 : Int) < (rs.length : Int) + 1 := by omega
    generalize bs 0 = b00 at *
    clear hG hb2 HBg
    have hrx := (HB2.out.block R (blkLt HRx.out)).trans HRx.out
    have z0 := blkCell hrx 0 _ rfl
    have z1 := blkCell hrx 1 _ rfl
    have z2 := blkCell hrx 2 _ rfl
    have y0 := blkFree hrx 0
    have y1 := blkFree hrx 1
    have y2 := blkFree hrx 2
    simp only [List.getElem_toArray, List.getElem_cons_zero, List.getElem_cons_succ] at z0 z1 z2
    clear hrx
    go_wp2_with fail
    refine bodyPost_ret (v := .tuple #[.agg #[.slice none 0 0, .int .i64 0, .int .i64 0], .int .i64 8]) (by simp [results, Try.results9, go_sem, z0, z1, z2]) rfl ?_
    refine HNo.out 8 _ HC.out (by omega) ?_
    repeat refine Below.setCell ?_ (by dsimp only; omega) _
    exact chain HB0.out HB2.out
  · have HC : Hid (bsCode rs (wn : Int) = 0) := by show _ = _; rw [HCd3.out, if_neg hd]
    have hd0 : 0 ≤ dp rs wn := by omega
    obtain ⟨p1, p2, p3, p4⟩ := pl_ok rs hrr wn hd0
    have HMf : Hid (∀ W gb bs, Below w.heap.size w W → GrF rs (wn + 1) gb 0 bs W → Calls Try.prog 33 #[.slice a rs.length cap, .int .i64 (wn : Int), .slice (some ⟨gb, 0, none⟩) (rs.length + 1) (rs.length + 1)] W fun e w' => ∃ g, e = .returned (.slice (some ⟨g, 0, none⟩) rs.length rs.length) ∧ Own2 W.heap.size w' (some ⟨g, 0, none⟩) (plL rs wn) ∧ Below W.heap.size W w') := fun W gb bs hb hG => mostFirst_any a cap rs h12 hrr wn hwn2 hd0 gb bs W (HR.out.later hb) hG
    have HPl : Hid (∀ W g, Below w.heap.size w W → Own2 w.heap.size W (some ⟨g, 0, none⟩) (plL rs wn) → Calls Try.prog 30 #[.slice a rs.length cap, .slice (some ⟨g, 0, none⟩) rs.length rs.length] W fun e w' => e = .returned (.agg #[.slice (some ⟨g, 0, none⟩) rs.length rs.length, .int .i64 (usN rs (plL rs wn) rs.length), .int .i64 (gaN rs (plL rs wn) rs.length)]) ∧ Below W.heap.size W w') := fun W g hb ho => by
      have h1 := planOf_any a cap rs h12 hrr (some ⟨g, 0, none⟩) rs.length (plL rs wn) p1.symm p2 W (HR.out.later hb) ho.reads
      rw [p1] at h1
      exact h1
    have HYe2 : Hid (∀ (g : Nat) (w' : World), Own2 w.heap.size w' (some ⟨g, 0, none⟩) (plL rs wn) → Below w.heap.size w w' → AnsB2 rs (wn : Int) w (.returned (.tuple #[.agg #[.slice (some ⟨g, 0, none⟩) rs.length rs.length, .int .i64 (usN rs (plL rs wn) rs.length), .int .i64 (gaN rs (plL rs wn) rs.length)], .int .i64 0])) w') := fun g w' h1 h2 => by
      have h3 := HYe.out g rs.length w' HC.out h1 h2
      rw [p1] at h3
      exact h3
    have hnb : (dp rs wn == -1) = false := by simp; omega
    obtain ⟨dv, hdv⟩ : ∃ dv, dv = dp rs wn := ⟨_, rfl⟩
    rw [← hdv] at hnb
    have HDv : Hid (dv = dp rs wn) := hdv
    clear HCd3 hd hd0 HYe p1 p2 p3 p4 hdv
    generalize usN rs (plL rs wn) rs.length = uv at *
    generalize gaN rs (plL rs wn) rs.length = gv at *
    go_enter Try.func9, Try.ntmps9
    go_upto_region 3 with fail
    rw [← HW0.out.1, ← HW0.out.2]
    clear HW0
    go_wp2_with fail
    (first | go_at_call 27 | skip)
    refine (HF.out W0 HB0.out).mono ?_
    rintro e w1 ⟨rfl, hb1⟩
    have HB1 : Hid (Below W0.heap.size W0 w1) := hb1
    clear hb1 HF
    go_wp2_with fail
    (first | go_at_call 32 | skip)
    refine (HBg.out w1 (chain HB0.out HB1.out)).mono ?_
    rintro e w2 ⟨gb, bs, rfl, hG, hb2⟩
    have HB2 : Hid (Below W0.heap.size W0 w2) := chain HB1.out hb2
    have HG2 : Hid (GrF rs (wn + 1) gb 0 bs w2) := hG
    have g0 := hG.top.cell (i := 0) (by omega)
    have g1 := (hG.row 0 (Nat.zero_le _) (Nat.zero_le _)).cell (i := wn) (by omega)
    try dsimp only at g0
    rw [if_pos (Nat.zero_le _)] at g0
    rw [List.drop_zero, ← HDv.out] at g1
    have hwl : (wn : Int) < (wn : Int) + 1 := by omega
    have hll : (0 : Int) < (rs.length : Int) + 1 := by omega
    obtain ⟨b00, hb00⟩ : ∃ b00, b00 = bs 0 := ⟨_, rfl⟩
    rw [← hb00] at g0 g1
    clear hG hb2 HBg hb00
    go_wp2_with fail
    (first | go_at_call 33 | skip)
    refine (HMf.out w2 gb bs (chain HB0.out HB2.out) HG2.out).mono ?_
    rintro e w3 ⟨g, rfl, ho3, hb3⟩
    have HB3 : Hid (Below W0.heap.size W0 w3) := chain HB2.out hb3
    have HO3 : Hid (Own2 W0.heap.size w3 (some ⟨g, 0, none⟩) (plL rs wn)) := own2_mono ho3 HB2.out.size
    clear hb3 ho3 HMf g0 g1 HG2
    go_wp2_with fail
    (first | go_at_call 30 | skip)
    refine (HPl.out w3 g (chain HB0.out HB3.out) (own2_mono HO3.out HB0.out.size)).mono ?_
    rintro e w4 ⟨rfl, hb4⟩
    have HB4 : Hid (Below W0.heap.size W0 w4) := chain HB3.out hb4
    have HO4 : Hid (Own2 W0.heap.size w4 (some ⟨g, 0, none⟩) (plL rs wn)) := own2_later HO3.out hb4
    have hrx := (HB4.out.block R (blkLt HRx.out)).trans HRx.out
    have z0 := blkCell hrx 0 _ rfl
    have z1 := blkCell hrx 1 _ rfl
    have z2 := blkCell hrx 2 _ rfl
    have y0 := blkFree hrx 0
    have y1 := blkFree hrx 1
    have y2 := blkFree hrx 2
    simp only [List.getElem_toArray, List.getElem_cons_zero, List.getElem_cons_succ] at z0 z1 z2
    have HRlt : Hid (R < W0.heap.size) := blkLt HRx.out
    clear hb4 HPl hrx
    go_wp2_with fail
    refine bodyPost_ret (v := .tuple #[.agg #[.slice (some ⟨g, 0, none⟩) rs.length rs.length, .int .i64 uv, .int .i64 gv], .int .i64 0]) (by simp [results, Try.results9, go_sem, z0, z1, z2]) rfl ?_
    refine HYe2.out g _ ?_ ?_
    · refine own2_set ?_ (fun c hc => ?_) _ _
      refine own2_set ?_ (fun c hc => ?_) _ _
      refine own2_set (own2_mono HO4.out HB0.out.size) (fun c hc => ?_) _ _
      all_goals exact own2_neF HO4.out hc HRlt.out
    · repeat refine Below.setCell ?_ (by dsimp only; omega) _
      exact chain HB0.out HB4.out
end Go.Proofs.Ytphefbaogfknoaa
