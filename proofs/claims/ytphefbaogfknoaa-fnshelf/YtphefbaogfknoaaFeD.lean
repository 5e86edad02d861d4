/-
  Contract of the specification's BestShelf.
-/
import Derived.Test.YtphefbaogfknoaaFeC
import Derived.Test.YtphefbaogfknoaaFbC
namespace Go.Proofs.Ytphefbaogfknoaa
open Go.ChangeShapes Go.WideShapes Go.ChangeAt Go.RowKit Go.Deep
set_option linter.unusedVariables false

/-- The rows from place lo on, beside the answer's block R. -/
structure GrS (w : World) (rs : List CFc) (nn gb R lo : Nat) (bs : Nat → Nat) (W : World) : Prop where
  gr : GrF rs nn gb lo bs W
  hR : W.heap[R]? = some (.cells #[.slice none 0 0, .int .i64 0, .int .i64 0] 28 (0, 0))
  bel : Below w.heap.size w W
  gbw : w.heap.size ≤ gb
theorem GrS.later {w : World} {rs : List CFc} {nn gb R lo : Nat} {bs : Nat → Nat} {W W' : World} (h : GrS w rs nn gb R lo bs W) (hb : Below W.heap.size W W') : GrS w rs nn gb R lo bs W' :=
  ⟨h.gr.later hb, (hb.block R (blkLt h.hR)).trans h.hR, chain h.bel hb, h.gbw⟩
/-- Row p is being filled, in block nb. -/
structure SpS (w : World) (rs : List CFc) (nn gb R p nb : Nat) (bs : Nat → Nat) (f : Nat → Int) (W : World) : Prop where
  top : W.rowIs gb 24 (rs.length + 1) (fun i => if p ≤ i then .slice (some ⟨if i = p then nb else bs i, 0, none⟩) nn nn else .slice none 0 0)
  row : ∀ i, p + 1 ≤ i → i ≤ rs.length → RwI W (bs i) nn (dp (rs.drop i))
  cur : RwI W nb nn f
  far : ∀ i, p + 1 ≤ i → i ≤ rs.length → bs i ≠ nb
  hR : W.heap[R]? = some (.cells #[.slice none 0 0, .int .i64 0, .int .i64 0] 28 (0, 0))
  bel : Below w.heap.size w W
  gbw : w.heap.size ≤ gb
  nbw : w.heap.size ≤ nb
theorem SpS.later {w : World} {rs : List CFc} {nn gb R p nb : Nat} {bs : Nat → Nat} {f : Nat → Int} {W W' : World} (h : SpS w rs nn gb R p nb bs f W) (hb : Below W.heap.size W W') : SpS w rs nn gb R p nb bs f W' :=
  ⟨h.top.of_block (hb.block gb h.top.lt), fun i h1 h2 => (h.row i h1 h2).later hb, h.cur.later hb, h.far, (hb.block R (blkLt h.hR)).trans h.hR, chain h.bel hb, h.gbw, h.nbw⟩
theorem SpS.put {w : World} {rs : List CFc} {nn gb R p nb : Nat} {bs : Nat → Nat} {f g : Nat → Int} {W : World} (h : SpS w rs nn gb R p nb bs f W) (i : Nat) (x : Int) (hg : ∀ j, j < nn → (if j = i then x else f j) = g j) : SpS w rs nn gb R p nb bs g (W.setCell ⟨nb, i, none⟩ (.int .i64 x)) := by
  refine ⟨h.top.of_block (Below.heap_setCell _ _ _ _ (fun e => ?_)), fun i h1 h2 => (h.row i h1 h2).far (Ne.symm (h.far i h1 h2)) _ _, (h.cur.put i x).congr hg, h.far, (Below.heap_setCell _ _ _ _ (fun e => ?_)).trans h.hR, h.bel.setCell h.nbw _, h.gbw, h.nbw⟩
  · exact rw_far h.cur h.top e
  · obtain ⟨c, hc, _⟩ := h.cur
    have e' : R = nb := e
    rw [← e', h.hR] at hc
    simp at hc
theorem SpS.same {w : World} {rs : List CFc} {nn gb R p nb : Nat} {bs : Nat → Nat} {f g : Nat → Int} {W : World} (h : SpS w rs nn gb R p nb bs f W) (hg : ∀ j, j < nn → f j = g j) : SpS w rs nn gb R p nb bs g W :=
  ⟨h.top, h.row, h.cur.congr hg, h.far, h.hR, h.bel, h.gbw, h.nbw⟩
theorem SpS.done {w : World} {rs : List CFc} {nn gb R p nb : Nat} {bs : Nat → Nat} {f : Nat → Int} {W : World} (h : SpS w rs nn gb R p nb bs f W) (hf : ∀ j, j < nn → f j = dp (rs.drop p) j) : GrS w rs nn gb R p (fun i => if i = p then nb else bs i) W := by
  refine ⟨⟨h.top, fun i h1 h2 => ?_⟩, h.hR, h.bel, h.gbw⟩
  by_cases e : i = p
  · rw [if_pos e, e]; exact h.cur.congr hf
  · rw [if_neg e]; exact h.row i (by omega) h2
theorem SpS.at {w : World} {rs : List CFc} {nn gb R p nb : Nat} {bs : Nat → Nat} {f : Nat → Int} {W : World} (h : SpS w rs nn gb R p nb bs f W) (hp : p < rs.length) : W.cell? ⟨gb, p, none⟩ = some (.slice (some ⟨nb, 0, none⟩) nn nn) ∧ W.cell? ⟨gb, p + 1, none⟩ = some (.slice (some ⟨bs (p + 1), 0, none⟩) nn nn) ∧ (∀ i, i < nn → W.cell? ⟨bs (p + 1), i, none⟩ = some (.int .i64 (dp (rs.drop (p + 1)) i))) ∧ (∀ i, i < nn → W.cell? ⟨nb, i, none⟩ = some (.int .i64 (f i)) ∧ W.frozen? ⟨nb, i, none⟩ = false) := by
  have h1 := h.top.cell (i := p) (by omega)
  have h2 := h.top.cell (i := p + 1) (by omega)
  rw [if_pos (Nat.le_refl _), if_pos rfl] at h1
  rw [if_pos (by omega), if_neg (by omega)] at h2
  exact ⟨h1, h2, fun i hi => (h.row (p + 1) (Nat.le_refl _) (by omega)).cell hi, fun i hi => ⟨h.cur.cell hi, h.cur.frozen i⟩⟩
theorem gr_type {w : World} {g R m : Nat} {v : Nat → Value} (h : w.rowIs g 24 m v) (hR : w.heap[R]? = some (.cells #[.slice none 0 0, .int .i64 0, .int .i64 0] 28 (0, 0))) : R ≠ g := fun e => by
  obtain ⟨c, hc, _⟩ := h
  rw [← e, hR] at hc
  simp at hc
theorem gr_make {w : World} {rs : List CFc} {nn gb R p : Nat} {bs : Nat → Nat} {W W3 : World} (h : GrS w rs nn gb R (p + 1) bs W) (hp : p < rs.length) (hW3 : W3 = (W.setCell ⟨gb, p, none⟩ (.slice (some ⟨W.heap.size, 0, none⟩) nn nn)).alloc (Obj.cells (madeCells #[.int .i64 0] nn) 3)) : SpS w rs nn gb R p W.heap.size bs (fun _ => 0) W3 := by
  have hs := h.gr.top.set p (.slice (some ⟨W.heap.size, 0, none⟩) nn nn)
  have hb : Below (W.setCell ⟨gb, p, none⟩ (.slice (some ⟨W.heap.size, 0, none⟩) nn nn)).heap.size (W.setCell ⟨gb, p, none⟩ (.slice (some ⟨W.heap.size, 0, none⟩) nn nn)) W3 := by rw [hW3]; exact below_alloc _ _
  have hR1 := (Below.heap_setCell W ⟨gb, p, none⟩ (.slice (some ⟨W.heap.size, 0, none⟩) nn nn) R (gr_type h.gr.top h.hR)).trans h.hR
  refine ⟨(hs.of_block (hb.block gb hs.lt)).congr (fun i hi => ?_), fun i h1 h2 => ?_, ?_, fun i h1 h2 => ?_, (hb.block R (blkLt hR1)).trans hR1, chain (h.bel.setCell h.gbw _) hb, h.gbw, h.bel.size⟩
  · by_cases e : i = p
    · rw [if_pos e, if_pos (by omega), if_pos e]
    · rw [if_neg e]
      by_cases e2 : p + 1 ≤ i
      · rw [if_pos e2, if_pos (by omega), if_neg e]
      · rw [if_neg e2, if_neg (by omega)]
  · exact ((h.gr.row i h1 h2).far (rw_far (h.gr.row i h1 h2) h.gr.top) _ _).later hb
  · have h := World.rowIs_made (W.setCell ⟨gb, p, none⟩ (.slice (some ⟨W.heap.size, 0, none⟩) nn nn)) (.int .i64 0) nn 3
    rw [nblk_setCell] at h
    rw [hW3]; exact h
  · have := (h.gr.row i h1 h2).lt
    omega
theorem gr_start {w w1 W1 W3 : World} {rs : List CFc} {nn gb R : Nat} (hb : Below w.heap.size w w1) (hR : w1.heap[R]? = some (.cells #[.slice none 0 0, .int .i64 0, .int .i64 0] 28 (0, 0))) (hW1 : W1 = w1.alloc (Obj.cells (madeCells #[.slice none 0 0] (rs.length + 1)) 24)) (hgb : gb = w1.heap.size)
    (hW3 : W3 = (W1.setCell ⟨gb, rs.length, none⟩ (.slice (some ⟨W1.heap.size, 0, none⟩) nn nn)).alloc (Obj.cells (madeCells #[.int .i64 0] nn) 3)) : GrS w rs nn gb R rs.length (fun _ => W1.heap.size) W3 ∧ W1.cell? ⟨gb, rs.length, none⟩ = some (.slice none 0 0) ∧ W1.frozen? ⟨gb, rs.length, none⟩ = false ∧ gb < W1.heap.size := by
  have hT : W1.rowIs gb 24 (rs.length + 1) (fun _ => .slice none 0 0) := by rw [hW1, hgb]; exact World.rowIs_made w1 (.slice none 0 0) (rs.length + 1) 24
  have hb1 : Below w1.heap.size w1 W1 := by rw [hW1]; exact below_alloc _ _
  have hR1 := (hb1.block R (blkLt hR)).trans hR
  have hs := hT.set rs.length (.slice (some ⟨W1.heap.size, 0, none⟩) nn nn)
  have hb2 : Below (W1.setCell ⟨gb, rs.length, none⟩ (.slice (some ⟨W1.heap.size, 0, none⟩) nn nn)).heap.size (W1.setCell ⟨gb, rs.length, none⟩ (.slice (some ⟨W1.heap.size, 0, none⟩) nn nn)) W3 := by rw [hW3]; exact below_alloc _ _
  have hR2 := (Below.heap_setCell W1 ⟨gb, rs.length, none⟩ (.slice (some ⟨W1.heap.size, 0, none⟩) nn nn) R (gr_type hT hR1)).trans hR1
  have hgw : w.heap.size ≤ gb := by rw [hgb]; exact hb.size
  refine ⟨⟨⟨(hs.of_block (hb2.block gb hs.lt)).congr (fun i hi => ?_), fun i h1 h2 => ?_⟩, (hb2.block R (blkLt hR2)).trans hR2, chain ((chain hb hb1).setCell hgw _) hb2, hgw⟩, hT.cell (i := rs.length) (by omega), hT.frozen rs.length, hT.lt⟩
  · by_cases e : i = rs.length
    · rw [if_pos e, if_pos (by omega)]
    · rw [if_neg e, if_neg (by omega)]
  · obtain rfl : i = rs.length := by omega
    rw [List.drop_length]
    have h := World.rowIs_made (W1.setCell ⟨gb, rs.length, none⟩ (.slice (some ⟨W1.heap.size, 0, none⟩) nn nn)) (.int .i64 0) nn 3
    rw [nblk_setCell] at h
    rw [hW3]
    exact RwI.congr h (fun _ _ => rfl)
theorem fc_use {r : CFc} (hr : FcR r) (I : Nat → Int) : (∀ ct q : Nat, ct ≤ r.gs.length → (ct : Int) * r.wd ≤ (q : Int) → ct ≤ wiN r q ∧ ∃ sb : Nat, (q : Int) - (ct : Int) * r.wd = (sb : Int) ∧ sb ≤ q ∧ gA r I q ct = (if I sb < 0 then -1 else gnN r.gs ct + I sb)) ∧ (∀ ct q : Nat, ct ≤ wiN r q → ct ≤ r.gs.length ∧ (ct : Int) * r.wd ≤ (q : Int)) := by
  have h0 := hr.2.1
  refine ⟨fun ct q h1 h2 => ?_, fun ct q h1 => ?_⟩
  · have hcm := cast_mul (n := ct) (wd := r.wd) (by omega)
    exact ⟨wi_max hr h1 (by omega), q - ct * r.wd.toNat, by omega, Nat.sub_le _ _, rfl⟩
  · have hcm := cast_mul (n := ct) (wd := r.wd) (by omega)
    obtain ⟨h2, h3⟩ := wi_fits hr h1
    exact ⟨h2, by omega⟩
theorem shCode_pl {rs : List CFc} {wn : Nat} (h12 : rs.length ≤ 12) (hrr : ∀ r ∈ rs, FcR r) (hf : shFault rs (wn : Int) = 0) (hd : 0 ≤ dp rs wn) : shCode rs (wn : Int) (plL rs wn) = 0 := by
  obtain ⟨p1, p2, p3, p4⟩ := pl_ok rs hrr wn hd
  unfold shCode
  rw [if_neg (by omega), if_pos hf, p2, if_pos (by rw [decide_eq_true p1.symm]; rfl), if_neg (by omega)]

set_option maxHeartbeats 64000000 in
set_option maxRecDepth 8000 in
theorem specBestShelf_any (a : Option Addr) (cap : Nat) (rs : List CFc) (hl : rs.length ≤ 100000000) (hp : ∀ r ∈ rs, FcOK r) (wd : Int) (w : World) (hr : ReadsFc w.heap.size w a rs) :
    Calls Try.prog 11 #[.slice a rs.length cap, .int .i64 wd] w (AnsBs rs wd w) := by
  have HNo : Hid (∀ (c : Int) (w' : World), bsCode rs wd = c → c ≠ 0 → Below w.heap.size w w' → AnsBs rs wd w (.returned (.tuple #[.agg #[.slice none 0 0, .int .i64 0, .int .i64 0], .int .i64 c])) w') := fun c w' h1 h2 h3 => ansBs_none h1 h2 h3
  have HCd : Hid (bsCode rs wd = if 4096 < rs.length then 2 else if shFault rs wd = 0 then (if dp rs wd.toNat < 0 then 8 else 0) else shFault rs wd) := rfl
  obtain ⟨W0, hW0⟩ : ∃ W0, W0 = w.alloc (Obj.cells #[.slice none 0 0, .int .i64 0, .int .i64 0] 28) := ⟨_, rfl⟩
  obtain ⟨R, hR⟩ : ∃ R, R = w.heap.size := ⟨_, rfl⟩
  have HW0 : Hid (W0 = w.alloc (Obj.cells #[.slice none 0 0, .int .i64 0, .int .i64 0] 28) ∧ R = w.heap.size) := ⟨hW0, hR⟩
  have HB0 : Hid (Below w.heap.size w W0) := by show Below _ _ _; rw [hW0]; exact below_alloc _ _
  have HRx : Hid (W0.heap[R]? = some (.cells #[.slice none 0 0, .int .i64 0, .int .i64 0] 28 (0, 0))) := by show _ = _; rw [hW0, hR]; exact heapNew _ _
  have hRw : w.heap.size ≤ R := by rw [hR]; exact Nat.le_refl _
  have HF : Hid (∀ W, Below w.heap.size w W → Calls Try.prog 13 #[.slice a rs.length cap] W fun e w' => e = .returned (.bool (fcAll rs)) ∧ Below W.heap.size W w') := fun W hb => specFacings_any a cap rs hl hp W (hr.later hb)
  have HIw : Hid (∀ W, Calls Try.prog 40 #[.int .i64 wd, .int .i64 0, .int .i64 2000] W fun e w' => e = .returned (.bool (inB wd 0 2000)) ∧ w' = W) := fun W => in_any wd 0 2000 W
  have HR : Hid (ReadsFc w.heap.size w a rs) := hr
  have HP : Hid (∀ r ∈ rs, FcOK r) := hp
  clear hr hp hW0 hR
  by_cases h4 : (4096 : Int) < (rs.length : Int)
  · have HC : Hid (bsCode rs wd = 2) := by show _ = _; rw [HCd.out, if_pos (by omega)]
    clear HCd HF HIw HR
    go_enter Try.func11, Try.ntmps11
    go_wp2
    refine bodyPost_ret (v := .tuple #[.agg #[.slice none 0 0, .int .i64 0, .int .i64 0], .int .i64 2]) (by simp [results, Try.results11, go_sem]) rfl ?_
    exact HNo.out 2 _ HC.out (by omega) (below_alloc _ _)
  have HCd2 : Hid (bsCode rs wd = if shFault rs wd = 0 then (if dp rs wd.toNat < 0 then 8 else 0) else shFault rs wd) := by show _ = _; rw [HCd.out, if_neg (by omega)]
  clear HCd
  rcases shFault_ways rs wd with ⟨h1, h2⟩ | ⟨h1, h3, h2⟩ | ⟨h1, h3, h4', h2⟩ | ⟨h1, h3, h4', h2⟩
  · have HC : Hid (bsCode rs wd = 1) := by show _ = _; rw [HCd2.out, h2]; rfl
    rw [h1] at HF
    clear HCd2 HR h1 h2 HIw
    as_aux_lemma =>
      go_enter Try.func11, Try.ntmps11
      go_upto_region 3 with fail
      rw [← HW0.out.1, ← HW0.out.2]
      clear HW0
      go_wp2_with fail
      (first | go_at_call 13 | skip)
      refine (HF.out W0 HB0.out).mono ?_
      rintro e w1 ⟨rfl, hb1⟩
      have HB1 : Hid (Below W0.heap.size W0 w1) := hb1
      clear hb1 HF
      have hrx := (HB1.out.block R (blkLt HRx.out)).trans HRx.out
      have z0 := blkCell hrx 0 _ rfl
      have z1 := blkCell hrx 1 _ rfl
      have z2 := blkCell hrx 2 _ rfl
      have y0 := blkFree hrx 0
      have y1 := blkFree hrx 1
      have y2 := blkFree hrx 2
      simp only [List.getElem_toArray, List.getElem_cons_zero, List.getElem_cons_succ] at z0 z1 z2
      clear hrx
      go_wp2_with fail
      refine bodyPost_ret (v := .tuple #[.agg #[.slice none 0 0, .int .i64 0, .int .i64 0], .int .i64 1]) (by simp [results, Try.results11, go_sem, z0, z1, z2]) rfl ?_
      refine HNo.out 1 _ HC.out (by omega) ?_
      repeat refine Below.setCell ?_ (by dsimp only; omega) _
      exact chain HB0.out HB1.out
  · have HC : Hid (bsCode rs wd = 5) := by show _ = _; rw [HCd2.out, h2]; rfl
    have hin : inB wd 0 2000 = false := decide_eq_false (by omega)
    rw [h1] at HF
    rw [hin] at HIw
    clear HCd2 HR h1 h2 hin
    as_aux_lemma =>
      go_enter Try.func11, Try.ntmps11
      go_upto_region 3 with fail
      rw [← HW0.out.1, ← HW0.out.2]
      clear HW0
      go_wp2_with fail
      (first | go_at_call 13 | skip)
      refine (HF.out W0 HB0.out).mono ?_
      rintro e w1 ⟨rfl, hb1⟩
      have HB1 : Hid (Below W0.heap.size W0 w1) := hb1
      clear hb1 HF
      go_wp2_with fail
      (first | go_at_call 40 | skip)
      refine (HIw.out _).mono ?_
      rintro e w2 ⟨rfl, h⟩
      rw [h]
      clear h w2
      have hrx := (HB1.out.block R (blkLt HRx.out)).trans HRx.out
      have z0 := blkCell hrx 0 _ rfl
      have z1 := blkCell hrx 1 _ rfl
      have z2 := blkCell hrx 2 _ rfl
      have y0 := blkFree hrx 0
      have y1 := blkFree hrx 1
      have y2 := blkFree hrx 2
      simp only [List.getElem_toArray, List.getElem_cons_zero, List.getElem_cons_succ] at z0 z1 z2
      clear hrx
      go_wp2_with fail
      refine bodyPost_ret (v := .tuple #[.agg #[.slice none 0 0, .int .i64 0, .int .i64 0], .int .i64 5]) (by simp [results, Try.results11, go_sem, z0, z1, z2]) rfl ?_
      refine HNo.out 5 _ HC.out (by omega) ?_
      repeat refine Below.setCell ?_ (by dsimp only; omega) _
      exact chain HB0.out HB1.out
  · have HC : Hid (bsCode rs wd = 5) := by show _ = _; rw [HCd2.out, h2]; rfl
    have hin : inB wd 0 2000 = false := decide_eq_false (by omega)
    rw [h1] at HF
    rw [hin] at HIw
    clear HCd2 HR h1 h2 hin
    as_aux_lemma =>
      go_enter Try.func11, Try.ntmps11
      go_upto_region 3 with fail
      rw [← HW0.out.1, ← HW0.out.2]
      clear HW0
      go_wp2_with fail
      (first | go_at_call 13 | skip)
      refine (HF.out W0 HB0.out).mono ?_
      rintro e w1 ⟨rfl, hb1⟩
      have HB1 : Hid (Below W0.heap.size W0 w1) := hb1
      clear hb1 HF
      go_wp2_with fail
      (first | go_at_call 40 | skip)
      refine (HIw.out _).mono ?_
      rintro e w2 ⟨rfl, h⟩
      rw [h]
      clear h w2
      have hrx := (HB1.out.block R (blkLt HRx.out)).trans HRx.out
      have z0 := blkCell hrx 0 _ rfl
      have z1 := blkCell hrx 1 _ rfl
      have z2 := blkCell hrx 2 _ rfl
      have y0 := blkFree hrx 0
      have y1 := blkFree hrx 1
      have y2 := blkFree hrx 2
      simp only [List.getElem_toArray, List.getElem_cons_zero, List.getElem_cons_succ] at z0 z1 z2
      clear hrx
      go_wp2_with fail
      refine bodyPost_ret (v := .tuple #[.agg #[.slice none 0 0, .int .i64 0, .int .i64 0], .int .i64 5]) (by simp [results, Try.results11, go_sem, z0, z1, z2]) rfl ?_
      refine HNo.out 5 _ HC.out (by omega) ?_
      repeat refine Below.setCell ?_ (by dsimp only; omega) _
      exact chain HB0.out HB1.out
  have hin : inB wd 0 2000 = true := decide_eq_true (by omega)
  obtain ⟨h12, hrr⟩ := fcAll_r h1
  have HRR : Hid (∀ r ∈ rs, FcR r) := hrr
  have HCd3 : Hid (bsCode rs wd = if dp rs wd.toNat < 0 then 8 else 0) := by show _ = _; rw [HCd2.out, if_pos h2]
  have HSf : Hid (shFault rs wd = 0) := h2
  rw [h1] at HF
  rw [hin] at HIw
  obtain ⟨wn, hwn⟩ : ∃ wn : Nat, wd = (wn : Int) := ⟨wd.toNat, by omega⟩
  have hwt : wd.toNat = wn := by omega
  have hwn2 : wn ≤ 2000 := by omega
  have HYe : Hid (∀ (q : Option Addr) (cq : Nat) (w' : World), bsCode rs wd = 0 → Own2 w.heap.size w' q (plL rs wd.toNat) → Below w.heap.size w w' → AnsBs rs wd w (.returned (.tuple #[.agg #[.slice q (plL rs wd.toNat).length cq, .int .i64 (usN rs (plL rs wd.toNat) rs.length), .int .i64 (gaN rs (plL rs wd.toNat) rs.length)], .int .i64 0])) w') := fun q cq w' h1 h2 h3 => ansBs_some h1 h2 h3
  rw [hwt] at HCd3 HYe
  subst hwn
  clear HCd2 hin h1 h2 hrr h3 h4' hwt
  have hmk1 := fun w => run_make_row' (P := Try.prog) 57 24 (.slice none 0 0) 24 Try.underlying57 slInfoF rfl .i64 .i64 (rs.length + 1) (by omega) (by omega) w
  have hmk2 := fun w => run_make_row' (P := Try.prog) 24 3 (.int .i64 0) 8 Try.underlying24 intInfo rfl .i64 .i64 (wn + 1) (by omega) (by omega) w
  rw [show (((rs.length + 1 : Nat)) : Int) = (rs.length : Int) + 1 by omega] at hmk1
  rw [show (((wn + 1 : Nat)) : Int) = (wn : Int) + 1 by omega] at hmk2
  have hwl1 : IntKind.i64.wrap ((rs.length : Int) - 1) = (rs.length : Int) - 1 := wrap_id _ (by omega) (by omega)
  go_enter Try.func11, Try.ntmps11
  go_upto_region 3 with fail
  rw [← HW0.out.1, ← HW0.out.2]
  clear HW0
  go_wp2_with fail
  (first | go_at_call 13 | skip)
  refine (HF.out W0 HB0.out).mono ?_
  rintro e w1 ⟨rfl, hb1⟩
  have HB1 : Hid (Below W0.heap.size W0 w1) := hb1
  clear hb1 HF
  go_wp2_with fail
  (first | go_at_call 40 | skip)
  refine (HIw.out _).mono ?_
  rintro e w2 ⟨rfl, h⟩
  rw [h]
  clear h w2
  have HR1 : Hid (w1.heap[R]? = some (.cells #[.slice none 0 0, .int .i64 0, .int .i64 0] 28 (0, 0))) := (HB1.out.block R (blkLt HRx.out)).trans HRx.out
  obtain ⟨W1, hW1⟩ : ∃ W1, W1 = w1.alloc (Obj.cells (madeCells #[.slice none 0 0] (rs.length + 1)) 24) := ⟨_, rfl⟩
  obtain ⟨gb, hgb⟩ : ∃ gb, gb = w1.heap.size := ⟨_, rfl⟩
  obtain ⟨W3, hW3⟩ : ∃ W3, W3 = (W1.setCell ⟨gb, rs.length, none⟩ (.slice (some ⟨W1.heap.size, 0, none⟩) (wn + 1) (wn + 1))).alloc (Obj.cells (madeCells #[.int .i64 0] (wn + 1)) 3) := ⟨_, rfl⟩
  have HW1 : Hid (W1 = w1.alloc (Obj.cells (madeCells #[.slice none 0 0] (rs.length + 1)) 24) ∧ gb = w1.heap.size) := ⟨hW1, hgb⟩
  have HW3 : Hid (W3 = (W1.setCell ⟨gb, rs.length, none⟩ (.slice (some ⟨W1.heap.size, 0, none⟩) (wn + 1) (wn + 1))).alloc (Obj.cells (madeCells #[.int .i64 0] (wn + 1)) 3)) := hW3
  obtain ⟨hgs, x0, x1, x2⟩ := gr_start (nn := wn + 1) (chain HB0.out HB1.out) HR1.out hW1 hgb hW3
  have HG0 : Hid (GrS w rs (wn + 1) gb R rs.length (fun _ => W1.heap.size) W3) := hgs
  have x3 : (W1.alloc (Obj.cells (madeCells #[.int .i64 0] (wn + 1)) 3)).cell? ⟨gb, rs.length, none⟩ = some (.slice none 0 0) := (cellOld _ _ x2).trans x0
  have x4 : (W1.alloc (Obj.cells (madeCells #[.int .i64 0] (wn + 1)) 3)).frozen? ⟨gb, rs.length, none⟩ = false := ((below_alloc _ _).frozen (p := ⟨gb, rs.length, none⟩) x2).trans x1
  clear hgs hW1 hgb hW3 HR1
  go_upto_region 8 with fail
  rw [← HW1.out.1, ← HW1.out.2]
  clear HW1 hmk1
  go_upto_region 9 with fail
  rw [← HW3.out]
  clear HW3 x0 x1 x2 x3 x4 HB1 HRx HB0
  go_wp2_with fail
  go_loopw [7, 8, 9, 10] (fun c _ _ _ wr => ∃ (lo : Nat) (iv : Int) (bs : Nat → Nat), lo ≤ rs.length ∧ iv = (lo : Int) - 1 ∧ c = .int .i64 iv ∧ GrS w rs (wn + 1) gb R lo bs wr) (fun c _ _ _ _ => (intOf c + 1).toNat)
  case atStart => exact ⟨rs.length, _, _, Nat.le_refl _, rfl, rfl, HG0.out⟩
  case round =>
    clear HG0
    obtain ⟨lo, iv, bs, hlo, hiv, rfl, hG⟩ := hrel
    have HG : Hid (GrS w rs (wn + 1) gb R lo bs wr) := hG
    clear hG
    by_cases hlz : lo = 0
    case neg =>
      obtain ⟨p, hp⟩ : ∃ p, lo = p + 1 := ⟨lo - 1, by omega⟩
      subst hp
      obtain rfl : iv = (p : Int) := by omega
      have hpl : p < rs.length := by omega
      have hpl' : (p : Int) < (rs.length : Int) := by omega
      have hp1 : (p : Int) + 1 < (rs.length : Int) + 1 := by omega
      have hp2 : (p : Int) < (rs.length : Int) + 1 := by omega
      have hp3 : ¬ (p : Int) + 1 < 0 := by omega
      have hw3 : IntKind.i64.wrap ((p : Int) + 1) = (p : Int) + 1 := wrap_id _ (by omega) (by omega)
      have hw4 : IntKind.i64.wrap ((p : Int) - 1) = (p : Int) - 1 := wrap_id _ (by omega) (by omega)
      rcases HR.out with h0 | ⟨b0, o0, ha, hB0, ia⟩
      · rw [h0] at hpl; simp at hpl
      obtain ⟨h, cp, hAt, hcp, hS⟩ := ia p hpl
      subst ha
      have hFr := getFc HRR.out hpl
      have HD1 : Hid (∀ W, Below w.heap.size w W → W.cell? ⟨b0, o0 + p * 4, none⟩ = some (.string (rs.getD p zFc).nm) ∧ W.cell? ⟨b0, o0 + p * 4 + 1, none⟩ = some (.int .i64 (rs.getD p zFc).wd) ∧ W.cell? ⟨b0, o0 + p * 4 + 2, none⟩ = some (.int .i64 (rs.getD p zFc).ls) ∧ W.cell? ⟨b0, o0 + p * 4 + 3, none⟩ = some (.slice h (rs.getD p zFc).gs.length cp)) := fun W hb => hAt.below hb hB0
      have HGn : Hid (∀ ct : Nat, ct ≤ (rs.getD p zFc).gs.length → ∀ W, Below w.heap.size w W → Calls Try.prog 41 #[.agg #[.string (rs.getD p zFc).nm, .int .i64 (rs.getD p zFc).wd, .int .i64 (rs.getD p zFc).ls, .slice h (rs.getD p zFc).gs.length cp], .int .i64 (ct : Int)] W fun e w' => e = .returned (.int .i64 (gnN (rs.getD p zFc).gs ct)) ∧ Below W.heap.size W w') := fun ct hc W hb => specGain_any (rs.getD p zFc) hFr h cp ct hc W (hS.later hb)
      have hIb : ∀ i, -1 ≤ dp (rs.drop (p + 1)) i ∧ dp (rs.drop (p + 1)) i ≤ 7200000 := fun i => by have := dp_small h12 HRR.out (p + 1) (by omega) i; omega
      have HIb : Hid (∀ i, -1 ≤ dp (rs.drop (p + 1)) i ∧ dp (rs.drop (p + 1)) i ≤ 7200000) := hIb
      have HGb : Hid (∀ ct, 0 ≤ gnN (rs.getD p zFc).gs ct ∧ gnN (rs.getD p zFc).gs ct ≤ 600000) := fun ct => gnN_bound hFr ct
      have HUse : Hid ((∀ ct q : Nat, ct ≤ (rs.getD p zFc).gs.length → (ct : Int) * (rs.getD p zFc).wd ≤ (q : Int) → ct ≤ wiN (rs.getD p zFc) q ∧ ∃ sb : Nat, (q : Int) - (ct : Int) * (rs.getD p zFc).wd = (sb : Int) ∧ sb ≤ q ∧ gA (rs.getD p zFc) (dp (rs.drop (p + 1))) q ct = (if dp (rs.drop (p + 1)) sb < 0 then -1 else gnN (rs.getD p zFc).gs ct + dp (rs.drop (p + 1)) sb)) ∧ (∀ ct q : Nat, ct ≤ wiN (rs.getD p zFc) q → ct ≤ (rs.getD p zFc).gs.length ∧ (ct : Int) * (rs.getD p zFc).wd ≤ (q : Int))) := fc_use hFr _
      have HBd : Hid (∀ k j, -1 ≤ bF (rs.getD p zFc) (dp (rs.drop (p + 1))) k j ∧ bF (rs.getD p zFc) (dp (rs.drop (p + 1))) k j ≤ 7800000) := fun k j => by have := bF_bound hFr (M := 7200000) hIb (by omega) k j; omega
      have HDp : Hid (∀ k, dp (rs.drop p) k = bF (rs.getD p zFc) (dp (rs.drop (p + 1))) k (nC (rs.getD p zFc) k)) := fun k => by show _ = _; rw [dp_at hpl]; rfl
      have hls := hFr.2.2.1
      have hl6 := hFr.1
      have hwf := hFr.2.1
      obtain ⟨ln, hln⟩ : ∃ ln : Nat, (rs.getD p zFc).ls = (ln : Int) := ⟨(rs.getD p zFc).ls.toNat, by omega⟩
      have hlt2 : (rs.getD p zFc).ls.toNat = ln := by rw [hln]; rfl
      have HN1 : Hid (∀ k j, bF (rs.getD p zFc) (dp (rs.drop (p + 1))) k (j + 1) = max (bF (rs.getD p zFc) (dp (rs.drop (p + 1))) k j) (gA (rs.getD p zFc) (dp (rs.drop (p + 1))) k (ln + j))) := fun k j => by show _ = _; rw [bF_next, hlt2]
      have HNc : Hid (∀ k, nC (rs.getD p zFc) k = wiN (rs.getD p zFc) k + 1 - ln) := fun k => by show _ = _; unfold nC; rw [hlt2]
      have HW6 : Hid (∀ s, wiN (rs.getD p zFc) s ≤ 6) := fun s => wi_small hFr s
      have HLs : Hid ((rs.getD p zFc).ls = (ln : Int)) := hln
      have hln6 : ln ≤ 6 := by omega
      clear ia hS hAt hcp hFr hIb hln hlt2 hls hlz hlo hiv
      obtain ⟨r0, hr0⟩ : ∃ r0, r0 = rs.getD p zFc := ⟨_, rfl⟩
      obtain ⟨nm, hnm⟩ : ∃ nm, nm = (rs.getD p zFc).nm := ⟨_, rfl⟩
      obtain ⟨wf, hwfe⟩ : ∃ wf, wf = (rs.getD p zFc).wd := ⟨_, rfl⟩
      obtain ⟨ls, hlse⟩ : ∃ ls, ls = (rs.getD p zFc).ls := ⟨_, rfl⟩
      obtain ⟨gs, hgse⟩ : ∃ gs, gs = (rs.getD p zFc).gs := ⟨_, rfl⟩
      rw [← hnm, ← hwfe, ← hlse, ← hgse] at HD1 HGn
      rw [← hgse] at HGb hl6
      rw [← hwfe] at hwf
      rw [← hlse] at HLs
      rw [← hwfe, ← hgse, ← hr0] at HUse
      rw [← hr0] at HBd HDp HN1 HNc HW6
      clear hr0 hnm hwfe hlse hgse
      obtain ⟨n, hn⟩ : ∃ n, n = gs.length := ⟨_, rfl⟩
      rw [← hn] at HD1 HGn HUse hl6
      clear hn
      have HMv : Hid (∀ ct : Nat, ct ≤ n → 0 ≤ (ct : Int) * wf ∧ (ct : Int) * wf ≤ 12000) := fun ct hc => mul_small ⟨by omega, by omega⟩ hwf
      obtain ⟨I0, hI0⟩ : ∃ I0, I0 = dp (rs.drop (p + 1)) := ⟨_, rfl⟩
      rw [← hI0] at HUse HBd HDp HN1 HIb
      have HI0 : Hid (I0 = dp (rs.drop (p + 1))) := hI0
      clear hI0
      obtain ⟨wa, hwa⟩ : ∃ wa, wa = wr := ⟨_, rfl⟩
      rw [← hwa] at HG ⊢
      clear hwa
      obtain ⟨nb, hnb⟩ : ∃ nb, nb = wa.heap.size := ⟨_, rfl⟩
      obtain ⟨W4, hW4⟩ : ∃ W4, W4 = (wa.setCell ⟨gb, p, none⟩ (.slice (some ⟨wa.heap.size, 0, none⟩) (wn + 1) (wn + 1))).alloc (Obj.cells (madeCells #[.int .i64 0] (wn + 1)) 3) := ⟨_, rfl⟩
      have HW4 : Hid (W4 = (wa.setCell ⟨gb, p, none⟩ (.slice (some ⟨wa.heap.size, 0, none⟩) (wn + 1) (wn + 1))).alloc (Obj.cells (madeCells #[.int .i64 0] (wn + 1)) 3) ∧ nb = wa.heap.size) := ⟨hW4, hnb⟩
      have HS0 : Hid (SpS w rs (wn + 1) gb R p nb bs (fun i => if i < 0 then dp (rs.drop p) i else 0) W4) := by
        have h1 := gr_make HG.out hpl hW4
        rw [← hnb] at h1
        exact h1.same (fun i _ => by rw [if_neg (by omega)])
      have x0 := HG.out.gr.top.cell (i := p) (by omega)
      try dsimp only at x0
      rw [if_neg (by omega)] at x0
      have x1 : wa.frozen? ⟨gb, p, none⟩ = false := HG.out.gr.top.frozen p
      have x2 : gb < wa.heap.size := HG.out.gr.top.lt
      have x3 : (wa.alloc (Obj.cells (madeCells #[.int .i64 0] (wn + 1)) 3)).cell? ⟨gb, p, none⟩ = some (.slice none 0 0) := (cellOld _ _ x2).trans x0
      have x4 : (wa.alloc (Obj.cells (madeCells #[.int .i64 0] (wn + 1)) 3)).frozen? ⟨gb, p, none⟩ = false := ((below_alloc _ _).frozen (p := ⟨gb, p, none⟩) x2).trans x1
      clear hW4 hnb HG
      go_upto_region 13 with fail
      rw [← HW4.out.1, ← HW4.out.2]
      clear HW4 x0 x1 x2 x3 x4
      go_wp2_with fail
      go_loopw [8, 9, 10] (fun c _ _ wr => ∃ q : Nat, q ≤ wn + 1 ∧ c = .int .i64 (q : Int) ∧ SpS w rs (wn + 1) gb R p nb bs (fun i => if i < q then dp (rs.drop p) i else 0) wr) (fun c _ _ _ => wn + 1 - (intOf c).toNat)
      case atStart => exact ⟨0, Nat.zero_le _, rfl, HS0.out⟩
      case round =>
        clear HS0
        obtain ⟨q, hq, rfl, hst⟩ := hrel
        obtain ⟨wb, hwb⟩ : ∃ wb, wb = wr := ⟨_, rfl⟩
        rw [← hwb] at hst ⊢
        have HS : Hid (SpS w rs (wn + 1) gb R p nb bs (fun i => if i < q then dp (rs.drop p) i else 0) wb) := hst
        clear hst hwb
        by_cases hqw : q < wn + 1
        · have hq1 : (q : Int) ≤ (wn : Int) := by omega
          have hq2 : (q : Int) < (wn : Int) + 1 := by omega
          obtain ⟨c0, _, _, hc3⟩ := HS.out.at hpl
          obtain ⟨c1, c2⟩ := hc3 q hqw
          try dsimp only at c1
          have HS1 : Hid (SpS w rs (wn + 1) gb R p nb bs (fun i => if i = q then bF r0 I0 q 0 else if i < q then dp (rs.drop p) i else 0) (wb.setCell ⟨nb, q, none⟩ (.int .i64 (-1)))) := HS.out.put q (-1) (fun i _ => rfl)
          clear hc3
          go_upto_region 17 with fail
          clear c0 c1 c2
          generalize wb.setCell ⟨nb, q, none⟩ (.int .i64 (-1)) = wc at *
          clear HS
          have c0 := (HD1.out wc HS1.out.bel).2.2.1
          go_wp2_with fail
          clear c0
          go_loopw [9, 10] (fun c _ wj => ∃ (j ct : Nat), ct = ln + j ∧ j ≤ nC r0 q ∧ c = .int .i64 (ct : Int) ∧ SpS w rs (wn + 1) gb R p nb bs (fun i => if i = q then bF r0 I0 q j else if i < q then dp (rs.drop p) i else 0) wj) (fun c _ _ => 2000 - (intOf c).toNat)
          case atStart => exact ⟨0, ln, rfl, Nat.zero_le _, by rw [HLs.out], HS1.out⟩
          case round =>
            clear HS1
            obtain ⟨j, ct, hct, hj, rfl, hst⟩ := hrel
            obtain ⟨wj, hwj⟩ : ∃ wj, wj = wr := ⟨_, rfl⟩
            rw [← hwj] at hst ⊢
            have HS : Hid (SpS w rs (wn + 1) gb R p nb bs (fun i => if i = q then bF r0 I0 q j else if i < q then dp (rs.drop p) i else 0) wj) := hst
            have HCt : Hid (ct = ln + j) := hct
            have HJ : Hid (j ≤ nC r0 q) := hj
            clear hst hct hwj hj
            obtain ⟨_, d1, _, d3⟩ := HD1.out wj HS.out.bel
            have HStop : Hid (¬ ct ≤ wiN r0 q → SpS w rs (wn + 1) gb R p nb bs (fun i => if i < q + 1 then dp (rs.drop p) i else 0) wj) := fun hs => HS.out.same (fun i _ => by
              have hjn : j = nC r0 q := by have h1 := HCt.out; have h2 := HNc.out q; have h3 := HJ.out; omega
              by_cases e : i = q
              · rw [if_pos e, if_pos (by omega), e, HDp.out, hjn]
              · rw [if_neg e]
                by_cases e2 : i < q
                · rw [if_pos e2, if_pos (by omega)]
                · rw [if_neg e2, if_neg (by omega)])
            have h6 := HW6.out q
            have hct7 : ct ≤ 7 := by have h1 := HCt.out; have h2 := HNc.out q; have h3 := HJ.out; omega
            by_cases hA : ct ≤ n
            case neg =>
              have hA' : ¬ (ct : Int) ≤ (n : Int) := by omega
              have HE : Hid (SpS w rs (wn + 1) gb R p nb bs (fun i => if i < q + 1 then dp (rs.drop p) i else 0) wj) := HStop.out (fun e => hA (HUse.out.2 ct q e).1)
              clear HStop HS
              go_wp2_with fail
              go_roundw
              case rel => exact ⟨q + 1, by omega, by go_num, HE.out⟩
              case measure => simp [intOf]; omega
            have hA' : (ct : Int) ≤ (n : Int) := by omega
            have hmb := HMv.out ct hA
            obtain ⟨mv, hmv⟩ : ∃ mv, mv = (ct : Int) * wf := ⟨_, rfl⟩
            have hw1 : IntKind.i64.wrap ((ct : Int) * wf) = mv := by rw [hmv]; exact wrap_id _ (by omega) (by omega)
            rw [← hmv] at hmb
            have HMe : Hid (mv = (ct : Int) * wf) := hmv
            clear hmv
            by_cases hB : mv ≤ (q : Int)
            case neg =>
              have HE : Hid (SpS w rs (wn + 1) gb R p nb bs (fun i => if i < q + 1 then dp (rs.drop p) i else 0) wj) := HStop.out (fun e => hB (by rw [HMe.out]; exact (HUse.out.2 ct q e).2))
              clear HStop HS
              go_wp2_with fail
              go_roundw
              case rel => exact ⟨q + 1, by omega, by go_num, HE.out⟩
              case measure => simp [intOf]; omega
            obtain ⟨hwi, sb, hsb, hsq, hga⟩ := HUse.out.1 ct q hA (by rw [← HMe.out]; exact hB)
            rw [← HMe.out] at hsb
            have hw2 : IntKind.i64.wrap ((q : Int) - mv) = (sb : Int) := by rw [hsb]; exact wrap_id _ (by omega) (by omega)
            have hw5 : IntKind.i64.wrap (sb : Int) = (sb : Int) := wrap_id _ (by omega) (by omega)
            have hsb2 : (sb : Int) < (wn : Int) + 1 := by omega
            have hj2 : j + 1 ≤ nC r0 q := by have h1 := HCt.out; have h2 := HNc.out q; omega
            have hIs := HIb.out sb
            have hGs := HGb.out ct
            have hcb := HBd.out q j
            obtain ⟨rv, hrv⟩ : ∃ rv, rv = I0 sb := ⟨_, rfl⟩
            obtain ⟨gv, hgv⟩ : ∃ gv, gv = gnN gs ct := ⟨_, rfl⟩
            obtain ⟨cu, hcu⟩ : ∃ cu, cu = bF r0 I0 q j := ⟨_, rfl⟩
            rw [← hrv] at hIs hga
            rw [← hgv] at hGs hga
            rw [← hcu] at hcb
            have HNe : Hid (bF r0 I0 q (j + 1) = max cu (if rv < 0 then -1 else gv + rv)) := by show _ = _; rw [HN1.out, ← hcu, ← HCt.out, hga]
            have HGc : Hid (∀ W, Below wj.heap.size wj W → Calls Try.prog 41 #[.agg #[.string nm, .int .i64 wf, .int .i64 ls, .slice h n cp], .int .i64 (ct : Int)] W fun e w' => e = .returned (.int .i64 gv) ∧ Below W.heap.size W w') := fun W hb => by rw [hgv]; exact HGn.out ct hA W (chain HS.out.bel hb)
            have HQ : Hid (∀ W, Below wj.heap.size wj W → (W.cell? ⟨b0, o0 + p * 4, none⟩ = some (.string nm) ∧ W.cell? ⟨b0, o0 + p * 4 + 1, none⟩ = some (.int .i64 wf) ∧ W.cell? ⟨b0, o0 + p * 4 + 2, none⟩ = some (.int .i64 ls) ∧ W.cell? ⟨b0, o0 + p * 4 + 3, none⟩ = some (.slice h n cp)) ∧ W.cell? ⟨gb, p, none⟩ = some (.slice (some ⟨nb, 0, none⟩) (wn + 1) (wn + 1)) ∧ W.cell? ⟨gb, p + 1, none⟩ = some (.slice (some ⟨bs (p + 1), 0, none⟩) (wn + 1) (wn + 1)) ∧ W.cell? ⟨bs (p + 1), sb, none⟩ = some (.int .i64 rv) ∧ W.cell? ⟨nb, q, none⟩ = some (.int .i64 cu) ∧ W.frozen? ⟨nb, q, none⟩ = false) := fun W hb => by
              have h1 := HS.out.later hb
              obtain ⟨k0, k1, k2, k3⟩ := h1.at hpl
              have k4 := k2 sb (by omega)
              obtain ⟨k5, k6⟩ := k3 q hqw
              rw [← HI0.out, ← hrv] at k4
              try dsimp only at k5
              rw [if_pos rfl, ← hcu] at k5
              exact ⟨HD1.out W h1.bel, k0, k1, k4, k5, k6⟩
            have HPut : Hid (∀ W v, Below wj.heap.size wj W → SpS w rs (wn + 1) gb R p nb bs (fun i => if i = q then v else if i < q then dp (rs.drop p) i else 0) (W.setCell ⟨nb, q, none⟩ (.int .i64 v))) := fun W v hb => (HS.out.later hb).put q v (fun i _ => by
              by_cases e : i = q
              · rw [if_pos e, if_pos e]
              · rw [if_neg e, if_neg e, if_neg e])
            have HSame : Hid (∀ W, Below wj.heap.size wj W → rv < 0 → SpS w rs (wn + 1) gb R p nb bs (fun i => if i = q then bF r0 I0 q (j + 1) else if i < q then dp (rs.drop p) i else 0) W) := fun W hb hn => by
              have h1 := HS.out.later hb
              have h2 := HNe.out
              rw [if_pos hn] at h2
              rw [h2, show max cu (-1) = cu by omega, hcu]
              exact h1
            obtain ⟨bp, hbp⟩ : ∃ bp, bp = bs (p + 1) := ⟨_, rfl⟩
            rw [← hbp] at HQ
            have hlt6 : ¬ (2000 : Int) < (ct : Int) := by omega
            clear hcu hgv hrv hbp hga HS HStop hwi hsb
            go_upto_region 20 with fail
            clear d1 d3
            as_aux_lemma =>
              refine wp_region_held_drew (S := fun W' => Below wj.heap.size wj W') (by kernel_rfl) (below_drew _) (fun hH => ?_)
              refine wpAnyH_take (i := 0) (v := .slice (some ⟨gb, 0, none⟩) (rs.length + 1) (rs.length + 1)) rfl (by kernel_rfl) (by kernel_rfl) (by kernel_rfl) (fun _ _ _ h => h) (Or.inl ⟨by rfl, fun w hSw => by clear hSw; go_simp⟩) hH ?_
              refine wpAnyH_take (i := 1) (v := .int .i64 (p : Int)) rfl (by kernel_rfl) (by kernel_rfl) (by kernel_rfl) (fun _ _ _ h => h) (Or.inl ⟨by rfl, fun w hSw => by clear hSw; go_simp⟩) hH ?_
              try simp only [Act.put, List.setIfInBounds_toArray, List.set_cons_zero, List.set_cons_succ, List.getElem_toArray, List.getElem_cons_succ, List.getElem_cons_zero]
              refine wpAnyH_take (i := 2) (v := .int .i64 ((p : Int) + 1)) rfl (by kernel_rfl) (by kernel_rfl) (by kernel_rfl) (fun _ _ _ h => h) (Or.inl ⟨by rfl, fun w hSw => by clear hSw; go_simp⟩) hH ?_
              try simp only [Act.put, List.setIfInBounds_toArray, List.set_cons_zero, List.set_cons_succ, List.getElem_toArray, List.getElem_cons_succ, List.getElem_cons_zero]
              refine wpAnyH_take (i := 3) (v := .pointer (some ⟨gb, p + 1, none⟩)) rfl (by kernel_rfl) (by kernel_rfl) (by kernel_rfl) (fun _ _ _ h => h) (Or.inl ⟨by rfl, fun w hSw => by clear hSw; go_simp⟩) hH ?_
              try simp only [Act.put, List.setIfInBounds_toArray, List.set_cons_zero, List.set_cons_succ, List.getElem_toArray, List.getElem_cons_succ, List.getElem_cons_zero]
              refine wpAnyH_take (i := 4) (v := .slice (some ⟨bp, 0, none⟩) (wn + 1) (wn + 1)) rfl (by kernel_rfl) (by kernel_rfl) (by kernel_rfl) (fun _ _ _ h => h) (Or.inl ⟨by rfl, fun w hSw => by have f0 := (HQ.out w hSw).2.2.1; clear hSw; go_simp⟩) hH ?_
              try simp only [Act.put, List.setIfInBounds_toArray, List.set_cons_zero, List.set_cons_succ, List.getElem_toArray, List.getElem_cons_succ, List.getElem_cons_zero]
              refine wpAnyH_take (i := 5) (v := .int .i64 (q : Int)) rfl (by kernel_rfl) (by kernel_rfl) (by kernel_rfl) (fun _ _ _ h => h) (Or.inl ⟨by rfl, fun w hSw => by clear hSw; go_simp⟩) hH ?_
              try simp only [Act.put, List.setIfInBounds_toArray, List.set_cons_zero, List.set_cons_succ, List.getElem_toArray, List.getElem_cons_succ, List.getElem_cons_zero]
              refine wpAnyH_take (i := 6) (v := .int .i64 (ct : Int)) rfl (by kernel_rfl) (by kernel_rfl) (by kernel_rfl) (fun _ _ _ h => h) (Or.inl ⟨by rfl, fun w hSw => by clear hSw; go_simp⟩) hH ?_
              try simp only [Act.put, List.setIfInBounds_toArray, List.set_cons_zero, List.set_cons_succ, List.getElem_toArray, List.getElem_cons_succ, List.getElem_cons_zero]
              refine wpAnyH_take (i := 7) (v := .slice (some ⟨b0, o0, none⟩) rs.length cap) rfl (by kernel_rfl) (by kernel_rfl) (by kernel_rfl) (fun _ _ _ h => h) (Or.inl ⟨by rfl, fun w hSw => by clear hSw; go_simp⟩) hH ?_
              try simp only [Act.put, List.setIfInBounds_toArray, List.set_cons_zero, List.set_cons_succ, List.getElem_toArray, List.getElem_cons_succ, List.getElem_cons_zero]
              refine wpAnyH_take (i := 8) (v := .int .i64 (p : Int)) rfl (by kernel_rfl) (by kernel_rfl) (by kernel_rfl) (fun _ _ _ h => h) (Or.inl ⟨by rfl, fun w hSw => by clear hSw; go_simp⟩) hH ?_
              try simp only [Act.put, List.setIfInBounds_toArray, List.set_cons_zero, List.set_cons_succ, List.getElem_toArray, List.getElem_cons_succ, List.getElem_cons_zero]
              refine wpAnyH_take (i := 9) (v := .pointer (some ⟨b0, o0 + p * 4, none⟩)) rfl (by kernel_rfl) (by kernel_rfl) (by kernel_rfl) (fun _ _ _ h => h) (Or.inl ⟨by rfl, fun w hSw => by clear hSw; go_simp⟩) hH ?_
              try simp only [Act.put, List.setIfInBounds_toArray, List.set_cons_zero, List.set_cons_succ, List.getElem_toArray, List.getElem_cons_succ, List.getElem_cons_zero]
              refine wpAnyH_take (i := 10) (v := .pointer (some ⟨b0, o0 + p * 4 + 1, none⟩)) rfl (by kernel_rfl) (by kernel_rfl) (by kernel_rfl) (fun _ _ _ h => h) (Or.inl ⟨by rfl, fun w hSw => by clear hSw; go_simp⟩) hH ?_
              try simp only [Act.put, List.setIfInBounds_toArray, List.set_cons_zero, List.set_cons_succ, List.getElem_toArray, List.getElem_cons_succ, List.getElem_cons_zero]
              refine wpAnyH_take (i := 11) (v := .int .i64 wf) rfl (by kernel_rfl) (by kernel_rfl) (by kernel_rfl) (fun _ _ _ h => h) (Or.inl ⟨by rfl, fun w hSw => by have f0 := (HQ.out w hSw).1.2.1; clear hSw; go_simp⟩) hH ?_
              try simp only [Act.put, List.setIfInBounds_toArray, List.set_cons_zero, List.set_cons_succ, List.getElem_toArray, List.getElem_cons_succ, List.getElem_cons_zero]
              refine wpAnyH_take (i := 12) (v := .int .i64 mv) rfl (by kernel_rfl) (by kernel_rfl) (by kernel_rfl) (fun _ _ _ h => h) (Or.inl ⟨by rfl, fun w hSw => by clear hSw; go_simp⟩) hH ?_
              try simp only [Act.put, List.setIfInBounds_toArray, List.set_cons_zero, List.set_cons_succ, List.getElem_toArray, List.getElem_cons_succ, List.getElem_cons_zero]
              refine wpAnyH_take (i := 13) (v := .int .i64 (sb : Int)) rfl (by kernel_rfl) (by kernel_rfl) (by kernel_rfl) (fun _ _ _ h => h) (Or.inl ⟨by rfl, fun w hSw => by clear hSw; go_simp⟩) hH ?_
              try simp only [Act.put, List.setIfInBounds_toArray, List.set_cons_zero, List.set_cons_succ, List.getElem_toArray, List.getElem_cons_succ, List.getElem_cons_zero]
              refine wpAnyH_take (i := 14) (v := .pointer (some ⟨bp, sb, none⟩)) rfl (by kernel_rfl) (by kernel_rfl) (by kernel_rfl) (fun _ _ _ h => h) (Or.inl ⟨by rfl, fun w hSw => by clear hSw; go_simp⟩) hH ?_
              try simp only [Act.put, List.setIfInBounds_toArray, List.set_cons_zero, List.set_cons_succ, List.getElem_toArray, List.getElem_cons_succ, List.getElem_cons_zero]
              refine wpAnyH_take (i := 15) (v := .int .i64 rv) rfl (by kernel_rfl) (by kernel_rfl) (by kernel_rfl) (fun _ _ _ h => h) (Or.inl ⟨by rfl, fun w hSw => by have f0 := (HQ.out w hSw).2.2.2.1; clear hSw; go_simp⟩) hH ?_
              try simp only [Act.put, List.setIfInBounds_toArray, List.set_cons_zero, List.set_cons_succ, List.getElem_toArray, List.getElem_cons_succ, List.getElem_cons_zero]
              refine wpAnyH_take (i := 16) (v := .int .i64 rv) rfl (by kernel_rfl) (by kernel_rfl) (by kernel_rfl) (fun _ _ _ h => h) (Or.inl ⟨by rfl, fun w hSw => by clear hSw; go_simp⟩) hH ?_
              try simp only [Act.put, List.setIfInBounds_toArray, List.set_cons_zero, List.set_cons_succ, List.getElem_toArray, List.getElem_cons_succ, List.getElem_cons_zero]
              refine wpAnyH_done (by kernel_rfl) ?_ _
              by_cases hr0 : 0 ≤ rv
              case neg =>
                have HE : Hid (SpS w rs (wn + 1) gb R p nb bs (fun i => if i = q then bF r0 I0 q (j + 1) else if i < q then dp (rs.drop p) i else 0) wj.drew) := HSame.out _ hH (by omega)
                clear HSame hH HPut HQ HGc
                go_wp2_with fail
                go_roundw
                case rel => exact ⟨j + 1, ct + 1, by have := HCt.out; omega, hj2, by go_num, HE.out⟩
                case measure => simp [intOf]; omega
              clear HSame
              obtain ⟨wk, hwk⟩ : ∃ wk, wk = wj.drew := ⟨_, rfl⟩
              rw [← hwk] at hH ⊢
              have HK0 : Hid (Below wj.heap.size wj wk) := hH
              clear hH hwk
              have hw6 : IntKind.i64.wrap (rv + gv) = rv + gv := wrap_id _ (by omega) (by omega)
              go_upto_region 22 with fail
              refine wp_region_z (S := fun W' => Below wj.heap.size wj W') 22 (by kernel_rfl) (chain HK0.out (below_drew _)) (fun hH => ?_)
              refine wpAnyZ_take (i := 0) (v := .slice (some ⟨gb, 0, none⟩) (rs.length + 1) (rs.length + 1)) rfl (by kernel_rfl) (by kernel_rfl) (by kernel_rfl) (by kernel_rfl) (fun _ _ _ h => h) (Or.inl ⟨by rfl, fun w hSw => by clear hSw; go_simp⟩) hH ?_
              refine wpAnyZ_take (i := 1) (v := .int .i64 (p : Int)) rfl (by kernel_rfl) (by kernel_rfl) (by kernel_rfl) (by kernel_rfl) (fun _ _ _ h => h) (Or.inl ⟨by rfl, fun w hSw => by clear hSw; go_simp⟩) hH ?_
              try simp only [Act.put, List.setIfInBounds_toArray, List.set_cons_zero, List.set_cons_succ, List.getElem_toArray, List.getElem_cons_succ, List.getElem_cons_zero]
              refine wpAnyZ_take (i := 2) (v := .pointer (some ⟨gb, p, none⟩)) rfl (by kernel_rfl) (by kernel_rfl) (by kernel_rfl) (by kernel_rfl) (fun _ _ _ h => h) (Or.inl ⟨by rfl, fun w hSw => by clear hSw; go_simp⟩) hH ?_
              try simp only [Act.put, List.setIfInBounds_toArray, List.set_cons_zero, List.set_cons_succ, List.getElem_toArray, List.getElem_cons_succ, List.getElem_cons_zero]
              refine wpAnyZ_take (i := 3) (v := .slice (some ⟨nb, 0, none⟩) (wn + 1) (wn + 1)) rfl (by kernel_rfl) (by kernel_rfl) (by kernel_rfl) (by kernel_rfl) (fun _ _ _ h => h) (Or.inl ⟨by rfl, fun w hSw => by have f0 := (HQ.out w hSw).2.1; clear hSw; go_simp⟩) hH ?_
              try simp only [Act.put, List.setIfInBounds_toArray, List.set_cons_zero, List.set_cons_succ, List.getElem_toArray, List.getElem_cons_succ, List.getElem_cons_zero]
              refine wpAnyZ_take (i := 4) (v := .int .i64 (q : Int)) rfl (by kernel_rfl) (by kernel_rfl) (by kernel_rfl) (by kernel_rfl) (fun _ _ _ h => h) (Or.inl ⟨by rfl, fun w hSw => by clear hSw; go_simp⟩) hH ?_
              try simp only [Act.put, List.setIfInBounds_toArray, List.set_cons_zero, List.set_cons_succ, List.getElem_toArray, List.getElem_cons_succ, List.getElem_cons_zero]
              refine wpAnyZ_take (i := 5) (v := .slice (some ⟨gb, 0, none⟩) (rs.length + 1) (rs.length + 1)) rfl (by kernel_rfl) (by kernel_rfl) (by kernel_rfl) (by kernel_rfl) (fun _ _ _ h => h) (Or.inl ⟨by rfl, fun w hSw => by clear hSw; go_simp⟩) hH ?_
              try simp only [Act.put, List.setIfInBounds_toArray, List.set_cons_zero, List.set_cons_succ, List.getElem_toArray, List.getElem_cons_succ, List.getElem_cons_zero]
              refine wpAnyZ_take (i := 6) (v := .int .i64 (p : Int)) rfl (by kernel_rfl) (by kernel_rfl) (by kernel_rfl) (by kernel_rfl) (fun _ _ _ h => h) (Or.inl ⟨by rfl, fun w hSw => by clear hSw; go_simp⟩) hH ?_
              try simp only [Act.put, List.setIfInBounds_toArray, List.set_cons_zero, List.set_cons_succ, List.getElem_toArray, List.getElem_cons_succ, List.getElem_cons_zero]
              refine wpAnyZ_take (i := 7) (v := .pointer (some ⟨gb, p, none⟩)) rfl (by kernel_rfl) (by kernel_rfl) (by kernel_rfl) (by kernel_rfl) (fun _ _ _ h => h) (Or.inl ⟨by rfl, fun w hSw => by clear hSw; go_simp⟩) hH ?_
              try simp only [Act.put, List.setIfInBounds_toArray, List.set_cons_zero, List.set_cons_succ, List.getElem_toArray, List.getElem_cons_succ, List.getElem_cons_zero]
              refine wpAnyZ_take (i := 8) (v := .slice (some ⟨nb, 0, none⟩) (wn + 1) (wn + 1)) rfl (by kernel_rfl) (by kernel_rfl) (by kernel_rfl) (by kernel_rfl) (fun _ _ _ h => h) (Or.inl ⟨by rfl, fun w hSw => by have f0 := (HQ.out w hSw).2.1; clear hSw; go_simp⟩) hH ?_
              try simp only [Act.put, List.setIfInBounds_toArray, List.set_cons_zero, List.set_cons_succ, List.getElem_toArray, List.getElem_cons_succ, List.getElem_cons_zero]
              refine wpAnyZ_take (i := 9) (v := .int .i64 (q : Int)) rfl (by kernel_rfl) (by kernel_rfl) (by kernel_rfl) (by kernel_rfl) (fun _ _ _ h => h) (Or.inl ⟨by rfl, fun w hSw => by clear hSw; go_simp⟩) hH ?_
              try simp only [Act.put, List.setIfInBounds_toArray, List.set_cons_zero, List.set_cons_succ, List.getElem_toArray, List.getElem_cons_succ, List.getElem_cons_zero]
              refine wpAnyZ_take (i := 10) (v := .pointer (some ⟨nb, q, none⟩)) rfl (by kernel_rfl) (by kernel_rfl) (by kernel_rfl) (by kernel_rfl) (fun _ _ _ h => h) (Or.inl ⟨by rfl, fun w hSw => by clear hSw; go_simp⟩) hH ?_
              try simp only [Act.put, List.setIfInBounds_toArray, List.set_cons_zero, List.set_cons_succ, List.getElem_toArray, List.getElem_cons_succ, List.getElem_cons_zero]
              refine wpAnyZ_take (i := 11) (v := .int .i64 cu) rfl (by kernel_rfl) (by kernel_rfl) (by kernel_rfl) (by kernel_rfl) (fun _ _ _ h => h) (Or.inl ⟨by rfl, fun w hSw => by have f0 := (HQ.out w hSw).2.2.2.2.1; clear hSw; go_simp⟩) hH ?_
              try simp only [Act.put, List.setIfInBounds_toArray, List.set_cons_zero, List.set_cons_succ, List.getElem_toArray, List.getElem_cons_succ, List.getElem_cons_zero]
              refine wpAnyZ_take (i := 12) (v := .int .i64 rv) rfl (by kernel_rfl) (by kernel_rfl) (by kernel_rfl) (by kernel_rfl) (fun _ _ _ h => h) (Or.inl ⟨by rfl, fun w hSw => by clear hSw; go_simp⟩) hH ?_
              try simp only [Act.put, List.setIfInBounds_toArray, List.set_cons_zero, List.set_cons_succ, List.getElem_toArray, List.getElem_cons_succ, List.getElem_cons_zero]
              refine wpAnyZ_take (i := 13) (v := .slice (some ⟨b0, o0, none⟩) rs.length cap) rfl (by kernel_rfl) (by kernel_rfl) (by kernel_rfl) (by kernel_rfl) (fun _ _ _ h => h) (Or.inl ⟨by rfl, fun w hSw => by clear hSw; go_simp⟩) hH ?_
              try simp only [Act.put, List.setIfInBounds_toArray, List.set_cons_zero, List.set_cons_succ, List.getElem_toArray, List.getElem_cons_succ, List.getElem_cons_zero]
              refine wpAnyZ_take (i := 14) (v := .int .i64 (p : Int)) rfl (by kernel_rfl) (by kernel_rfl) (by kernel_rfl) (by kernel_rfl) (fun _ _ _ h => h) (Or.inl ⟨by rfl, fun w hSw => by clear hSw; go_simp⟩) hH ?_
              try simp only [Act.put, List.setIfInBounds_toArray, List.set_cons_zero, List.set_cons_succ, List.getElem_toArray, List.getElem_cons_succ, List.getElem_cons_zero]
              refine wpAnyZ_take (i := 15) (v := .pointer (some ⟨b0, o0 + p * 4, none⟩)) rfl (by kernel_rfl) (by kernel_rfl) (by kernel_rfl) (by kernel_rfl) (fun _ _ _ h => h) (Or.inl ⟨by rfl, fun w hSw => by clear hSw; go_simp⟩) hH ?_
              try simp only [Act.put, List.setIfInBounds_toArray, List.set_cons_zero, List.set_cons_succ, List.getElem_toArray, List.getElem_cons_succ, List.getElem_cons_zero]
              refine wpAnyZ_take (i := 16) (v := .agg #[.string nm, .int .i64 wf, .int .i64 ls, .slice h n cp]) rfl (by kernel_rfl) (by kernel_rfl) (by kernel_rfl) (by kernel_rfl) (fun _ _ _ h => h) (Or.inl ⟨by rfl, fun w hSw => by obtain ⟨⟨f0, f1, f2, f3⟩, _⟩ := HQ.out w hSw; clear hSw; go_simp⟩) hH ?_
              try simp only [Act.put, List.setIfInBounds_toArray, List.set_cons_zero, List.set_cons_succ, List.getElem_toArray, List.getElem_cons_succ, List.getElem_cons_zero]
              refine wpAnyZ_take (i := 17) (v := .int .i64 (ct : Int)) rfl (by kernel_rfl) (by kernel_rfl) (by kernel_rfl) (by kernel_rfl) (fun _ _ _ h => h) (Or.inl ⟨by rfl, fun w hSw => by clear hSw; go_simp⟩) hH ?_
              try simp only [Act.put, List.setIfInBounds_toArray, List.set_cons_zero, List.set_cons_succ, List.getElem_toArray, List.getElem_cons_succ, List.getElem_cons_zero]
              refine wpAnyZ_ready (rs := [18]) (by kernel_rfl) (by simp) ?_
              refine AllReadyZ.cons rfl (fun K hK => ?_) AllReadyZ.nil
              go_simp
              go_at_call 41
              refine (HGc.out _ hH).mono ?_
              rintro e w3 ⟨rfl, hb3⟩
              have h3 : Below wj.heap.size wj w3 := chain hH hb3
              clear hb3
              refine hK.out _ _ (Or.inr h3) (fun _ => ?_)
              clear hK K
              try simp only [Act.put, List.setIfInBounds_toArray, List.set_cons_zero, List.set_cons_succ, List.getElem_toArray, List.getElem_cons_succ, List.getElem_cons_zero]
              refine wpAnyZ_take (i := 19) (v := .int .i64 (rv + gv)) rfl (by kernel_rfl) (by kernel_rfl) (by kernel_rfl) (by kernel_rfl) (fun _ _ _ h => h) (Or.inl ⟨by rfl, fun w hSw => by clear hSw; go_simp⟩) h3 ?_
              try simp only [Act.put, List.setIfInBounds_toArray, List.set_cons_zero, List.set_cons_succ, List.getElem_toArray, List.getElem_cons_succ, List.getElem_cons_zero]
              refine wpAnyZ_take (i := 20) (v := .int .i64 (max cu (rv + gv))) rfl (by kernel_rfl) (by kernel_rfl) (by kernel_rfl) (by kernel_rfl) (fun _ _ _ h => h) (Or.inl ⟨by rfl, fun w hSw => by clear hSw; go_simp⟩) h3 ?_
              try simp only [Act.put, List.setIfInBounds_toArray, List.set_cons_zero, List.set_cons_succ, List.getElem_toArray, List.getElem_cons_succ, List.getElem_cons_zero]
              refine wpAnyZ_take (i := 21) (v := .pointer (some ⟨nb, q, none⟩)) rfl (by kernel_rfl) (by kernel_rfl) (by kernel_rfl) (by kernel_rfl) (fun _ _ _ h => h) (Or.inl ⟨by rfl, fun w hSw => by clear hSw; go_simp⟩) h3 ?_
              try simp only [Act.put, List.setIfInBounds_toArray, List.set_cons_zero, List.set_cons_succ, List.getElem_toArray, List.getElem_cons_succ, List.getElem_cons_zero]
              refine wpAnyZ_ready (rs := [22]) (by kernel_rfl) (by simp) ?_
              refine AllReadyZ.cons rfl (fun K hK => ?_) AllReadyZ.nil
              obtain ⟨_, _, _, _, y0, y1⟩ := HQ.out w3 h3
              have HNx : Hid (SpS w rs (wn + 1) gb R p nb bs (fun i => if i = q then (max cu (rv + gv)) else if i < q then dp (rs.drop p) i else 0) (w3.setCell ⟨nb, q, none⟩ (.int .i64 (max cu (rv + gv))))) := HPut.out w3 (max cu (rv + gv)) h3
              have HBn : Hid (bF r0 I0 q (j + 1) = max cu (rv + gv)) := by show _ = _; rw [HNe.out, if_neg (by omega), Int.add_comm gv rv]
              clear h3 hH
              go_simp
              refine hK.out _ _ (Or.inl rfl) (fun _ => ?_)
              clear hK K
              try simp only [Act.put, List.setIfInBounds_toArray, List.set_cons_zero, List.set_cons_succ, List.getElem_toArray, List.getElem_cons_succ, List.getElem_cons_zero]
              refine wpAnyZ_done (by kernel_rfl) ?_ _
              clear y0 y1
              generalize w3.setCell ⟨nb, q, none⟩ (.int .i64 (max cu (rv + gv))) = wz at *
              go_wp2_with fail
              go_roundw
              case rel => exact ⟨j + 1, ct + 1, by have := HCt.out; omega, hj2, by go_num, by rw [HBn.out]; exact HNx.out⟩
              case measure => simp [intOf]; omega
        · have hq1 : ¬ (q : Int) ≤ (wn : Int) := by omega
          obtain rfl : q = wn + 1 := by omega
          have HE : Hid (GrS w rs (wn + 1) gb R p (fun i => if i = p then nb else bs i) wb) := HS.out.done (fun i hi => by rw [if_pos hi])
          clear HS
          go_wp2_with fail
          go_roundw
          case rel => exact ⟨p, _, _, by omega, rfl, by go_num, HE.out⟩
          case measure => simp [intOf] <;> omega
    subst hlz
    have hie : iv = -1 := by omega
    clear hiv
    subst hie
    obtain ⟨wa, hwa⟩ : ∃ wa, wa = wr := ⟨_, rfl⟩
    rw [← hwa] at HG ⊢
    clear hwa
    have g0 := HG.out.gr.top.cell (i := 0) (by omega)
    have g1 := (HG.out.gr.row 0 (Nat.zero_le _) (Nat.zero_le _)).cell (i := wn) (by omega)
    try dsimp only at g0
    rw [if_pos (Nat.zero_le _)] at g0
    rw [List.drop_zero] at g1
    have hwl : (wn : Int) < (wn : Int) + 1 := by omega
    have hll : (0 : Int) < (rs.length : Int) + 1 := by omega
    obtain ⟨b00, hb00⟩ : ∃ b00, b00 = bs 0 := ⟨_, rfl⟩
    rw [← hb00] at g0 g1
    clear hb00
    by_cases hd : dp rs wn < 0
    · have HC : Hid (bsCode rs (wn : Int) = 8) := by show _ = _; rw [HCd3.out, if_pos hd]
      clear HCd3 HYe
      generalize dp rs wn = dv at *
      as_aux_lemma =>
        have hrx := HG.out.hR
        have z0 := blkCell hrx 0 _ rfl
        have z1 := blkCell hrx 1 _ rfl
        have z2 := blkCell hrx 2 _ rfl
        have y0 := blkFree hrx 0
        have y1 := blkFree hrx 1
        have y2 := blkFree hrx 2
        simp only [List.getElem_toArray, List.getElem_cons_zero, List.getElem_cons_succ] at z0 z1 z2
        clear hrx
        go_wp2_with fail
        refine bodyPost_ret (v := .tuple #[.agg #[.slice none 0 0, .int .i64 0, .int .i64 0], .int .i64 8]) (by simp [results, Try.results11, go_sem, z0, z1, z2]) rfl ?_
        refine HNo.out 8 _ HC.out (by omega) ?_
        repeat refine Below.setCell ?_ (by dsimp only; omega) _
        exact HG.out.bel
    have HC : Hid (bsCode rs (wn : Int) = 0) := by show _ = _; rw [HCd3.out, if_neg hd]
    have hd0 : 0 ≤ dp rs wn := by omega
    have HD0 : Hid (0 ≤ dp rs wn) := hd0
    have HSc : Hid (shCode rs (wn : Int) (plL rs wn) = 0) := shCode_pl h12 HRR.out HSf.out hd0
    have HRm : Hid (∀ p, p ≤ rs.length → rmN rs wn p ≤ wn ∧ 0 ≤ dp (rs.drop p) (rmN rs wn p)) := rm_ok HRR.out hd0
    have HCn : Hid (∀ p, p < rs.length → cnAt rs wn p ≤ wiN (rs.getD p zFc) (rmN rs wn p) ∧ gA (rs.getD p zFc) (dp (rs.drop (p + 1))) (rmN rs wn p) (cnAt rs wn p) = dp (rs.drop p) (rmN rs wn p) ∧ cnAt rs wn p = pkN (rs.getD p zFc) (dp (rs.drop (p + 1))) (rmN rs wn p) (dp (rs.drop p) (rmN rs wn p)) (wiN (rs.getD p zFc) (rmN rs wn p))) := fun p hp => cn_ok HRR.out hd0 hp
    have HRn : Hid (∀ p, rmN rs wn (p + 1) = rmN rs wn p - cnAt rs wn p * (rs.getD p zFc).wd.toNat) := fun p => rfl
    have HPl : Hid ((plL rs wn).length = rs.length) := (pl_ok rs HRR.out wn hd0).1
    have HTk : Hid (∀ k, k < rs.length → (plL rs wn).take k ++ [(cnAt rs wn k : Int)] = (plL rs wn).take (k + 1)) := fun k hk => by
      have h1 : k < (plL rs wn).length := by rw [HPl.out]; exact hk
      have h2 := pl_getD rs wn k hk
      rw [List.take_succ_eq_append_getElem h1, ← h2]
      simp [List.getD_eq_getElem?_getD, h1]
    generalize hdv : dp rs wn = dv at *
    have hnd : ¬ dv < 0 := hd
    clear HCd3 hd hd0 hdv
    have HO0 : Hid (One wa wa.heap.size (.slice (some ⟨wa.heap.size, 0, none⟩) 0 0) [] (wa.alloc (Obj.cells #[] 3))) := One.start wa _ rfl
    obtain ⟨i0, hti, hzz⟩ := Option.map_eq_some_iff.1 intInfo
    simp only [Prod.mk.injEq] at hzz
    obtain ⟨hi0, hi1, hi2⟩ := hzz
    go_upto_region 27 with fail
    clear g0 g1
    generalize wa.alloc (Obj.cells #[] 3) = wc at *
    go_wp2_with fail
    go_loopw [11, 12, 13, 14] (fun v l c _ wr => ∃ k g cq : Nat, k ≤ rs.length ∧ c = .int .i64 (k : Int) ∧ l = .int .i64 (rmN rs wn k : Int) ∧ v = .slice (some ⟨g, 0, none⟩) k cq ∧ One wa wa.heap.size (.slice (some ⟨g, 0, none⟩) k cq) ((plL rs wn).take k) wr) (fun _ _ c _ _ => rs.length - (intOf c).toNat)
    case atStart => exact ⟨0, wa.heap.size, 0, Nat.zero_le _, rfl, rfl, rfl, HO0.out⟩
    case round =>
      clear HO0
      obtain ⟨k, g, cq, hk, rfl, rfl, rfl, hO⟩ := hrel
      obtain ⟨wb, hwb⟩ : ∃ wb, wb = wr := ⟨_, rfl⟩
      rw [← hwb] at hO ⊢
      have HO : Hid (One wa wa.heap.size (.slice (some ⟨g, 0, none⟩) k cq) ((plL rs wn).take k) wb) := hO
      clear hO hwb
      by_cases hlt : k < rs.length
      · have hlt' : (k : Int) < (rs.length : Int) := by omega
        have hk1 : (k : Int) + 1 < (rs.length : Int) + 1 := by omega
        have hk2 : (k : Int) < (rs.length : Int) + 1 := by omega
        have hk3 : ¬ (k : Int) + 1 < 0 := by omega
        have hw3 : IntKind.i64.wrap ((k : Int) + 1) = (k : Int) + 1 := wrap_id _ (by omega) (by omega)
        rcases HR.out with h0 | ⟨b0, o0, ha, hB0, ia⟩
        · rw [h0] at hlt; simp at hlt
        obtain ⟨h, cp, hAt, hcp, hS⟩ := ia k hlt
        subst ha
        have hFr := getFc HRR.out hlt
        obtain ⟨m1, m2, m3⟩ := HCn.out k hlt
        obtain ⟨n1, n2⟩ := HRm.out k (by omega)
        have HBw : Hid (∀ W, Below wa.heap.size wa W → Below w.heap.size w W) := fun W hb => chain HG.out.bel hb
        have HD1 : Hid (∀ W, Below wa.heap.size wa W → W.cell? ⟨b0, o0 + k * 4, none⟩ = some (.string (rs.getD k zFc).nm) ∧ W.cell? ⟨b0, o0 + k * 4 + 1, none⟩ = some (.int .i64 (rs.getD k zFc).wd) ∧ W.cell? ⟨b0, o0 + k * 4 + 2, none⟩ = some (.int .i64 (rs.getD k zFc).ls) ∧ W.cell? ⟨b0, o0 + k * 4 + 3, none⟩ = some (.slice h (rs.getD k zFc).gs.length cp)) := fun W hb => hAt.below (HBw.out W hb) hB0
        have HGn : Hid (∀ ct : Nat, ct ≤ (rs.getD k zFc).gs.length → ∀ W, Below wa.heap.size wa W → Calls Try.prog 41 #[.agg #[.string (rs.getD k zFc).nm, .int .i64 (rs.getD k zFc).wd, .int .i64 (rs.getD k zFc).ls, .slice h (rs.getD k zFc).gs.length cp], .int .i64 (ct : Int)] W fun e w' => e = .returned (.int .i64 (gnN (rs.getD k zFc).gs ct)) ∧ Below W.heap.size W w') := fun ct hc W hb => specGain_any (rs.getD k zFc) hFr h cp ct hc W (hS.later (HBw.out W hb))
        have HIb : Hid (∀ i, -1 ≤ dp (rs.drop (k + 1)) i ∧ dp (rs.drop (k + 1)) i ≤ 7200000) := fun i => by have := dp_small h12 HRR.out (k + 1) (by omega) i; omega
        have HGb : Hid (∀ ct, 0 ≤ gnN (rs.getD k zFc).gs ct ∧ gnN (rs.getD k zFc).gs ct ≤ 600000) := fun ct => gnN_bound hFr ct
        obtain ⟨u1, u2⟩ := fc_use hFr (dp (rs.drop (k + 1)))
        obtain ⟨v1, v2⟩ := u2 _ _ m1
        obtain ⟨_, sc, v3, v4, v5⟩ := u1 _ _ v1 v2
        have hcm := cast_mul (n := cnAt rs wn k) (wd := (rs.getD k zFc).wd) (by have := hFr.2.1; omega)
        have hrn := HRn.out k
        have hmu := mul_small (c := (cnAt rs wn k : Int)) (wd := (rs.getD k zFc).wd) ⟨by omega, by have := hFr.1.2; omega⟩ hFr.2.1
        have e1 : (rmN rs wn k : Int) - (cnAt rs wn k : Int) * (rs.getD k zFc).wd = (rmN rs wn (k + 1) : Int) := by omega
        -- what the count that is taken keeps
        have HOk : Hid ((cnAt rs wn k : Int) * (rs.getD k zFc).wd ≤ (rmN rs wn k : Int) ∧ ∀ sb : Nat, (rmN rs wn k : Int) - (cnAt rs wn k : Int) * (rs.getD k zFc).wd = (sb : Int) → 0 ≤ dp (rs.drop (k + 1)) sb ∧ dp (rs.drop (k + 1)) sb + gnN (rs.getD k zFc).gs (cnAt rs wn k) = dp (rs.drop k) (rmN rs wn k)) := by
          refine ⟨v2, fun sb hsb => ?_⟩
          obtain rfl : sb = sc := by omega
          rw [v5] at m2
          by_cases hneg : dp (rs.drop (k + 1)) sb < 0
          · rw [if_pos hneg] at m2; omega
          · rw [if_neg hneg] at m2; exact ⟨by omega, by omega⟩
        have HGo : Hid (∀ ct : Nat, ct ≤ (rs.getD k zFc).gs.length → (ct : Int) * (rs.getD k zFc).wd ≤ (rmN rs wn k : Int) → ∃ sb : Nat, (rmN rs wn k : Int) - (ct : Int) * (rs.getD k zFc).wd = (sb : Int) ∧ sb ≤ rmN rs wn k ∧ (0 ≤ dp (rs.drop (k + 1)) sb → dp (rs.drop (k + 1)) sb + gnN (rs.getD k zFc).gs ct = dp (rs.drop k) (rmN rs wn k) → ct ≤ cnAt rs wn k)) := fun ct h1 h2 => by
          obtain ⟨a1, sb, a2, a3, a4⟩ := u1 ct (rmN rs wn k) h1 h2
          refine ⟨sb, a2, a3, fun a5 a6 => ?_⟩
          rw [if_neg (by omega)] at a4
          have := (pkN_ge (best := dp (rs.drop k) (rmN rs wn k)) _ ct a1 (by rw [a4]; omega)).1
          rw [← m3] at this
          exact this
        have hl6 := hFr.1
        have hwf := hFr.2.1
        have HGr : Hid (∀ W, Below wa.heap.size wa W → W.cell? ⟨gb, k, none⟩ = some (.slice (some ⟨bs k, 0, none⟩) (wn + 1) (wn + 1)) ∧ W.cell? ⟨gb, k + 1, none⟩ = some (.slice (some ⟨bs (k + 1), 0, none⟩) (wn + 1) (wn + 1)) ∧ (∀ i, i < wn + 1 → W.cell? ⟨bs k, i, none⟩ = some (.int .i64 (dp (rs.drop k) i))) ∧ (∀ i, i < wn + 1 → W.cell? ⟨bs (k + 1), i, none⟩ = some (.int .i64 (dp (rs.drop (k + 1)) i)))) := fun W hb => by
          have h1 := (HG.out.gr.later hb)
          have q1 := h1.top.cell (i := k) (by omega)
          have q2 := h1.top.cell (i := k + 1) (by omega)
          try dsimp only at q1 q2
          rw [if_pos (Nat.zero_le _)] at q1 q2
          exact ⟨q1, q2, fun i hi => (h1.row k (Nat.zero_le _) (by omega)).cell hi, fun i hi => (h1.row (k + 1) (Nat.zero_le _) (by omega)).cell hi⟩
        have hTk := HTk.out k hlt
        have HCnn : Hid (cnAt rs wn k ≤ (rs.getD k zFc).gs.length) := v1
        clear m1 m2 m3 n2 u1 u2 v1 v2 v3 v4 v5 hcm hrn ia hS hAt hcp hFr
        obtain ⟨rm, hrm⟩ : ∃ rm, rm = rmN rs wn k := ⟨_, rfl⟩
        obtain ⟨rm2, hrm2⟩ : ∃ rm2, rm2 = rmN rs wn (k + 1) := ⟨_, rfl⟩
        obtain ⟨cn, hcn⟩ : ∃ cn, cn = cnAt rs wn k := ⟨_, rfl⟩
        obtain ⟨best, hbe⟩ : ∃ best, best = dp (rs.drop k) (rmN rs wn k) := ⟨_, rfl⟩
        obtain ⟨nm, hnm⟩ : ∃ nm, nm = (rs.getD k zFc).nm := ⟨_, rfl⟩
        obtain ⟨wf, hwfe⟩ : ∃ wf, wf = (rs.getD k zFc).wd := ⟨_, rfl⟩
        obtain ⟨ls, hlse⟩ : ∃ ls, ls = (rs.getD k zFc).ls := ⟨_, rfl⟩
        obtain ⟨gs, hgse⟩ : ∃ gs, gs = (rs.getD k zFc).gs := ⟨_, rfl⟩
        obtain ⟨I0, hI0⟩ : ∃ I0, I0 = dp (rs.drop (k + 1)) := ⟨_, rfl⟩
        have hrm3 : rm2 ≤ 2000 := by rw [hrm2]; have := (HRm.out (k + 1) hlt).1; omega
        rw [← hnm, ← hwfe, ← hlse, ← hgse] at HD1 HGn
        rw [← hgse] at HGb hl6
        rw [← hwfe] at hwf
        rw [← hbe, ← hrm, ← hcn, ← hwfe, ← hgse, ← hI0] at HOk HGo
        rw [← hI0] at HGr HIb
        rw [← hrm, ← hrm2, ← hcn, ← hwfe] at e1
        rw [← hcn, ← hwfe] at hmu
        rw [← hcn] at hTk
        rw [← hcn, ← hgse] at HCnn
        rw [← hrm] at n1 ⊢
        have HRm2 : Hid (rm2 = rmN rs wn (k + 1)) := hrm2
        have HBe : Hid (best = dp (rs.drop k) rm) := by show _ = _; rw [hbe, hrm]
        have HTk2 : Hid ((plL rs wn).take k ++ [(cn : Int)] = (plL rs wn).take (k + 1)) := hTk
        have hlen : ((plL rs wn).take k).length = k := by rw [List.length_take, HPl.out]; omega
        have HLn : Hid (((plL rs wn).take k).length = k) := hlen
        clear hrm hrm2 hcn hbe hnm hwfe hlse hgse hI0 hTk hlen
        obtain ⟨n, hn⟩ : ∃ n, n = gs.length := ⟨_, rfl⟩
        rw [← hn] at HD1 HGn HGo hl6 HCnn
        clear hn
        generalize (plL rs wn).take k = L at *
        have HMv : Hid (∀ ct : Nat, ct ≤ n → 0 ≤ (ct : Int) * wf ∧ (ct : Int) * wf ≤ 12000) := fun ct hc => mul_small ⟨by omega, by omega⟩ hwf
        have hcnn : cn ≤ n := HCnn.out
        have c3 := (HD1.out wb HO.out.2.2).2.2.2
        go_wp2_with fail
        clear c3
        go_loopw [14] (fun c wj => ∃ m : Nat, cn ≤ m ∧ m ≤ n ∧ c = .int .i64 (m : Int) ∧ One wa wa.heap.size (.slice (some ⟨g, 0, none⟩) k cq) L wj) (fun c _ => (intOf c).toNat)
        case atStart => exact ⟨n, hcnn, Nat.le_refl _, rfl, HO.out⟩
        case round =>
          clear HO
          obtain ⟨m, hm1, hm2, rfl, hO⟩ := hrel
          obtain ⟨wj, hwj⟩ : ∃ wj, wj = wr := ⟨_, rfl⟩
          rw [← hwj] at hO ⊢
          have HO : Hid (One wa wa.heap.size (.slice (some ⟨g, 0, none⟩) k cq) L wj) := hO
          clear hO hwj
          have HQ : Hid (∀ W, Below wj.heap.size wj W → (W.cell? ⟨b0, o0 + k * 4, none⟩ = some (.string nm) ∧ W.cell? ⟨b0, o0 + k * 4 + 1, none⟩ = some (.int .i64 wf) ∧ W.cell? ⟨b0, o0 + k * 4 + 2, none⟩ = some (.int .i64 ls) ∧ W.cell? ⟨b0, o0 + k * 4 + 3, none⟩ = some (.slice h n cp)) ∧ W.cell? ⟨gb, k, none⟩ = some (.slice (some ⟨bs k, 0, none⟩) (wn + 1) (wn + 1)) ∧ W.cell? ⟨gb, k + 1, none⟩ = some (.slice (some ⟨bs (k + 1), 0, none⟩) (wn + 1) (wn + 1)) ∧ W.cell? ⟨bs k, rm, none⟩ = some (.int .i64 best) ∧ (∀ i, i < wn + 1 → W.cell? ⟨bs (k + 1), i, none⟩ = some (.int .i64 (I0 i)))) := fun W hb => by
            have h1 := chain HO.out.2.2 hb
            obtain ⟨k0, k1, k2, k3⟩ := HGr.out W h1
            have k4 := k2 rm (by omega)
            rw [← HBe.out] at k4
            exact ⟨HD1.out W h1, k0, k1, k4, k3⟩
          obtain ⟨bk, hbk⟩ : ∃ bk, bk = bs k := ⟨_, rfl⟩
          obtain ⟨bp, hbp⟩ : ∃ bp, bp = bs (k + 1) := ⟨_, rfl⟩
          rw [← hbk, ← hbp] at HQ
          clear hbk hbp
          have hmb := HMv.out m hm2
          obtain ⟨mv, hmv⟩ : ∃ mv, mv = (m : Int) * wf := ⟨_, rfl⟩
          have hw1 : IntKind.i64.wrap ((m : Int) * wf) = mv := by rw [hmv]; exact wrap_id _ (by omega) (by omega)
          rw [← hmv] at hmb
          have HMe : Hid (mv = (m : Int) * wf) := hmv
          clear hmv
          have hrmw : (rm : Int) < (wn : Int) + 1 := by omega
          have hm6 : m ≤ 6 := by omega
          by_cases hA : (rm : Int) < mv
          · have HOj : Hid (∀ W, Below wj.heap.size wj W → One wa wa.heap.size (.slice (some ⟨g, 0, none⟩) k cq) L W) := fun W hb => HO.out.later hb
            have hne : m ≠ cn := fun e => by
              have h1 := HOk.out.1
              have h2 := HMe.out
              rw [e] at h2
              omega
            have hm3 : cn ≤ m - 1 := by omega
            clear HO
            go_upto_region 31 with fail
            as_aux_lemma =>
              refine wp_region_held_drew (S := fun W' => Below wj.heap.size wj W') (by kernel_rfl) (below_drew _) (fun hH => ?_)
              refine wpAnyH_take (i := 0) (v := .int .i64 ((m : Int))) rfl (by kernel_rfl) (by kernel_rfl) (by kernel_rfl) (fun _ _ _ h => h) (Or.inl ⟨by rfl, fun w hSw => by clear hSw; go_simp⟩) hH ?_
              refine wpAnyH_take (i := 1) (v := .slice (some ⟨b0, o0, none⟩) rs.length cap) rfl (by kernel_rfl) (by kernel_rfl) (by kernel_rfl) (fun _ _ _ h => h) (Or.inl ⟨by rfl, fun w hSw => by clear hSw; go_simp⟩) hH ?_
              try simp only [Act.put, List.setIfInBounds_toArray, List.set_cons_zero, List.set_cons_succ, List.getElem_toArray, List.getElem_cons_succ, List.getElem_cons_zero]
              refine wpAnyH_take (i := 2) (v := .int .i64 ((k : Int))) rfl (by kernel_rfl) (by kernel_rfl) (by kernel_rfl) (fun _ _ _ h => h) (Or.inl ⟨by rfl, fun w hSw => by clear hSw; go_simp⟩) hH ?_
              try simp only [Act.put, List.setIfInBounds_toArray, List.set_cons_zero, List.set_cons_succ, List.getElem_toArray, List.getElem_cons_succ, List.getElem_cons_zero]
              refine wpAnyH_take (i := 3) (v := .pointer (some ⟨b0, o0 + k * 4, none⟩)) rfl (by kernel_rfl) (by kernel_rfl) (by kernel_rfl) (fun _ _ _ h => h) (Or.inl ⟨by rfl, fun w hSw => by clear hSw; go_simp⟩) hH ?_
              try simp only [Act.put, List.setIfInBounds_toArray, List.set_cons_zero, List.set_cons_succ, List.getElem_toArray, List.getElem_cons_succ, List.getElem_cons_zero]
              refine wpAnyH_take (i := 4) (v := .pointer (some ⟨b0, o0 + k * 4 + 1, none⟩)) rfl (by kernel_rfl) (by kernel_rfl) (by kernel_rfl) (fun _ _ _ h => h) (Or.inl ⟨by rfl, fun w hSw => by clear hSw; go_simp⟩) hH ?_
              try simp only [Act.put, List.setIfInBounds_toArray, List.set_cons_zero, List.set_cons_succ, List.getElem_toArray, List.getElem_cons_succ, List.getElem_cons_zero]
              refine wpAnyH_take (i := 5) (v := .int .i64 wf) rfl (by kernel_rfl) (by kernel_rfl) (by kernel_rfl) (fun _ _ _ h => h) (Or.inl ⟨by rfl, fun w hSw => by have f0 := (HQ.out w hSw).1.2.1; clear hSw; go_simp⟩) hH ?_
              try simp only [Act.put, List.setIfInBounds_toArray, List.set_cons_zero, List.set_cons_succ, List.getElem_toArray, List.getElem_cons_succ, List.getElem_cons_zero]
              refine wpAnyH_take (i := 6) (v := .int .i64 mv) rfl (by kernel_rfl) (by kernel_rfl) (by kernel_rfl) (fun _ _ _ h => h) (Or.inl ⟨by rfl, fun w hSw => by clear hSw; go_simp⟩) hH ?_
              try simp only [Act.put, List.setIfInBounds_toArray, List.set_cons_zero, List.set_cons_succ, List.getElem_toArray, List.getElem_cons_succ, List.getElem_cons_zero]
              refine wpAnyH_take (i := 7) (v := .int .i64 ((rm : Int))) rfl (by kernel_rfl) (by kernel_rfl) (by kernel_rfl) (fun _ _ _ h => h) (Or.inl ⟨by rfl, fun w hSw => by clear hSw; go_simp⟩) hH ?_
              try simp only [Act.put, List.setIfInBounds_toArray, List.set_cons_zero, List.set_cons_succ, List.getElem_toArray, List.getElem_cons_succ, List.getElem_cons_zero]
              refine wpAnyH_take (i := 8) (v := .bool true) rfl (by kernel_rfl) (by kernel_rfl) (by kernel_rfl) (fun _ _ _ h => h) (Or.inl ⟨by rfl, fun w hSw => by clear hSw; go_simp⟩) hH ?_
              try simp only [Act.put, List.setIfInBounds_toArray, List.set_cons_zero, List.set_cons_succ, List.getElem_toArray, List.getElem_cons_succ, List.getElem_cons_zero]
              refine wpAnyH_take (i := 9) (v := .bool true) rfl (by kernel_rfl) (by kernel_rfl) (by kernel_rfl) (fun _ _ _ h => h) (Or.inl ⟨by rfl, fun w hSw => by clear hSw; go_simp⟩) hH ?_
              try simp only [Act.put, List.setIfInBounds_toArray, List.set_cons_zero, List.set_cons_succ, List.getElem_toArray, List.getElem_cons_succ, List.getElem_cons_zero]
              refine wpAnyH_take (i := 10) (v := undef) rfl (by kernel_rfl) (by kernel_rfl) (by kernel_rfl) (fun _ _ _ h => h) (Or.inr ⟨by rfl, rfl⟩) hH ?_
              try simp only [Act.put, List.setIfInBounds_toArray, List.set_cons_zero, List.set_cons_succ, List.getElem_toArray, List.getElem_cons_succ, List.getElem_cons_zero]
              refine wpAnyH_take (i := 11) (v := undef) rfl (by kernel_rfl) (by kernel_rfl) (by kernel_rfl) (fun _ _ _ h => h) (Or.inr ⟨by rfl, rfl⟩) hH ?_
              try simp only [Act.put, List.setIfInBounds_toArray, List.set_cons_zero, List.set_cons_succ, List.getElem_toArray, List.getElem_cons_succ, List.getElem_cons_zero]
              refine wpAnyH_take (i := 12) (v := undef) rfl (by kernel_rfl) (by kernel_rfl) (by kernel_rfl) (fun _ _ _ h => h) (Or.inr ⟨by rfl, rfl⟩) hH ?_
              try simp only [Act.put, List.setIfInBounds_toArray, List.set_cons_zero, List.set_cons_succ, List.getElem_toArray, List.getElem_cons_succ, List.getElem_cons_zero]
              refine wpAnyH_take (i := 13) (v := undef) rfl (by kernel_rfl) (by kernel_rfl) (by kernel_rfl) (fun _ _ _ h => h) (Or.inr ⟨by rfl, rfl⟩) hH ?_
              try simp only [Act.put, List.setIfInBounds_toArray, List.set_cons_zero, List.set_cons_succ, List.getElem_toArray, List.getElem_cons_succ, List.getElem_cons_zero]
              refine wpAnyH_take (i := 14) (v := undef) rfl (by kernel_rfl) (by kernel_rfl) (by kernel_rfl) (fun _ _ _ h => h) (Or.inr ⟨by rfl, rfl⟩) hH ?_
              try simp only [Act.put, List.setIfInBounds_toArray, List.set_cons_zero, List.set_cons_succ, List.getElem_toArray, List.getElem_cons_succ, List.getElem_cons_zero]
              refine wpAnyH_take (i := 15) (v := undef) rfl (by kernel_rfl) (by kernel_rfl) (by kernel_rfl) (fun _ _ _ h => h) (Or.inr ⟨by rfl, rfl⟩) hH ?_
              try simp only [Act.put, List.setIfInBounds_toArray, List.set_cons_zero, List.set_cons_succ, List.getElem_toArray, List.getElem_cons_succ, List.getElem_cons_zero]
              refine wpAnyH_take (i := 16) (v := undef) rfl (by kernel_rfl) (by kernel_rfl) (by kernel_rfl) (fun _ _ _ h => h) (Or.inr ⟨by rfl, rfl⟩) hH ?_
              try simp only [Act.put, List.setIfInBounds_toArray, List.set_cons_zero, List.set_cons_succ, List.getElem_toArray, List.getElem_cons_succ, List.getElem_cons_zero]
              refine wpAnyH_take (i := 17) (v := undef) rfl (by kernel_rfl) (by kernel_rfl) (by kernel_rfl) (fun _ _ _ h => h) (Or.inr ⟨by rfl, rfl⟩) hH ?_
              try simp only [Act.put, List.setIfInBounds_toArray, List.set_cons_zero, List.set_cons_succ, List.getElem_toArray, List.getElem_cons_succ, List.getElem_cons_zero]
              refine wpAnyH_take (i := 18) (v := undef) rfl (by kernel_rfl) (by kernel_rfl) (by kernel_rfl) (fun _ _ _ h => h) (Or.inr ⟨by rfl, rfl⟩) hH ?_
              try simp only [Act.put, List.setIfInBounds_toArray, List.set_cons_zero, List.set_cons_succ, List.getElem_toArray, List.getElem_cons_succ, List.getElem_cons_zero]
              refine wpAnyH_take (i := 19) (v := undef) rfl (by kernel_rfl) (by kernel_rfl) (by kernel_rfl) (fun _ _ _ h => h) (Or.inr ⟨by rfl, rfl⟩) hH ?_
              try simp only [Act.put, List.setIfInBounds_toArray, List.set_cons_zero, List.set_cons_succ, List.getElem_toArray, List.getElem_cons_succ, List.getElem_cons_zero]
              refine wpAnyH_take (i := 20) (v := undef) rfl (by kernel_rfl) (by kernel_rfl) (by kernel_rfl) (fun _ _ _ h => h) (Or.inr ⟨by rfl, rfl⟩) hH ?_
              try simp only [Act.put, List.setIfInBounds_toArray, List.set_cons_zero, List.set_cons_succ, List.getElem_toArray, List.getElem_cons_succ, List.getElem_cons_zero]
              refine wpAnyH_take (i := 21) (v := undef) rfl (by kernel_rfl) (by kernel_rfl) (by kernel_rfl) (fun _ _ _ h => h) (Or.inr ⟨by rfl, rfl⟩) hH ?_
              try simp only [Act.put, List.setIfInBounds_toArray, List.set_cons_zero, List.set_cons_succ, List.getElem_toArray, List.getElem_cons_succ, List.getElem_cons_zero]
              refine wpAnyH_take (i := 22) (v := undef) rfl (by kernel_rfl) (by kernel_rfl) (by kernel_rfl) (fun _ _ _ h => h) (Or.inr ⟨by rfl, rfl⟩) hH ?_
              try simp only [Act.put, List.setIfInBounds_toArray, List.set_cons_zero, List.set_cons_succ, List.getElem_toArray, List.getElem_cons_succ, List.getElem_cons_zero]
              refine wpAnyH_take (i := 23) (v := undef) rfl (by kernel_rfl) (by kernel_rfl) (by kernel_rfl) (fun _ _ _ h => h) (Or.inr ⟨by rfl, rfl⟩) hH ?_
              try simp only [Act.put, List.setIfInBounds_toArray, List.set_cons_zero, List.set_cons_succ, List.getElem_toArray, List.getElem_cons_succ, List.getElem_cons_zero]
              refine wpAnyH_take (i := 24) (v := undef) rfl (by kernel_rfl) (by kernel_rfl) (by kernel_rfl) (fun _ _ _ h => h) (Or.inr ⟨by rfl, rfl⟩) hH ?_
              try simp only [Act.put, List.setIfInBounds_toArray, List.set_cons_zero, List.set_cons_succ, List.getElem_toArray, List.getElem_cons_succ, List.getElem_cons_zero]
              refine wpAnyH_take (i := 25) (v := undef) rfl (by kernel_rfl) (by kernel_rfl) (by kernel_rfl) (fun _ _ _ h => h) (Or.inr ⟨by rfl, rfl⟩) hH ?_
              try simp only [Act.put, List.setIfInBounds_toArray, List.set_cons_zero, List.set_cons_succ, List.getElem_toArray, List.getElem_cons_succ, List.getElem_cons_zero]
              refine wpAnyH_take (i := 26) (v := undef) rfl (by kernel_rfl) (by kernel_rfl) (by kernel_rfl) (fun _ _ _ h => h) (Or.inr ⟨by rfl, rfl⟩) hH ?_
              try simp only [Act.put, List.setIfInBounds_toArray, List.set_cons_zero, List.set_cons_succ, List.getElem_toArray, List.getElem_cons_succ, List.getElem_cons_zero]
              refine wpAnyH_take (i := 27) (v := .bool true) rfl (by kernel_rfl) (by kernel_rfl) (by kernel_rfl) (fun _ _ _ h => h) (Or.inl ⟨by rfl, fun w hSw => by clear hSw; go_simp⟩) hH ?_
              try simp only [Act.put, List.setIfInBounds_toArray, List.set_cons_zero, List.set_cons_succ, List.getElem_toArray, List.getElem_cons_succ, List.getElem_cons_zero]
              refine wpAnyH_take (i := 28) (v := .bool true) rfl (by kernel_rfl) (by kernel_rfl) (by kernel_rfl) (fun _ _ _ h => h) (Or.inl ⟨by rfl, fun w hSw => by clear hSw; go_simp⟩) hH ?_
              try simp only [Act.put, List.setIfInBounds_toArray, List.set_cons_zero, List.set_cons_succ, List.getElem_toArray, List.getElem_cons_succ, List.getElem_cons_zero]
              refine wpAnyH_take (i := 29) (v := undef) rfl (by kernel_rfl) (by kernel_rfl) (by kernel_rfl) (fun _ _ _ h => h) (Or.inr ⟨by rfl, rfl⟩) hH ?_
              try simp only [Act.put, List.setIfInBounds_toArray, List.set_cons_zero, List.set_cons_succ, List.getElem_toArray, List.getElem_cons_succ, List.getElem_cons_zero]
              refine wpAnyH_take (i := 30) (v := undef) rfl (by kernel_rfl) (by kernel_rfl) (by kernel_rfl) (fun _ _ _ h => h) (Or.inr ⟨by rfl, rfl⟩) hH ?_
              try simp only [Act.put, List.setIfInBounds_toArray, List.set_cons_zero, List.set_cons_succ, List.getElem_toArray, List.getElem_cons_succ, List.getElem_cons_zero]
              refine wpAnyH_take (i := 31) (v := undef) rfl (by kernel_rfl) (by kernel_rfl) (by kernel_rfl) (fun _ _ _ h => h) (Or.inr ⟨by rfl, rfl⟩) hH ?_
              try simp only [Act.put, List.setIfInBounds_toArray, List.set_cons_zero, List.set_cons_succ, List.getElem_toArray, List.getElem_cons_succ, List.getElem_cons_zero]
              refine wpAnyH_take (i := 32) (v := undef) rfl (by kernel_rfl) (by kernel_rfl) (by kernel_rfl) (fun _ _ _ h => h) (Or.inr ⟨by rfl, rfl⟩) hH ?_
              try simp only [Act.put, List.setIfInBounds_toArray, List.set_cons_zero, List.set_cons_succ, List.getElem_toArray, List.getElem_cons_succ, List.getElem_cons_zero]
              refine wpAnyH_take (i := 33) (v := undef) rfl (by kernel_rfl) (by kernel_rfl) (by kernel_rfl) (fun _ _ _ h => h) (Or.inr ⟨by rfl, rfl⟩) hH ?_
              try simp only [Act.put, List.setIfInBounds_toArray, List.set_cons_zero, List.set_cons_succ, List.getElem_toArray, List.getElem_cons_succ, List.getElem_cons_zero]
              refine wpAnyH_take (i := 34) (v := undef) rfl (by kernel_rfl) (by kernel_rfl) (by kernel_rfl) (fun _ _ _ h => h) (Or.inr ⟨by rfl, rfl⟩) hH ?_
              try simp only [Act.put, List.setIfInBounds_toArray, List.set_cons_zero, List.set_cons_succ, List.getElem_toArray, List.getElem_cons_succ, List.getElem_cons_zero]
              refine wpAnyH_take (i := 35) (v := undef) rfl (by kernel_rfl) (by kernel_rfl) (by kernel_rfl) (fun _ _ _ h => h) (Or.inr ⟨by rfl, rfl⟩) hH ?_
              try simp only [Act.put, List.setIfInBounds_toArray, List.set_cons_zero, List.set_cons_succ, List.getElem_toArray, List.getElem_cons_succ, List.getElem_cons_zero]
              refine wpAnyH_take (i := 36) (v := undef) rfl (by kernel_rfl) (by kernel_rfl) (by kernel_rfl) (fun _ _ _ h => h) (Or.inr ⟨by rfl, rfl⟩) hH ?_
              try simp only [Act.put, List.setIfInBounds_toArray, List.set_cons_zero, List.set_cons_succ, List.getElem_toArray, List.getElem_cons_succ, List.getElem_cons_zero]
              refine wpAnyH_take (i := 37) (v := undef) rfl (by kernel_rfl) (by kernel_rfl) (by kernel_rfl) (fun _ _ _ h => h) (Or.inr ⟨by rfl, rfl⟩) hH ?_
              try simp only [Act.put, List.setIfInBounds_toArray, List.set_cons_zero, List.set_cons_succ, List.getElem_toArray, List.getElem_cons_succ, List.getElem_cons_zero]
              refine wpAnyH_take (i := 38) (v := undef) rfl (by kernel_rfl) (by kernel_rfl) (by kernel_rfl) (fun _ _ _ h => h) (Or.inr ⟨by rfl, rfl⟩) hH ?_
              try simp only [Act.put, List.setIfInBounds_toArray, List.set_cons_zero, List.set_cons_succ, List.getElem_toArray, List.getElem_cons_succ, List.getElem_cons_zero]
              refine wpAnyH_take (i := 39) (v := undef) rfl (by kernel_rfl) (by kernel_rfl) (by kernel_rfl) (fun _ _ _ h => h) (Or.inr ⟨by rfl, rfl⟩) hH ?_
              try simp only [Act.put, List.setIfInBounds_toArray, List.set_cons_zero, List.set_cons_succ, List.getElem_toArray, List.getElem_cons_succ, List.getElem_cons_zero]
              refine wpAnyH_take (i := 40) (v := undef) rfl (by kernel_rfl) (by kernel_rfl) (by kernel_rfl) (fun _ _ _ h => h) (Or.inr ⟨by rfl, rfl⟩) hH ?_
              try simp only [Act.put, List.setIfInBounds_toArray, List.set_cons_zero, List.set_cons_succ, List.getElem_toArray, List.getElem_cons_succ, List.getElem_cons_zero]
              refine wpAnyH_take (i := 41) (v := undef) rfl (by kernel_rfl) (by kernel_rfl) (by kernel_rfl) (fun _ _ _ h => h) (Or.inr ⟨by rfl, rfl⟩) hH ?_
              try simp only [Act.put, List.setIfInBounds_toArray, List.set_cons_zero, List.set_cons_succ, List.getElem_toArray, List.getElem_cons_succ, List.getElem_cons_zero]
              refine wpAnyH_take (i := 42) (v := undef) rfl (by kernel_rfl) (by kernel_rfl) (by kernel_rfl) (fun _ _ _ h => h) (Or.inr ⟨by rfl, rfl⟩) hH ?_
              try simp only [Act.put, List.setIfInBounds_toArray, List.set_cons_zero, List.set_cons_succ, List.getElem_toArray, List.getElem_cons_succ, List.getElem_cons_zero]
              refine wpAnyH_take (i := 43) (v := undef) rfl (by kernel_rfl) (by kernel_rfl) (by kernel_rfl) (fun _ _ _ h => h) (Or.inr ⟨by rfl, rfl⟩) hH ?_
              try simp only [Act.put, List.setIfInBounds_toArray, List.set_cons_zero, List.set_cons_succ, List.getElem_toArray, List.getElem_cons_succ, List.getElem_cons_zero]
              refine wpAnyH_take (i := 44) (v := undef) rfl (by kernel_rfl) (by kernel_rfl) (by kernel_rfl) (fun _ _ _ h => h) (Or.inr ⟨by rfl, rfl⟩) hH ?_
              try simp only [Act.put, List.setIfInBounds_toArray, List.set_cons_zero, List.set_cons_succ, List.getElem_toArray, List.getElem_cons_succ, List.getElem_cons_zero]
              refine wpAnyH_take (i := 45) (v := undef) rfl (by kernel_rfl) (by kernel_rfl) (by kernel_rfl) (fun _ _ _ h => h) (Or.inr ⟨by rfl, rfl⟩) hH ?_
              try simp only [Act.put, List.setIfInBounds_toArray, List.set_cons_zero, List.set_cons_succ, List.getElem_toArray, List.getElem_cons_succ, List.getElem_cons_zero]
              refine wpAnyH_take (i := 46) (v := undef) rfl (by kernel_rfl) (by kernel_rfl) (by kernel_rfl) (fun _ _ _ h => h) (Or.inr ⟨by rfl, rfl⟩) hH ?_
              try simp only [Act.put, List.setIfInBounds_toArray, List.set_cons_zero, List.set_cons_succ, List.getElem_toArray, List.getElem_cons_succ, List.getElem_cons_zero]
              refine wpAnyH_take (i := 47) (v := undef) rfl (by kernel_rfl) (by kernel_rfl) (by kernel_rfl) (fun _ _ _ h => h) (Or.inr ⟨by rfl, rfl⟩) hH ?_
              try simp only [Act.put, List.setIfInBounds_toArray, List.set_cons_zero, List.set_cons_succ, List.getElem_toArray, List.getElem_cons_succ, List.getElem_cons_zero]
              refine wpAnyH_take (i := 48) (v := undef) rfl (by kernel_rfl) (by kernel_rfl) (by kernel_rfl) (fun _ _ _ h => h) (Or.inr ⟨by rfl, rfl⟩) hH ?_
              try simp only [Act.put, List.setIfInBounds_toArray, List.set_cons_zero, List.set_cons_succ, List.getElem_toArray, List.getElem_cons_succ, List.getElem_cons_zero]
              refine wpAnyH_take (i := 49) (v := undef) rfl (by kernel_rfl) (by kernel_rfl) (by kernel_rfl) (fun _ _ _ h => h) (Or.inr ⟨by rfl, rfl⟩) hH ?_
              try simp only [Act.put, List.setIfInBounds_toArray, List.set_cons_zero, List.set_cons_succ, List.getElem_toArray, List.getElem_cons_succ, List.getElem_cons_zero]
              refine wpAnyH_take (i := 50) (v := undef) rfl (by kernel_rfl) (by kernel_rfl) (by kernel_rfl) (fun _ _ _ h => h) (Or.inr ⟨by rfl, rfl⟩) hH ?_
              try simp only [Act.put, List.setIfInBounds_toArray, List.set_cons_zero, List.set_cons_succ, List.getElem_toArray, List.getElem_cons_succ, List.getElem_cons_zero]
              refine wpAnyH_take (i := 51) (v := undef) rfl (by kernel_rfl) (by kernel_rfl) (by kernel_rfl) (fun _ _ _ h => h) (Or.inr ⟨by rfl, rfl⟩) hH ?_
              try simp only [Act.put, List.setIfInBounds_toArray, List.set_cons_zero, List.set_cons_succ, List.getElem_toArray, List.getElem_cons_succ, List.getElem_cons_zero]
              refine wpAnyH_take (i := 52) (v := undef) rfl (by kernel_rfl) (by kernel_rfl) (by kernel_rfl) (fun _ _ _ h => h) (Or.inr ⟨by rfl, rfl⟩) hH ?_
              try simp only [Act.put, List.setIfInBounds_toArray, List.set_cons_zero, List.set_cons_succ, List.getElem_toArray, List.getElem_cons_succ, List.getElem_cons_zero]
              refine wpAnyH_take (i := 53) (v := undef) rfl (by kernel_rfl) (by kernel_rfl) (by kernel_rfl) (fun _ _ _ h => h) (Or.inr ⟨by rfl, rfl⟩) hH ?_
              try simp only [Act.put, List.setIfInBounds_toArray, List.set_cons_zero, List.set_cons_succ, List.getElem_toArray, List.getElem_cons_succ, List.getElem_cons_zero]
              refine wpAnyH_take (i := 54) (v := undef) rfl (by kernel_rfl) (by kernel_rfl) (by kernel_rfl) (fun _ _ _ h => h) (Or.inr ⟨by rfl, rfl⟩) hH ?_
              try simp only [Act.put, List.setIfInBounds_toArray, List.set_cons_zero, List.set_cons_succ, List.getElem_toArray, List.getElem_cons_succ, List.getElem_cons_zero]
              refine wpAnyH_take (i := 55) (v := undef) rfl (by kernel_rfl) (by kernel_rfl) (by kernel_rfl) (fun _ _ _ h => h) (Or.inr ⟨by rfl, rfl⟩) hH ?_
              try simp only [Act.put, List.setIfInBounds_toArray, List.set_cons_zero, List.set_cons_succ, List.getElem_toArray, List.getElem_cons_succ, List.getElem_cons_zero]
              refine wpAnyH_take (i := 56) (v := undef) rfl (by kernel_rfl) (by kernel_rfl) (by kernel_rfl) (fun _ _ _ h => h) (Or.inr ⟨by rfl, rfl⟩) hH ?_
              try simp only [Act.put, List.setIfInBounds_toArray, List.set_cons_zero, List.set_cons_succ, List.getElem_toArray, List.getElem_cons_succ, List.getElem_cons_zero]
              refine wpAnyH_take (i := 57) (v := undef) rfl (by kernel_rfl) (by kernel_rfl) (by kernel_rfl) (fun _ _ _ h => h) (Or.inr ⟨by rfl, rfl⟩) hH ?_
              try simp only [Act.put, List.setIfInBounds_toArray, List.set_cons_zero, List.set_cons_succ, List.getElem_toArray, List.getElem_cons_succ, List.getElem_cons_zero]
              refine wpAnyH_take (i := 58) (v := undef) rfl (by kernel_rfl) (by kernel_rfl) (by kernel_rfl) (fun _ _ _ h => h) (Or.inr ⟨by rfl, rfl⟩) hH ?_
              try simp only [Act.put, List.setIfInBounds_toArray, List.set_cons_zero, List.set_cons_succ, List.getElem_toArray, List.getElem_cons_succ, List.getElem_cons_zero]
              refine wpAnyH_take (i := 59) (v := undef) rfl (by kernel_rfl) (by kernel_rfl) (by kernel_rfl) (fun _ _ _ h => h) (Or.inr ⟨by rfl, rfl⟩) hH ?_
              try simp only [Act.put, List.setIfInBounds_toArray, List.set_cons_zero, List.set_cons_succ, List.getElem_toArray, List.getElem_cons_succ, List.getElem_cons_zero]
              refine wpAnyH_take (i := 60) (v := .bool true) rfl (by kernel_rfl) (by kernel_rfl) (by kernel_rfl) (fun _ _ _ h => h) (Or.inl ⟨by rfl, fun w hSw => by clear hSw; go_simp⟩) hH ?_
              try simp only [Act.put, List.setIfInBounds_toArray, List.set_cons_zero, List.set_cons_succ, List.getElem_toArray, List.getElem_cons_succ, List.getElem_cons_zero]
              refine wpAnyH_done (by kernel_rfl) ?_ _
              have HE : Hid (One wa wa.heap.size (.slice (some ⟨g, 0, none⟩) k cq) L wj.drew) := HOj.out _ hH
              have hm0 : IntKind.i64.wrap ((m : Int) - 1) = (m : Int) - 1 := wrap_id _ (by omega) (by omega)
              clear HOj hH
              go_wp2_with fail
              go_roundw
              case rel => exact ⟨m - 1, hm3, by omega, by rw [show (m : Int) - 1 = ((m - 1 : Nat) : Int) by omega], HE.out⟩
              case measure => simp [intOf]; omega
          obtain ⟨sb, hsb, hsr, hgo⟩ := HGo.out m hm2 (by rw [← HMe.out]; omega)
          rw [← HMe.out] at hsb
          have hw2 : IntKind.i64.wrap ((rm : Int) - mv) = (sb : Int) := by rw [hsb]; exact wrap_id _ (by omega) (by omega)
          have hw5 : IntKind.i64.wrap (sb : Int) = (sb : Int) := wrap_id _ (by omega) (by omega)
          have hsb2 : (sb : Int) < (wn : Int) + 1 := by omega
          have hIs := HIb.out sb
          have hGs := HGb.out m
          have HQ2 : Hid (∀ W, Below wj.heap.size wj W → (W.cell? ⟨b0, o0 + k * 4, none⟩ = some (.string nm) ∧ W.cell? ⟨b0, o0 + k * 4 + 1, none⟩ = some (.int .i64 wf) ∧ W.cell? ⟨b0, o0 + k * 4 + 2, none⟩ = some (.int .i64 ls) ∧ W.cell? ⟨b0, o0 + k * 4 + 3, none⟩ = some (.slice h n cp)) ∧ W.cell? ⟨gb, k, none⟩ = some (.slice (some ⟨bk, 0, none⟩) (wn + 1) (wn + 1)) ∧ W.cell? ⟨gb, k + 1, none⟩ = some (.slice (some ⟨bp, 0, none⟩) (wn + 1) (wn + 1)) ∧ W.cell? ⟨bk, rm, none⟩ = some (.int .i64 best) ∧ W.cell? ⟨bp, sb, none⟩ = some (.int .i64 (I0 sb))) := fun W hb => by
            obtain ⟨k0, k1, k2, k3, k4⟩ := HQ.out W hb
            exact ⟨k0, k1, k2, k3, k4 sb (by omega)⟩
          have HEq : Hid (m = cn → 0 ≤ I0 sb ∧ I0 sb + gnN gs m = best) := fun e => by
            have h1 := HOk.out.2 sb (by rw [← e, ← HMe.out]; exact hsb)
            rw [← e] at h1
            exact h1
          have HGo2 : Hid (0 ≤ I0 sb → I0 sb + gnN gs m = best → m = cn) := fun a1 a2 => by have := hgo a1 a2; omega
          have HGc : Hid (∀ W, Below wj.heap.size wj W → Calls Try.prog 41 #[.agg #[.string nm, .int .i64 wf, .int .i64 ls, .slice h n cp], .int .i64 (m : Int)] W fun e w' => e = .returned (.int .i64 (gnN gs m)) ∧ Below W.heap.size W w') := fun W hb => HGn.out m hm2 W (chain HO.out.2.2 hb)
          have HOj : Hid (∀ W, Below wj.heap.size wj W → One wa wa.heap.size (.slice (some ⟨g, 0, none⟩) k cq) L W) := fun W hb => HO.out.later hb
          clear HQ hgo hsb HO
          generalize I0 sb = rv at *
          generalize gnN gs m = gv at *
          by_cases hr0 : rv < 0
          · have hne : m ≠ cn := fun e => by have := (HEq.out e).1; omega
            have hm3 : cn ≤ m - 1 := by omega
            clear HEq HGo2 HGc
            go_upto_region 31 with fail
            as_aux_lemma =>
              refine wp_region_held_drew (S := fun W' => Below wj.heap.size wj W') (by kernel_rfl) (below_drew _) (fun hH => ?_)
              refine wpAnyH_take (i := 0) (v := .int .i64 ((m : Int))) rfl (by kernel_rfl) (by kernel_rfl) (by kernel_rfl) (fun _ _ _ h => h) (Or.inl ⟨by rfl, fun w hSw => by clear hSw; go_simp⟩) hH ?_
              refine wpAnyH_take (i := 1) (v := .slice (some ⟨b0, o0, none⟩) rs.length cap) rfl (by kernel_rfl) (by kernel_rfl) (by kernel_rfl) (fun _ _ _ h => h) (Or.inl ⟨by rfl, fun w hSw => by clear hSw; go_simp⟩) hH ?_
              try simp only [Act.put, List.setIfInBounds_toArray, List.set_cons_zero, List.set_cons_succ, List.getElem_toArray, List.getElem_cons_succ, List.getElem_cons_zero]
              refine wpAnyH_take (i := 2) (v := .int .i64 ((k : Int))) rfl (by kernel_rfl) (by kernel_rfl) (by kernel_rfl) (fun _ _ _ h => h) (Or.inl ⟨by rfl, fun w hSw => by clear hSw; go_simp⟩) hH ?_
              try simp only [Act.put, List.setIfInBounds_toArray, List.set_cons_zero, List.set_cons_succ, List.getElem_toArray, List.getElem_cons_succ, List.getElem_cons_zero]
              refine wpAnyH_take (i := 3) (v := .pointer (some ⟨b0, o0 + k * 4, none⟩)) rfl (by kernel_rfl) (by kernel_rfl) (by kernel_rfl) (fun _ _ _ h => h) (Or.inl ⟨by rfl, fun w hSw => by clear hSw; go_simp⟩) hH ?_
              try simp only [Act.put, List.setIfInBounds_toArray, List.set_cons_zero, List.set_cons_succ, List.getElem_toArray, List.getElem_cons_succ, List.getElem_cons_zero]
              refine wpAnyH_take (i := 4) (v := .pointer (some ⟨b0, o0 + k * 4 + 1, none⟩)) rfl (by kernel_rfl) (by kernel_rfl) (by kernel_rfl) (fun _ _ _ h => h) (Or.inl ⟨by rfl, fun w hSw => by clear hSw; go_simp⟩) hH ?_
              try simp only [Act.put, List.setIfInBounds_toArray, List.set_cons_zero, List.set_cons_succ, List.getElem_toArray, List.getElem_cons_succ, List.getElem_cons_zero]
              refine wpAnyH_take (i := 5) (v := .int .i64 wf) rfl (by kernel_rfl) (by kernel_rfl) (by kernel_rfl) (fun _ _ _ h => h) (Or.inl ⟨by rfl, fun w hSw => by have f0 := (HQ2.out w hSw).1.2.1; clear hSw; go_simp⟩) hH ?_
              try simp only [Act.put, List.setIfInBounds_toArray, List.set_cons_zero, List.set_cons_succ, List.getElem_toArray, List.getElem_cons_succ, List.getElem_cons_zero]
              refine wpAnyH_take (i := 6) (v := .int .i64 mv) rfl (by kernel_rfl) (by kernel_rfl) (by kernel_rfl) (fun _ _ _ h => h) (Or.inl ⟨by rfl, fun w hSw => by clear hSw; go_simp⟩) hH ?_
              try simp only [Act.put, List.setIfInBounds_toArray, List.set_cons_zero, List.set_cons_succ, List.getElem_toArray, List.getElem_cons_succ, List.getElem_cons_zero]
              refine wpAnyH_take (i := 7) (v := .int .i64 ((rm : Int))) rfl (by kernel_rfl) (by kernel_rfl) (by kernel_rfl) (fun _ _ _ h => h) (Or.inl ⟨by rfl, fun w hSw => by clear hSw; go_simp⟩) hH ?_
              try simp only [Act.put, List.setIfInBounds_toArray, List.set_cons_zero, List.set_cons_succ, List.getElem_toArray, List.getElem_cons_succ, List.getElem_cons_zero]
              refine wpAnyH_take (i := 8) (v := .bool false) rfl (by kernel_rfl) (by kernel_rfl) (by kernel_rfl) (fun _ _ _ h => h) (Or.inl ⟨by rfl, fun w hSw => by clear hSw; go_simp⟩) hH ?_
              try simp only [Act.put, List.setIfInBounds_toArray, List.set_cons_zero, List.set_cons_succ, List.getElem_toArray, List.getElem_cons_succ, List.getElem_cons_zero]
              refine wpAnyH_take (i := 9) (v := .bool false) rfl (by kernel_rfl) (by kernel_rfl) (by kernel_rfl) (fun _ _ _ h => h) (Or.inl ⟨by rfl, fun w hSw => by clear hSw; go_simp⟩) hH ?_
              try simp only [Act.put, List.setIfInBounds_toArray, List.set_cons_zero, List.set_cons_succ, List.getElem_toArray, List.getElem_cons_succ, List.getElem_cons_zero]
              refine wpAnyH_take (i := 10) (v := .slice (some ⟨gb, 0, none⟩) (rs.length + 1) (rs.length + 1)) rfl (by kernel_rfl) (by kernel_rfl) (by kernel_rfl) (fun _ _ _ h => h) (Or.inl ⟨by rfl, fun w hSw => by clear hSw; go_simp⟩) hH ?_
              try simp only [Act.put, List.setIfInBounds_toArray, List.set_cons_zero, List.set_cons_succ, List.getElem_toArray, List.getElem_cons_succ, List.getElem_cons_zero]
              refine wpAnyH_take (i := 11) (v := .int .i64 ((k : Int))) rfl (by kernel_rfl) (by kernel_rfl) (by kernel_rfl) (fun _ _ _ h => h) (Or.inl ⟨by rfl, fun w hSw => by clear hSw; go_simp⟩) hH ?_
              try simp only [Act.put, List.setIfInBounds_toArray, List.set_cons_zero, List.set_cons_succ, List.getElem_toArray, List.getElem_cons_succ, List.getElem_cons_zero]
              refine wpAnyH_take (i := 12) (v := .int .i64 ((k : Int) + 1)) rfl (by kernel_rfl) (by kernel_rfl) (by kernel_rfl) (fun _ _ _ h => h) (Or.inl ⟨by rfl, fun w hSw => by clear hSw; go_simp⟩) hH ?_
              try simp only [Act.put, List.setIfInBounds_toArray, List.set_cons_zero, List.set_cons_succ, List.getElem_toArray, List.getElem_cons_succ, List.getElem_cons_zero]
              refine wpAnyH_take (i := 13) (v := .pointer (some ⟨gb, k + 1, none⟩)) rfl (by kernel_rfl) (by kernel_rfl) (by kernel_rfl) (fun _ _ _ h => h) (Or.inl ⟨by rfl, fun w hSw => by clear hSw; go_simp⟩) hH ?_
              try simp only [Act.put, List.setIfInBounds_toArray, List.set_cons_zero, List.set_cons_succ, List.getElem_toArray, List.getElem_cons_succ, List.getElem_cons_zero]
              refine wpAnyH_take (i := 14) (v := .slice (some ⟨bp, 0, none⟩) (wn + 1) (wn + 1)) rfl (by kernel_rfl) (by kernel_rfl) (by kernel_rfl) (fun _ _ _ h => h) (Or.inl ⟨by rfl, fun w hSw => by have f0 := (HQ2.out w hSw).2.2.1; clear hSw; go_simp⟩) hH ?_
              try simp only [Act.put, List.setIfInBounds_toArray, List.set_cons_zero, List.set_cons_succ, List.getElem_toArray, List.getElem_cons_succ, List.getElem_cons_zero]
              refine wpAnyH_take (i := 15) (v := .int .i64 ((rm : Int))) rfl (by kernel_rfl) (by kernel_rfl) (by kernel_rfl) (fun _ _ _ h => h) (Or.inl ⟨by rfl, fun w hSw => by clear hSw; go_simp⟩) hH ?_
              try simp only [Act.put, List.setIfInBounds_toArray, List.set_cons_zero, List.set_cons_succ, List.getElem_toArray, List.getElem_cons_succ, List.getElem_cons_zero]
              refine wpAnyH_take (i := 16) (v := .int .i64 ((m : Int))) rfl (by kernel_rfl) (by kernel_rfl) (by kernel_rfl) (fun _ _ _ h => h) (Or.inl ⟨by rfl, fun w hSw => by clear hSw; go_simp⟩) hH ?_
              try simp only [Act.put, List.setIfInBounds_toArray, List.set_cons_zero, List.set_cons_succ, List.getElem_toArray, List.getElem_cons_succ, List.getElem_cons_zero]
              refine wpAnyH_take (i := 17) (v := .slice (some ⟨b0, o0, none⟩) rs.length cap) rfl (by kernel_rfl) (by kernel_rfl) (by kernel_rfl) (fun _ _ _ h => h) (Or.inl ⟨by rfl, fun w hSw => by clear hSw; go_simp⟩) hH ?_
              try simp only [Act.put, List.setIfInBounds_toArray, List.set_cons_zero, List.set_cons_succ, List.getElem_toArray, List.getElem_cons_succ, List.getElem_cons_zero]
              refine wpAnyH_take (i := 18) (v := .int .i64 ((k : Int))) rfl (by kernel_rfl) (by kernel_rfl) (by kernel_rfl) (fun _ _ _ h => h) (Or.inl ⟨by rfl, fun w hSw => by clear hSw; go_simp⟩) hH ?_
              try simp only [Act.put, List.setIfInBounds_toArray, List.set_cons_zero, List.set_cons_succ, List.getElem_toArray, List.getElem_cons_succ, List.getElem_cons_zero]
              refine wpAnyH_take (i := 19) (v := .pointer (some ⟨b0, o0 + k * 4, none⟩)) rfl (by kernel_rfl) (by kernel_rfl) (by kernel_rfl) (fun _ _ _ h => h) (Or.inl ⟨by rfl, fun w hSw => by clear hSw; go_simp⟩) hH ?_
              try simp only [Act.put, List.setIfInBounds_toArray, List.set_cons_zero, List.set_cons_succ, List.getElem_toArray, List.getElem_cons_succ, List.getElem_cons_zero]
              refine wpAnyH_take (i := 20) (v := .pointer (some ⟨b0, o0 + k * 4 + 1, none⟩)) rfl (by kernel_rfl) (by kernel_rfl) (by kernel_rfl) (fun _ _ _ h => h) (Or.inl ⟨by rfl, fun w hSw => by clear hSw; go_simp⟩) hH ?_
              try simp only [Act.put, List.setIfInBounds_toArray, List.set_cons_zero, List.set_cons_succ, List.getElem_toArray, List.getElem_cons_succ, List.getElem_cons_zero]
              refine wpAnyH_take (i := 21) (v := .int .i64 wf) rfl (by kernel_rfl) (by kernel_rfl) (by kernel_rfl) (fun _ _ _ h => h) (Or.inl ⟨by rfl, fun w hSw => by have f0 := (HQ2.out w hSw).1.2.1; clear hSw; go_simp⟩) hH ?_
              try simp only [Act.put, List.setIfInBounds_toArray, List.set_cons_zero, List.set_cons_succ, List.getElem_toArray, List.getElem_cons_succ, List.getElem_cons_zero]
              refine wpAnyH_take (i := 22) (v := .int .i64 mv) rfl (by kernel_rfl) (by kernel_rfl) (by kernel_rfl) (fun _ _ _ h => h) (Or.inl ⟨by rfl, fun w hSw => by clear hSw; go_simp⟩) hH ?_
              try simp only [Act.put, List.setIfInBounds_toArray, List.set_cons_zero, List.set_cons_succ, List.getElem_toArray, List.getElem_cons_succ, List.getElem_cons_zero]
              refine wpAnyH_take (i := 23) (v := .int .i64 ((sb : Int))) rfl (by kernel_rfl) (by kernel_rfl) (by kernel_rfl) (fun _ _ _ h => h) (Or.inl ⟨by rfl, fun w hSw => by clear hSw; go_simp⟩) hH ?_
              try simp only [Act.put, List.setIfInBounds_toArray, List.set_cons_zero, List.set_cons_succ, List.getElem_toArray, List.getElem_cons_succ, List.getElem_cons_zero]
              refine wpAnyH_take (i := 24) (v := .pointer (some ⟨bp, sb, none⟩)) rfl (by kernel_rfl) (by kernel_rfl) (by kernel_rfl) (fun _ _ _ h => h) (Or.inl ⟨by rfl, fun w hSw => by clear hSw; go_simp⟩) hH ?_
              try simp only [Act.put, List.setIfInBounds_toArray, List.set_cons_zero, List.set_cons_succ, List.getElem_toArray, List.getElem_cons_succ, List.getElem_cons_zero]
              refine wpAnyH_take (i := 25) (v := .int .i64 rv) rfl (by kernel_rfl) (by kernel_rfl) (by kernel_rfl) (fun _ _ _ h => h) (Or.inl ⟨by rfl, fun w hSw => by have f0 := (HQ2.out w hSw).2.2.2.2; clear hSw; go_simp⟩) hH ?_
              try simp only [Act.put, List.setIfInBounds_toArray, List.set_cons_zero, List.set_cons_succ, List.getElem_toArray, List.getElem_cons_succ, List.getElem_cons_zero]
              refine wpAnyH_take (i := 26) (v := .bool true) rfl (by kernel_rfl) (by kernel_rfl) (by kernel_rfl) (fun _ _ _ h => h) (Or.inl ⟨by rfl, fun w hSw => by clear hSw; go_simp⟩) hH ?_
              try simp only [Act.put, List.setIfInBounds_toArray, List.set_cons_zero, List.set_cons_succ, List.getElem_toArray, List.getElem_cons_succ, List.getElem_cons_zero]
              refine wpAnyH_take (i := 27) (v := .bool true) rfl (by kernel_rfl) (by kernel_rfl) (by kernel_rfl) (fun _ _ _ h => h) (Or.inl ⟨by rfl, fun w hSw => by clear hSw; go_simp⟩) hH ?_
              try simp only [Act.put, List.setIfInBounds_toArray, List.set_cons_zero, List.set_cons_succ, List.getElem_toArray, List.getElem_cons_succ, List.getElem_cons_zero]
              refine wpAnyH_take (i := 28) (v := .bool true) rfl (by kernel_rfl) (by kernel_rfl) (by kernel_rfl) (fun _ _ _ h => h) (Or.inl ⟨by rfl, fun w hSw => by clear hSw; go_simp⟩) hH ?_
              try simp only [Act.put, List.setIfInBounds_toArray, List.set_cons_zero, List.set_cons_succ, List.getElem_toArray, List.getElem_cons_succ, List.getElem_cons_zero]
              refine wpAnyH_take (i := 29) (v := undef) rfl (by kernel_rfl) (by kernel_rfl) (by kernel_rfl) (fun _ _ _ h => h) (Or.inr ⟨by rfl, rfl⟩) hH ?_
              try simp only [Act.put, List.setIfInBounds_toArray, List.set_cons_zero, List.set_cons_succ, List.getElem_toArray, List.getElem_cons_succ, List.getElem_cons_zero]
              refine wpAnyH_take (i := 30) (v := undef) rfl (by kernel_rfl) (by kernel_rfl) (by kernel_rfl) (fun _ _ _ h => h) (Or.inr ⟨by rfl, rfl⟩) hH ?_
              try simp only [Act.put, List.setIfInBounds_toArray, List.set_cons_zero, List.set_cons_succ, List.getElem_toArray, List.getElem_cons_succ, List.getElem_cons_zero]
              refine wpAnyH_take (i := 31) (v := undef) rfl (by kernel_rfl) (by kernel_rfl) (by kernel_rfl) (fun _ _ _ h => h) (Or.inr ⟨by rfl, rfl⟩) hH ?_
              try simp only [Act.put, List.setIfInBounds_toArray, List.set_cons_zero, List.set_cons_succ, List.getElem_toArray, List.getElem_cons_succ, List.getElem_cons_zero]
              refine wpAnyH_take (i := 32) (v := undef) rfl (by kernel_rfl) (by kernel_rfl) (by kernel_rfl) (fun _ _ _ h => h) (Or.inr ⟨by rfl, rfl⟩) hH ?_
              try simp only [Act.put, List.setIfInBounds_toArray, List.set_cons_zero, List.set_cons_succ, List.getElem_toArray, List.getElem_cons_succ, List.getElem_cons_zero]
              refine wpAnyH_take (i := 33) (v := undef) rfl (by kernel_rfl) (by kernel_rfl) (by kernel_rfl) (fun _ _ _ h => h) (Or.inr ⟨by rfl, rfl⟩) hH ?_
              try simp only [Act.put, List.setIfInBounds_toArray, List.set_cons_zero, List.set_cons_succ, List.getElem_toArray, List.getElem_cons_succ, List.getElem_cons_zero]
              refine wpAnyH_take (i := 34) (v := undef) rfl (by kernel_rfl) (by kernel_rfl) (by kernel_rfl) (fun _ _ _ h => h) (Or.inr ⟨by rfl, rfl⟩) hH ?_
              try simp only [Act.put, List.setIfInBounds_toArray, List.set_cons_zero, List.set_cons_succ, List.getElem_toArray, List.getElem_cons_succ, List.getElem_cons_zero]
              refine wpAnyH_take (i := 35) (v := undef) rfl (by kernel_rfl) (by kernel_rfl) (by kernel_rfl) (fun _ _ _ h => h) (Or.inr ⟨by rfl, rfl⟩) hH ?_
              try simp only [Act.put, List.setIfInBounds_toArray, List.set_cons_zero, List.set_cons_succ, List.getElem_toArray, List.getElem_cons_succ, List.getElem_cons_zero]
              refine wpAnyH_take (i := 36) (v := undef) rfl (by kernel_rfl) (by kernel_rfl) (by kernel_rfl) (fun _ _ _ h => h) (Or.inr ⟨by rfl, rfl⟩) hH ?_
              try simp only [Act.put, List.setIfInBounds_toArray, List.set_cons_zero, List.set_cons_succ, List.getElem_toArray, List.getElem_cons_succ, List.getElem_cons_zero]
              refine wpAnyH_take (i := 37) (v := undef) rfl (by kernel_rfl) (by kernel_rfl) (by kernel_rfl) (fun _ _ _ h => h) (Or.inr ⟨by rfl, rfl⟩) hH ?_
              try simp only [Act.put, List.setIfInBounds_toArray, List.set_cons_zero, List.set_cons_succ, List.getElem_toArray, List.getElem_cons_succ, List.getElem_cons_zero]
              refine wpAnyH_take (i := 38) (v := undef) rfl (by kernel_rfl) (by kernel_rfl) (by kernel_rfl) (fun _ _ _ h => h) (Or.inr ⟨by rfl, rfl⟩) hH ?_
              try simp only [Act.put, List.setIfInBounds_toArray, List.set_cons_zero, List.set_cons_succ, List.getElem_toArray, List.getElem_cons_succ, List.getElem_cons_zero]
              refine wpAnyH_take (i := 39) (v := undef) rfl (by kernel_rfl) (by kernel_rfl) (by kernel_rfl) (fun _ _ _ h => h) (Or.inr ⟨by rfl, rfl⟩) hH ?_
              try simp only [Act.put, List.setIfInBounds_toArray, List.set_cons_zero, List.set_cons_succ, List.getElem_toArray, List.getElem_cons_succ, List.getElem_cons_zero]
              refine wpAnyH_take (i := 40) (v := undef) rfl (by kernel_rfl) (by kernel_rfl) (by kernel_rfl) (fun _ _ _ h => h) (Or.inr ⟨by rfl, rfl⟩) hH ?_
              try simp only [Act.put, List.setIfInBounds_toArray, List.set_cons_zero, List.set_cons_succ, List.getElem_toArray, List.getElem_cons_succ, List.getElem_cons_zero]
              refine wpAnyH_take (i := 41) (v := undef) rfl (by kernel_rfl) (by kernel_rfl) (by kernel_rfl) (fun _ _ _ h => h) (Or.inr ⟨by rfl, rfl⟩) hH ?_
              try simp only [Act.put, List.setIfInBounds_toArray, List.set_cons_zero, List.set_cons_succ, List.getElem_toArray, List.getElem_cons_succ, List.getElem_cons_zero]
              refine wpAnyH_take (i := 42) (v := undef) rfl (by kernel_rfl) (by kernel_rfl) (by kernel_rfl) (fun _ _ _ h => h) (Or.inr ⟨by rfl, rfl⟩) hH ?_
              try simp only [Act.put, List.setIfInBounds_toArray, List.set_cons_zero, List.set_cons_succ, List.getElem_toArray, List.getElem_cons_succ, List.getElem_cons_zero]
              refine wpAnyH_take (i := 43) (v := undef) rfl (by kernel_rfl) (by kernel_rfl) (by kernel_rfl) (fun _ _ _ h => h) (Or.inr ⟨by rfl, rfl⟩) hH ?_
              try simp only [Act.put, List.setIfInBounds_toArray, List.set_cons_zero, List.set_cons_succ, List.getElem_toArray, List.getElem_cons_succ, List.getElem_cons_zero]
              refine wpAnyH_take (i := 44) (v := undef) rfl (by kernel_rfl) (by kernel_rfl) (by kernel_rfl) (fun _ _ _ h => h) (Or.inr ⟨by rfl, rfl⟩) hH ?_
              try simp only [Act.put, List.setIfInBounds_toArray, List.set_cons_zero, List.set_cons_succ, List.getElem_toArray, List.getElem_cons_succ, List.getElem_cons_zero]
              refine wpAnyH_take (i := 45) (v := undef) rfl (by kernel_rfl) (by kernel_rfl) (by kernel_rfl) (fun _ _ _ h => h) (Or.inr ⟨by rfl, rfl⟩) hH ?_
              try simp only [Act.put, List.setIfInBounds_toArray, List.set_cons_zero, List.set_cons_succ, List.getElem_toArray, List.getElem_cons_succ, List.getElem_cons_zero]
              refine wpAnyH_take (i := 46) (v := undef) rfl (by kernel_rfl) (by kernel_rfl) (by kernel_rfl) (fun _ _ _ h => h) (Or.inr ⟨by rfl, rfl⟩) hH ?_
              try simp only [Act.put, List.setIfInBounds_toArray, List.set_cons_zero, List.set_cons_succ, List.getElem_toArray, List.getElem_cons_succ, List.getElem_cons_zero]
              refine wpAnyH_take (i := 47) (v := undef) rfl (by kernel_rfl) (by kernel_rfl) (by kernel_rfl) (fun _ _ _ h => h) (Or.inr ⟨by rfl, rfl⟩) hH ?_
              try simp only [Act.put, List.setIfInBounds_toArray, List.set_cons_zero, List.set_cons_succ, List.getElem_toArray, List.getElem_cons_succ, List.getElem_cons_zero]
              refine wpAnyH_take (i := 48) (v := undef) rfl (by kernel_rfl) (by kernel_rfl) (by kernel_rfl) (fun _ _ _ h => h) (Or.inr ⟨by rfl, rfl⟩) hH ?_
              try simp only [Act.put, List.setIfInBounds_toArray, List.set_cons_zero, List.set_cons_succ, List.getElem_toArray, List.getElem_cons_succ, List.getElem_cons_zero]
              refine wpAnyH_take (i := 49) (v := undef) rfl (by kernel_rfl) (by kernel_rfl) (by kernel_rfl) (fun _ _ _ h => h) (Or.inr ⟨by rfl, rfl⟩) hH ?_
              try simp only [Act.put, List.setIfInBounds_toArray, List.set_cons_zero, List.set_cons_succ, List.getElem_toArray, List.getElem_cons_succ, List.getElem_cons_zero]
              refine wpAnyH_take (i := 50) (v := undef) rfl (by kernel_rfl) (by kernel_rfl) (by kernel_rfl) (fun _ _ _ h => h) (Or.inr ⟨by rfl, rfl⟩) hH ?_
              try simp only [Act.put, List.setIfInBounds_toArray, List.set_cons_zero, List.set_cons_succ, List.getElem_toArray, List.getElem_cons_succ, List.getElem_cons_zero]
              refine wpAnyH_take (i := 51) (v := undef) rfl (by kernel_rfl) (by kernel_rfl) (by kernel_rfl) (fun _ _ _ h => h) (Or.inr ⟨by rfl, rfl⟩) hH ?_
              try simp only [Act.put, List.setIfInBounds_toArray, List.set_cons_zero, List.set_cons_succ, List.getElem_toArray, List.getElem_cons_succ, List.getElem_cons_zero]
              refine wpAnyH_take (i := 52) (v := undef) rfl (by kernel_rfl) (by kernel_rfl) (by kernel_rfl) (fun _ _ _ h => h) (Or.inr ⟨by rfl, rfl⟩) hH ?_
              try simp only [Act.put, List.setIfInBounds_toArray, List.set_cons_zero, List.set_cons_succ, List.getElem_toArray, List.getElem_cons_succ, List.getElem_cons_zero]
              refine wpAnyH_take (i := 53) (v := undef) rfl (by kernel_rfl) (by kernel_rfl) (by kernel_rfl) (fun _ _ _ h => h) (Or.inr ⟨by rfl, rfl⟩) hH ?_
              try simp only [Act.put, List.setIfInBounds_toArray, List.set_cons_zero, List.set_cons_succ, List.getElem_toArray, List.getElem_cons_succ, List.getElem_cons_zero]
              refine wpAnyH_take (i := 54) (v := undef) rfl (by kernel_rfl) (by kernel_rfl) (by kernel_rfl) (fun _ _ _ h => h) (Or.inr ⟨by rfl, rfl⟩) hH ?_
              try simp only [Act.put, List.setIfInBounds_toArray, List.set_cons_zero, List.set_cons_succ, List.getElem_toArray, List.getElem_cons_succ, List.getElem_cons_zero]
              refine wpAnyH_take (i := 55) (v := undef) rfl (by kernel_rfl) (by kernel_rfl) (by kernel_rfl) (fun _ _ _ h => h) (Or.inr ⟨by rfl, rfl⟩) hH ?_
              try simp only [Act.put, List.setIfInBounds_toArray, List.set_cons_zero, List.set_cons_succ, List.getElem_toArray, List.getElem_cons_succ, List.getElem_cons_zero]
              refine wpAnyH_take (i := 56) (v := undef) rfl (by kernel_rfl) (by kernel_rfl) (by kernel_rfl) (fun _ _ _ h => h) (Or.inr ⟨by rfl, rfl⟩) hH ?_
              try simp only [Act.put, List.setIfInBounds_toArray, List.set_cons_zero, List.set_cons_succ, List.getElem_toArray, List.getElem_cons_succ, List.getElem_cons_zero]
              refine wpAnyH_take (i := 57) (v := undef) rfl (by kernel_rfl) (by kernel_rfl) (by kernel_rfl) (fun _ _ _ h => h) (Or.inr ⟨by rfl, rfl⟩) hH ?_
              try simp only [Act.put, List.setIfInBounds_toArray, List.set_cons_zero, List.set_cons_succ, List.getElem_toArray, List.getElem_cons_succ, List.getElem_cons_zero]
              refine wpAnyH_take (i := 58) (v := undef) rfl (by kernel_rfl) (by kernel_rfl) (by kernel_rfl) (fun _ _ _ h => h) (Or.inr ⟨by rfl, rfl⟩) hH ?_
              try simp only [Act.put, List.setIfInBounds_toArray, List.set_cons_zero, List.set_cons_succ, List.getElem_toArray, List.getElem_cons_succ, List.getElem_cons_zero]
              refine wpAnyH_take (i := 59) (v := undef) rfl (by kernel_rfl) (by kernel_rfl) (by kernel_rfl) (fun _ _ _ h => h) (Or.inr ⟨by rfl, rfl⟩) hH ?_
              try simp only [Act.put, List.setIfInBounds_toArray, List.set_cons_zero, List.set_cons_succ, List.getElem_toArray, List.getElem_cons_succ, List.getElem_cons_zero]
              refine wpAnyH_take (i := 60) (v := .bool true) rfl (by kernel_rfl) (by kernel_rfl) (by kernel_rfl) (fun _ _ _ h => h) (Or.inl ⟨by rfl, fun w hSw => by clear hSw; go_simp⟩) hH ?_
              try simp only [Act.put, List.setIfInBounds_toArray, List.set_cons_zero, List.set_cons_succ, List.getElem_toArray, List.getElem_cons_succ, List.getElem_cons_zero]
              refine wpAnyH_done (by kernel_rfl) ?_ _
              have HE : Hid (One wa wa.heap.size (.slice (some ⟨g, 0, none⟩) k cq) L wj.drew) := HOj.out _ hH
              have hm0 : IntKind.i64.wrap ((m : Int) - 1) = (m : Int) - 1 := wrap_id _ (by omega) (by omega)
              clear HOj hH
              go_wp2_with fail
              go_roundw
              case rel => exact ⟨m - 1, hm3, by omega, by rw [show (m : Int) - 1 = ((m - 1 : Nat) : Int) by omega], HE.out⟩
              case measure => simp [intOf]; omega
          have hw6 : IntKind.i64.wrap (rv + gv) = rv + gv := wrap_id _ (by omega) (by omega)
          by_cases hbq : rv + gv = best
          case neg =>
            have hbn : (rv + gv != best) = true := by simp [hbq]
            have hne : m ≠ cn := fun e => hbq (HEq.out e).2
            have hm3 : cn ≤ m - 1 := by omega
            clear HEq HGo2
            go_upto_region 31 with fail
            as_aux_lemma =>
              refine wp_region_held_drew (S := fun W' => Below wj.heap.size wj W') (by kernel_rfl) (below_drew _) (fun hH => ?_)
              refine wpAnyH_take (i := 0) (v := .int .i64 ((m : Int))) rfl (by kernel_rfl) (by kernel_rfl) (by kernel_rfl) (fun _ _ _ h => h) (Or.inl ⟨by rfl, fun w hSw => by clear hSw; go_simp⟩) hH ?_
              refine wpAnyH_take (i := 1) (v := .slice (some ⟨b0, o0, none⟩) rs.length cap) rfl (by kernel_rfl) (by kernel_rfl) (by kernel_rfl) (fun _ _ _ h => h) (Or.inl ⟨by rfl, fun w hSw => by clear hSw; go_simp⟩) hH ?_
              try simp only [Act.put, List.setIfInBounds_toArray, List.set_cons_zero, List.set_cons_succ, List.getElem_toArray, List.getElem_cons_succ, List.getElem_cons_zero]
              refine wpAnyH_take (i := 2) (v := .int .i64 ((k : Int))) rfl (by kernel_rfl) (by kernel_rfl) (by kernel_rfl) (fun _ _ _ h => h) (Or.inl ⟨by rfl, fun w hSw => by clear hSw; go_simp⟩) hH ?_
              try simp only [Act.put, List.setIfInBounds_toArray, List.set_cons_zero, List.set_cons_succ, List.getElem_toArray, List.getElem_cons_succ, List.getElem_cons_zero]
              refine wpAnyH_take (i := 3) (v := .pointer (some ⟨b0, o0 + k * 4, none⟩)) rfl (by kernel_rfl) (by kernel_rfl) (by kernel_rfl) (fun _ _ _ h => h) (Or.inl ⟨by rfl, fun w hSw => by clear hSw; go_simp⟩) hH ?_
              try simp only [Act.put, List.setIfInBounds_toArray, List.set_cons_zero, List.set_cons_succ, List.getElem_toArray, List.getElem_cons_succ, List.getElem_cons_zero]
              refine wpAnyH_take (i := 4) (v := .pointer (some ⟨b0, o0 + k * 4 + 1, none⟩)) rfl (by kernel_rfl) (by kernel_rfl) (by kernel_rfl) (fun _ _ _ h => h) (Or.inl ⟨by rfl, fun w hSw => by clear hSw; go_simp⟩) hH ?_
              try simp only [Act.put, List.setIfInBounds_toArray, List.set_cons_zero, List.set_cons_succ, List.getElem_toArray, List.getElem_cons_succ, List.getElem_cons_zero]
              refine wpAnyH_take (i := 5) (v := .int .i64 wf) rfl (by kernel_rfl) (by kernel_rfl) (by kernel_rfl) (fun _ _ _ h => h) (Or.inl ⟨by rfl, fun w hSw => by have f0 := (HQ2.out w hSw).1.2.1; clear hSw; go_simp⟩) hH ?_
              try simp only [Act.put, List.setIfInBounds_toArray, List.set_cons_zero, List.set_cons_succ, List.getElem_toArray, List.getElem_cons_succ, List.getElem_cons_zero]
              refine wpAnyH_take (i := 6) (v := .int .i64 mv) rfl (by kernel_rfl) (by kernel_rfl) (by kernel_rfl) (fun _ _ _ h => h) (Or.inl ⟨by rfl, fun w hSw => by clear hSw; go_simp⟩) hH ?_
              try simp only [Act.put, List.setIfInBounds_toArray, List.set_cons_zero, List.set_cons_succ, List.getElem_toArray, List.getElem_cons_succ, List.getElem_cons_zero]
              refine wpAnyH_take (i := 7) (v := .int .i64 ((rm : Int))) rfl (by kernel_rfl) (by kernel_rfl) (by kernel_rfl) (fun _ _ _ h => h) (Or.inl ⟨by rfl, fun w hSw => by clear hSw; go_simp⟩) hH ?_
              try simp only [Act.put, List.setIfInBounds_toArray, List.set_cons_zero, List.set_cons_succ, List.getElem_toArray, List.getElem_cons_succ, List.getElem_cons_zero]
              refine wpAnyH_take (i := 8) (v := .bool false) rfl (by kernel_rfl) (by kernel_rfl) (by kernel_rfl) (fun _ _ _ h => h) (Or.inl ⟨by rfl, fun w hSw => by clear hSw; go_simp⟩) hH ?_
              try simp only [Act.put, List.setIfInBounds_toArray, List.set_cons_zero, List.set_cons_succ, List.getElem_toArray, List.getElem_cons_succ, List.getElem_cons_zero]
              refine wpAnyH_take (i := 9) (v := .bool false) rfl (by kernel_rfl) (by kernel_rfl) (by kernel_rfl) (fun _ _ _ h => h) (Or.inl ⟨by rfl, fun w hSw => by clear hSw; go_simp⟩) hH ?_
              try simp only [Act.put, List.setIfInBounds_toArray, List.set_cons_zero, List.set_cons_succ, List.getElem_toArray, List.getElem_cons_succ, List.getElem_cons_zero]
              refine wpAnyH_take (i := 10) (v := .slice (some ⟨gb, 0, none⟩) (rs.length + 1) (rs.length + 1)) rfl (by kernel_rfl) (by kernel_rfl) (by kernel_rfl) (fun _ _ _ h => h) (Or.inl ⟨by rfl, fun w hSw => by clear hSw; go_simp⟩) hH ?_
              try simp only [Act.put, List.setIfInBounds_toArray, List.set_cons_zero, List.set_cons_succ, List.getElem_toArray, List.getElem_cons_succ, List.getElem_cons_zero]
              refine wpAnyH_take (i := 11) (v := .int .i64 ((k : Int))) rfl (by kernel_rfl) (by kernel_rfl) (by kernel_rfl) (fun _ _ _ h => h) (Or.inl ⟨by rfl, fun w hSw => by clear hSw; go_simp⟩) hH ?_
              try simp only [Act.put, List.setIfInBounds_toArray, List.set_cons_zero, List.set_cons_succ, List.getElem_toArray, List.getElem_cons_succ, List.getElem_cons_zero]
              refine wpAnyH_take (i := 12) (v := .int .i64 ((k : Int) + 1)) rfl (by kernel_rfl) (by kernel_rfl) (by kernel_rfl) (fun _ _ _ h => h) (Or.inl ⟨by rfl, fun w hSw => by clear hSw; go_simp⟩) hH ?_
              try simp only [Act.put, List.setIfInBounds_toArray, List.set_cons_zero, List.set_cons_succ, List.getElem_toArray, List.getElem_cons_succ, List.getElem_cons_zero]
              refine wpAnyH_take (i := 13) (v := .pointer (some ⟨gb, k + 1, none⟩)) rfl (by kernel_rfl) (by kernel_rfl) (by kernel_rfl) (fun _ _ _ h => h) (Or.inl ⟨by rfl, fun w hSw => by clear hSw; go_simp⟩) hH ?_
              try simp only [Act.put, List.setIfInBounds_toArray, List.set_cons_zero, List.set_cons_succ, List.getElem_toArray, List.getElem_cons_succ, List.getElem_cons_zero]
              refine wpAnyH_take (i := 14) (v := .slice (some ⟨bp, 0, none⟩) (wn + 1) (wn + 1)) rfl (by kernel_rfl) (by kernel_rfl) (by kernel_rfl) (fun _ _ _ h => h) (Or.inl ⟨by rfl, fun w hSw => by have f0 := (HQ2.out w hSw).2.2.1; clear hSw; go_simp⟩) hH ?_
              try simp only [Act.put, List.setIfInBounds_toArray, List.set_cons_zero, List.set_cons_succ, List.getElem_toArray, List.getElem_cons_succ, List.getElem_cons_zero]
              refine wpAnyH_take (i := 15) (v := .int .i64 ((rm : Int))) rfl (by kernel_rfl) (by kernel_rfl) (by kernel_rfl) (fun _ _ _ h => h) (Or.inl ⟨by rfl, fun w hSw => by clear hSw; go_simp⟩) hH ?_
              try simp only [Act.put, List.setIfInBounds_toArray, List.set_cons_zero, List.set_cons_succ, List.getElem_toArray, List.getElem_cons_succ, List.getElem_cons_zero]
              refine wpAnyH_take (i := 16) (v := .int .i64 ((m : Int))) rfl (by kernel_rfl) (by kernel_rfl) (by kernel_rfl) (fun _ _ _ h => h) (Or.inl ⟨by rfl, fun w hSw => by clear hSw; go_simp⟩) hH ?_
              try simp only [Act.put, List.setIfInBounds_toArray, List.set_cons_zero, List.set_cons_succ, List.getElem_toArray, List.getElem_cons_succ, List.getElem_cons_zero]
              refine wpAnyH_take (i := 17) (v := .slice (some ⟨b0, o0, none⟩) rs.length cap) rfl (by kernel_rfl) (by kernel_rfl) (by kernel_rfl) (fun _ _ _ h => h) (Or.inl ⟨by rfl, fun w hSw => by clear hSw; go_simp⟩) hH ?_
              try simp only [Act.put, List.setIfInBounds_toArray, List.set_cons_zero, List.set_cons_succ, List.getElem_toArray, List.getElem_cons_succ, List.getElem_cons_zero]
              refine wpAnyH_take (i := 18) (v := .int .i64 ((k : Int))) rfl (by kernel_rfl) (by kernel_rfl) (by kernel_rfl) (fun _ _ _ h => h) (Or.inl ⟨by rfl, fun w hSw => by clear hSw; go_simp⟩) hH ?_
              try simp only [Act.put, List.setIfInBounds_toArray, List.set_cons_zero, List.set_cons_succ, List.getElem_toArray, List.getElem_cons_succ, List.getElem_cons_zero]
              refine wpAnyH_take (i := 19) (v := .pointer (some ⟨b0, o0 + k * 4, none⟩)) rfl (by kernel_rfl) (by kernel_rfl) (by kernel_rfl) (fun _ _ _ h => h) (Or.inl ⟨by rfl, fun w hSw => by clear hSw; go_simp⟩) hH ?_
              try simp only [Act.put, List.setIfInBounds_toArray, List.set_cons_zero, List.set_cons_succ, List.getElem_toArray, List.getElem_cons_succ, List.getElem_cons_zero]
              refine wpAnyH_take (i := 20) (v := .pointer (some ⟨b0, o0 + k * 4 + 1, none⟩)) rfl (by kernel_rfl) (by kernel_rfl) (by kernel_rfl) (fun _ _ _ h => h) (Or.inl ⟨by rfl, fun w hSw => by clear hSw; go_simp⟩) hH ?_
              try simp only [Act.put, List.setIfInBounds_toArray, List.set_cons_zero, List.set_cons_succ, List.getElem_toArray, List.getElem_cons_succ, List.getElem_cons_zero]
              refine wpAnyH_take (i := 21) (v := .int .i64 wf) rfl (by kernel_rfl) (by kernel_rfl) (by kernel_rfl) (fun _ _ _ h => h) (Or.inl ⟨by rfl, fun w hSw => by have f0 := (HQ2.out w hSw).1.2.1; clear hSw; go_simp⟩) hH ?_
              try simp only [Act.put, List.setIfInBounds_toArray, List.set_cons_zero, List.set_cons_succ, List.getElem_toArray, List.getElem_cons_succ, List.getElem_cons_zero]
              refine wpAnyH_take (i := 22) (v := .int .i64 mv) rfl (by kernel_rfl) (by kernel_rfl) (by kernel_rfl) (fun _ _ _ h => h) (Or.inl ⟨by rfl, fun w hSw => by clear hSw; go_simp⟩) hH ?_
              try simp only [Act.put, List.setIfInBounds_toArray, List.set_cons_zero, List.set_cons_succ, List.getElem_toArray, List.getElem_cons_succ, List.getElem_cons_zero]
              refine wpAnyH_take (i := 23) (v := .int .i64 ((sb : Int))) rfl (by kernel_rfl) (by kernel_rfl) (by kernel_rfl) (fun _ _ _ h => h) (Or.inl ⟨by rfl, fun w hSw => by clear hSw; go_simp⟩) hH ?_
              try simp only [Act.put, List.setIfInBounds_toArray, List.set_cons_zero, List.set_cons_succ, List.getElem_toArray, List.getElem_cons_succ, List.getElem_cons_zero]
              refine wpAnyH_take (i := 24) (v := .pointer (some ⟨bp, sb, none⟩)) rfl (by kernel_rfl) (by kernel_rfl) (by kernel_rfl) (fun _ _ _ h => h) (Or.inl ⟨by rfl, fun w hSw => by clear hSw; go_simp⟩) hH ?_
              try simp only [Act.put, List.setIfInBounds_toArray, List.set_cons_zero, List.set_cons_succ, List.getElem_toArray, List.getElem_cons_succ, List.getElem_cons_zero]
              refine wpAnyH_take (i := 25) (v := .int .i64 rv) rfl (by kernel_rfl) (by kernel_rfl) (by kernel_rfl) (fun _ _ _ h => h) (Or.inl ⟨by rfl, fun w hSw => by have f0 := (HQ2.out w hSw).2.2.2.2; clear hSw; go_simp⟩) hH ?_
              try simp only [Act.put, List.setIfInBounds_toArray, List.set_cons_zero, List.set_cons_succ, List.getElem_toArray, List.getElem_cons_succ, List.getElem_cons_zero]
              refine wpAnyH_take (i := 26) (v := .bool false) rfl (by kernel_rfl) (by kernel_rfl) (by kernel_rfl) (fun _ _ _ h => h) (Or.inl ⟨by rfl, fun w hSw => by clear hSw; go_simp⟩) hH ?_
              try simp only [Act.put, List.setIfInBounds_toArray, List.set_cons_zero, List.set_cons_succ, List.getElem_toArray, List.getElem_cons_succ, List.getElem_cons_zero]
              refine wpAnyH_take (i := 27) (v := .bool false) rfl (by kernel_rfl) (by kernel_rfl) (by kernel_rfl) (fun _ _ _ h => h) (Or.inl ⟨by rfl, fun w hSw => by clear hSw; go_simp⟩) hH ?_
              try simp only [Act.put, List.setIfInBounds_toArray, List.set_cons_zero, List.set_cons_succ, List.getElem_toArray, List.getElem_cons_succ, List.getElem_cons_zero]
              refine wpAnyH_take (i := 28) (v := .bool false) rfl (by kernel_rfl) (by kernel_rfl) (by kernel_rfl) (fun _ _ _ h => h) (Or.inl ⟨by rfl, fun w hSw => by clear hSw; go_simp⟩) hH ?_
              try simp only [Act.put, List.setIfInBounds_toArray, List.set_cons_zero, List.set_cons_succ, List.getElem_toArray, List.getElem_cons_succ, List.getElem_cons_zero]
              refine wpAnyH_take (i := 29) (v := .slice (some ⟨gb, 0, none⟩) (rs.length + 1) (rs.length + 1)) rfl (by kernel_rfl) (by kernel_rfl) (by kernel_rfl) (fun _ _ _ h => h) (Or.inl ⟨by rfl, fun w hSw => by clear hSw; go_simp⟩) hH ?_
              try simp only [Act.put, List.setIfInBounds_toArray, List.set_cons_zero, List.set_cons_succ, List.getElem_toArray, List.getElem_cons_succ, List.getElem_cons_zero]
              refine wpAnyH_take (i := 30) (v := .int .i64 ((k : Int))) rfl (by kernel_rfl) (by kernel_rfl) (by kernel_rfl) (fun _ _ _ h => h) (Or.inl ⟨by rfl, fun w hSw => by clear hSw; go_simp⟩) hH ?_
              try simp only [Act.put, List.setIfInBounds_toArray, List.set_cons_zero, List.set_cons_succ, List.getElem_toArray, List.getElem_cons_succ, List.getElem_cons_zero]
              refine wpAnyH_take (i := 31) (v := .int .i64 ((k : Int) + 1)) rfl (by kernel_rfl) (by kernel_rfl) (by kernel_rfl) (fun _ _ _ h => h) (Or.inl ⟨by rfl, fun w hSw => by clear hSw; go_simp⟩) hH ?_
              try simp only [Act.put, List.setIfInBounds_toArray, List.set_cons_zero, List.set_cons_succ, List.getElem_toArray, List.getElem_cons_succ, List.getElem_cons_zero]
              refine wpAnyH_take (i := 32) (v := .pointer (some ⟨gb, k + 1, none⟩)) rfl (by kernel_rfl) (by kernel_rfl) (by kernel_rfl) (fun _ _ _ h => h) (Or.inl ⟨by rfl, fun w hSw => by clear hSw; go_simp⟩) hH ?_
              try simp only [Act.put, List.setIfInBounds_toArray, List.set_cons_zero, List.set_cons_succ, List.getElem_toArray, List.getElem_cons_succ, List.getElem_cons_zero]
              refine wpAnyH_take (i := 33) (v := .slice (some ⟨bp, 0, none⟩) (wn + 1) (wn + 1)) rfl (by kernel_rfl) (by kernel_rfl) (by kernel_rfl) (fun _ _ _ h => h) (Or.inl ⟨by rfl, fun w hSw => by have f0 := (HQ2.out w hSw).2.2.1; clear hSw; go_simp⟩) hH ?_
              try simp only [Act.put, List.setIfInBounds_toArray, List.set_cons_zero, List.set_cons_succ, List.getElem_toArray, List.getElem_cons_succ, List.getElem_cons_zero]
              refine wpAnyH_take (i := 34) (v := .int .i64 ((rm : Int))) rfl (by kernel_rfl) (by kernel_rfl) (by kernel_rfl) (fun _ _ _ h => h) (Or.inl ⟨by rfl, fun w hSw => by clear hSw; go_simp⟩) hH ?_
              try simp only [Act.put, List.setIfInBounds_toArray, List.set_cons_zero, List.set_cons_succ, List.getElem_toArray, List.getElem_cons_succ, List.getElem_cons_zero]
              refine wpAnyH_take (i := 35) (v := .int .i64 ((m : Int))) rfl (by kernel_rfl) (by kernel_rfl) (by kernel_rfl) (fun _ _ _ h => h) (Or.inl ⟨by rfl, fun w hSw => by clear hSw; go_simp⟩) hH ?_
              try simp only [Act.put, List.setIfInBounds_toArray, List.set_cons_zero, List.set_cons_succ, List.getElem_toArray, List.getElem_cons_succ, List.getElem_cons_zero]
              refine wpAnyH_take (i := 36) (v := .slice (some ⟨b0, o0, none⟩) rs.length cap) rfl (by kernel_rfl) (by kernel_rfl) (by kernel_rfl) (fun _ _ _ h => h) (Or.inl ⟨by rfl, fun w hSw => by clear hSw; go_simp⟩) hH ?_
              try simp only [Act.put, List.setIfInBounds_toArray, List.set_cons_zero, List.set_cons_succ, List.getElem_toArray, List.getElem_cons_succ, List.getElem_cons_zero]
              refine wpAnyH_take (i := 37) (v := .int .i64 ((k : Int))) rfl (by kernel_rfl) (by kernel_rfl) (by kernel_rfl) (fun _ _ _ h => h) (Or.inl ⟨by rfl, fun w hSw => by clear hSw; go_simp⟩) hH ?_
              try simp only [Act.put, List.setIfInBounds_toArray, List.set_cons_zero, List.set_cons_succ, List.getElem_toArray, List.getElem_cons_succ, List.getElem_cons_zero]
              refine wpAnyH_take (i := 38) (v := .pointer (some ⟨b0, o0 + k * 4, none⟩)) rfl (by kernel_rfl) (by kernel_rfl) (by kernel_rfl) (fun _ _ _ h => h) (Or.inl ⟨by rfl, fun w hSw => by clear hSw; go_simp⟩) hH ?_
              try simp only [Act.put, List.setIfInBounds_toArray, List.set_cons_zero, List.set_cons_succ, List.getElem_toArray, List.getElem_cons_succ, List.getElem_cons_zero]
              refine wpAnyH_take (i := 39) (v := .pointer (some ⟨b0, o0 + k * 4 + 1, none⟩)) rfl (by kernel_rfl) (by kernel_rfl) (by kernel_rfl) (fun _ _ _ h => h) (Or.inl ⟨by rfl, fun w hSw => by clear hSw; go_simp⟩) hH ?_
              try simp only [Act.put, List.setIfInBounds_toArray, List.set_cons_zero, List.set_cons_succ, List.getElem_toArray, List.getElem_cons_succ, List.getElem_cons_zero]
              refine wpAnyH_take (i := 40) (v := .int .i64 wf) rfl (by kernel_rfl) (by kernel_rfl) (by kernel_rfl) (fun _ _ _ h => h) (Or.inl ⟨by rfl, fun w hSw => by have f0 := (HQ2.out w hSw).1.2.1; clear hSw; go_simp⟩) hH ?_
              try simp only [Act.put, List.setIfInBounds_toArray, List.set_cons_zero, List.set_cons_succ, List.getElem_toArray, List.getElem_cons_succ, List.getElem_cons_zero]
              refine wpAnyH_take (i := 41) (v := .int .i64 mv) rfl (by kernel_rfl) (by kernel_rfl) (by kernel_rfl) (fun _ _ _ h => h) (Or.inl ⟨by rfl, fun w hSw => by clear hSw; go_simp⟩) hH ?_
              try simp only [Act.put, List.setIfInBounds_toArray, List.set_cons_zero, List.set_cons_succ, List.getElem_toArray, List.getElem_cons_succ, List.getElem_cons_zero]
              refine wpAnyH_take (i := 42) (v := .int .i64 ((sb : Int))) rfl (by kernel_rfl) (by kernel_rfl) (by kernel_rfl) (fun _ _ _ h => h) (Or.inl ⟨by rfl, fun w hSw => by clear hSw; go_simp⟩) hH ?_
              try simp only [Act.put, List.setIfInBounds_toArray, List.set_cons_zero, List.set_cons_succ, List.getElem_toArray, List.getElem_cons_succ, List.getElem_cons_zero]
              refine wpAnyH_take (i := 43) (v := .pointer (some ⟨bp, sb, none⟩)) rfl (by kernel_rfl) (by kernel_rfl) (by kernel_rfl) (fun _ _ _ h => h) (Or.inl ⟨by rfl, fun w hSw => by clear hSw; go_simp⟩) hH ?_
              try simp only [Act.put, List.setIfInBounds_toArray, List.set_cons_zero, List.set_cons_succ, List.getElem_toArray, List.getElem_cons_succ, List.getElem_cons_zero]
              refine wpAnyH_take (i := 44) (v := .int .i64 rv) rfl (by kernel_rfl) (by kernel_rfl) (by kernel_rfl) (fun _ _ _ h => h) (Or.inl ⟨by rfl, fun w hSw => by have f0 := (HQ2.out w hSw).2.2.2.2; clear hSw; go_simp⟩) hH ?_
              try simp only [Act.put, List.setIfInBounds_toArray, List.set_cons_zero, List.set_cons_succ, List.getElem_toArray, List.getElem_cons_succ, List.getElem_cons_zero]
              refine wpAnyH_take (i := 45) (v := .slice (some ⟨b0, o0, none⟩) rs.length cap) rfl (by kernel_rfl) (by kernel_rfl) (by kernel_rfl) (fun _ _ _ h => h) (Or.inl ⟨by rfl, fun w hSw => by clear hSw; go_simp⟩) hH ?_
              try simp only [Act.put, List.setIfInBounds_toArray, List.set_cons_zero, List.set_cons_succ, List.getElem_toArray, List.getElem_cons_succ, List.getElem_cons_zero]
              refine wpAnyH_take (i := 46) (v := .int .i64 ((k : Int))) rfl (by kernel_rfl) (by kernel_rfl) (by kernel_rfl) (fun _ _ _ h => h) (Or.inl ⟨by rfl, fun w hSw => by clear hSw; go_simp⟩) hH ?_
              try simp only [Act.put, List.setIfInBounds_toArray, List.set_cons_zero, List.set_cons_succ, List.getElem_toArray, List.getElem_cons_succ, List.getElem_cons_zero]
              refine wpAnyH_take (i := 47) (v := .pointer (some ⟨b0, o0 + k * 4, none⟩)) rfl (by kernel_rfl) (by kernel_rfl) (by kernel_rfl) (fun _ _ _ h => h) (Or.inl ⟨by rfl, fun w hSw => by clear hSw; go_simp⟩) hH ?_
              try simp only [Act.put, List.setIfInBounds_toArray, List.set_cons_zero, List.set_cons_succ, List.getElem_toArray, List.getElem_cons_succ, List.getElem_cons_zero]
              refine wpAnyH_take (i := 48) (v := .agg #[.string nm, .int .i64 wf, .int .i64 ls, .slice h n cp]) rfl (by kernel_rfl) (by kernel_rfl) (by kernel_rfl) (fun _ _ _ h => h) (Or.inl ⟨by rfl, fun w hSw => by obtain ⟨⟨f0, f1, f2, f3⟩, _⟩ := HQ2.out w hSw; clear hSw; go_simp⟩) hH ?_
              try simp only [Act.put, List.setIfInBounds_toArray, List.set_cons_zero, List.set_cons_succ, List.getElem_toArray, List.getElem_cons_succ, List.getElem_cons_zero]
              refine wpAnyH_take (i := 49) (v := .int .i64 ((m : Int))) rfl (by kernel_rfl) (by kernel_rfl) (by kernel_rfl) (fun _ _ _ h => h) (Or.inl ⟨by rfl, fun w hSw => by clear hSw; go_simp⟩) hH ?_
              try simp only [Act.put, List.setIfInBounds_toArray, List.set_cons_zero, List.set_cons_succ, List.getElem_toArray, List.getElem_cons_succ, List.getElem_cons_zero]
              refine wpAnyH_take (i := 52) (v := .slice (some ⟨gb, 0, none⟩) (rs.length + 1) (rs.length + 1)) rfl (by kernel_rfl) (by kernel_rfl) (by kernel_rfl) (fun _ _ _ h => h) (Or.inl ⟨by rfl, fun w hSw => by clear hSw; go_simp⟩) hH ?_
              try simp only [Act.put, List.setIfInBounds_toArray, List.set_cons_zero, List.set_cons_succ, List.getElem_toArray, List.getElem_cons_succ, List.getElem_cons_zero]
              refine wpAnyH_take (i := 53) (v := .int .i64 ((k : Int))) rfl (by kernel_rfl) (by kernel_rfl) (by kernel_rfl) (fun _ _ _ h => h) (Or.inl ⟨by rfl, fun w hSw => by clear hSw; go_simp⟩) hH ?_
              try simp only [Act.put, List.setIfInBounds_toArray, List.set_cons_zero, List.set_cons_succ, List.getElem_toArray, List.getElem_cons_succ, List.getElem_cons_zero]
              refine wpAnyH_take (i := 54) (v := .pointer (some ⟨gb, k, none⟩)) rfl (by kernel_rfl) (by kernel_rfl) (by kernel_rfl) (fun _ _ _ h => h) (Or.inl ⟨by rfl, fun w hSw => by clear hSw; go_simp⟩) hH ?_
              try simp only [Act.put, List.setIfInBounds_toArray, List.set_cons_zero, List.set_cons_succ, List.getElem_toArray, List.getElem_cons_succ, List.getElem_cons_zero]
              refine wpAnyH_take (i := 55) (v := .slice (some ⟨bk, 0, none⟩) (wn + 1) (wn + 1)) rfl (by kernel_rfl) (by kernel_rfl) (by kernel_rfl) (fun _ _ _ h => h) (Or.inl ⟨by rfl, fun w hSw => by have f0 := (HQ2.out w hSw).2.1; clear hSw; go_simp⟩) hH ?_
              try simp only [Act.put, List.setIfInBounds_toArray, List.set_cons_zero, List.set_cons_succ, List.getElem_toArray, List.getElem_cons_succ, List.getElem_cons_zero]
              refine wpAnyH_take (i := 56) (v := .int .i64 ((rm : Int))) rfl (by kernel_rfl) (by kernel_rfl) (by kernel_rfl) (fun _ _ _ h => h) (Or.inl ⟨by rfl, fun w hSw => by clear hSw; go_simp⟩) hH ?_
              try simp only [Act.put, List.setIfInBounds_toArray, List.set_cons_zero, List.set_cons_succ, List.getElem_toArray, List.getElem_cons_succ, List.getElem_cons_zero]
              refine wpAnyH_take (i := 57) (v := .pointer (some ⟨bk, rm, none⟩)) rfl (by kernel_rfl) (by kernel_rfl) (by kernel_rfl) (fun _ _ _ h => h) (Or.inl ⟨by rfl, fun w hSw => by clear hSw; go_simp⟩) hH ?_
              try simp only [Act.put, List.setIfInBounds_toArray, List.set_cons_zero, List.set_cons_succ, List.getElem_toArray, List.getElem_cons_succ, List.getElem_cons_zero]
              refine wpAnyH_take (i := 58) (v := .int .i64 best) rfl (by kernel_rfl) (by kernel_rfl) (by kernel_rfl) (fun _ _ _ h => h) (Or.inl ⟨by rfl, fun w hSw => by have f0 := (HQ2.out w hSw).2.2.2.1; clear hSw; go_simp⟩) hH ?_
              try simp only [Act.put, List.setIfInBounds_toArray, List.set_cons_zero, List.set_cons_succ, List.getElem_toArray, List.getElem_cons_succ, List.getElem_cons_zero]
              refine wpAnyH_ready (rs := [50]) (by kernel_rfl) (by simp) ?_
              refine AllReadyH.cons rfl (fun K hK => ?_) AllReadyH.nil
              go_simp
              go_at_call 41
              refine (HGc.out _ hH).mono ?_
              rintro e w3 ⟨rfl, hb3⟩
              have h3 : Below wj.heap.size wj w3 := chain hH hb3
              clear hb3
              refine hK.out _ _ h3 (fun _ => ?_)
              clear hK K
              try simp only [Act.put, List.setIfInBounds_toArray, List.set_cons_zero, List.set_cons_succ, List.getElem_toArray, List.getElem_cons_succ, List.getElem_cons_zero]
              refine wpAnyH_take (i := 51) (v := .int .i64 (rv + gv)) rfl (by kernel_rfl) (by kernel_rfl) (by kernel_rfl) (fun _ _ _ h => h) (Or.inl ⟨by rfl, fun w hSw => by clear hSw; go_simp⟩) h3 ?_
              try simp only [Act.put, List.setIfInBounds_toArray, List.set_cons_zero, List.set_cons_succ, List.getElem_toArray, List.getElem_cons_succ, List.getElem_cons_zero]
              refine wpAnyH_take (i := 59) (v := .bool true) rfl (by kernel_rfl) (by kernel_rfl) (by kernel_rfl) (fun _ _ _ h => h) (Or.inl ⟨by rfl, fun w hSw => by clear hSw; go_simp⟩) h3 ?_
              try simp only [Act.put, List.setIfInBounds_toArray, List.set_cons_zero, List.set_cons_succ, List.getElem_toArray, List.getElem_cons_succ, List.getElem_cons_zero]
              refine wpAnyH_take (i := 60) (v := .bool true) rfl (by kernel_rfl) (by kernel_rfl) (by kernel_rfl) (fun _ _ _ h => h) (Or.inl ⟨by rfl, fun w hSw => by clear hSw; go_simp⟩) h3 ?_
              try simp only [Act.put, List.setIfInBounds_toArray, List.set_cons_zero, List.set_cons_succ, List.getElem_toArray, List.getElem_cons_succ, List.getElem_cons_zero]
              refine wpAnyH_done (by kernel_rfl) ?_ _
              have HE : Hid (One wa wa.heap.size (.slice (some ⟨g, 0, none⟩) k cq) L w3) := HOj.out _ h3
              have hm0 : IntKind.i64.wrap ((m : Int) - 1) = (m : Int) - 1 := wrap_id _ (by omega) (by omega)
              clear HOj hH h3
              go_wp2_with fail
              go_roundw
              case rel => exact ⟨m - 1, hm3, by omega, by rw [show (m : Int) - 1 = ((m - 1 : Nat) : Int) by omega], HE.out⟩
              case measure => simp [intOf]; omega
          have hbn : (rv + gv != best) = false := by simp [hbq]
          obtain rfl : m = cn := HGo2.out (by omega) hbq
          clear HEq HGo2 hbq
          go_upto_region 31 with fail
          as_aux_lemma =>
            refine wp_region_held_drew (S := fun W' => Below wj.heap.size wj W') (by kernel_rfl) (below_drew _) (fun hH => ?_)
            refine wpAnyH_take (i := 0) (v := .int .i64 ((m : Int))) rfl (by kernel_rfl) (by kernel_rfl) (by kernel_rfl) (fun _ _ _ h => h) (Or.inl ⟨by rfl, fun w hSw => by clear hSw; go_simp⟩) hH ?_
            refine wpAnyH_take (i := 1) (v := .slice (some ⟨b0, o0, none⟩) rs.length cap) rfl (by kernel_rfl) (by kernel_rfl) (by kernel_rfl) (fun _ _ _ h => h) (Or.inl ⟨by rfl, fun w hSw => by clear hSw; go_simp⟩) hH ?_
            try simp only [Act.put, List.setIfInBounds_toArray, List.set_cons_zero, List.set_cons_succ, List.getElem_toArray, List.getElem_cons_succ, List.getElem_cons_zero]
            refine wpAnyH_take (i := 2) (v := .int .i64 ((k : Int))) rfl (by kernel_rfl) (by kernel_rfl) (by kernel_rfl) (fun _ _ _ h => h) (Or.inl ⟨by rfl, fun w hSw => by clear hSw; go_simp⟩) hH ?_
            try simp only [Act.put, List.setIfInBounds_toArray, List.set_cons_zero, List.set_cons_succ, List.getElem_toArray, List.getElem_cons_succ, List.getElem_cons_zero]
            refine wpAnyH_take (i := 3) (v := .pointer (some ⟨b0, o0 + k * 4, none⟩)) rfl (by kernel_rfl) (by kernel_rfl) (by kernel_rfl) (fun _ _ _ h => h) (Or.inl ⟨by rfl, fun w hSw => by clear hSw; go_simp⟩) hH ?_
            try simp only [Act.put, List.setIfInBounds_toArray, List.set_cons_zero, List.set_cons_succ, List.getElem_toArray, List.getElem_cons_succ, List.getElem_cons_zero]
            refine wpAnyH_take (i := 4) (v := .pointer (some ⟨b0, o0 + k * 4 + 1, none⟩)) rfl (by kernel_rfl) (by kernel_rfl) (by kernel_rfl) (fun _ _ _ h => h) (Or.inl ⟨by rfl, fun w hSw => by clear hSw; go_simp⟩) hH ?_
            try simp only [Act.put, List.setIfInBounds_toArray, List.set_cons_zero, List.set_cons_succ, List.getElem_toArray, List.getElem_cons_succ, List.getElem_cons_zero]
            refine wpAnyH_take (i := 5) (v := .int .i64 wf) rfl (by kernel_rfl) (by kernel_rfl) (by kernel_rfl) (fun _ _ _ h => h) (Or.inl ⟨by rfl, fun w hSw => by have f0 := (HQ2.out w hSw).1.2.1; clear hSw; go_simp⟩) hH ?_
            try simp only [Act.put, List.setIfInBounds_toArray, List.set_cons_zero, List.set_cons_succ, List.getElem_toArray, List.getElem_cons_succ, List.getElem_cons_zero]
            refine wpAnyH_take (i := 6) (v := .int .i64 mv) rfl (by kernel_rfl) (by kernel_rfl) (by kernel_rfl) (fun _ _ _ h => h) (Or.inl ⟨by rfl, fun w hSw => by clear hSw; go_simp⟩) hH ?_
            try simp only [Act.put, List.setIfInBounds_toArray, List.set_cons_zero, List.set_cons_succ, List.getElem_toArray, List.getElem_cons_succ, List.getElem_cons_zero]
            refine wpAnyH_take (i := 7) (v := .int .i64 ((rm : Int))) rfl (by kernel_rfl) (by kernel_rfl) (by kernel_rfl) (fun _ _ _ h => h) (Or.inl ⟨by rfl, fun w hSw => by clear hSw; go_simp⟩) hH ?_
            try simp only [Act.put, List.setIfInBounds_toArray, List.set_cons_zero, List.set_cons_succ, List.getElem_toArray, List.getElem_cons_succ, List.getElem_cons_zero]
            refine wpAnyH_take (i := 8) (v := .bool false) rfl (by kernel_rfl) (by kernel_rfl) (by kernel_rfl) (fun _ _ _ h => h) (Or.inl ⟨by rfl, fun w hSw => by clear hSw; go_simp⟩) hH ?_
            try simp only [Act.put, List.setIfInBounds_toArray, List.set_cons_zero, List.set_cons_succ, List.getElem_toArray, List.getElem_cons_succ, List.getElem_cons_zero]
            refine wpAnyH_take (i := 9) (v := .bool false) rfl (by kernel_rfl) (by kernel_rfl) (by kernel_rfl) (fun _ _ _ h => h) (Or.inl ⟨by rfl, fun w hSw => by clear hSw; go_simp⟩) hH ?_
            try simp only [Act.put, List.setIfInBounds_toArray, List.set_cons_zero, List.set_cons_succ, List.getElem_toArray, List.getElem_cons_succ, List.getElem_cons_zero]
            refine wpAnyH_take (i := 10) (v := .slice (some ⟨gb, 0, none⟩) (rs.length + 1) (rs.length + 1)) rfl (by kernel_rfl) (by kernel_rfl) (by kernel_rfl) (fun _ _ _ h => h) (Or.inl ⟨by rfl, fun w hSw => by clear hSw; go_simp⟩) hH ?_
            try simp only [Act.put, List.setIfInBounds_toArray, List.set_cons_zero, List.set_cons_succ, List.getElem_toArray, List.getElem_cons_succ, List.getElem_cons_zero]
            refine wpAnyH_take (i := 11) (v := .int .i64 ((k : Int))) rfl (by kernel_rfl) (by kernel_rfl) (by kernel_rfl) (fun _ _ _ h => h) (Or.inl ⟨by rfl, fun w hSw => by clear hSw; go_simp⟩) hH ?_
            try simp only [Act.put, List.setIfInBounds_toArray, List.set_cons_zero, List.set_cons_succ, List.getElem_toArray, List.getElem_cons_succ, List.getElem_cons_zero]
            refine wpAnyH_take (i := 12) (v := .int .i64 ((k : Int) + 1)) rfl (by kernel_rfl) (by kernel_rfl) (by kernel_rfl) (fun _ _ _ h => h) (Or.inl ⟨by rfl, fun w hSw => by clear hSw; go_simp⟩) hH ?_
            try simp only [Act.put, List.setIfInBounds_toArray, List.set_cons_zero, List.set_cons_succ, List.getElem_toArray, List.getElem_cons_succ, List.getElem_cons_zero]
            refine wpAnyH_take (i := 13) (v := .pointer (some ⟨gb, k + 1, none⟩)) rfl (by kernel_rfl) (by kernel_rfl) (by kernel_rfl) (fun _ _ _ h => h) (Or.inl ⟨by rfl, fun w hSw => by clear hSw; go_simp⟩) hH ?_
            try simp only [Act.put, List.setIfInBounds_toArray, List.set_cons_zero, List.set_cons_succ, List.getElem_toArray, List.getElem_cons_succ, List.getElem_cons_zero]
            refine wpAnyH_take (i := 14) (v := .slice (some ⟨bp, 0, none⟩) (wn + 1) (wn + 1)) rfl (by kernel_rfl) (by kernel_rfl) (by kernel_rfl) (fun _ _ _ h => h) (Or.inl ⟨by rfl, fun w hSw => by have f0 := (HQ2.out w hSw).2.2.1; clear hSw; go_simp⟩) hH ?_
            try simp only [Act.put, List.setIfInBounds_toArray, List.set_cons_zero, List.set_cons_succ, List.getElem_toArray, List.getElem_cons_succ, List.getElem_cons_zero]
            refine wpAnyH_take (i := 15) (v := .int .i64 ((rm : Int))) rfl (by kernel_rfl) (by kernel_rfl) (by kernel_rfl) (fun _ _ _ h => h) (Or.inl ⟨by rfl, fun w hSw => by clear hSw; go_simp⟩) hH ?_
            try simp only [Act.put, List.setIfInBounds_toArray, List.set_cons_zero, List.set_cons_succ, List.getElem_toArray, List.getElem_cons_succ, List.getElem_cons_zero]
            refine wpAnyH_take (i := 16) (v := .int .i64 ((m : Int))) rfl (by kernel_rfl) (by kernel_rfl) (by kernel_rfl) (fun _ _ _ h => h) (Or.inl ⟨by rfl, fun w hSw => by clear hSw; go_simp⟩) hH ?_
            try simp only [Act.put, List.setIfInBounds_toArray, List.set_cons_zero, List.set_cons_succ, List.getElem_toArray, List.getElem_cons_succ, List.getElem_cons_zero]
            refine wpAnyH_take (i := 17) (v := .slice (some ⟨b0, o0, none⟩) rs.length cap) rfl (by kernel_rfl) (by kernel_rfl) (by kernel_rfl) (fun _ _ _ h => h) (Or.inl ⟨by rfl, fun w hSw => by clear hSw; go_simp⟩) hH ?_
            try simp only [Act.put, List.setIfInBounds_toArray, List.set_cons_zero, List.set_cons_succ, List.getElem_toArray, List.getElem_cons_succ, List.getElem_cons_zero]
            refine wpAnyH_take (i := 18) (v := .int .i64 ((k : Int))) rfl (by kernel_rfl) (by kernel_rfl) (by kernel_rfl) (fun _ _ _ h => h) (Or.inl ⟨by rfl, fun w hSw => by clear hSw; go_simp⟩) hH ?_
            try simp only [Act.put, List.setIfInBounds_toArray, List.set_cons_zero, List.set_cons_succ, List.getElem_toArray, List.getElem_cons_succ, List.getElem_cons_zero]
            refine wpAnyH_take (i := 19) (v := .pointer (some ⟨b0, o0 + k * 4, none⟩)) rfl (by kernel_rfl) (by kernel_rfl) (by kernel_rfl) (fun _ _ _ h => h) (Or.inl ⟨by rfl, fun w hSw => by clear hSw; go_simp⟩) hH ?_
            try simp only [Act.put, List.setIfInBounds_toArray, List.set_cons_zero, List.set_cons_succ, List.getElem_toArray, List.getElem_cons_succ, List.getElem_cons_zero]
            refine wpAnyH_take (i := 20) (v := .pointer (some ⟨b0, o0 + k * 4 + 1, none⟩)) rfl (by kernel_rfl) (by kernel_rfl) (by kernel_rfl) (fun _ _ _ h => h) (Or.inl ⟨by rfl, fun w hSw => by clear hSw; go_simp⟩) hH ?_
            try simp only [Act.put, List.setIfInBounds_toArray, List.set_cons_zero, List.set_cons_succ, List.getElem_toArray, List.getElem_cons_succ, List.getElem_cons_zero]
            refine wpAnyH_take (i := 21) (v := .int .i64 wf) rfl (by kernel_rfl) (by kernel_rfl) (by kernel_rfl) (fun _ _ _ h => h) (Or.inl ⟨by rfl, fun w hSw => by have f0 := (HQ2.out w hSw).1.2.1; clear hSw; go_simp⟩) hH ?_
            try simp only [Act.put, List.setIfInBounds_toArray, List.set_cons_zero, List.set_cons_succ, List.getElem_toArray, List.getElem_cons_succ, List.getElem_cons_zero]
            refine wpAnyH_take (i := 22) (v := .int .i64 mv) rfl (by kernel_rfl) (by kernel_rfl) (by kernel_rfl) (fun _ _ _ h => h) (Or.inl ⟨by rfl, fun w hSw => by clear hSw; go_simp⟩) hH ?_
            try simp only [Act.put, List.setIfInBounds_toArray, List.set_cons_zero, List.set_cons_succ, List.getElem_toArray, List.getElem_cons_succ, List.getElem_cons_zero]
            refine wpAnyH_take (i := 23) (v := .int .i64 ((sb : Int))) rfl (by kernel_rfl) (by kernel_rfl) (by kernel_rfl) (fun _ _ _ h => h) (Or.inl ⟨by rfl, fun w hSw => by clear hSw; go_simp⟩) hH ?_
            try simp only [Act.put, List.setIfInBounds_toArray, List.set_cons_zero, List.set_cons_succ, List.getElem_toArray, List.getElem_cons_succ, List.getElem_cons_zero]
            refine wpAnyH_take (i := 24) (v := .pointer (some ⟨bp, sb, none⟩)) rfl (by kernel_rfl) (by kernel_rfl) (by kernel_rfl) (fun _ _ _ h => h) (Or.inl ⟨by rfl, fun w hSw => by clear hSw; go_simp⟩) hH ?_
            try simp only [Act.put, List.setIfInBounds_toArray, List.set_cons_zero, List.set_cons_succ, List.getElem_toArray, List.getElem_cons_succ, List.getElem_cons_zero]
            refine wpAnyH_take (i := 25) (v := .int .i64 rv) rfl (by kernel_rfl) (by kernel_rfl) (by kernel_rfl) (fun _ _ _ h => h) (Or.inl ⟨by rfl, fun w hSw => by have f0 := (HQ2.out w hSw).2.2.2.2; clear hSw; go_simp⟩) hH ?_
            try simp only [Act.put, List.setIfInBounds_toArray, List.set_cons_zero, List.set_cons_succ, List.getElem_toArray, List.getElem_cons_succ, List.getElem_cons_zero]
            refine wpAnyH_take (i := 26) (v := .bool false) rfl (by kernel_rfl) (by kernel_rfl) (by kernel_rfl) (fun _ _ _ h => h) (Or.inl ⟨by rfl, fun w hSw => by clear hSw; go_simp⟩) hH ?_
            try simp only [Act.put, List.setIfInBounds_toArray, List.set_cons_zero, List.set_cons_succ, List.getElem_toArray, List.getElem_cons_succ, List.getElem_cons_zero]
            refine wpAnyH_take (i := 27) (v := .bool false) rfl (by kernel_rfl) (by kernel_rfl) (by kernel_rfl) (fun _ _ _ h => h) (Or.inl ⟨by rfl, fun w hSw => by clear hSw; go_simp⟩) hH ?_
            try simp only [Act.put, List.setIfInBounds_toArray, List.set_cons_zero, List.set_cons_succ, List.getElem_toArray, List.getElem_cons_succ, List.getElem_cons_zero]
            refine wpAnyH_take (i := 28) (v := .bool false) rfl (by kernel_rfl) (by kernel_rfl) (by kernel_rfl) (fun _ _ _ h => h) (Or.inl ⟨by rfl, fun w hSw => by clear hSw; go_simp⟩) hH ?_
            try simp only [Act.put, List.setIfInBounds_toArray, List.set_cons_zero, List.set_cons_succ, List.getElem_toArray, List.getElem_cons_succ, List.getElem_cons_zero]
            refine wpAnyH_take (i := 29) (v := .slice (some ⟨gb, 0, none⟩) (rs.length + 1) (rs.length + 1)) rfl (by kernel_rfl) (by kernel_rfl) (by kernel_rfl) (fun _ _ _ h => h) (Or.inl ⟨by rfl, fun w hSw => by clear hSw; go_simp⟩) hH ?_
            try simp only [Act.put, List.setIfInBounds_toArray, List.set_cons_zero, List.set_cons_succ, List.getElem_toArray, List.getElem_cons_succ, List.getElem_cons_zero]
            refine wpAnyH_take (i := 30) (v := .int .i64 ((k : Int))) rfl (by kernel_rfl) (by kernel_rfl) (by kernel_rfl) (fun _ _ _ h => h) (Or.inl ⟨by rfl, fun w hSw => by clear hSw; go_simp⟩) hH ?_
            try simp only [Act.put, List.setIfInBounds_toArray, List.set_cons_zero, List.set_cons_succ, List.getElem_toArray, List.getElem_cons_succ, List.getElem_cons_zero]
            refine wpAnyH_take (i := 31) (v := .int .i64 ((k : Int) + 1)) rfl (by kernel_rfl) (by kernel_rfl) (by kernel_rfl) (fun _ _ _ h => h) (Or.inl ⟨by rfl, fun w hSw => by clear hSw; go_simp⟩) hH ?_
            try simp only [Act.put, List.setIfInBounds_toArray, List.set_cons_zero, List.set_cons_succ, List.getElem_toArray, List.getElem_cons_succ, List.getElem_cons_zero]
            refine wpAnyH_take (i := 32) (v := .pointer (some ⟨gb, k + 1, none⟩)) rfl (by kernel_rfl) (by kernel_rfl) (by kernel_rfl) (fun _ _ _ h => h) (Or.inl ⟨by rfl, fun w hSw => by clear hSw; go_simp⟩) hH ?_
            try simp only [Act.put, List.setIfInBounds_toArray, List.set_cons_zero, List.set_cons_succ, List.getElem_toArray, List.getElem_cons_succ, List.getElem_cons_zero]
            refine wpAnyH_take (i := 33) (v := .slice (some ⟨bp, 0, none⟩) (wn + 1) (wn + 1)) rfl (by kernel_rfl) (by kernel_rfl) (by kernel_rfl) (fun _ _ _ h => h) (Or.inl ⟨by rfl, fun w hSw => by have f0 := (HQ2.out w hSw).2.2.1; clear hSw; go_simp⟩) hH ?_
            try simp only [Act.put, List.setIfInBounds_toArray, List.set_cons_zero, List.set_cons_succ, List.getElem_toArray, List.getElem_cons_succ, List.getElem_cons_zero]
            refine wpAnyH_take (i := 34) (v := .int .i64 ((rm : Int))) rfl (by kernel_rfl) (by kernel_rfl) (by kernel_rfl) (fun _ _ _ h => h) (Or.inl ⟨by rfl, fun w hSw => by clear hSw; go_simp⟩) hH ?_
            try simp only [Act.put, List.setIfInBounds_toArray, List.set_cons_zero, List.set_cons_succ, List.getElem_toArray, List.getElem_cons_succ, List.getElem_cons_zero]
            refine wpAnyH_take (i := 35) (v := .int .i64 ((m : Int))) rfl (by kernel_rfl) (by kernel_rfl) (by kernel_rfl) (fun _ _ _ h => h) (Or.inl ⟨by rfl, fun w hSw => by clear hSw; go_simp⟩) hH ?_
            try simp only [Act.put, List.setIfInBounds_toArray, List.set_cons_zero, List.set_cons_succ, List.getElem_toArray, List.getElem_cons_succ, List.getElem_cons_zero]
            refine wpAnyH_take (i := 36) (v := .slice (some ⟨b0, o0, none⟩) rs.length cap) rfl (by kernel_rfl) (by kernel_rfl) (by kernel_rfl) (fun _ _ _ h => h) (Or.inl ⟨by rfl, fun w hSw => by clear hSw; go_simp⟩) hH ?_
            try simp only [Act.put, List.setIfInBounds_toArray, List.set_cons_zero, List.set_cons_succ, List.getElem_toArray, List.getElem_cons_succ, List.getElem_cons_zero]
            refine wpAnyH_take (i := 37) (v := .int .i64 ((k : Int))) rfl (by kernel_rfl) (by kernel_rfl) (by kernel_rfl) (fun _ _ _ h => h) (Or.inl ⟨by rfl, fun w hSw => by clear hSw; go_simp⟩) hH ?_
            try simp only [Act.put, List.setIfInBounds_toArray, List.set_cons_zero, List.set_cons_succ, List.getElem_toArray, List.getElem_cons_succ, List.getElem_cons_zero]
            refine wpAnyH_take (i := 38) (v := .pointer (some ⟨b0, o0 + k * 4, none⟩)) rfl (by kernel_rfl) (by kernel_rfl) (by kernel_rfl) (fun _ _ _ h => h) (Or.inl ⟨by rfl, fun w hSw => by clear hSw; go_simp⟩) hH ?_
            try simp only [Act.put, List.setIfInBounds_toArray, List.set_cons_zero, List.set_cons_succ, List.getElem_toArray, List.getElem_cons_succ, List.getElem_cons_zero]
            refine wpAnyH_take (i := 39) (v := .pointer (some ⟨b0, o0 + k * 4 + 1, none⟩)) rfl (by kernel_rfl) (by kernel_rfl) (by kernel_rfl) (fun _ _ _ h => h) (Or.inl ⟨by rfl, fun w hSw => by clear hSw; go_simp⟩) hH ?_
            try simp only [Act.put, List.setIfInBounds_toArray, List.set_cons_zero, List.set_cons_succ, List.getElem_toArray, List.getElem_cons_succ, List.getElem_cons_zero]
            refine wpAnyH_take (i := 40) (v := .int .i64 wf) rfl (by kernel_rfl) (by kernel_rfl) (by kernel_rfl) (fun _ _ _ h => h) (Or.inl ⟨by rfl, fun w hSw => by have f0 := (HQ2.out w hSw).1.2.1; clear hSw; go_simp⟩) hH ?_
            try simp only [Act.put, List.setIfInBounds_toArray, List.set_cons_zero, List.set_cons_succ, List.getElem_toArray, List.getElem_cons_succ, List.getElem_cons_zero]
            refine wpAnyH_take (i := 41) (v := .int .i64 mv) rfl (by kernel_rfl) (by kernel_rfl) (by kernel_rfl) (fun _ _ _ h => h) (Or.inl ⟨by rfl, fun w hSw => by clear hSw; go_simp⟩) hH ?_
            try simp only [Act.put, List.setIfInBounds_toArray, List.set_cons_zero, List.set_cons_succ, List.getElem_toArray, List.getElem_cons_succ, List.getElem_cons_zero]
            refine wpAnyH_take (i := 42) (v := .int .i64 ((sb : Int))) rfl (by kernel_rfl) (by kernel_rfl) (by kernel_rfl) (fun _ _ _ h => h) (Or.inl ⟨by rfl, fun w hSw => by clear hSw; go_simp⟩) hH ?_
            try simp only [Act.put, List.setIfInBounds_toArray, List.set_cons_zero, List.set_cons_succ, List.getElem_toArray, List.getElem_cons_succ, List.getElem_cons_zero]
            refine wpAnyH_take (i := 43) (v := .pointer (some ⟨bp, sb, none⟩)) rfl (by kernel_rfl) (by kernel_rfl) (by kernel_rfl) (fun _ _ _ h => h) (Or.inl ⟨by rfl, fun w hSw => by clear hSw; go_simp⟩) hH ?_
            try simp only [Act.put, List.setIfInBounds_toArray, List.set_cons_zero, List.set_cons_succ, List.getElem_toArray, List.getElem_cons_succ, List.getElem_cons_zero]
            refine wpAnyH_take (i := 44) (v := .int .i64 rv) rfl (by kernel_rfl) (by kernel_rfl) (by kernel_rfl) (fun _ _ _ h => h) (Or.inl ⟨by rfl, fun w hSw => by have f0 := (HQ2.out w hSw).2.2.2.2; clear hSw; go_simp⟩) hH ?_
            try simp only [Act.put, List.setIfInBounds_toArray, List.set_cons_zero, List.set_cons_succ, List.getElem_toArray, List.getElem_cons_succ, List.getElem_cons_zero]
            refine wpAnyH_take (i := 45) (v := .slice (some ⟨b0, o0, none⟩) rs.length cap) rfl (by kernel_rfl) (by kernel_rfl) (by kernel_rfl) (fun _ _ _ h => h) (Or.inl ⟨by rfl, fun w hSw => by clear hSw; go_simp⟩) hH ?_
            try simp only [Act.put, List.setIfInBounds_toArray, List.set_cons_zero, List.set_cons_succ, List.getElem_toArray, List.getElem_cons_succ, List.getElem_cons_zero]
            refine wpAnyH_take (i := 46) (v := .int .i64 ((k : Int))) rfl (by kernel_rfl) (by kernel_rfl) (by kernel_rfl) (fun _ _ _ h => h) (Or.inl ⟨by rfl, fun w hSw => by clear hSw; go_simp⟩) hH ?_
            try simp only [Act.put, List.setIfInBounds_toArray, List.set_cons_zero, List.set_cons_succ, List.getElem_toArray, List.getElem_cons_succ, List.getElem_cons_zero]
            refine wpAnyH_take (i := 47) (v := .pointer (some ⟨b0, o0 + k * 4, none⟩)) rfl (by kernel_rfl) (by kernel_rfl) (by kernel_rfl) (fun _ _ _ h => h) (Or.inl ⟨by rfl, fun w hSw => by clear hSw; go_simp⟩) hH ?_
            try simp only [Act.put, List.setIfInBounds_toArray, List.set_cons_zero, List.set_cons_succ, List.getElem_toArray, List.getElem_cons_succ, List.getElem_cons_zero]
            refine wpAnyH_take (i := 48) (v := .agg #[.string nm, .int .i64 wf, .int .i64 ls, .slice h n cp]) rfl (by kernel_rfl) (by kernel_rfl) (by kernel_rfl) (fun _ _ _ h => h) (Or.inl ⟨by rfl, fun w hSw => by obtain ⟨⟨f0, f1, f2, f3⟩, _⟩ := HQ2.out w hSw; clear hSw; go_simp⟩) hH ?_
            try simp only [Act.put, List.setIfInBounds_toArray, List.set_cons_zero, List.set_cons_succ, List.getElem_toArray, List.getElem_cons_succ, List.getElem_cons_zero]
            refine wpAnyH_take (i := 49) (v := .int .i64 ((m : Int))) rfl (by kernel_rfl) (by kernel_rfl) (by kernel_rfl) (fun _ _ _ h => h) (Or.inl ⟨by rfl, fun w hSw => by clear hSw; go_simp⟩) hH ?_
            try simp only [Act.put, List.setIfInBounds_toArray, List.set_cons_zero, List.set_cons_succ, List.getElem_toArray, List.getElem_cons_succ, List.getElem_cons_zero]
            refine wpAnyH_take (i := 52) (v := .slice (some ⟨gb, 0, none⟩) (rs.length + 1) (rs.length + 1)) rfl (by kernel_rfl) (by kernel_rfl) (by kernel_rfl) (fun _ _ _ h => h) (Or.inl ⟨by rfl, fun w hSw => by clear hSw; go_simp⟩) hH ?_
            try simp only [Act.put, List.setIfInBounds_toArray, List.set_cons_zero, List.set_cons_succ, List.getElem_toArray, List.getElem_cons_succ, List.getElem_cons_zero]
            refine wpAnyH_take (i := 53) (v := .int .i64 ((k : Int))) rfl (by kernel_rfl) (by kernel_rfl) (by kernel_rfl) (fun _ _ _ h => h) (Or.inl ⟨by rfl, fun w hSw => by clear hSw; go_simp⟩) hH ?_
            try simp only [Act.put, List.setIfInBounds_toArray, List.set_cons_zero, List.set_cons_succ, List.getElem_toArray, List.getElem_cons_succ, List.getElem_cons_zero]
            refine wpAnyH_take (i := 54) (v := .pointer (some ⟨gb, k, none⟩)) rfl (by kernel_rfl) (by kernel_rfl) (by kernel_rfl) (fun _ _ _ h => h) (Or.inl ⟨by rfl, fun w hSw => by clear hSw; go_simp⟩) hH ?_
            try simp only [Act.put, List.setIfInBounds_toArray, List.set_cons_zero, List.set_cons_succ, List.getElem_toArray, List.getElem_cons_succ, List.getElem_cons_zero]
            refine wpAnyH_take (i := 55) (v := .slice (some ⟨bk, 0, none⟩) (wn + 1) (wn + 1)) rfl (by kernel_rfl) (by kernel_rfl) (by kernel_rfl) (fun _ _ _ h => h) (Or.inl ⟨by rfl, fun w hSw => by have f0 := (HQ2.out w hSw).2.1; clear hSw; go_simp⟩) hH ?_
            try simp only [Act.put, List.setIfInBounds_toArray, List.set_cons_zero, List.set_cons_succ, List.getElem_toArray, List.getElem_cons_succ, List.getElem_cons_zero]
            refine wpAnyH_take (i := 56) (v := .int .i64 ((rm : Int))) rfl (by kernel_rfl) (by kernel_rfl) (by kernel_rfl) (fun _ _ _ h => h) (Or.inl ⟨by rfl, fun w hSw => by clear hSw; go_simp⟩) hH ?_
            try simp only [Act.put, List.setIfInBounds_toArray, List.set_cons_zero, List.set_cons_succ, List.getElem_toArray, List.getElem_cons_succ, List.getElem_cons_zero]
            refine wpAnyH_take (i := 57) (v := .pointer (some ⟨bk, rm, none⟩)) rfl (by kernel_rfl) (by kernel_rfl) (by kernel_rfl) (fun _ _ _ h => h) (Or.inl ⟨by rfl, fun w hSw => by clear hSw; go_simp⟩) hH ?_
            try simp only [Act.put, List.setIfInBounds_toArray, List.set_cons_zero, List.set_cons_succ, List.getElem_toArray, List.getElem_cons_succ, List.getElem_cons_zero]
            refine wpAnyH_take (i := 58) (v := .int .i64 best) rfl (by kernel_rfl) (by kernel_rfl) (by kernel_rfl) (fun _ _ _ h => h) (Or.inl ⟨by rfl, fun w hSw => by have f0 := (HQ2.out w hSw).2.2.2.1; clear hSw; go_simp⟩) hH ?_
            try simp only [Act.put, List.setIfInBounds_toArray, List.set_cons_zero, List.set_cons_succ, List.getElem_toArray, List.getElem_cons_succ, List.getElem_cons_zero]
            refine wpAnyH_ready (rs := [50]) (by kernel_rfl) (by simp) ?_
            refine AllReadyH.cons rfl (fun K hK => ?_) AllReadyH.nil
            go_simp
            go_at_call 41
            refine (HGc.out _ hH).mono ?_
            rintro e w3 ⟨rfl, hb3⟩
            have h3 : Below wj.heap.size wj w3 := chain hH hb3
            clear hb3
            refine hK.out _ _ h3 (fun _ => ?_)
            clear hK K
            try simp only [Act.put, List.setIfInBounds_toArray, List.set_cons_zero, List.set_cons_succ, List.getElem_toArray, List.getElem_cons_succ, List.getElem_cons_zero]
            refine wpAnyH_take (i := 51) (v := .int .i64 (rv + gv)) rfl (by kernel_rfl) (by kernel_rfl) (by kernel_rfl) (fun _ _ _ h => h) (Or.inl ⟨by rfl, fun w hSw => by clear hSw; go_simp⟩) h3 ?_
            try simp only [Act.put, List.setIfInBounds_toArray, List.set_cons_zero, List.set_cons_succ, List.getElem_toArray, List.getElem_cons_succ, List.getElem_cons_zero]
            refine wpAnyH_take (i := 59) (v := .bool false) rfl (by kernel_rfl) (by kernel_rfl) (by kernel_rfl) (fun _ _ _ h => h) (Or.inl ⟨by rfl, fun w hSw => by clear hSw; go_simp⟩) h3 ?_
            try simp only [Act.put, List.setIfInBounds_toArray, List.set_cons_zero, List.set_cons_succ, List.getElem_toArray, List.getElem_cons_succ, List.getElem_cons_zero]
            refine wpAnyH_take (i := 60) (v := .bool false) rfl (by kernel_rfl) (by kernel_rfl) (by kernel_rfl) (fun _ _ _ h => h) (Or.inl ⟨by rfl, fun w hSw => by clear hSw; go_simp⟩) h3 ?_
            try simp only [Act.put, List.setIfInBounds_toArray, List.set_cons_zero, List.set_cons_succ, List.getElem_toArray, List.getElem_cons_succ, List.getElem_cons_zero]
            refine wpAnyH_done (by kernel_rfl) ?_ _
            have HE : Hid (One wa wa.heap.size (.slice (some ⟨g, 0, none⟩) k cq) L w3) := HOj.out _ h3
            clear HOj hH h3 HQ2 HGc
            obtain ⟨wk, hwk⟩ : ∃ wk, wk = w3 := ⟨_, rfl⟩
            rw [← hwk] at HE ⊢
            clear hwk
            have hkL := HLn.out
            subst hkL
            have HW5 : Hid (One wa wa.heap.size (.slice (some ⟨g, 0, none⟩) L.length cq) L (wk.alloc (Obj.cells #[.int .i64 (m : Int)] 3))) := HE.out.alloc _
            have HNw : Hid (∀ j u, [Value.int .i64 (m : Int)][j]? = some u → (wk.alloc (Obj.cells #[.int .i64 (m : Int)] 3)).cell? ((⟨wk.heap.size, 0, none⟩ : Addr).add j) = some u) := newsOne wk (.int .i64 (m : Int)) 3
            have hw8 : IntKind.i64.wrap (rm2 : Int) = (rm2 : Int) := wrap_id _ (by omega) (by omega)
            rw [← HMe.out] at e1
            have hw7 : IntKind.i64.wrap ((rm : Int) - mv) = (rm2 : Int) := by rw [e1]; exact hw8
            clear hw2
            go_wp2_with (at_builtin; refine wpList_append_lies _ rfl _ _ 24 rfl wa.heap.size 3 i0 (.int .i64 0) 1 8 Try.underlying24 hti hi0 hi1 hi2 rfl (by decide) _ _ _ rfl HW5.out.1 ⟨wk.heap.size, 0, none⟩ 1 1 [.int .i64 (m : Int)] rfl rfl HNw.out (by intro u hu; simp at hu; rcases hu with rfl; rfl) (by omega) (by unfold maxLen; omega) (by omega) HW5.out.2.1 _ rfl ?_; intro g1 cp1 w7 hown1 hgrow1 hat1 hglt1; have HO7 : Hid (One wa wa.heap.size (.slice (some ⟨g1, 0, none⟩) (L.length + 1) cp1) (L ++ [(m : Int)]) w7) := HW5.out.push hown1 hgrow1; have cW := (HD1.out w7 HO7.out.2.2).2.1; clear hown1 hgrow1 hat1)
            have HO8 : Hid (One wa wa.heap.size (.slice (some ⟨g1, 0, none⟩) (L.length + 1) cp1) ((plL rs wn).take (L.length + 1)) w7) := by have := HO7.out; rwa [HTk2.out] at this
            go_roundw
            case rel => exact ⟨L.length + 1, g1, cp1, by omega, by go_num, by rw [HRm2.out], rfl, HO8.out⟩
            case measure => simp [intOf]; omega
      · have hlt' : ¬ (k : Int) < (rs.length : Int) := by omega
        obtain rfl : k = rs.length := by omega
        as_aux_lemma =>
          have HOw : Hid (Own2 wa.heap.size wb (some ⟨g, 0, none⟩) (plL rs wn)) := by
            have h1 := HO.out
            rw [List.take_of_length_le (by rw [HPl.out]; exact Nat.le_refl _)] at h1
            exact h1.own2 HPl.out.symm
          have HBb : Hid (Below w.heap.size w wb) := chain HG.out.bel HO.out.2.2
          have HRb : Hid (wb.heap[R]? = some (.cells #[.slice none 0 0, .int .i64 0, .int .i64 0] 28 (0, 0))) := (HO.out.2.2.block R (blkLt HG.out.hR)).trans HG.out.hR
          have HSh : Hid (Calls Try.prog 16 #[.slice a rs.length cap, .int .i64 (wn : Int), .slice (some ⟨g, 0, none⟩) rs.length cq] wb fun e w' => ∃ q c2, e = .returned (.tuple #[.agg #[.slice q rs.length c2, .int .i64 (usN rs (plL rs wn) rs.length), .int .i64 (gaN rs (plL rs wn) rs.length)], .int .i64 0]) ∧ Own2 wb.heap.size w' q (plL rs wn) ∧ Below wb.heap.size wb w') := by
            have h1 := specShelf_any a cap rs hl HP.out (wn : Int) g 0 cq (plL rs wn) (by rw [HPl.out]; exact hl) wb (HR.out.later HBb.out) HOw.out.reads
            rw [HPl.out] at h1
            refine h1.mono (fun e w' h2 => ?_)
            unfold AnsSh AnsS shL shU shG at h2
            rw [HSc.out, if_pos rfl, if_pos rfl, if_pos rfl, HPl.out] at h2
            exact h2
          have HYe2 : Hid (∀ (q : Option Addr) (c2 : Nat) (w' : World), Own2 w.heap.size w' q (plL rs wn) → Below w.heap.size w w' → AnsBs rs (wn : Int) w (.returned (.tuple #[.agg #[.slice q rs.length c2, .int .i64 (usN rs (plL rs wn) rs.length), .int .i64 (gaN rs (plL rs wn) rs.length)], .int .i64 0])) w') := fun q c2 w' h1 h2 => by
            have h3 := HYe.out q c2 w' HC.out h1 h2
            rw [HPl.out] at h3
            exact h3
          generalize usN rs (plL rs wn) rs.length = uv at *
          generalize gaN rs (plL rs wn) rs.length = gv at *
          clear HYe HO HG HOw
          go_wp2_with fail
          (first | go_at_call 16 | skip)
          refine HSh.out.mono ?_
          rintro e w3 ⟨q, c2, rfl, ho3, hb3⟩
          have hrx := (hb3.block R (blkLt HRb.out)).trans HRb.out
          have HRl : Hid (R < wb.heap.size) := blkLt HRb.out
          have HO3 : Hid (Own2 wb.heap.size w3 q (plL rs wn)) := ho3
          have HB3 : Hid (Below wb.heap.size wb w3) := hb3
          have z0 := blkCell hrx 0 _ rfl
          have z1 := blkCell hrx 1 _ rfl
          have z2 := blkCell hrx 2 _ rfl
          have y0 := blkFree hrx 0
          have y1 := blkFree hrx 1
          have y2 := blkFree hrx 2
          simp only [List.getElem_toArray, List.getElem_cons_zero, List.getElem_cons_succ] at z0 z1 z2
          clear hrx ho3 hb3 HSh
          go_wp2_with fail
          refine bodyPost_ret (v := .tuple #[.agg #[.slice q rs.length c2, .int .i64 uv, .int .i64 gv], .int .i64 0]) (by simp [results, Try.results11, go_sem, z0, z1, z2]) rfl ?_
          refine HYe2.out q c2 _ ?_ ?_
          · refine own2_set ?_ (fun c hc => ?_) _ _
            refine own2_set ?_ (fun c hc => ?_) _ _
            refine own2_set (own2_mono HO3.out HBb.out.size) (fun c hc => ?_) _ _
            all_goals exact own2_neF HO3.out hc HRl.out
          · repeat refine Below.setCell ?_ (by dsimp only; omega) _
            exact chain HBb.out HB3.out
end Go.Proofs.Ytphefbaogfknoaa
