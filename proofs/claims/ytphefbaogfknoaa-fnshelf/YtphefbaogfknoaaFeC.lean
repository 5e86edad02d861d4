/-
  Rows of rows in memory; contracts of the program's bestGains, mostOfTheFirst, BestShelf.
-/
import Derived.Test.YtphefbaogfknoaaFeB
namespace Go.Proofs.Ytphefbaogfknoaa
open Go.ChangeShapes Go.WideShapes Go.ChangeAt Go.RowKit Go.Deep
set_option linter.unusedVariables false

theorem slInfoF : (Try.prog.info? 24).map (fun i => (i.zero, i.size, i.bytes)) = some (some (.slice none 0 0), 1, 24) := by kernel_rfl
/-- Rows from place lo on, in a block of slices. -/
structure GrF (rs : List CFc) (nn gb lo : Nat) (bs : Nat → Nat) (W : World) : Prop where
  top : W.rowIs gb 24 (rs.length + 1) (fun i => if lo ≤ i then .slice (some ⟨bs i, 0, none⟩) nn nn else .slice none 0 0)
  row : ∀ i, lo ≤ i → i ≤ rs.length → RwI W (bs i) nn (dp (rs.drop i))
theorem GrF.later {rs : List CFc} {nn gb lo : Nat} {bs : Nat → Nat} {W W' : World} (h : GrF rs nn gb lo bs W) (hb : Below W.heap.size W W') : GrF rs nn gb lo bs W' :=
  ⟨h.top.of_block (hb.block gb h.top.lt), fun i h1 h2 => (h.row i h1 h2).later hb⟩
theorem rw_far {w : World} {b g n m : Nat} {f : Nat → Int} {v : Nat → Value} (h : RwI w b n f) (hg : w.rowIs g 24 m v) : g ≠ b := by
  intro e
  subst e
  obtain ⟨c, hc, _⟩ := h
  obtain ⟨c2, hc2, _⟩ := hg
  rw [hc] at hc2
  simp at hc2
theorem GrF.put {rs : List CFc} {nn gb p nb : Nat} {bs : Nat → Nat} {W : World} (h : GrF rs nn gb (p + 1) bs W) (hn : RwI W nb nn (dp (rs.drop p))) : GrF rs nn gb p (fun i => if i = p then nb else bs i) (W.setCell ⟨gb, p, none⟩ (.slice (some ⟨nb, 0, none⟩) nn nn)) := by
  refine ⟨(h.top.set p _).congr (fun i hi => ?_), fun i h1 h2 => ?_⟩
  · by_cases e : i = p
    · rw [if_pos e, if_pos (by omega), if_pos e]
    · rw [if_neg e]
      by_cases e2 : p + 1 ≤ i
      · rw [if_pos e2, if_pos (by omega), if_neg e]
      · rw [if_neg e2, if_neg (by omega)]
  · by_cases e : i = p
    · rw [if_pos e, e]; exact hn.far (rw_far hn h.top) _ _
    · rw [if_neg e]; exact (h.row i (by omega) h2).far (rw_far (h.row i (by omega) h2) h.top) _ _
theorem dp_small {rs : List CFc} (h12 : rs.length ≤ 12) (hr : ∀ r ∈ rs, FcR r) (p : Nat) (hp : p ≤ rs.length) : ∀ i, -1 ≤ dp (rs.drop p) i ∧ dp (rs.drop p) i ≤ 600000 * ((rs.length - p : Nat) : Int) := fun i => by
  have := dp_bound (rs.drop p) (fun r hq => hr r (List.mem_of_mem_drop hq)) i
  rw [List.length_drop] at this
  exact this
set_option maxHeartbeats 8000000 in
set_option maxRecDepth 4000 in
theorem bestGains_any (a : Option Addr) (cap : Nat) (rs : List CFc) (h12 : rs.length ≤ 12) (hrr : ∀ r ∈ rs, FcR r) (wd : Nat) (hwd : wd ≤ 2000) (w : World) (hr : ReadsFc w.heap.size w a rs) :
    Calls Try.prog 32 #[.slice a rs.length cap, .int .i64 (wd : Int)] w fun e w' => ∃ gb bs, e = .returned (.slice (some ⟨gb, 0, none⟩) (rs.length + 1) (rs.length + 1)) ∧ GrF rs (wd + 1) gb 0 bs w' ∧ Below w.heap.size w w' := by
  have hmk1 := fun w => run_make_row' (P := Try.prog) 57 24 (.slice none 0 0) 24 Try.underlying57 slInfoF rfl .i64 .i64 (rs.length + 1) (by omega) (by omega) w
  have hmk2 := fun w => run_make_row' (P := Try.prog) 24 3 (.int .i64 0) 8 Try.underlying24 intInfo rfl .i64 .i64 (wd + 1) (by omega) (by omega) w
  rw [show (((rs.length + 1 : Nat)) : Int) = (rs.length : Int) + 1 by omega] at hmk1
  rw [show (((wd + 1 : Nat)) : Int) = (wd : Int) + 1 by omega] at hmk2
  have HR : Hid (ReadsFc w.heap.size w a rs) := hr
  have HRR : Hid (∀ r ∈ rs, FcR r) := hrr
  clear hr hrr
  obtain ⟨W1, hW1⟩ : ∃ W1, W1 = w.alloc (Obj.cells (madeCells #[.slice none 0 0] (rs.length + 1)) 24) := ⟨_, rfl⟩
  obtain ⟨gb, hgb⟩ : ∃ gb, gb = w.heap.size := ⟨_, rfl⟩
  have HW1 : Hid (W1 = w.alloc (Obj.cells (madeCells #[.slice none 0 0] (rs.length + 1)) 24) ∧ gb = w.heap.size) := ⟨hW1, hgb⟩
  have HB1 : Hid (Below w.heap.size w W1) := by show Below _ _ _; rw [hW1]; exact below_alloc _ _
  have HT1 : Hid (W1.rowIs gb 24 (rs.length + 1) (fun _ => .slice none 0 0)) := by show World.rowIs _ _ _ _ _; rw [hW1, hgb]; exact World.rowIs_made w (.slice none 0 0) (rs.length + 1) 24
  obtain ⟨W3, hW3⟩ : ∃ W3, W3 = (W1.setCell ⟨gb, rs.length, none⟩ (.slice (some ⟨W1.heap.size, 0, none⟩) (wd + 1) (wd + 1))).alloc (Obj.cells (madeCells #[.int .i64 0] (wd + 1)) 3) := ⟨_, rfl⟩
  have hgw : w.heap.size ≤ gb := by rw [hgb]; exact Nat.le_refl _
  have HW3 : Hid (W3 = (W1.setCell ⟨gb, rs.length, none⟩ (.slice (some ⟨W1.heap.size, 0, none⟩) (wd + 1) (wd + 1))).alloc (Obj.cells (madeCells #[.int .i64 0] (wd + 1)) 3)) := hW3
  have HB2 : Hid (Below (W1.setCell ⟨gb, rs.length, none⟩ (.slice (some ⟨W1.heap.size, 0, none⟩) (wd + 1) (wd + 1))).heap.size (W1.setCell ⟨gb, rs.length, none⟩ (.slice (some ⟨W1.heap.size, 0, none⟩) (wd + 1) (wd + 1))) W3) := by show Below _ _ _; rw [hW3]; exact below_alloc _ _
  have HG0 : Hid (GrF rs (wd + 1) gb rs.length (fun _ => W1.heap.size) W3) := by
    have hrw : RwI W3 W1.heap.size (wd + 1) (fun _ => 0) := by
      have h := World.rowIs_made (W1.setCell ⟨gb, rs.length, none⟩ (.slice (some ⟨W1.heap.size, 0, none⟩) (wd + 1) (wd + 1))) (.int .i64 0) (wd + 1) 3
      rw [nblk_setCell] at h
      rw [hW3]; exact h
    have hs := HT1.out.set rs.length (.slice (some ⟨W1.heap.size, 0, none⟩) (wd + 1) (wd + 1))
    have ht := hs.of_block (HB2.out.block gb hs.lt)
    refine ⟨ht.congr (fun i hi => ?_), fun i h1 h2 => ?_⟩
    · by_cases e : i = rs.length
      · rw [if_pos e, if_pos (by omega)]
      · rw [if_neg e, if_neg (by omega)]
    · obtain rfl : i = rs.length := by omega
      rw [List.drop_length]
      exact hrw.congr (fun _ _ => rfl)
  have HBx : Hid (Below w.heap.size w W3) := chain (HB1.out.setCell hgw _) HB2.out
  have x0 := HT1.out.cell (i := rs.length) (by omega)
  have x1 : W1.frozen? ⟨gb, rs.length, none⟩ = false := HT1.out.frozen rs.length
  have x2 : gb < W1.heap.size := HT1.out.lt
  have x3 : (W1.alloc (Obj.cells (madeCells #[.int .i64 0] (wd + 1)) 3)).cell? ⟨gb, rs.length, none⟩ = some (.slice none 0 0) := (cellOld _ _ x2).trans x0
  have x4 : (W1.alloc (Obj.cells (madeCells #[.int .i64 0] (wd + 1)) 3)).frozen? ⟨gb, rs.length, none⟩ = false := ((below_alloc _ _).frozen (p := ⟨gb, rs.length, none⟩) x2).trans x1
  clear hW1 hgb hW3
  go_enter Try.func32, Try.ntmps32
  go_upto_region 2 with fail
  rw [← HW1.out.1, ← HW1.out.2]
  clear HW1 hmk1
  go_upto_region 3 with fail
  rw [← HW3.out]
  clear HW3 hmk2 x0 x1 x2 x3 x4 HT1
  clear HB2 HB1
  go_wp2_with fail
  go_loopw [6, 7, 21] (fun _ _ c wr => ∃ (j lo : Nat) (bs : Nat → Nat), lo + j = rs.length ∧ c = .int .i64 (j : Int) ∧ GrF rs (wd + 1) gb lo bs wr ∧ Below w.heap.size w wr) (fun _ _ c _ => rs.length - (intOf c).toNat)
  case atStart => exact ⟨0, rs.length, _, rfl, rfl, HG0.out, HBx.out⟩
  case round =>
    clear HG0 HBx
    obtain ⟨j, lo, bs, hlo, rfl, hG, hB⟩ := hrel
    have HG : Hid (GrF rs (wd + 1) gb lo bs wr) := hG
    have HB : Hid (Below w.heap.size w wr) := hB
    have HLo : Hid (lo + j = rs.length) := hlo
    clear hG hB
    by_cases hlt : j < rs.length
    · have hlt' : (j : Int) < (rs.length : Int) := by omega
      obtain ⟨p, hp⟩ : ∃ p, lo = p + 1 := ⟨lo - 1, by omega⟩
      have hpl : p < rs.length := by omega
      have hpl' : (p : Int) < (rs.length : Int) := by omega
      have e1 : (rs.length : Int) - 1 - (j : Int) = (p : Int) := by omega
      have hw1 : IntKind.i64.wrap ((rs.length : Int) - 1) = (rs.length : Int) - 1 := wrap_id _ (by omega) (by omega)
      have hw2 : IntKind.i64.wrap ((rs.length : Int) - 1 - (j : Int)) = (p : Int) := by rw [e1]; exact wrap_id _ (by omega) (by omega)
      have hp1 : (p : Int) + 1 < (rs.length : Int) + 1 := by omega
      have hp3 : ¬ (p : Int) + 1 < 0 := by omega
      have hw3 : IntKind.i64.wrap ((p : Int) + 1) = (p : Int) + 1 := wrap_id _ (by omega) (by omega)
      have hp2 : (p : Int) < (rs.length : Int) + 1 := by omega
      subst hp
      rcases HR.out with h0 | ⟨b0, o0, ha, hB0, ia⟩
      · rw [h0] at hpl; simp at hpl
      obtain ⟨h, cp, ⟨c0, c1, c2, c3⟩, hcp, hS⟩ := (ia.below HB.out hB0 (Nat.le_refl _)) p hpl
      subst ha
      have hFr := getFc HRR.out hpl
      have HRa : Hid (∀ W, Below wr.heap.size wr W → Calls Try.prog 55 #[.agg #[.string (rs.getD p zFc).nm, .int .i64 (rs.getD p zFc).wd, .int .i64 (rs.getD p zFc).ls, .slice h (rs.getD p zFc).gs.length cp], .slice (some ⟨bs (p + 1), 0, none⟩) (wd + 1) (wd + 1)] W fun e w' => ∃ nb, e = .returned (.slice (some ⟨nb, 0, none⟩) (wd + 1) (wd + 1)) ∧ RwI w' nb (wd + 1) (dp (rs.drop p)) ∧ Below W.heap.size W w') := fun W hb => by
        have h1 := rowAhead_any (rs.getD p zFc) hFr h cp hcp (wd + 1) (bs (p + 1)) (wd + 1) (by omega) (by omega) (dp (rs.drop (p + 1))) (fun i => by have := dp_small h12 HRR.out (p + 1) (by omega) i; omega) W ((hS.mono HB.out.size).later hb) (((HG.out.later hb).row (p + 1) (Nat.le_refl _) (by omega)))
        rw [← dp_at hpl] at h1
        exact h1.mono (fun e w' ⟨nb, q1, q2, q3, q4⟩ => ⟨nb, q1, q3, q4⟩)
      have hb0w : b0 < wr.heap.size := Nat.lt_of_lt_of_le hB0 HB.out.size
      clear ia hS hcp hFr
      generalize rs.getD p zFc = r at *
      obtain ⟨nm, wf, ls, gs⟩ := r
      dsimp only at *
      generalize gs.length = n at *
      have HQ : Hid (∀ W, Below wr.heap.size wr W → (W.cell? ⟨b0, o0 + p * 4, none⟩ = some (.string nm) ∧ W.cell? ⟨b0, o0 + p * 4 + 1, none⟩ = some (.int .i64 wf) ∧ W.cell? ⟨b0, o0 + p * 4 + 2, none⟩ = some (.int .i64 ls) ∧ W.cell? ⟨b0, o0 + p * 4 + 3, none⟩ = some (.slice h n cp)) ∧ W.cell? ⟨gb, p + 1, none⟩ = some (.slice (some ⟨bs (p + 1), 0, none⟩) (wd + 1) (wd + 1)) ∧ W.cell? ⟨gb, p, none⟩ = some (.slice none 0 0) ∧ W.frozen? ⟨gb, p, none⟩ = false) := fun W hb => by
        have h1 := HG.out.later hb
        have h2 := h1.top.cell (i := p + 1) (by omega)
        have h3 := h1.top.cell (i := p) (by omega)
        try dsimp only at h2 h3
        rw [if_pos (Nat.le_refl _)] at h2
        rw [if_neg (by omega)] at h3
        exact ⟨⟨(hb.cell (p := ⟨b0, o0 + p * 4, none⟩) hb0w).trans c0, (hb.cell (p := ⟨b0, o0 + p * 4 + 1, none⟩) hb0w).trans c1, (hb.cell (p := ⟨b0, o0 + p * 4 + 2, none⟩) hb0w).trans c2, (hb.cell (p := ⟨b0, o0 + p * 4 + 3, none⟩) hb0w).trans c3⟩, h2, h3, h1.top.frozen p⟩
      have HPut : Hid (∀ W nb, Below wr.heap.size wr W → RwI W nb (wd + 1) (dp (rs.drop p)) → GrF rs (wd + 1) gb p (fun i => if i = p then nb else bs i) (W.setCell ⟨gb, p, none⟩ (.slice (some ⟨nb, 0, none⟩) (wd + 1) (wd + 1))) ∧ Below w.heap.size w (W.setCell ⟨gb, p, none⟩ (.slice (some ⟨nb, 0, none⟩) (wd + 1) (wd + 1)))) := fun W nb hb hn => ⟨(HG.out.later hb).put hn, (chain HB.out hb).setCell hgw _⟩
      obtain ⟨bp, hbp⟩ : ∃ bp, bp = bs (p + 1) := ⟨_, rfl⟩
      rw [← hbp] at HRa HQ
      clear hbp HG c0 c1 c2 c3 e1 hlo
      go_upto_region 7 with fail
      refine wp_region_z (S := fun W' => Below wr.heap.size wr W') 13 (by kernel_rfl) (below_drew _) (fun hH => ?_)
      refine wpAnyZ_take (i := 0) (v := .slice (some ⟨gb, 0, none⟩) (rs.length + 1) (rs.length + 1)) rfl (by kernel_rfl) (by kernel_rfl) (by kernel_rfl) (by kernel_rfl) (fun _ _ _ h => h) (Or.inl ⟨by rfl, fun w hSw => by clear hSw; go_simp⟩) hH ?_
      refine wpAnyZ_take (i := 1) (v := .int .i64 (p : Int)) rfl (by kernel_rfl) (by kernel_rfl) (by kernel_rfl) (by kernel_rfl) (fun _ _ _ h => h) (Or.inl ⟨by rfl, fun w hSw => by clear hSw; go_simp⟩) hH ?_
      try simp only [Act.put, List.setIfInBounds_toArray, List.set_cons_zero, List.set_cons_succ, List.getElem_toArray, List.getElem_cons_succ, List.getElem_cons_zero]
      refine wpAnyZ_take (i := 2) (v := .slice (some ⟨b0, o0, none⟩) rs.length cap) rfl (by kernel_rfl) (by kernel_rfl) (by kernel_rfl) (by kernel_rfl) (fun _ _ _ h => h) (Or.inl ⟨by rfl, fun w hSw => by clear hSw; go_simp⟩) hH ?_
      try simp only [Act.put, List.setIfInBounds_toArray, List.set_cons_zero, List.set_cons_succ, List.getElem_toArray, List.getElem_cons_succ, List.getElem_cons_zero]
      refine wpAnyZ_take (i := 3) (v := .int .i64 (p : Int)) rfl (by kernel_rfl) (by kernel_rfl) (by kernel_rfl) (by kernel_rfl) (fun _ _ _ h => h) (Or.inl ⟨by rfl, fun w hSw => by clear hSw; go_simp⟩) hH ?_
      try simp only [Act.put, List.setIfInBounds_toArray, List.set_cons_zero, List.set_cons_succ, List.getElem_toArray, List.getElem_cons_succ, List.getElem_cons_zero]
      refine wpAnyZ_take (i := 4) (v := .pointer (some ⟨b0, o0 + p * 4, none⟩)) rfl (by kernel_rfl) (by kernel_rfl) (by kernel_rfl) (by kernel_rfl) (fun _ _ _ h => h) (Or.inl ⟨by rfl, fun w hSw => by clear hSw; go_simp⟩) hH ?_
      try simp only [Act.put, List.setIfInBounds_toArray, List.set_cons_zero, List.set_cons_succ, List.getElem_toArray, List.getElem_cons_succ, List.getElem_cons_zero]
      refine wpAnyZ_take (i := 5) (v := .agg #[.string nm, .int .i64 wf, .int .i64 ls, .slice h n cp]) rfl (by kernel_rfl) (by kernel_rfl) (by kernel_rfl) (by kernel_rfl) (fun _ _ _ h => h) (Or.inl ⟨by rfl, fun w hSw => by obtain ⟨⟨f0, f1, f2, f3⟩, _⟩ := HQ.out w hSw; clear hSw; go_simp⟩) hH ?_
      try simp only [Act.put, List.setIfInBounds_toArray, List.set_cons_zero, List.set_cons_succ, List.getElem_toArray, List.getElem_cons_succ, List.getElem_cons_zero]
      refine wpAnyZ_take (i := 6) (v := .slice (some ⟨gb, 0, none⟩) (rs.length + 1) (rs.length + 1)) rfl (by kernel_rfl) (by kernel_rfl) (by kernel_rfl) (by kernel_rfl) (fun _ _ _ h => h) (Or.inl ⟨by rfl, fun w hSw => by clear hSw; go_simp⟩) hH ?_
      try simp only [Act.put, List.setIfInBounds_toArray, List.set_cons_zero, List.set_cons_succ, List.getElem_toArray, List.getElem_cons_succ, List.getElem_cons_zero]
      refine wpAnyZ_take (i := 7) (v := .int .i64 (p : Int)) rfl (by kernel_rfl) (by kernel_rfl) (by kernel_rfl) (by kernel_rfl) (fun _ _ _ h => h) (Or.inl ⟨by rfl, fun w hSw => by clear hSw; go_simp⟩) hH ?_
      try simp only [Act.put, List.setIfInBounds_toArray, List.set_cons_zero, List.set_cons_succ, List.getElem_toArray, List.getElem_cons_succ, List.getElem_cons_zero]
      refine wpAnyZ_take (i := 8) (v := .int .i64 ((p : Int) + 1)) rfl (by kernel_rfl) (by kernel_rfl) (by kernel_rfl) (by kernel_rfl) (fun _ _ _ h => h) (Or.inl ⟨by rfl, fun w hSw => by clear hSw; go_simp⟩) hH ?_
      try simp only [Act.put, List.setIfInBounds_toArray, List.set_cons_zero, List.set_cons_succ, List.getElem_toArray, List.getElem_cons_succ, List.getElem_cons_zero]
      refine wpAnyZ_take (i := 9) (v := .pointer (some ⟨gb, p + 1, none⟩)) rfl (by kernel_rfl) (by kernel_rfl) (by kernel_rfl) (by kernel_rfl) (fun _ _ _ h => h) (Or.inl ⟨by rfl, fun w hSw => by clear hSw; go_simp⟩) hH ?_
      try simp only [Act.put, List.setIfInBounds_toArray, List.set_cons_zero, List.set_cons_succ, List.getElem_toArray, List.getElem_cons_succ, List.getElem_cons_zero]
      refine wpAnyZ_take (i := 10) (v := .slice (some ⟨bp, 0, none⟩) (wd + 1) (wd + 1)) rfl (by kernel_rfl) (by kernel_rfl) (by kernel_rfl) (by kernel_rfl) (fun _ _ _ h => h) (Or.inl ⟨by rfl, fun w hSw => by have f0 := (HQ.out w hSw).2.1; clear hSw; go_simp⟩) hH ?_
      try simp only [Act.put, List.setIfInBounds_toArray, List.set_cons_zero, List.set_cons_succ, List.getElem_toArray, List.getElem_cons_succ, List.getElem_cons_zero]
      refine wpAnyZ_ready (rs := [11]) (by kernel_rfl) (by simp) ?_
      refine AllReadyZ.cons rfl (fun K hK => ?_) AllReadyZ.nil
      go_simp
      go_at_call 55
      refine (HRa.out _ hH).mono ?_
      rintro e w3 ⟨nb, rfl, hn3, hb3⟩
      have h3 : Below wr.heap.size wr w3 := chain hH hb3
      have HN : Hid (GrF rs (wd + 1) gb p (fun i => if i = p then nb else bs i) (w3.setCell ⟨gb, p, none⟩ (.slice (some ⟨nb, 0, none⟩) (wd + 1) (wd + 1))) ∧ Below w.heap.size w (w3.setCell ⟨gb, p, none⟩ (.slice (some ⟨nb, 0, none⟩) (wd + 1) (wd + 1)))) := HPut.out w3 nb h3 hn3
      clear hb3 hn3
      refine hK.out _ _ (Or.inr h3) (fun _ => ?_)
      clear hK K
      try simp only [Act.put, List.setIfInBounds_toArray, List.set_cons_zero, List.set_cons_succ, List.getElem_toArray, List.getElem_cons_succ, List.getElem_cons_zero]
      refine wpAnyZ_take (i := 12) (v := .pointer (some ⟨gb, p, none⟩)) rfl (by kernel_rfl) (by kernel_rfl) (by kernel_rfl) (by kernel_rfl) (fun _ _ _ h => h) (Or.inl ⟨by rfl, fun w hSw => by clear hSw; go_simp⟩) h3 ?_
      try simp only [Act.put, List.setIfInBounds_toArray, List.set_cons_zero, List.set_cons_succ, List.getElem_toArray, List.getElem_cons_succ, List.getElem_cons_zero]
      refine wpAnyZ_ready (rs := [13]) (by kernel_rfl) (by simp) ?_
      refine AllReadyZ.cons rfl (fun K hK => ?_) AllReadyZ.nil
      obtain ⟨_, _, y0, y1⟩ := HQ.out w3 h3
      clear h3 hH
      go_simp
      refine hK.out _ _ (Or.inl rfl) (fun _ => ?_)
      clear hK K
      try simp only [Act.put, List.setIfInBounds_toArray, List.set_cons_zero, List.set_cons_succ, List.getElem_toArray, List.getElem_cons_succ, List.getElem_cons_zero]
      refine wpAnyZ_done (by kernel_rfl) ?_ _
      clear y0 y1
      generalize w3.setCell ⟨gb, p, none⟩ (.slice (some ⟨nb, 0, none⟩) (wd + 1) (wd + 1)) = wz at *
      go_wp2_with fail
      go_roundw
      case rel => exact ⟨j + 1, p, _, by have := HLo.out; omega, by go_num, HN.out.1, HN.out.2⟩
      case measure => simp [intOf]; omega
    · have hlt' : ¬ (j : Int) < (rs.length : Int) := by omega
      obtain rfl : lo = 0 := by omega
      go_wp2_with fail
      go_ret
      exact ⟨gb, rfl, ⟨bs, HG.out⟩, HB.out⟩
theorem rowI_own2 {W : World} {B b : Nat} {L : List Int} {f : Nat → Int} {n : Nat} (h : RwI W b n f) (hB : B ≤ b) (hn : n = L.length) (hf : ∀ i, i < n → f i = L.getD i 0) : Own2 B W (some ⟨b, 0, none⟩) L := by
  refine .inr ⟨b, rfl, hB, h.lt, fun i hi => ?_, fun i hi => ?_⟩
  · rw [Nat.zero_add, h.cell (i := i) (by omega), hf i (by omega)]
  · rw [Nat.zero_add]; exact h.frozen i
theorem pl_getD (rs : List CFc) (w i : Nat) (hi : i < rs.length) : (plL rs w).getD i 0 = (cnAt rs w i : Int) := by
  rw [plL_eq]
  simp [List.getD_eq_getElem?_getD, hi]
set_option maxHeartbeats 8000000 in
set_option maxRecDepth 4000 in
theorem mostFirst_any (a : Option Addr) (cap : Nat) (rs : List CFc) (h12 : rs.length ≤ 12) (hrr : ∀ r ∈ rs, FcR r) (wd : Nat) (hwd : wd ≤ 2000) (hd : 0 ≤ dp rs wd) (gb : Nat) (bs : Nat → Nat) (w : World) (hr : ReadsFc w.heap.size w a rs) (hG : GrF rs (wd + 1) gb 0 bs w) :
    Calls Try.prog 33 #[.slice a rs.length cap, .int .i64 (wd : Int), .slice (some ⟨gb, 0, none⟩) (rs.length + 1) (rs.length + 1)] w fun e w' => ∃ g, e = .returned (.slice (some ⟨g, 0, none⟩) rs.length rs.length) ∧ Own2 w.heap.size w' (some ⟨g, 0, none⟩) (plL rs wd) ∧ Below w.heap.size w w' := by
  have hmk := fun w => run_make_row' (P := Try.prog) 24 3 (.int .i64 0) 8 Try.underlying24 intInfo rfl .i64 .i64 rs.length (by omega) (by omega) w
  have HR : Hid (ReadsFc w.heap.size w a rs) := hr
  have HRR : Hid (∀ r ∈ rs, FcR r) := hrr
  have HG : Hid (GrF rs (wd + 1) gb 0 bs w) := hG
  have HRm : Hid (∀ p, p ≤ rs.length → rmN rs wd p ≤ wd ∧ 0 ≤ dp (rs.drop p) (rmN rs wd p)) := rm_ok hrr hd
  have HCn : Hid (∀ p, p < rs.length → cnAt rs wd p ≤ wiN (rs.getD p zFc) (rmN rs wd p) ∧ gA (rs.getD p zFc) (dp (rs.drop (p + 1))) (rmN rs wd p) (cnAt rs wd p) = dp (rs.drop p) (rmN rs wd p) ∧ cnAt rs wd p = pkN (rs.getD p zFc) (dp (rs.drop (p + 1))) (rmN rs wd p) (dp (rs.drop p) (rmN rs wd p)) (wiN (rs.getD p zFc) (rmN rs wd p))) := fun p hp => cn_ok hrr hd hp
  have HRn : Hid (∀ p, rmN rs wd (p + 1) = rmN rs wd p - cnAt rs wd p * (rs.getD p zFc).wd.toNat) := fun p => rfl
  clear hr hrr hG hd
  obtain ⟨W0, hW0⟩ : ∃ W0, W0 = w.alloc (Obj.cells (madeCells #[.int .i64 0] rs.length) 3) := ⟨_, rfl⟩
  obtain ⟨kb, hkb⟩ : ∃ kb, kb = w.heap.size := ⟨_, rfl⟩
  have HW0 : Hid (W0 = w.alloc (Obj.cells (madeCells #[.int .i64 0] rs.length) 3) ∧ kb = w.heap.size) := ⟨hW0, hkb⟩
  have HB0 : Hid (Below w.heap.size w W0) := by show Below _ _ _; rw [hW0]; exact below_alloc _ _
  have hkw : w.heap.size ≤ kb := by rw [hkb]; exact Nat.le_refl _
  have HK0 : Hid (RwI W0 kb rs.length (fun i => if i < 0 then (cnAt rs wd i : Int) else 0)) := by show RwI _ _ _ _; rw [hW0, hkb]; exact RwI.congr (World.rowIs_made w (.int .i64 0) rs.length 3) (fun i _ => by rw [if_neg (by omega)])
  have HG0 : Hid (GrF rs (wd + 1) gb 0 bs W0) := HG.out.later HB0.out
  have HKb : Hid (∀ i, i ≤ rs.length → bs i ≠ kb) := fun i hi e => by
    have := (HG.out.row i (Nat.zero_le _) hi).lt
    omega
  clear hW0 hkb
  go_enter Try.func33, Try.ntmps33
  go_upto_region 4 with fail
  rw [← HW0.out.1, ← HW0.out.2]
  clear HW0 hmk
  go_loopw [8, 9, 10, 17] (fun v _ _ c wr => ∃ k : Nat, k ≤ rs.length ∧ c = .int .i64 (k : Int) ∧ v = .int .i64 (rmN rs wd k : Int) ∧ RwI wr kb rs.length (fun i => if i < k then (cnAt rs wd i : Int) else 0) ∧ GrF rs (wd + 1) gb 0 bs wr ∧ Below w.heap.size w wr) (fun _ _ _ c _ => rs.length - (intOf c).toNat)
  case atStart => exact ⟨0, Nat.zero_le _, rfl, rfl, HK0.out, HG0.out, HB0.out⟩
  case round =>
    clear HK0 HG0 HB0 HG
    obtain ⟨k, hk, rfl, rfl, hK, hG, hB⟩ := hrel
    have HK : Hid (RwI wr kb rs.length (fun i => if i < k then (cnAt rs wd i : Int) else 0)) := hK
    have HG : Hid (GrF rs (wd + 1) gb 0 bs wr) := hG
    have HB : Hid (Below w.heap.size w wr) := hB
    clear hK hG hB
    by_cases hlt : k < rs.length
    · have hlt' : (k : Int) < (rs.length : Int) := by omega
      have hk1 : (k : Int) + 1 < (rs.length : Int) + 1 := by omega
      have hk3 : ¬ (k : Int) + 1 < 0 := by omega
      have hw3 : IntKind.i64.wrap ((k : Int) + 1) = (k : Int) + 1 := wrap_id _ (by omega) (by omega)
      have hk2 : (k : Int) < (rs.length : Int) + 1 := by omega
      rcases HR.out with h0 | ⟨b0, o0, ha, hB0, ia⟩
      · rw [h0] at hlt; simp at hlt
      obtain ⟨h, cp, ⟨c0, c1, c2, c3⟩, hcp, hS⟩ := (ia.below HB.out hB0 (Nat.le_refl _)) k hlt
      subst ha
      have hFr := getFc HRR.out hlt
      obtain ⟨m1, m2, m3⟩ := HCn.out k hlt
      obtain ⟨n1, n2⟩ := HRm.out k (by omega)
      obtain ⟨f1, f2⟩ := wi_fits hFr m1
      have h6 := wi_small hFr (rmN rs wd k)
      have hcm := cast_mul (n := cnAt rs wd k) (wd := (rs.getD k zFc).wd) (by have := hFr.2.1; omega)
      have hrn := HRn.out k
      have hmu := mul_small (c := (cnAt rs wd k : Int)) (wd := (rs.getD k zFc).wd) ⟨by omega, by omega⟩ hFr.2.1
      have e1 : (rmN rs wd k : Int) - (cnAt rs wd k : Int) * (rs.getD k zFc).wd = (rmN rs wd (k + 1) : Int) := by omega
      have HMf : Hid (∀ W, Below wr.heap.size wr W → Calls Try.prog 56 #[.agg #[.string (rs.getD k zFc).nm, .int .i64 (rs.getD k zFc).wd, .int .i64 (rs.getD k zFc).ls, .slice h (rs.getD k zFc).gs.length cp], .int .i64 (dp (rs.drop k) (rmN rs wd k)), .int .i64 (rmN rs wd k : Int), .slice (some ⟨bs (k + 1), 0, none⟩) (wd + 1) (wd + 1)] W fun e w' => e = .returned (.int .i64 (cnAt rs wd k : Int)) ∧ Below W.heap.size W w') := fun W hb => by
        have h1 := mostFor_any (rs.getD k zFc) hFr h cp hcp (rmN rs wd k) (wd + 1) (bs (k + 1)) (wd + 1) (by omega) (by omega) (dp (rs.drop (k + 1))) (fun i => by have := dp_small h12 HRR.out (k + 1) (by omega) i; omega) (dp (rs.drop k) (rmN rs wd k)) (by rw [← m3]; exact m2) W ((hS.mono HB.out.size).later hb) ((HG.out.later hb).row (k + 1) (Nat.zero_le _) (by omega))
        rw [← m3] at h1
        exact h1
      have HUs : Hid (∀ W, Calls Try.prog 53 #[.agg #[.string (rs.getD k zFc).nm, .int .i64 (rs.getD k zFc).wd, .int .i64 (rs.getD k zFc).ls, .slice h (rs.getD k zFc).gs.length cp], .int .i64 (cnAt rs wd k : Int)] W fun e w' => e = .returned (.int .i64 ((cnAt rs wd k : Int) * (rs.getD k zFc).wd)) ∧ Below W.heap.size W w') := fun W => uses_any (rs.getD k zFc) hFr h cp (cnAt rs wd k : Int) ⟨by omega, by omega⟩ W
      have HQ0 : Hid (∀ W, Below wr.heap.size wr W → W.cell? ⟨gb, k, none⟩ = some (.slice (some ⟨bs k, 0, none⟩) (wd + 1) (wd + 1)) ∧ W.cell? ⟨bs k, rmN rs wd k, none⟩ = some (.int .i64 (dp (rs.drop k) (rmN rs wd k))) ∧ W.cell? ⟨gb, k + 1, none⟩ = some (.slice (some ⟨bs (k + 1), 0, none⟩) (wd + 1) (wd + 1))) := fun W hb => by
        have h1 := HG.out.later hb
        have q1 := h1.top.cell (i := k) (by omega)
        have q2 := h1.top.cell (i := k + 1) (by omega)
        try dsimp only at q1 q2
        rw [if_pos (Nat.zero_le _)] at q1 q2
        exact ⟨q1, (h1.row k (Nat.zero_le _) (by omega)).cell (i := rmN rs wd k) (by omega), q2⟩
      have hrm : (rmN rs wd k : Int) < (wd : Int) + 1 := by omega
      obtain ⟨rm, hrmE⟩ : ∃ rm, rm = rmN rs wd k := ⟨_, rfl⟩
      obtain ⟨rm2, hrmE2⟩ : ∃ rm2, rm2 = rmN rs wd (k + 1) := ⟨_, rfl⟩
      obtain ⟨cn, hcn⟩ : ∃ cn, cn = cnAt rs wd k := ⟨_, rfl⟩
      obtain ⟨bv, hbv⟩ : ∃ bv, bv = dp (rs.drop k) (rmN rs wd k) := ⟨_, rfl⟩
      obtain ⟨bk, hbk⟩ : ∃ bk, bk = bs k := ⟨_, rfl⟩
      obtain ⟨bk1, hbk1⟩ : ∃ bk1, bk1 = bs (k + 1) := ⟨_, rfl⟩
      rw [← hbv, ← hcn, ← hrmE, ← hbk1] at HMf
      rw [← hcn] at HUs hmu
      rw [← hbk, ← hbk1, ← hbv, ← hrmE] at HQ0
      rw [← hrmE] at hrm n1 ⊢
      rw [← hrmE, ← hrmE2, ← hcn] at e1
      have HRmE : Hid (rm2 = rmN rs wd (k + 1)) := hrmE2
      have HCnE : Hid (cn = cnAt rs wd k) := hcn
      have hrm2 : rm2 ≤ 2000 := by rw [hrmE2]; have := (HRm.out (k + 1) hlt).1; omega
      clear m1 m2 m3 n2 f1 f2 hcm hrn hrmE hrmE2 hcn hbv hbk hbk1 hcp hFr h6 ia hS
      generalize hv : (cn : Int) * (rs.getD k zFc).wd = mv at *
      clear hv
      generalize rs.getD k zFc = r at *
      obtain ⟨nm, wf, ls, gs⟩ := r
      dsimp only at *
      generalize gs.length = n at *
      have hw4 : IntKind.i64.wrap (rm2 : Int) = (rm2 : Int) := wrap_id _ (by omega) (by omega)
      have hw2 : IntKind.i64.wrap ((rm : Int) - mv) = (rm2 : Int) := by rw [e1]; exact wrap_id _ (by omega) (by omega)
      obtain ⟨Wu, hWu⟩ : ∃ Wu, Wu = wr.alloc (Obj.cells #[.string nm, .int .i64 wf, .int .i64 ls, .slice h n cp] 51) := ⟨_, rfl⟩
      obtain ⟨ub, hub⟩ : ∃ ub, ub = wr.heap.size := ⟨_, rfl⟩
      have HWu : Hid (Wu = wr.alloc (Obj.cells #[.string nm, .int .i64 wf, .int .i64 ls, .slice h n cp] 51) ∧ ub = wr.heap.size) := ⟨hWu, hub⟩
      obtain ⟨hbx, hbu⟩ := boxAt hWu
      rw [← hub] at hbx
      have HBu : Hid (Below wr.heap.size wr Wu) := hbu
      have HBxx : Hid (Wu.heap[ub]? = some (.cells #[.string nm, .int .i64 wf, .int .i64 ls, .slice h n cp] 51 (0, 0))) := hbx
      have HQ : Hid (∀ W, Below Wu.heap.size Wu W → (W.cell? ⟨ub, 0, none⟩ = some (.string nm) ∧ W.cell? ⟨ub, 1, none⟩ = some (.int .i64 wf) ∧ W.cell? ⟨ub, 2, none⟩ = some (.int .i64 ls) ∧ W.cell? ⟨ub, 3, none⟩ = some (.slice h n cp)) ∧ (W.cell? ⟨gb, k, none⟩ = some (.slice (some ⟨bk, 0, none⟩) (wd + 1) (wd + 1)) ∧ W.cell? ⟨bk, rm, none⟩ = some (.int .i64 bv) ∧ W.cell? ⟨gb, k + 1, none⟩ = some (.slice (some ⟨bk1, 0, none⟩) (wd + 1) (wd + 1))) ∧ (∃ v, W.cell? ⟨kb, k, none⟩ = some v) ∧ W.frozen? ⟨kb, k, none⟩ = false) := fun W hb => by
        have h1 := (hb.block ub (blkLt HBxx.out)).trans HBxx.out
        have h2 := HK.out.later (chain HBu.out hb)
        exact ⟨⟨blkCell h1 0 _ rfl, blkCell h1 1 _ rfl, blkCell h1 2 _ rfl, blkCell h1 3 _ rfl⟩, HQ0.out W (chain HBu.out hb), ⟨_, h2.cell (i := k) hlt⟩, h2.frozen k⟩
      have HPut : Hid (∀ W, Below Wu.heap.size Wu W → (RwI (W.setCell ⟨kb, k, none⟩ (.int .i64 (cn : Int))) kb rs.length (fun i => if i < k + 1 then (cnAt rs wd i : Int) else 0) ∧ GrF rs (wd + 1) gb 0 bs (W.setCell ⟨kb, k, none⟩ (.int .i64 (cn : Int))) ∧ Below w.heap.size w (W.setCell ⟨kb, k, none⟩ (.int .i64 (cn : Int)))) ∧ (W.setCell ⟨kb, k, none⟩ (.int .i64 (cn : Int))).heap[ub]? = some (.cells #[.string nm, .int .i64 wf, .int .i64 ls, .slice h n cp] 51 (0, 0))) := fun W hb => by
        have h1 := HK.out.later (chain HBu.out hb)
        have h2 := HG.out.later (chain HBu.out hb)
        have h3 := (hb.block ub (blkLt HBxx.out)).trans HBxx.out
        have hne : ub ≠ kb := fun e => by
          obtain ⟨c, hc, _⟩ := h1
          rw [← e, h3] at hc
          simp at hc
        have h4 := (h1.put k (cn : Int)).congr (g := fun i => if i < k + 1 then (cnAt rs wd i : Int) else 0) (fun i _ => by
          by_cases e : i = k
          · rw [if_pos e, if_pos (by omega), e, HCnE.out]
          · rw [if_neg e]
            by_cases e2 : i < k
            · rw [if_pos e2, if_pos (by omega)]
            · rw [if_neg e2, if_neg (by omega)])
        refine ⟨⟨h4, ⟨h2.top.of_block (Below.heap_setCell _ _ _ _ (fun e => ?_)), fun i q1 q2 => ?_⟩, (chain HB.out (chain HBu.out hb)).setCell hkw _⟩, (Below.heap_setCell _ _ _ _ hne).trans h3⟩
        · exact rw_far h1 h2.top e
        · by_cases e : bs i = kb
          · exact absurd e (HKb.out i q2)
          · exact (h2.row i q1 q2).far (Ne.symm e) _ _
      clear hWu hub hbx hbu HQ0 HK HG
      go_upto_region 6 with fail
      rw [← HWu.out.1, ← HWu.out.2]
      clear HWu c0 c1 c2 c3
      refine wp_region_z (S := fun W' => Below Wu.heap.size Wu W') 18 (by kernel_rfl) (below_drew _) (fun hH => ?_)
      refine wpAnyZ_take (i := 0) (v := .slice (some ⟨kb, 0, none⟩) rs.length rs.length) rfl (by kernel_rfl) (by kernel_rfl) (by kernel_rfl) (by kernel_rfl) (fun _ _ _ h => h) (Or.inl ⟨by rfl, fun w hSw => by clear hSw; go_simp⟩) hH ?_
      refine wpAnyZ_take (i := 1) (v := .int .i64 (k : Int)) rfl (by kernel_rfl) (by kernel_rfl) (by kernel_rfl) (by kernel_rfl) (fun _ _ _ h => h) (Or.inl ⟨by rfl, fun w hSw => by clear hSw; go_simp⟩) hH ?_
      try simp only [Act.put, List.setIfInBounds_toArray, List.set_cons_zero, List.set_cons_succ, List.getElem_toArray, List.getElem_cons_succ, List.getElem_cons_zero]
      refine wpAnyZ_take (i := 2) (v := .agg #[.string nm, .int .i64 wf, .int .i64 ls, .slice h n cp]) rfl (by kernel_rfl) (by kernel_rfl) (by kernel_rfl) (by kernel_rfl) (fun _ _ _ h => h) (Or.inl ⟨by rfl, fun w hSw => by obtain ⟨⟨f0, f1, f2, f3⟩, _⟩ := HQ.out w hSw; clear hSw; go_simp⟩) hH ?_
      try simp only [Act.put, List.setIfInBounds_toArray, List.set_cons_zero, List.set_cons_succ, List.getElem_toArray, List.getElem_cons_succ, List.getElem_cons_zero]
      refine wpAnyZ_take (i := 3) (v := .slice (some ⟨gb, 0, none⟩) (rs.length + 1) (rs.length + 1)) rfl (by kernel_rfl) (by kernel_rfl) (by kernel_rfl) (by kernel_rfl) (fun _ _ _ h => h) (Or.inl ⟨by rfl, fun w hSw => by clear hSw; go_simp⟩) hH ?_
      try simp only [Act.put, List.setIfInBounds_toArray, List.set_cons_zero, List.set_cons_succ, List.getElem_toArray, List.getElem_cons_succ, List.getElem_cons_zero]
      refine wpAnyZ_take (i := 4) (v := .int .i64 (k : Int)) rfl (by kernel_rfl) (by kernel_rfl) (by kernel_rfl) (by kernel_rfl) (fun _ _ _ h => h) (Or.inl ⟨by rfl, fun w hSw => by clear hSw; go_simp⟩) hH ?_
      try simp only [Act.put, List.setIfInBounds_toArray, List.set_cons_zero, List.set_cons_succ, List.getElem_toArray, List.getElem_cons_succ, List.getElem_cons_zero]
      refine wpAnyZ_take (i := 5) (v := .pointer (some ⟨gb, k, none⟩)) rfl (by kernel_rfl) (by kernel_rfl) (by kernel_rfl) (by kernel_rfl) (fun _ _ _ h => h) (Or.inl ⟨by rfl, fun w hSw => by clear hSw; go_simp⟩) hH ?_
      try simp only [Act.put, List.setIfInBounds_toArray, List.set_cons_zero, List.set_cons_succ, List.getElem_toArray, List.getElem_cons_succ, List.getElem_cons_zero]
      refine wpAnyZ_take (i := 6) (v := .slice (some ⟨bk, 0, none⟩) (wd + 1) (wd + 1)) rfl (by kernel_rfl) (by kernel_rfl) (by kernel_rfl) (by kernel_rfl) (fun _ _ _ h => h) (Or.inl ⟨by rfl, fun w hSw => by have f0 := (HQ.out w hSw).2.1.1; clear hSw; go_simp⟩) hH ?_
      try simp only [Act.put, List.setIfInBounds_toArray, List.set_cons_zero, List.set_cons_succ, List.getElem_toArray, List.getElem_cons_succ, List.getElem_cons_zero]
      refine wpAnyZ_take (i := 7) (v := .int .i64 (rm : Int)) rfl (by kernel_rfl) (by kernel_rfl) (by kernel_rfl) (by kernel_rfl) (fun _ _ _ h => h) (Or.inl ⟨by rfl, fun w hSw => by clear hSw; go_simp⟩) hH ?_
      try simp only [Act.put, List.setIfInBounds_toArray, List.set_cons_zero, List.set_cons_succ, List.getElem_toArray, List.getElem_cons_succ, List.getElem_cons_zero]
      refine wpAnyZ_take (i := 8) (v := .pointer (some ⟨bk, rm, none⟩)) rfl (by kernel_rfl) (by kernel_rfl) (by kernel_rfl) (by kernel_rfl) (fun _ _ _ h => h) (Or.inl ⟨by rfl, fun w hSw => by clear hSw; go_simp⟩) hH ?_
      try simp only [Act.put, List.setIfInBounds_toArray, List.set_cons_zero, List.set_cons_succ, List.getElem_toArray, List.getElem_cons_succ, List.getElem_cons_zero]
      refine wpAnyZ_take (i := 9) (v := .int .i64 bv) rfl (by kernel_rfl) (by kernel_rfl) (by kernel_rfl) (by kernel_rfl) (fun _ _ _ h => h) (Or.inl ⟨by rfl, fun w hSw => by have f0 := (HQ.out w hSw).2.1.2.1; clear hSw; go_simp⟩) hH ?_
      try simp only [Act.put, List.setIfInBounds_toArray, List.set_cons_zero, List.set_cons_succ, List.getElem_toArray, List.getElem_cons_succ, List.getElem_cons_zero]
      refine wpAnyZ_take (i := 10) (v := .int .i64 (rm : Int)) rfl (by kernel_rfl) (by kernel_rfl) (by kernel_rfl) (by kernel_rfl) (fun _ _ _ h => h) (Or.inl ⟨by rfl, fun w hSw => by clear hSw; go_simp⟩) hH ?_
      try simp only [Act.put, List.setIfInBounds_toArray, List.set_cons_zero, List.set_cons_succ, List.getElem_toArray, List.getElem_cons_succ, List.getElem_cons_zero]
      refine wpAnyZ_take (i := 11) (v := .slice (some ⟨gb, 0, none⟩) (rs.length + 1) (rs.length + 1)) rfl (by kernel_rfl) (by kernel_rfl) (by kernel_rfl) (by kernel_rfl) (fun _ _ _ h => h) (Or.inl ⟨by rfl, fun w hSw => by clear hSw; go_simp⟩) hH ?_
      try simp only [Act.put, List.setIfInBounds_toArray, List.set_cons_zero, List.set_cons_succ, List.getElem_toArray, List.getElem_cons_succ, List.getElem_cons_zero]
      refine wpAnyZ_take (i := 12) (v := .int .i64 (k : Int)) rfl (by kernel_rfl) (by kernel_rfl) (by kernel_rfl) (by kernel_rfl) (fun _ _ _ h => h) (Or.inl ⟨by rfl, fun w hSw => by clear hSw; go_simp⟩) hH ?_
      try simp only [Act.put, List.setIfInBounds_toArray, List.set_cons_zero, List.set_cons_succ, List.getElem_toArray, List.getElem_cons_succ, List.getElem_cons_zero]
      refine wpAnyZ_take (i := 13) (v := .int .i64 ((k : Int) + 1)) rfl (by kernel_rfl) (by kernel_rfl) (by kernel_rfl) (by kernel_rfl) (fun _ _ _ h => h) (Or.inl ⟨by rfl, fun w hSw => by clear hSw; go_simp⟩) hH ?_
      try simp only [Act.put, List.setIfInBounds_toArray, List.set_cons_zero, List.set_cons_succ, List.getElem_toArray, List.getElem_cons_succ, List.getElem_cons_zero]
      refine wpAnyZ_take (i := 14) (v := .pointer (some ⟨gb, k + 1, none⟩)) rfl (by kernel_rfl) (by kernel_rfl) (by kernel_rfl) (by kernel_rfl) (fun _ _ _ h => h) (Or.inl ⟨by rfl, fun w hSw => by clear hSw; go_simp⟩) hH ?_
      try simp only [Act.put, List.setIfInBounds_toArray, List.set_cons_zero, List.set_cons_succ, List.getElem_toArray, List.getElem_cons_succ, List.getElem_cons_zero]
      refine wpAnyZ_take (i := 15) (v := .slice (some ⟨bk1, 0, none⟩) (wd + 1) (wd + 1)) rfl (by kernel_rfl) (by kernel_rfl) (by kernel_rfl) (by kernel_rfl) (fun _ _ _ h => h) (Or.inl ⟨by rfl, fun w hSw => by have f0 := (HQ.out w hSw).2.1.2.2; clear hSw; go_simp⟩) hH ?_
      try simp only [Act.put, List.setIfInBounds_toArray, List.set_cons_zero, List.set_cons_succ, List.getElem_toArray, List.getElem_cons_succ, List.getElem_cons_zero]
      refine wpAnyZ_ready (rs := [16]) (by kernel_rfl) (by simp) ?_
      refine AllReadyZ.cons rfl (fun K hK => ?_) AllReadyZ.nil
      go_simp
      go_at_call 56
      refine (HMf.out _ (chain HBu.out hH)).mono ?_
      rintro e w3 ⟨rfl, hb3⟩
      have h3 : Below Wu.heap.size Wu w3 := chain hH hb3
      clear hb3
      refine hK.out _ _ (Or.inr h3) (fun _ => ?_)
      clear hK K
      try simp only [Act.put, List.setIfInBounds_toArray, List.set_cons_zero, List.set_cons_succ, List.getElem_toArray, List.getElem_cons_succ, List.getElem_cons_zero]
      refine wpAnyZ_take (i := 17) (v := .pointer (some ⟨kb, k, none⟩)) rfl (by kernel_rfl) (by kernel_rfl) (by kernel_rfl) (by kernel_rfl) (fun _ _ _ h => h) (Or.inl ⟨by rfl, fun w hSw => by clear hSw; go_simp⟩) h3 ?_
      try simp only [Act.put, List.setIfInBounds_toArray, List.set_cons_zero, List.set_cons_succ, List.getElem_toArray, List.getElem_cons_succ, List.getElem_cons_zero]
      refine wpAnyZ_ready (rs := [18]) (by kernel_rfl) (by simp) ?_
      refine AllReadyZ.cons rfl (fun K hK => ?_) AllReadyZ.nil
      obtain ⟨_, _, ⟨v0, y0⟩, y1⟩ := HQ.out w3 h3
      have HN : Hid ((RwI (w3.setCell ⟨kb, k, none⟩ (.int .i64 (cn : Int))) kb rs.length (fun i => if i < k + 1 then (cnAt rs wd i : Int) else 0) ∧ GrF rs (wd + 1) gb 0 bs (w3.setCell ⟨kb, k, none⟩ (.int .i64 (cn : Int))) ∧ Below w.heap.size w (w3.setCell ⟨kb, k, none⟩ (.int .i64 (cn : Int)))) ∧ (w3.setCell ⟨kb, k, none⟩ (.int .i64 (cn : Int))).heap[ub]? = some (.cells #[.string nm, .int .i64 wf, .int .i64 ls, .slice h n cp] 51 (0, 0))) := HPut.out w3 h3
      clear h3 hH
      go_simp
      refine hK.out _ _ (Or.inl rfl) (fun _ => ?_)
      clear hK K
      try simp only [Act.put, List.setIfInBounds_toArray, List.set_cons_zero, List.set_cons_succ, List.getElem_toArray, List.getElem_cons_succ, List.getElem_cons_zero]
      refine wpAnyZ_done (by kernel_rfl) ?_ _
      clear y0 y1 HPut HQ
      generalize w3.setCell ⟨kb, k, none⟩ (.int .i64 (cn : Int)) = wz at *
      have HQ : Hid (∀ W, Below wz.heap.size wz W → (W.cell? ⟨ub, 0, none⟩ = some (.string nm) ∧ W.cell? ⟨ub, 1, none⟩ = some (.int .i64 wf) ∧ W.cell? ⟨ub, 2, none⟩ = some (.int .i64 ls) ∧ W.cell? ⟨ub, 3, none⟩ = some (.slice h n cp)) ∧ W.cell? ⟨kb, k, none⟩ = some (.int .i64 (cn : Int))) := fun W hb => by
        have h1 := (hb.block ub (blkLt HN.out.2)).trans HN.out.2
        have h2 := (HN.out.1.1.later hb).cell (i := k) hlt
        dsimp only at h2
        rw [if_pos (by omega), ← HCnE.out] at h2
        exact ⟨⟨blkCell h1 0 _ rfl, blkCell h1 1 _ rfl, blkCell h1 2 _ rfl, blkCell h1 3 _ rfl⟩, h2⟩
      go_upto_region 7 with fail
      refine wp_region_held_drew (S := fun W' => Below wz.heap.size wz W') (by kernel_rfl) (below_drew _) (fun hH => ?_)
      refine wpAnyH_take (i := 0) (v := .int .i64 (rm : Int)) rfl (by kernel_rfl) (by kernel_rfl) (by kernel_rfl) (fun _ _ _ h => h) (Or.inl ⟨by rfl, fun w hSw => by clear hSw; go_simp⟩) hH ?_
      refine wpAnyH_take (i := 1) (v := .agg #[.string nm, .int .i64 wf, .int .i64 ls, .slice h n cp]) rfl (by kernel_rfl) (by kernel_rfl) (by kernel_rfl) (fun _ _ _ h => h) (Or.inl ⟨by rfl, fun w hSw => by obtain ⟨⟨f0, f1, f2, f3⟩, _⟩ := HQ.out w hSw; clear hSw; go_simp⟩) hH ?_
      try simp only [Act.put, List.setIfInBounds_toArray, List.set_cons_zero, List.set_cons_succ, List.getElem_toArray, List.getElem_cons_succ, List.getElem_cons_zero]
      refine wpAnyH_take (i := 2) (v := .slice (some ⟨kb, 0, none⟩) rs.length rs.length) rfl (by kernel_rfl) (by kernel_rfl) (by kernel_rfl) (fun _ _ _ h => h) (Or.inl ⟨by rfl, fun w hSw => by clear hSw; go_simp⟩) hH ?_
      try simp only [Act.put, List.setIfInBounds_toArray, List.set_cons_zero, List.set_cons_succ, List.getElem_toArray, List.getElem_cons_succ, List.getElem_cons_zero]
      refine wpAnyH_take (i := 3) (v := .int .i64 (k : Int)) rfl (by kernel_rfl) (by kernel_rfl) (by kernel_rfl) (fun _ _ _ h => h) (Or.inl ⟨by rfl, fun w hSw => by clear hSw; go_simp⟩) hH ?_
      try simp only [Act.put, List.setIfInBounds_toArray, List.set_cons_zero, List.set_cons_succ, List.getElem_toArray, List.getElem_cons_succ, List.getElem_cons_zero]
      refine wpAnyH_take (i := 4) (v := .pointer (some ⟨kb, k, none⟩)) rfl (by kernel_rfl) (by kernel_rfl) (by kernel_rfl) (fun _ _ _ h => h) (Or.inl ⟨by rfl, fun w hSw => by clear hSw; go_simp⟩) hH ?_
      try simp only [Act.put, List.setIfInBounds_toArray, List.set_cons_zero, List.set_cons_succ, List.getElem_toArray, List.getElem_cons_succ, List.getElem_cons_zero]
      refine wpAnyH_take (i := 5) (v := .int .i64 (cn : Int)) rfl (by kernel_rfl) (by kernel_rfl) (by kernel_rfl) (fun _ _ _ h => h) (Or.inl ⟨by rfl, fun w hSw => by have f0 := (HQ.out w hSw).2; clear hSw; go_simp⟩) hH ?_
      try simp only [Act.put, List.setIfInBounds_toArray, List.set_cons_zero, List.set_cons_succ, List.getElem_toArray, List.getElem_cons_succ, List.getElem_cons_zero]
      refine wpAnyH_ready (rs := [6]) (by kernel_rfl) (by simp) ?_
      refine AllReadyH.cons rfl (fun K hK => ?_) AllReadyH.nil
      go_simp
      go_at_call 53
      refine (HUs.out _).mono ?_
      rintro e w6 ⟨rfl, hb6⟩
      have h6 : Below wz.heap.size wz w6 := chain hH hb6
      clear hb6
      refine hK.out _ _ h6 (fun _ => ?_)
      clear hK K
      try simp only [Act.put, List.setIfInBounds_toArray, List.set_cons_zero, List.set_cons_succ, List.getElem_toArray, List.getElem_cons_succ, List.getElem_cons_zero]
      refine wpAnyH_take (i := 7) (v := .int .i64 (rm2 : Int)) rfl (by kernel_rfl) (by kernel_rfl) (by kernel_rfl) (fun _ _ _ h => h) (Or.inl ⟨by rfl, fun w hSw => by have f0 := hw2; have f1 := hw4; clear hSw; go_simp⟩) h6 ?_
      try simp only [Act.put, List.setIfInBounds_toArray, List.set_cons_zero, List.set_cons_succ, List.getElem_toArray, List.getElem_cons_succ, List.getElem_cons_zero]
      refine wpAnyH_take (i := 8) (v := .int .i64 (rm2 : Int)) rfl (by kernel_rfl) (by kernel_rfl) (by kernel_rfl) (fun _ _ _ h => h) (Or.inl ⟨by rfl, fun w hSw => by clear hSw; go_simp⟩) h6 ?_
      try simp only [Act.put, List.setIfInBounds_toArray, List.set_cons_zero, List.set_cons_succ, List.getElem_toArray, List.getElem_cons_succ, List.getElem_cons_zero]
      refine wpAnyH_done (by kernel_rfl) ?_ _
      have HN2 : Hid (RwI w6 kb rs.length (fun i => if i < k + 1 then (cnAt rs wd i : Int) else 0) ∧ GrF rs (wd + 1) gb 0 bs w6 ∧ Below w.heap.size w w6) := ⟨HN.out.1.1.later h6, HN.out.1.2.1.later h6, chain HN.out.1.2.2 h6⟩
      clear h6 hH HQ HN
      go_wp2_with fail
      go_roundw
      case rel => exact ⟨k + 1, by omega, by go_num, by rw [HRmE.out], HN2.out.1, HN2.out.2.1, HN2.out.2.2⟩
      case measure => simp [intOf]; omega
    · have hlt' : ¬ (k : Int) < (rs.length : Int) := by omega
      obtain rfl : k = rs.length := by omega
      have HO : Hid (Own2 w.heap.size wr (some ⟨kb, 0, none⟩) (plL rs wd)) := rowI_own2 HK.out hkw (by rw [plL_eq]; simp) (fun i hi => by rw [if_pos hi, pl_getD rs wd i hi])
      go_wp2_with fail
      go_ret
      exact ⟨kb, rfl, HO.out, HB.out⟩

set_option maxHeartbeats 8000000 in
set_option maxRecDepth 4000 in
theorem implBestShelf_any (a : Option Addr) (cap : Nat) (rs : List CFc) (hl : rs.length ≤ 100000000) (hp : ∀ r ∈ rs, FcOK r) (wd : Int) (w : World) (hr : ReadsFc w.heap.size w a rs) :
    Calls Try.prog 9 #[.slice a rs.length cap, .int .i64 wd] w (AnsBs rs wd w) := by
  have HNo : Hid (∀ (c : Int) (w' : World), bsCode rs wd = c → c ≠ 0 → Below w.heap.size w w' → AnsBs rs wd w (.returned (.tuple #[.agg #[.slice none 0 0, .int .i64 0, .int .i64 0], .int .i64 c])) w') := fun c w' h1 h2 h3 => ansBs_none h1 h2 h3
  have HCd : Hid (bsCode rs wd = if 4096 < rs.length then 2 else if shFault rs wd = 0 then (if dp rs wd.toNat < 0 then 8 else 0) else shFault rs wd) := rfl
  obtain ⟨W0, hW0⟩ : ∃ W0, W0 = w.alloc (Obj.cells #[.slice none 0 0, .int .i64 0, .int .i64 0] 28) := ⟨_, rfl⟩
  obtain ⟨R, hR⟩ : ∃ R, R = w.heap.size := ⟨_, rfl⟩
  have HW0 : Hid (W0 = w.alloc (Obj.cells #[.slice none 0 0, .int .i64 0, .int .i64 0] 28) ∧ R = w.heap.size) := ⟨hW0, hR⟩
  have HB0 : Hid (Below w.heap.size w W0) := by show Below _ _ _; rw [hW0]; exact below_alloc _ _
  have HRx : Hid (W0.heap[R]? = some (.cells #[.slice none 0 0, .int .i64 0, .int .i64 0] 28 (0, 0))) := by show _ = _; rw [hW0, hR]; exact heapNew _ _
  have hRw : w.heap.size ≤ R := by rw [hR]; exact Nat.le_refl _
  have HF : Hid (∀ W, Below w.heap.size w W → Calls Try.prog 27 #[.slice a rs.length cap, .int .i64 wd] W fun e w' => e = .returned (.int .i64 (shFault rs wd)) ∧ Below W.heap.size W w') := fun W hb => shelfFault_any a cap rs hl hp wd W (hr.later hb)
  have HR : Hid (ReadsFc w.heap.size w a rs) := hr
  clear hr hp hW0 hR
  by_cases h4 : (4096 : Int) < (rs.length : Int)
  · have HC : Hid (bsCode rs wd = 2) := by show _ = _; rw [HCd.out, if_pos (by omega)]
    clear HCd HF HR
    go_enter Try.func9, Try.ntmps9
    go_wp2
    refine bodyPost_ret (v := .tuple #[.agg #[.slice none 0 0, .int .i64 0, .int .i64 0], .int .i64 2]) (by simp [results, Try.results9, go_sem]) rfl ?_
    exact HNo.out 2 _ HC.out (by omega) (below_alloc _ _)
  have HCd2 : Hid (bsCode rs wd = if shFault rs wd = 0 then (if dp rs wd.toNat < 0 then 8 else 0) else shFault rs wd) := by show _ = _; rw [HCd.out, if_neg (by omega)]
  clear HCd
  by_cases hf : shFault rs wd = 0
  case neg =>
    have HC : Hid (bsCode rs wd = shFault rs wd) := by show _ = _; rw [HCd2.out, if_neg hf]
    have HNz : Hid (shFault rs wd ≠ 0) := hf
    have hfb : (shFault rs wd != 0) = true := by simpa using hf
    clear HCd2 HR hf
    generalize shFault rs wd = fv at *
    go_enter Try.func9, Try.ntmps9
    go_upto_region 3 with fail
    rw [← HW0.out.1, ← HW0.out.2]
    clear HW0
    go_wp2_with fail
    (first | go_at_call 27 | skip)
    refine (HF.out W0 HB0.out).mono ?_
    rintro e w1 ⟨rfl, hb1⟩
    have HB1 : Hid (Below W0.heap.size W0 w1) := hb1
    clear hb1 HF
    have hrx := (HB1.out.block R (blkLt HRx.out)).trans HRx.out
    have z0 := blkCell hrx 0 _ rfl
    have z1 := blkCell hrx 1 _ rfl
    have z2 := blkCell hrx 2 _ rfl
    have y0 := blkFree hrx 0
    have y1 := blkFree hrx 1
    have y2 := blkFree hrx 2
    simp only [List.getElem_toArray, List.getElem_cons_zero, List.getElem_cons_succ] at z0 z1 z2
    clear hrx
    go_wp2_with fail
    refine bodyPost_ret (v := .tuple #[.agg #[.slice none 0 0, .int .i64 0, .int .i64 0], .int .i64 fv]) (by simp [results, Try.results9, go_sem, z0, z1, z2]) rfl ?_
    refine HNo.out fv _ HC.out HNz.out ?_
    repeat refine Below.setCell ?_ (by dsimp only; omega) _
    exact chain HB0.out HB1.out
  obtain ⟨hall, hw0, hw2⟩ := bsCode_all hf
  obtain ⟨h12, hrr⟩ := fcAll_r hall
  have HYe : Hid (∀ (q : Option Addr) (cq : Nat) (w' : World), bsCode rs wd = 0 → Own2 w.heap.size w' q (plL rs wd.toNat) → Below w.heap.size w w' → AnsBs rs wd w (.returned (.tuple #[.agg #[.slice q (plL rs wd.toNat).length cq, .int .i64 (usN rs (plL rs wd.toNat) rs.length), .int .i64 (gaN rs (plL rs wd.toNat) rs.length)], .int .i64 0])) w') := fun q cq w' h1 h2 h3 => ansBs_some h1 h2 h3
  have HCd3 : Hid (bsCode rs wd = if dp rs wd.toNat < 0 then 8 else 0) := by show _ = _; rw [HCd2.out, if_pos hf]
  rw [hf] at HF
  clear HCd2 hf hall
  obtain ⟨wn, hwn⟩ : ∃ wn : Nat, wd = (wn : Int) := ⟨wd.toNat, by omega⟩
  have hwt : wd.toNat = wn := by omega
  rw [hwt] at HYe HCd3
  have hwn2 : wn ≤ 2000 := by omega
  have HBg : Hid (∀ W, Below w.heap.size w W → Calls Try.prog 32 #[.slice a rs.length cap, .int .i64 (wn : Int)] W fun e w' => ∃ gb bs, e = .returned (.slice (some ⟨gb, 0, none⟩) (rs.length + 1) (rs.length + 1)) ∧ GrF rs (wn + 1) gb 0 bs w' ∧ Below W.heap.size W w') := fun W hb => bestGains_any a cap rs h12 hrr wn hwn2 W (HR.out.later hb)
  subst hwn
  clear hwt
  by_cases hd : dp rs wn < 0
  · have HC : Hid (bsCode rs (wn : Int) = 8) := by show _ = _; rw [HCd3.out, if_pos hd]
    have hd1 : dp rs wn = -1 := by have := dp_bound rs hrr wn; omega
    have HD1 : Hid (dp rs wn = -1) := hd1
    clear HCd3 hd hd1 HYe
    go_enter Try.func9, Try.ntmps9
    go_upto_region 3 with fail
    rw [← HW0.out.1, ← HW0.out.2]
    clear HW0
    go_wp2_with fail
    (first | go_at_call 27 | skip)
    refine (HF.out W0 HB0.out).mono ?_
    rintro e w1 ⟨rfl, hb1⟩
    have HB1 : Hid (Below W0.heap.size W0 w1) := hb1
    clear hb1 HF
    go_wp2_with fail
    (first | go_at_call 32 | skip)
    refine (HBg.out w1 (chain HB0.out HB1.out)).mono ?_
    rintro e w2 ⟨gb, bs, rfl, hG, hb2⟩
    have HB2 : Hid (Below W0.heap.size W0 w2) := chain HB1.out hb2
    have g0 := hG.top.cell (i := 0) (by omega)
    have g1 := (hG.row 0 (Nat.zero_le _) (Nat.zero_le _)).cell (i := wn) (by omega)
    try dsimp only at g0
    rw [if_pos (Nat.zero_le _)] at g0
    rw [List.drop_zero, HD1.out] at g1
    have hwl : (wn : Int) < (wn : Int) + 1 := by omega
    have hll : (0 : Int) < (rs.length : Int) + 1 := by omega
    generalize bs 0 = b00 at *
    clear hG hb2 HBg
    have hrx := (HB2.out.block R (blkLt HRx.out)).trans HRx.out
    have z0 := blkCell hrx 0 _ rfl
    have z1 := blkCell hrx 1 _ rfl
    have z2 := blkCell hrx 2 _ rfl
    have y0 := blkFree hrx 0
    have y1 := blkFree hrx 1
    have y2 := blkFree hrx 2
    simp only [List.getElem_toArray, List.getElem_cons_zero, List.getElem_cons_succ] at z0 z1 z2
    clear hrx
    go_wp2_with fail
    refine bodyPost_ret (v := .tuple #[.agg #[.slice none 0 0, .int .i64 0, .int .i64 0], .int .i64 8]) (by simp [results, Try.results9, go_sem, z0, z1, z2]) rfl ?_
    refine HNo.out 8 _ HC.out (by omega) ?_
    repeat refine Below.setCell ?_ (by dsimp only; omega) _
    exact chain HB0.out HB2.out
  · have HC : Hid (bsCode rs (wn : Int) = 0) := by show _ = _; rw [HCd3.out, if_neg hd]
    have hd0 : 0 ≤ dp rs wn := by omega
    obtain ⟨p1, p2, p3, p4⟩ := pl_ok rs hrr wn hd0
    have HMf : Hid (∀ W gb bs, Below w.heap.size w W → GrF rs (wn + 1) gb 0 bs W → Calls Try.prog 33 #[.slice a rs.length cap, .int .i64 (wn : Int), .slice (some ⟨gb, 0, none⟩) (rs.length + 1) (rs.length + 1)] W fun e w' => ∃ g, e = .returned (.slice (some ⟨g, 0, none⟩) rs.length rs.length) ∧ Own2 W.heap.size w' (some ⟨g, 0, none⟩) (plL rs wn) ∧ Below W.heap.size W w') := fun W gb bs hb hG => mostFirst_any a cap rs h12 hrr wn hwn2 hd0 gb bs W (HR.out.later hb) hG
    have HPl : Hid (∀ W g, Below w.heap.size w W → Own2 w.heap.size W (some ⟨g, 0, none⟩) (plL rs wn) → Calls Try.prog 30 #[.slice a rs.length cap, .slice (some ⟨g, 0, none⟩) rs.length rs.length] W fun e w' => e = .returned (.agg #[.slice (some ⟨g, 0, none⟩) rs.length rs.length, .int .i64 (usN rs (plL rs wn) rs.length), .int .i64 (gaN rs (plL rs wn) rs.length)]) ∧ Below W.heap.size W w') := fun W g hb ho => by
      have h1 := planOf_any a cap rs h12 hrr (some ⟨g, 0, none⟩) rs.length (plL rs wn) p1.symm p2 W (HR.out.later hb) ho.reads
      rw [p1] at h1
      exact h1
    have HYe2 : Hid (∀ (g : Nat) (w' : World), Own2 w.heap.size w' (some ⟨g, 0, none⟩) (plL rs wn) → Below w.heap.size w w' → AnsBs rs (wn : Int) w (.returned (.tuple #[.agg #[.slice (some ⟨g, 0, none⟩) rs.length rs.length, .int .i64 (usN rs (plL rs wn) rs.length), .int .i64 (gaN rs (plL rs wn) rs.length)], .int .i64 0])) w') := fun g w' h1 h2 => by
      have h3 := HYe.out (some ⟨g, 0, none⟩) rs.length w' HC.out h1 h2
      rw [p1] at h3
      exact h3
    have hnb : (dp rs wn == -1) = false := by simp; omega
    obtain ⟨dv, hdv⟩ : ∃ dv, dv = dp rs wn := ⟨_, rfl⟩
    rw [← hdv] at hnb
    have HDv : Hid (dv = dp rs wn) := hdv
    clear HCd3 hd hd0 HYe p1 p2 p3 p4 hdv
    generalize usN rs (plL rs wn) rs.length = uv at *
    generalize gaN rs (plL rs wn) rs.length = gv at *
    go_enter Try.func9, Try.ntmps9
    go_upto_region 3 with fail
    rw [← HW0.out.1, ← HW0.out.2]
    clear HW0
    go_wp2_with fail
    (first | go_at_call 27 | skip)
    refine (HF.out W0 HB0.out).mono ?_
    rintro e w1 ⟨rfl, hb1⟩
    have HB1 : Hid (Below W0.heap.size W0 w1) := hb1
    clear hb1 HF
    go_wp2_with fail
    (first | go_at_call 32 | skip)
    refine (HBg.out w1 (chain HB0.out HB1.out)).mono ?_
    rintro e w2 ⟨gb, bs, rfl, hG, hb2⟩
    have HB2 : Hid (Below W0.heap.size W0 w2) := chain HB1.out hb2
    have HG2 : Hid (GrF rs (wn + 1) gb 0 bs w2) := hG
    have g0 := hG.top.cell (i := 0) (by omega)
    have g1 := (hG.row 0 (Nat.zero_le _) (Nat.zero_le _)).cell (i := wn) (by omega)
    try dsimp only at g0
    rw [if_pos (Nat.zero_le _)] at g0
    rw [List.drop_zero, ← HDv.out] at g1
    have hwl : (wn : Int) < (wn : Int) + 1 := by omega
    have hll : (0 : Int) < (rs.length : Int) + 1 := by omega
    obtain ⟨b00, hb00⟩ : ∃ b00, b00 = bs 0 := ⟨_, rfl⟩
    rw [← hb00] at g0 g1
    clear hG hb2 HBg hb00
    go_wp2_with fail
    (first | go_at_call 33 | skip)
    refine (HMf.out w2 gb bs (chain HB0.out HB2.out) HG2.out).mono ?_
    rintro e w3 ⟨g, rfl, ho3, hb3⟩
    have HB3 : Hid (Below W0.heap.size W0 w3) := chain HB2.out hb3
    have HO3 : Hid (Own2 W0.heap.size w3 (some ⟨g, 0, none⟩) (plL rs wn)) := own2_mono ho3 HB2.out.size
    clear hb3 ho3 HMf g0 g1 HG2
    go_wp2_with fail
    (first | go_at_call 30 | skip)
    refine (HPl.out w3 g (chain HB0.out HB3.out) (own2_mono HO3.out HB0.out.size)).mono ?_
    rintro e w4 ⟨rfl, hb4⟩
    have HB4 : Hid (Below W0.heap.size W0 w4) := chain HB3.out hb4
    have HO4 : Hid (Own2 W0.heap.size w4 (some ⟨g, 0, none⟩) (plL rs wn)) := own2_later HO3.out hb4
    have hrx := (HB4.out.block R (blkLt HRx.out)).trans HRx.out
    have z0 := blkCell hrx 0 _ rfl
    have z1 := blkCell hrx 1 _ rfl
    have z2 := blkCell hrx 2 _ rfl
    have y0 := blkFree hrx 0
    have y1 := blkFree hrx 1
    have y2 := blkFree hrx 2
    simp only [List.getElem_toArray, List.getElem_cons_zero, List.getElem_cons_succ] at z0 z1 z2
    have HRlt : Hid (R < W0.heap.size) := blkLt HRx.out
    clear hb4 HPl hrx
    go_wp2_with fail
    refine bodyPost_ret (v := .tuple #[.agg #[.slice (some ⟨g, 0, none⟩) rs.length rs.length, .int .i64 uv, .int .i64 gv], .int .i64 0]) (by simp [results, Try.results9, go_sem, z0, z1, z2]) rfl ?_
    refine HYe2.out g _ ?_ ?_
    · refine own2_set ?_ (fun c hc => ?_) _ _
      refine own2_set ?_ (fun c hc => ?_) _ _
      refine own2_set (own2_mono HO4.out HB0.out.size) (fun c hc => ?_) _ _
      all_goals exact own2_neF HO4.out hc HRlt.out
    · repeat refine Below.setCell ?_ (by dsimp only; omega) _
      exact chain HB0.out HB4.out
end Go.Proofs.Ytphefbaogfknoaa
