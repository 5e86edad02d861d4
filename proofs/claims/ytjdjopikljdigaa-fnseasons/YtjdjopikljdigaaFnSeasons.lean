/-
  For every two lists of bytes the law FnSeasons answers true: by the program each season's ratio is that of its mean to the mean of all, in lowest terms, and sales that are all the same have all ratios 1; with no condition.
-/
import Derived.Test.YtjdjopikljdigaaQnF
import Derived.Test.YtjdjopikljdigaaQnH
import Derived.Test.YtjdjopikljdigaaQoB
namespace Go.Proofs.Ytjdjopikljdigaa
open Go.ChangeShapes Go.WideShapes Go.ChangeAt Go.RowKit Go.Joins Go.Deep
set_option linter.unusedVariables false

theorem Reads.laterS {w W : World} {a : Option Addr} {L : List Int} (h : Reads w.heap.size w a L) (hb : Below w.heap.size w W) : Reads W.heap.size W a L := (h.below hb).mono hb.size
theorem reads_cellS {w : World} {b : Nat} {L : List Int} (h : Reads w.heap.size w (some ⟨b, 0, none⟩) L) : ∀ W k, Below w.heap.size w W → k < L.length → W.cell? ⟨b, k, none⟩ = some (.int .i64 (L.getD k 0)) := by
  rcases h with h | ⟨b', o, hg, hlt, hi⟩
  · intro W k _ hk
    rw [h] at hk; simp at hk
  · cases hg
    intro W k hW hk
    have := hi k hk
    rw [Nat.zero_add] at this
    exact (hW.cell (p := ⟨b, k, none⟩) hlt).trans this
/-- A row of ratios: what a place of it reads. -/
theorem ratio_cells {B : Nat} {W : World} {g : Option Addr} {cp : Nat} {L : List (Int × Int)} (h : W.ownsRow B 36 2 (.slice g L.length cp) L.length (raCells L)) (h1 : 1 ≤ L.length) : ∃ b, g = some ⟨b, 0, none⟩ ∧ ∀ W', Below W.heap.size W W' → ∀ k, k < L.length → W'.cell? ⟨b, k * 2, none⟩ = some (.int .i64 (L.getD k (0, 0)).1) ∧ W'.cell? ⟨b, k * 2 + 1, none⟩ = some (.int .i64 (L.getD k (0, 0)).2) := by
  obtain ⟨b, c2, hq⟩ := row_some h (by omega)
  simp only [Value.slice.injEq, true_and] at hq
  obtain ⟨rfl, rfl⟩ := hq
  refine ⟨b, rfl, fun W' hW k hk => ?_⟩
  have hlt := (row_lt h b rfl).2
  have hat := raCells_at L k hk
  exact ⟨(hW.cell (p := ⟨b, k * 2, none⟩) hlt).trans (by rw [h.cellAt _ (by omega)]; exact hat.1), (hW.cell (p := ⟨b, k * 2 + 1, none⟩) hlt).trans (by rw [h.cellAt _ (by omega)]; exact hat.2)⟩

namespace FnSeasons
set_option maxHeartbeats 16000000 in
set_option maxRecDepth 8000 in
theorem walk' (a0 : Option Addr) (len0 cap0 : Nat) (a1 : Option Addr) (len1 cap1 : Nat) (w : World) (h0 : (len0 : Int) ≤ 1048576) (h1 : (len1 : Int) ≤ 1048576)
    (hS : Calls Try.prog 9 #[.slice a0 len0 cap0] w (PostSalesOf w))
    (hA : ∀ (n : Int) (W : World), n ≤ 100 → Below w.heap.size w W → Calls Try.prog 11 #[.slice a1 len1 cap1, .int .i64 0, .int .i64 n] W fun e w' => ∃ x : Int, e = .returned (.int .i64 x) ∧ Drawn x n ∧ Below W.heap.size W w') :
    Calls Try.prog 4 #[.slice a0 len0 cap0, .slice a1 len1 cap1] w fun e w' => e = .returned (.bool true) ∧ Below w.heap.size w w' := by
  have HA : Hid (∀ (n : Int) (W : World), n ≤ 100 → Below w.heap.size w W → Calls Try.prog 11 #[.slice a1 len1 cap1, .int .i64 0, .int .i64 n] W fun e w' => ∃ x : Int, e = .returned (.int .i64 x) ∧ Drawn x n ∧ Below W.heap.size W w') := hA
  clear hA
  go_enter Try.func4, Try.ntmps4
  go_wp2_with fail
  (first | go_at_call 9 | skip)
  refine hS.mono ?_
  rintro e w1 ⟨L, num, den, gl, cl, rfl, ⟨hL1, hL2⟩, hdr, _, _, hcl, hrd, hb1⟩
  have HRd : Hid (Reads w1.heap.size w1 (some ⟨gl, 0, none⟩) L) := hrd
  have HB1 : Hid (Below w.heap.size w w1) := hb1
  have hXm : ∀ x ∈ L, 0 ≤ x ∧ x ≤ 39 := fun x hx => by have := hdr.2 x hx; omega
  have hX100 : ∀ x ∈ L, 0 ≤ x ∧ x ≤ 100000 := fun x hx => by have := hXm x hx; omega
  have hx0 : ∀ i, 0 ≤ L.getD i 0 ∧ L.getD i 0 ≤ 100000 := fun i => al_getD (al_of hX100) (by omega) i
  have hL0 : 1 ≤ L.getD 0 0 ∧ L.getD 0 0 ≤ 30 := hdr.1
  have HX : Hid ((∀ x ∈ L, 0 ≤ x ∧ x ≤ 100000) ∧ (∀ i, 0 ≤ L.getD i 0 ∧ L.getD i 0 ≤ 100000)) := ⟨hX100, hx0⟩
  have HLst : Hid (∀ W k, Below w1.heap.size w1 W → k < L.length → W.cell? ⟨gl, k, none⟩ = some (.int .i64 (L.getD k 0))) := reads_cellS hrd
  clear hS hrd hb1 hdr hXm hX100 hx0
  go_wp2_with fail
  (first | go_at_call 11 | skip)
  refine (HA.out (L.length : Int) w1 (by omega) HB1.out).mono ?_
  rintro e w2 ⟨x, rfl, hx, hb2⟩
  obtain ⟨n, hn⟩ : ∃ n : Nat, (n : Int) = 1 + x := ⟨(1 + x).toNat, by have := hx.1; omega⟩
  have hn12 : 1 ≤ n ∧ n ≤ L.length := by obtain ⟨u1, u2⟩ := hx; omega
  obtain ⟨hn1, hn2⟩ := hn12
  have hwx : IntKind.i64.wrap (1 + x) = (n : Int) := by rw [wrap_id _ (by omega) (by omega)]; exact hn.symm
  have B12 : Hid (Below w1.heap.size w1 w2) := hb2
  clear hx hn hb2 HA
  have hok := se_ok (L := L) (n := n) (by omega) hn1 (by omega) hn2 HX.out.1 hL0.1
  have HSe : Hid (Calls Try.prog 13 #[.slice (some ⟨gl, 0, none⟩) L.length cl, .int .i64 (n : Int)] w2 (AnsR w2 (seRs L n n) 0)) := by
    have := implSeasons_any (some ⟨gl, 0, none⟩) cl L (n : Int) (by omega) w2 (HRd.out.laterS B12.out)
    rwa [hok.1, hok.2] at this
  have HSu : Hid (∀ W, Below w1.heap.size w1 W → Calls Try.prog 14 #[.slice (some ⟨gl, 0, none⟩) L.length cl] W fun e w' => e = .returned (.int .i64 (smP L 1 0 L.length)) ∧ W = w') := fun W hW => sumR_any _ cl L (by omega) HX.out.2 W (HRd.out.laterS hW)
  clear hok
  go_wp2_with fail
  (first | go_at_call 13 | skip)
  refine HSe.out.mono ?_
  rintro e w3 ⟨g3, c3, rfl, ho3, hb3⟩
  rw [seRs_length] at ho3 ⊢
  obtain ⟨br, hgr, hcells⟩ := ratio_cells (L := seRs L n n) (cp := c3) (g := g3) (by rw [seRs_length]; exact ho3) (by rw [seRs_length]; exact hn1)
  subst hgr
  have HRat : Hid (∀ W', Below w3.heap.size w3 W' → ∀ k, k < n → W'.cell? ⟨br, k * 2, none⟩ = some (.int .i64 (seR L n k).1) ∧ W'.cell? ⟨br, k * 2 + 1, none⟩ = some (.int .i64 (seR L n k).2)) := fun W' hW k hk => by
    have := hcells W' hW k (by rw [seRs_length]; exact hk)
    rwa [seRs_at L n hk] at this
  have B13 : Hid (Below w1.heap.size w1 w3) := chain B12.out hb3
  clear ho3 hb3 hcells HSe B12
  have hnn : ((n : Int) != (n : Int)) = false := by simp
  go_wp2_with fail
  (first | go_at_call 14 | skip)
  refine (HSu.out w3 B13.out).mono ?_
  rintro e w4 ⟨rfl, rfl⟩
  clear HSu
  have hsb := smP_bound (n := 1) (k := 0) HX.out.2 L.length
  have hsp := smP_pos HX.out.2 hL0.1 L.length hL1
  have HFl : Hid (∀ s, s = smP L 1 0 L.length → ∀ k, k < n → ∃ q1 q2 : Nat, seR L n k = ((q1 : Int), (q2 : Int)) ∧ (1 ≤ (q2 : Int)) ∧ ((q1 : Int) ≤ 100000000 ∧ (q2 : Int) ≤ 100000000000) ∧ (q1 : Int) * ctP n k L.length * s = (q2 : Int) * smP L n k L.length * (L.length : Int) ∧ Nat.gcd q1 q2 = 1) := fun s hs k hk => by
    have a1 := smP_bound (n := n) (k := k) HX.out.2 L.length
    have a2 := ctP_bound (n := n) (k := k) L.length
    have a3 := ctP_pos hk hn2
    have m1 : 0 ≤ smP L n k L.length * (L.length : Int) := Int.mul_nonneg a1.1 (by omega)
    have m2 : smP L n k L.length * (L.length : Int) ≤ smP L n k L.length * 22 := Int.mul_le_mul_of_nonneg_left (by omega) a1.1
    have m3 : 1 * smP L 1 0 L.length ≤ ctP n k L.length * smP L 1 0 L.length := Int.mul_le_mul_of_nonneg_right a3 hsb.1
    have m4 : ctP n k L.length * smP L 1 0 L.length ≤ 22 * smP L 1 0 L.length := Int.mul_le_mul_of_nonneg_right (by omega) hsb.1
    obtain ⟨x, hx⟩ : ∃ x : Nat, (x : Int) = smP L n k L.length * (L.length : Int) := ⟨(smP L n k L.length * (L.length : Int)).toNat, by omega⟩
    obtain ⟨y, hy⟩ : ∃ y : Nat, (y : Int) = ctP n k L.length * smP L 1 0 L.length := ⟨(ctP n k L.length * smP L 1 0 L.length).toNat, by omega⟩
    obtain ⟨q1, q2, f1, f2, f3, f4, f5, f6⟩ := seR_facts (x := x) (y := y) (by omega)
    refine ⟨q1, q2, ?_, by omega, ⟨by omega, by omega⟩, ?_, f6⟩
    · unfold seR
      rw [← hx, ← hy]
      exact f1
    · rw [hs, Int.mul_assoc, ← hy, Int.mul_assoc, ← hx]
      exact_mod_cast f5
  obtain ⟨s, hs⟩ : ∃ s, s = smP L 1 0 L.length := ⟨_, rfl⟩
  have HF2 : Hid (∀ k, k < n → ∃ q1 q2 : Nat, seR L n k = ((q1 : Int), (q2 : Int)) ∧ (1 ≤ (q2 : Int)) ∧ ((q1 : Int) ≤ 100000000 ∧ (q2 : Int) ≤ 100000000000) ∧ (q1 : Int) * ctP n k L.length * s = (q2 : Int) * smP L n k L.length * (L.length : Int) ∧ Nat.gcd q1 q2 = 1) := HFl.out s hs
  rw [← hs] at hsb hsp ⊢
  clear hs HFl
  go_wp2_with fail
  go_loopw [12, 13, 14, 15, 16] (fun c _ _ _ _ wr => ∃ k : Nat, k ≤ n ∧ c = .int .i64 (k : Int) ∧ Below w3.heap.size w3 wr) (fun c _ _ _ _ _ => n - (intOf c).toNat)
  case atStart => exact ⟨0, Nat.zero_le _, rfl, Below.refl _ _⟩
  case round =>
    obtain ⟨k, hk, rfl, hb⟩ := hrel
    obtain ⟨wk, hwk⟩ : ∃ wk, wk = wr := ⟨_, rfl⟩
    rw [← hwk] at hb ⊢
    clear hwk
    have HB : Hid (Below w3.heap.size w3 wk) := hb
    clear hb
    by_cases hlt : k < n
    · have hlt' : (k : Int) < (n : Int) := by omega
      obtain ⟨q1, q2, hR, hq1, ⟨hq2, hq3⟩, hLaw, hGc⟩ := HF2.out k hlt
      have hcl2 := HRat.out wk HB.out k hlt
      rw [hR] at hcl2
      have HCl : Hid (wk.cell? ⟨br, k * 2, none⟩ = some (.int .i64 (q1 : Int)) ∧ wk.cell? ⟨br, k * 2 + 1, none⟩ = some (.int .i64 (q2 : Int))) := hcl2
      have HLw : Hid ((q1 : Int) * ctP n k L.length * s = (q2 : Int) * smP L n k L.length * (L.length : Int)) := hLaw
      have HCm : Hid (∀ W, Calls Try.prog 15 #[.int .i64 (q1 : Int), .int .i64 (q2 : Int)] W fun e w' => e = .returned (.int .i64 1) ∧ W = w') := fun W => by
        have := lawCommon_any 0 q1 q2 (by omega) (by omega) W
        rw [hGc] at this
        exact this
      clear hR hcl2 hLaw hGc
      go_wp2_with fail
      go_loopw [13, 14, 15] (fun pv cv iv wr => ∃ (r p : Nat), p = k + r * n ∧ p < L.length + n ∧ iv = .int .i64 (p : Int) ∧ pv = .int .i64 (smP L n k p) ∧ cv = .int .i64 (ctP n k p) ∧ wk = wr) (fun _ _ iv _ => L.length + n - (intOf iv).toNat)
      case atStart => exact ⟨0, k, by simp, by omega, rfl, by rw [smP_start L hlt k (Nat.le_refl _)], by rw [ctP_start hlt k (Nat.le_refl _)], rfl⟩
      case round =>
        obtain ⟨r, p, hp, hpl, rfl, rfl, rfl, rfl⟩ := hrel
        have HP : Hid (p = k + r * n) := hp
        clear hp
        by_cases hpm : p < L.length
        · have hpm' : (p : Int) < (L.length : Int) := by omega
          have d0 := HLst.out wk p (chain B13.out HB.out) hpm
          have hmod : p % n = k := by rw [HP.out, Nat.add_mul_mod_self_right, Nat.mod_eq_of_lt hlt]
          have HN1 : Hid (smP L n k (p + n) = smP L n k p + L.getD p 0 ∧ ctP n k (p + n) = ctP n k p + 1) := ⟨smP_hop L hlt hmod n (by omega) (Nat.le_refl _), ctP_hop hlt hmod n (by omega) (Nat.le_refl _)⟩
          have a1 := smP_bound (n := n) (k := k) HX.out.2 p
          have a2 := ctP_bound (n := n) (k := k) p
          have a3 := HX.out.2 p
          clear hmod
          generalize smP L n k p = sm at *
          generalize ctP n k p = ct at *
          generalize L.getD p 0 = x at *
          have e1 : IntKind.i64.wrap (sm + x) = sm + x := wrap_id _ (by omega) (by omega)
          have e2 : IntKind.i64.wrap (ct + 1) = ct + 1 := wrap_id _ (by omega) (by omega)
          go_wp2_with fail
          exact ⟨⟨r + 1, p + n, by have := HP.out; rw [Nat.add_mul]; omega, by omega, by go_num, by rw [HN1.out.1], by rw [HN1.out.2], by first | rfl | trivial⟩, by simp [intOf]; omega⟩
        · have hpm' : ¬ (p : Int) < (L.length : Int) := by omega
          have hend := smP_end L hlt (r := r) (len := L.length) (by rw [← HP.out]; omega) (by rw [← HP.out]; omega) (by omega)
          rw [← HP.out] at hend
          have a1 := smP_bound (n := n) (k := k) HX.out.2 L.length
          have a2 := ctP_bound (n := n) (k := k) L.length
          rw [← hend.1, ← hend.2]
          clear hend
          obtain ⟨y0, y1⟩ := HCl.out
          have hlw := HLw.out
          generalize smP L n k L.length = sm at *
          generalize ctP n k L.length = ct at *
          have m1 : 0 ≤ (q1 : Int) * ct := Int.mul_nonneg (by omega) a2.1
          have m2 : (q1 : Int) * ct ≤ 100000000 * ct := Int.mul_le_mul_of_nonneg_right hq2 a2.1
          have m3 : 0 ≤ (q1 : Int) * ct * s := Int.mul_nonneg m1 hsb.1
          have m4 : (q1 : Int) * ct * s ≤ 2200000000 * s := Int.mul_le_mul_of_nonneg_right (by omega) hsb.1
          have m5 : 0 ≤ (q2 : Int) * sm := Int.mul_nonneg (by omega) a1.1
          have m6 : (q2 : Int) * sm ≤ 100000000000 * sm := Int.mul_le_mul_of_nonneg_right hq3 a1.1
          have e1 : IntKind.i64.wrap ((q1 : Int) * ct) = (q1 : Int) * ct := wrap_id _ (by omega) (by omega)
          have e2 : IntKind.i64.wrap ((q1 : Int) * ct * s) = (q1 : Int) * ct * s := wrap_id _ (by omega) (by omega)
          have e3 : IntKind.i64.wrap ((q2 : Int) * sm) = (q2 : Int) * sm := wrap_id _ (by omega) (by omega)
          have e4 : IntKind.i64.wrap ((q2 : Int) * sm * (L.length : Int)) = (q1 : Int) * ct * s := by rw [← hlw]; exact e2
          have e5 : ((q1 : Int) * ct * s != (q1 : Int) * ct * s) = false := by simp
          have hq1' : ¬ (q2 : Int) < 1 := by omega
          have hq0' : ¬ (q1 : Int) < 0 := by omega
          clear hlw HLw HCl m1 m2 m3 m4 m5 m6
          go_wp2_with (go_at_call 15; refine (HCm.out _).mono ?_; rintro e w6 ⟨rfl, rfl⟩)
          exact ⟨⟨k + 1, by omega, by go_num, chain HB.out (below_alloc _ _)⟩, by simp [intOf]; omega⟩
    · have hlt' : ¬ (k : Int) < (n : Int) := by omega
      clear HRat HF2
      have B1k : Hid (Below w1.heap.size w1 wk) := chain B13.out HB.out
      have Bwk : Hid (Below w.heap.size w wk) := chain HB1.out B1k.out
      have hmk := fun w => run_make_row' (P := Try.prog) 23 3 (.int .i64 0) 8 Try.underlying23 intInfo rfl .i64 .i64 L.length (by omega) (by omega) w
      have H0 : Hid (RqSt wk wk.heap.size L.length (fun i => if i < 0 then L.getD 0 0 else 0) (wk.alloc (Obj.cells (madeCells #[.int .i64 0] L.length) 3))) := (RqSt.made wk L.length).congr (fun i _ => by rw [if_neg (by omega)])
      obtain ⟨V, hV⟩ : ∃ V, V = wk.heap.size := ⟨_, rfl⟩
      have HV : Hid (V = wk.heap.size) := hV
      clear hV
      go_upto_region 24 with fail
      rw [← HV.out] at H0 ⊢
      clear hmk
      generalize wk.alloc (Obj.cells (madeCells #[.int .i64 0] L.length) 3) = W2 at *
      go_loopw [18] (fun c wr => ∃ j : Nat, j ≤ L.length ∧ c = .int .i64 (j : Int) ∧ RqSt wk V L.length (fun i => if i < j then L.getD 0 0 else 0) wr) (fun c _ => L.length - (intOf c).toNat)
      case atStart => exact ⟨0, Nat.zero_le _, rfl, H0.out⟩
      case round =>
        clear H0
        obtain ⟨j, hj, rfl, hst⟩ := hrel
        have HS : Hid (RqSt wk V L.length (fun i => if i < j then L.getD 0 0 else 0) wr) := hst
        clear hst
        by_cases hjl : j < L.length
        · have hjl' : (j : Int) < (L.length : Int) := by omega
          have hjl0 : (0 : Int) < (L.length : Int) := by omega
          have d0 := HLst.out wr 0 (chain B1k.out HS.out.bel) (by omega)
          have d1 := HS.out.row.cell (i := j) hjl
          have d2 : wr.frozen? ⟨V, j, none⟩ = false := HS.out.row.frozen j
          dsimp only at d1
          rw [if_neg (by omega)] at d1
          have HN : Hid (RqSt wk V L.length (fun i => if i < j + 1 then L.getD 0 0 else 0) (wr.setCell ⟨V, j, none⟩ (.int .i64 (L.getD 0 0)))) := (HS.out.put j (L.getD 0 0)).congr (fun i _ => by
            by_cases e : i = j
            · rw [if_pos e, if_pos (by omega)]
            · rw [if_neg e]
              by_cases e2 : i < j
              · rw [if_pos e2, if_pos (by omega)]
              · rw [if_neg e2, if_neg (by omega)])
          clear HS
          go_wp2_with fail
          go_roundw
          case rel => exact ⟨j + 1, by omega, by go_num, HN.out⟩
          case measure => simp [intOf]; omega
        · have hjl' : ¬ (j : Int) < (L.length : Int) := by omega
          obtain rfl : j = L.length := by omega
          obtain ⟨F, hF⟩ : ∃ F, F = List.replicate L.length (L.getD 0 0) := ⟨_, rfl⟩
          have hFl : F.length = L.length := by rw [hF, List.length_replicate]
          have hFa : ∀ i, i < F.length → F.getD i 0 = L.getD 0 0 := fun i hi => by
            rw [hFl] at hi
            rw [hF]
            simp [List.getD_eq_getElem?_getD, hi]
          have hFm : ∀ x ∈ F, 0 ≤ x ∧ x ≤ 100000 := fun x hx => by
            rw [hF] at hx
            have := (List.mem_replicate.1 hx).2
            omega
          have hFo := HS.out.own2 (L := F) hFl.symm (fun i hi => by rw [if_pos hi]; exact (hFa i (by omega)).symm)
          have hok := se_ok (L := F) (n := n) (by omega) hn1 (by omega) (by omega) hFm (by rw [hFa 0 (by omega)]; exact hL0.1)
          have HSe : Hid (∀ W, W = wr → Calls Try.prog 13 #[.slice (some ⟨V, 0, none⟩) L.length L.length, .int .i64 (n : Int)] W (AnsR W (seRs F n n) 0)) := fun W hW => by
            subst hW
            have := implSeasons_any (some ⟨V, 0, none⟩) L.length F (n : Int) (by omega) W hFo.reads
            rwa [hok.1, hok.2, hFl] at this
          have HOne : Hid (∀ k, k < n → seR F n k = (1, 1)) := fun k hk => seRs_flat (v := L.getD 0 0) hL0.1 hFa (by omega) hk
          have Bwr : Hid (Below w.heap.size w wr) := chain Bwk.out HS.out.bel
          clear hF hFl hFa hFm hFo hok HS HLst
          go_wp2_with fail
          (first | go_at_call 13 | skip)
          refine (HSe.out wr rfl).mono ?_
          rintro e w7 ⟨g7, c7, rfl, ho7, hb7⟩
          rw [seRs_length] at ho7 ⊢
          obtain ⟨bo, hgo, hcells⟩ := ratio_cells (L := seRs F n n) (cp := c7) (g := g7) (by rw [seRs_length]; exact ho7) (by rw [seRs_length]; exact hn1)
          subst hgo
          have HRat : Hid (∀ W', Below w7.heap.size w7 W' → ∀ k, k < n → W'.cell? ⟨bo, k * 2, none⟩ = some (.int .i64 1) ∧ W'.cell? ⟨bo, k * 2 + 1, none⟩ = some (.int .i64 1)) := fun W' hW k hk => by
            have := hcells W' hW k (by rw [seRs_length]; exact hk)
            rwa [seRs_at F n hk, HOne.out k hk] at this
          have Bw7 : Hid (Below w.heap.size w w7) := chain Bwr.out hb7
          clear ho7 hb7 hcells HSe HOne Bwr
          go_wp2_with fail
          go_loopw [21] (fun c wr => ∃ j : Nat, j ≤ n ∧ c = .int .i64 (j : Int) ∧ Below w7.heap.size w7 wr) (fun c _ => n - (intOf c).toNat)
          case atStart => exact ⟨0, Nat.zero_le _, rfl, Below.refl _ _⟩
          case round =>
            obtain ⟨j, hj2, rfl, hb⟩ := hrel
            have HBj : Hid (Below w7.heap.size w7 wr) := hb
            clear hb
            by_cases hjn : j < n
            · have hjn' : (j : Int) < (n : Int) := by omega
              obtain ⟨y0, y1⟩ := HRat.out wr HBj.out j hjn
              go_wp2_with fail
              exact ⟨⟨j + 1, by omega, by go_num, HBj.out⟩, by simp [intOf]; omega⟩
            · have hjn' : ¬ (j : Int) < (n : Int) := by omega
              go_wp2_with fail
              go_ret
              exact ⟨rfl, chain Bw7.out HBj.out⟩
theorem walk (a0 : Option Addr) (len0 cap0 : Nat) (z0 : List Int) (a1 : Option Addr) (len1 cap1 : Nat) (z1 : List Int) (w : World) (r0 : RowB w.heap.size w a0 len0 z0) (r1 : RowB w.heap.size w a1 len1 z1) :
    Calls Try.prog 4 #[.slice a0 len0 cap0, .slice a1 len1 cap1] w fun e w' => e = .returned (.bool true) ∧ Below w.heap.size w w' := by
  by_cases hbig : (1048576 : Int) < (len0 : Int)
  · clear r0 r1
    go_enter Try.func4, Try.ntmps4
    go_wp2
    go_ret
    exact ⟨rfl, Below.refl _ _⟩
  by_cases hbig1 : (1048576 : Int) < (len1 : Int)
  · clear r0 r1
    go_enter Try.func4, Try.ntmps4
    go_wp2
    go_ret
    exact ⟨rfl, Below.refl _ _⟩
  · exact walk' a0 len0 cap0 a1 len1 cap1 w (by omega) (by omega) (SalesOf_any a0 len0 cap0 z0 w r0) (fun n W hn hW => by
      have hr := r1.below hW
      exact at_any W.heap.size a1 len1 cap1 z1 0 n W ⟨hr.1, hr.2.imp id (fun ⟨b0, off, e, hb, hc⟩ => ⟨b0, off, e, by have := hW.size; omega, hc⟩)⟩ (by omega) (by omega) (by omega))

theorem own : ownKnob Try.prog.godebug = none := by kernel_rfl
theorem laidOut : laidOutB Try.prog = true := by kernel_rfl

set_option maxRecDepth 100000 in
theorem lifted (os : Os) (started : os.Started) (H : Type) (enc : TypeId × Value → H) :
    ReturnsInHanded {} Try.checked os 4 .any (Rows.fnSeasonsSpec.pre6 enc Try.prog Try.f4 Rows.fnSeasonsRow.domain false) (Rows.fnSeasonsSpec.post enc Try.prog Try.f4 false true false false) := by
  refine returnsInHanded_of_change (C := Try.checked) own started (by kernel_rfl) Try.func4
    (ChangeSpec.witness6 (enc := enc) (C := Try.checked) false ⟨#[], #[.slice none 0 0, .slice none 0 0], []⟩ 8 (by kernel_rfl) (by kernel_rfl) (by kernel_rfl) (by kernel_rfl)) ?_
  intro W base args ds gs before hval0 hW hcnd _
  have hval : ∀ (j : Nat) t v, Try.f4.params[j]? = some t → args[j]? = some v → Value.okWide Try.prog W .any base t v := hval0
  have hW' := hW
  obtain ⟨p, q, hA0, hV, rfl, hfz, hnd⟩ := hW
  have hA : DataW.TrodAll enc Try.prog W 0 (fun _ => true) true Try.f4.params.toList args.toList ds p := hA0
  rw [Try.params4] at hA hval
  obtain ⟨v0, vs0, d0, ds0, p0, q0, hargs, rfl, rfl, h0, r0⟩ := trodAll_cons hA
  obtain ⟨v1, vs1, d1, ds1, p1, q1, rfl, rfl, rfl, h1, r1⟩ := trodAll_cons r0
  obtain ⟨rfl, rfl, rfl⟩ := trodAll_nil r1
  obtain rfl : args = #[v0, v1] := by cases args; simp_all
  obtain ⟨rfl, rfl⟩ := trodVars_none hV
  have k0 := h0
  have lt0 : ∀ x ∈ p0, x.block < W.heap.size := by obtain ⟨m, hm⟩ := k0; exact DataW.trod_lt m _ _ _ hm
  have k1 := h1
  have lt1 : ∀ x ∈ p1, x.block < W.heap.size := by obtain ⟨m, hm⟩ := k1; exact DataW.trod_lt m _ _ _ hm
  obtain ⟨a0, len0, cap0, rfl⟩ := okWide_slice Try.underlying22 (hval 0 22 v0 rfl rfl)
  obtain ⟨z0, w0⟩ : ∃ zs, IsRow .u8 W a0 len0 cap0 zs := by
    obtain ⟨fuel, hf⟩ := h0
    rcases open_ints Try.underlying22 Try.underlying5 (by kernel_rfl) hf with ⟨hcs, _⟩ | ⟨x, l, c, zs, hcs, _, hl, hm, hz, _, hcell, hwz⟩
    · simp [Value.cells] at hcs
      obtain ⟨rfl, rfl, rfl⟩ := hcs
      exact ⟨[], .inl ⟨rfl, rfl, rfl, rfl⟩⟩
    · simp [Value.cells] at hcs
      obtain ⟨rfl, rfl, rfl⟩ := hcs
      exact ⟨zs, .inr ⟨_, rfl, hl, hm, by simpa using hz, hcell, hwz⟩⟩
  obtain ⟨a1, len1, cap1, rfl⟩ := okWide_slice Try.underlying22 (hval 1 22 v1 rfl rfl)
  obtain ⟨z1, w1⟩ : ∃ zs, IsRow .u8 W a1 len1 cap1 zs := by
    obtain ⟨fuel, hf⟩ := h1
    rcases open_ints Try.underlying22 Try.underlying5 (by kernel_rfl) hf with ⟨hcs, _⟩ | ⟨x, l, c, zs, hcs, _, hl, hm, hz, _, hcell, hwz⟩
    · simp [Value.cells] at hcs
      obtain ⟨rfl, rfl, rfl⟩ := hcs
      exact ⟨[], .inl ⟨rfl, rfl, rfl, rfl⟩⟩
    · simp [Value.cells] at hcs
      obtain ⟨rfl, rfl, rfl⟩ := hcs
      exact ⟨zs, .inr ⟨_, rfl, hl, hm, by simpa using hz, hcell, hwz⟩⟩
  clear hA0 hval0
  refine (walk a0 len0 cap0 z0 a1 len1 cap1 z1 W (rowB_of _ _ _ _ _ w0) (rowB_of _ _ _ _ _ w1)).mono fun e W' ⟨he, bel⟩ => ?_
  subst he
  exact ⟨_, rfl, _, _, _, [], _, [], hW', trodAll_mk1 (shut_bool Try.underlying4 _), (trodAll_cons_mk (Below.trod laidOut (by kernel_rfl) (of_decide_eq_true (by kernel_rfl)) k0 bel lt0) (trodAll_cons_mk (Below.trod laidOut (by kernel_rfl) (of_decide_eq_true (by kernel_rfl)) k1 bel lt1) trodAll_mk0)), rfl, bel.frame _, fun h => by cases h⟩

theorem over : Rows.fnSeasonsRow.holds Try.pinned (OpenSpec.ofChange Rows.fnSeasonsSpec) :=
  OpenClaim.holds_of_wide 4 Try.f4 rfl rfl rfl rfl rfl rfl rfl ⟨rfl, rfl, rfl, rfl, rfl⟩ rfl rfl rfl rfl rfl (by kernel_rfl) Try.func4 (by kernel_rfl)
    (of_decide_eq_true (by kernel_rfl)) (by unfold Func.isWrapper; first | (rw [if_pos (by decide +kernel)]; kernel_rfl) | (rw [if_neg (by decide +kernel)]; exact ⟨rfl, rfl⟩))
    (fun os started H enc _ => lifted os started H enc)
end FnSeasons

theorem fnSeasons_holds : Rows.FnSeasonsSaid := FnSeasons.over
end Go.Proofs.Ytjdjopikljdigaa
