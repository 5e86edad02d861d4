/-
  For every list of bytes the law FnPaid answers true: by the program what vouchers, cards and cash pay and what is missing is the total, change and missing are not both there, and the order of the tenders changes nothing; with no condition.
-/
import Derived.Test.YtgkbfkdokknedaaPdA
import Derived.Test.YtgkbfkdokknedaaPmB
import Derived.Test.YtgkbfkdokknedaaPmC
namespace Go.Proofs.Ytgkbfkdokknedaa
open Go.ChangeShapes Go.WideShapes Go.ChangeAt Go.RowKit Go.Joins
set_option linter.unusedVariables false

namespace FnPaid
theorem sumK_rev (rs : List RTd) (k : Nat) : sumK rs.reverse k = sumK rs k := by
  unfold sumK
  rw [List.map_reverse]
  induction rs with
  | nil => rfl
  | cons r t ih => simp at ih ⊢; omega
theorem all_rev (rs : List RTd) (p : RTd → Bool) : rs.reverse.all p = rs.all p := by simp
theorem code_rev (total : Int) (rs : List RTd) : pmCode total rs.reverse = pmCode total rs := by
  unfold pmCode; rw [List.length_reverse, all_rev, sumK_rev, sumK_rev, sumK_rev]
theorem val_rev (total : Int) (rs : List RTd) : pmVal total rs.reverse = pmVal total rs := by
  unfold pmVal; rw [List.length_reverse, all_rev, sumK_rev, sumK_rev, sumK_rev]
theorem pm_facts (total : Int) (rs : List RTd) (h : pmCode total rs = 0) : ∃ x0 x1 x2 x3 x4 x5 : Int, pmVal total rs = .agg #[.int .i64 x0, .int .i64 x1, .int .i64 x2, .int .i64 x3, .int .i64 x4, .int .i64 x5] ∧ x0 + x1 + x2 + x5 = total ∧ (x4 ≤ 0 ∨ x5 ≤ 0) ∧ (x3 ≤ 0 ∨ x0 = total) ∧ (0 ≤ x0 ∧ 0 ≤ x1 ∧ 0 ≤ x2 ∧ 0 ≤ x3 ∧ 0 ≤ x4 ∧ 0 ≤ x5) ∧ total ≤ 1000000000 := by
  rcases pm_ways total rs with ⟨_, hc, _⟩ | ⟨_, _, hc, _⟩ | ⟨_, _, hc, _⟩ | ⟨_, _, _, hc, _⟩ | ⟨h1, h2, h3, hc, hv⟩
  · omega
  · omega
  · omega
  · omega
  · have HAl : ∀ r ∈ rs, tdB r = true := fun r hr => by rw [List.all_eq_true] at h3; exact h3 r hr
    have b1 := sumK_bound rs HAl 1 rs.length (Nat.le_refl _)
    have b2 := sumK_bound rs HAl 2 rs.length (Nat.le_refl _)
    have b3 := sumK_bound rs HAl 3 rs.length (Nat.le_refl _)
    rw [List.take_length] at b1 b2 b3
    rw [hv]
    rw [hc] at h
    unfold paidC at h
    unfold paid6
    by_cases hov : total - min (sumK rs 1) total < sumK rs 2
    · rw [if_pos hov] at h; omega
    · rw [if_neg hov]
      exact ⟨_, _, _, _, _, _, rfl, by omega, by omega, by omega, by omega, h2.2⟩
theorem six_made (w : World) (x0 x1 x2 x3 x4 x5 : Int) : Six (w.alloc (Obj.cells #[.int .i64 x0, .int .i64 x1, .int .i64 x2, .int .i64 x3, .int .i64 x4, .int .i64 x5] 41)) w.heap.size x0 x1 x2 x3 x4 x5 := by
  refine ⟨by simp, fun i hi => ?_⟩
  rcases (by omega : i = 0 ∨ i = 1 ∨ i = 2 ∨ i = 3 ∨ i = 4 ∨ i = 5) with rfl | rfl | rfl | rfl | rfl | rfl <;> exact ⟨by simp [sx], by simp⟩
theorem pm_form (total : Int) (rs : List RTd) : ∃ x0 x1 x2 x3 x4 x5 : Int, pmVal total rs = .agg #[.int .i64 x0, .int .i64 x1, .int .i64 x2, .int .i64 x3, .int .i64 x4, .int .i64 x5] := by
  rcases pm_ways total rs with ⟨_, _, h⟩ | ⟨_, _, _, h⟩ | ⟨_, _, _, h⟩ | ⟨_, _, _, _, h⟩ | ⟨_, _, _, _, h⟩
  · exact ⟨_, _, _, _, _, _, h⟩
  · exact ⟨_, _, _, _, _, _, h⟩
  · exact ⟨_, _, _, _, _, _, h⟩
  · exact ⟨_, _, _, _, _, _, h⟩
  · rw [h]; exact paid6_form _ _ _ _
/-- A row of tenders of its own, from block B on. -/
def TdRow (w : World) (B : Nat) (v : Value) (qs : List RTd) (wr : World) : Prop := wr.ownsRow B 47 4 v qs.length (tdCells qs) ∧ B ≤ wr.heap.size ∧ Below B w wr
theorem TdRow.start (w : World) : TdRow w w.heap.size (.slice (some ⟨w.heap.size, 0, none⟩) 0 0) [] (w.alloc (Obj.cells #[] 47)) :=
  ⟨⟨rfl, .inr ⟨w.heap.size, 0, #[], rfl, Nat.le_refl _, heapNew w _, Nat.le_refl _, by unfold maxLen; omega, rfl, rfl⟩⟩, by simp, below_alloc _ _⟩
theorem TdRow.alloc {w : World} {B : Nat} {v : Value} {qs : List RTd} {wr : World} (h : TdRow w B v qs wr) (o : Obj) : TdRow w B v qs (wr.alloc o) :=
  ⟨h.1.alloc _, by have := h.2.1; simp; omega, h.2.2.alloc h.2.1 _⟩
theorem TdRow.push {w : World} {B : Nat} {v : Value} {qs : List RTd} {wr w' : World} {g cp : Nat} {r : RTd} (h : TdRow w B v qs wr)
    (ho : w'.ownsRow B 47 4 (.slice (some ⟨g, 0, none⟩) (qs.length + 1) cp) (qs.length + 1) (tdCells qs ++ [.int .i64 r.kd, .int .i64 r.am, .int .i64 r.n, .int .i64 r.d])) (hg : wr.grownBy w' v.ownBlock) : TdRow w B (.slice (some ⟨g, 0, none⟩) (qs.length + 1) cp) (qs ++ [r]) w' := by
  refine ⟨?_, Nat.le_trans h.2.1 hg.size, h.2.2.grown hg h.2.1 (fun q hq => (h.1.lt q hq).1)⟩
  rw [List.length_append, tdCells_append]; exact ho
theorem rev_step (rs : List RTd) (j : Nat) (h : j < rs.length) : (rs.drop (rs.length - j)).reverse ++ [rs.getD (rs.length - (j + 1)) zTd] = (rs.drop (rs.length - (j + 1))).reverse := by
  have h1 : rs.length - (j + 1) < rs.length := by omega
  rw [List.drop_eq_getElem_cons h1, List.reverse_cons, show rs.length - (j + 1) + 1 = rs.length - j by omega]
  have e : rs.getD (rs.length - (j + 1)) zTd = rs[rs.length - (j + 1)] := by simp [List.getD_eq_getElem?_getD, h1]
  rw [e]

set_option maxHeartbeats 8000000 in
set_option maxRecDepth 4000 in
theorem walk (a0 : Option Addr) (len0 cap0 : Nat) (z0 : List Int) (w : World) (r0 : RowB w.heap.size w a0 len0 z0) :
    Calls Try.prog 4 #[.slice a0 len0 cap0] w fun e w' => e = .returned (.bool true) ∧ Below w.heap.size w w' := by
  by_cases hbig : (1048576 : Int) < (len0 : Int)
  · clear r0
    go_enter Try.func4, Try.ntmps4
    go_wp2
    go_ret
    exact ⟨rfl, Below.refl _ _⟩
  have hbig' : (len0 : Int) ≤ 1048576 := by omega
  have hT := tendersOf_any a0 len0 cap0 z0 w r0
  obtain ⟨i0, hi, hzz⟩ := Option.map_eq_some_iff.1 tdInf
  simp only [Prod.mk.injEq] at hzz
  obtain ⟨hi0, hi1, hi2⟩ := hzz
  clear r0 hbig
  go_enter Try.func4, Try.ntmps4
  go_wp2_with fail
  (first | go_at_call 13 | skip)
  refine hT.mono ?_
  rintro e w1 ⟨rs, g, cp, t, rfl, hl, hds, hgl, ht, hb1⟩
  clear hT
  have HI : Hid (∀ a c W, ReadsTd W.heap.size W a rs → Calls Try.prog 14 #[.int .i64 t, .slice a rs.length c] W fun e w' => e = .returned (.tuple #[pmVal t rs, .int .i64 (pmCode t rs)]) ∧ Below W.heap.size W w') := fun a c W h => implPay_any t a c rs (by omega) W h
  have HS : Hid (∀ a c W, ReadsTd W.heap.size W a rs → Calls Try.prog 15 #[.int .i64 t, .slice a rs.length c] W fun e w' => e = .returned (.tuple #[pmVal t rs, .int .i64 (pmCode t rs)]) ∧ Below W.heap.size W w') := fun a c W h => specPay_any t a c rs (by omega) W h
  have HV : Hid (∀ a c W, ReadsTd W.heap.size W a rs.reverse → Calls Try.prog 14 #[.int .i64 t, .slice a rs.length c] W fun e w' => e = .returned (.tuple #[pmVal t rs, .int .i64 (pmCode t rs)]) ∧ Below W.heap.size W w') := fun a c W h => by
    have := implPay_any t a c rs.reverse (by simp; omega) W h
    rwa [code_rev, val_rev, List.length_reverse] at this
  have HF : Hid (pmCode t rs = 0 → ∃ x0 x1 x2 x3 x4 x5 : Int, pmVal t rs = .agg #[.int .i64 x0, .int .i64 x1, .int .i64 x2, .int .i64 x3, .int .i64 x4, .int .i64 x5] ∧ x0 + x1 + x2 + x5 = t ∧ (x4 ≤ 0 ∨ x5 ≤ 0) ∧ (x3 ≤ 0 ∨ x0 = t) ∧ (0 ≤ x0 ∧ 0 ≤ x1 ∧ 0 ≤ x2 ∧ 0 ≤ x3 ∧ 0 ≤ x4 ∧ 0 ≤ x5) ∧ t ≤ 1000000000) := pm_facts t rs
  obtain ⟨x0, x1, x2, x3, x4, x5, hx⟩ := pm_form t rs
  rw [hx] at HI HS HV HF
  generalize pmCode t rs = c at *
  clear hx
  have X1 : Hid (ReadsTd w1.heap.size w1 (some ⟨g, 0, none⟩) rs) := .inr ⟨_, _, rfl, hgl, hds⟩
  have B1 : Hid (Below w.heap.size w w1) := hb1
  clear hb1 hds hgl
  go_wp2_with fail
  (first | go_at_call 14 | skip)
  refine (HI.out _ _ w1 X1.out).mono ?_
  rintro e w3 ⟨rfl, hb3⟩
  have X3 : Hid (ReadsTd (w3.alloc (Obj.cells #[.int .i64 x0, .int .i64 x1, .int .i64 x2, .int .i64 x3, .int .i64 x4, .int .i64 x5] 41)).heap.size (w3.alloc (Obj.cells #[.int .i64 x0, .int .i64 x1, .int .i64 x2, .int .i64 x3, .int .i64 x4, .int .i64 x5] 41)) (some ⟨g, 0, none⟩) rs) := (((X1.out.below hb3).mono hb3.size).below (below_alloc _ _)).mono (by simp)
  have B3 : Hid (Below w.heap.size w (w3.alloc (Obj.cells #[.int .i64 x0, .int .i64 x1, .int .i64 x2, .int .i64 x3, .int .i64 x4, .int .i64 x5] 41))) := chain (chain B1.out hb3) (below_alloc _ _)
  have P3 : Hid (Six (w3.alloc (Obj.cells #[.int .i64 x0, .int .i64 x1, .int .i64 x2, .int .i64 x3, .int .i64 x4, .int .i64 x5] 41)) w3.heap.size x0 x1 x2 x3 x4 x5) := six_made w3 x0 x1 x2 x3 x4 x5
  clear hb3 X1 B1
  go_wp2_with fail
  obtain ⟨W3, hW3⟩ : ∃ W3, W3 = w3.alloc (Obj.cells #[.int .i64 x0, .int .i64 x1, .int .i64 x2, .int .i64 x3, .int .i64 x4, .int .i64 x5] 41) := ⟨_, rfl⟩
  rw [← hW3] at X3 B3 P3 ⊢
  clear hW3
  obtain ⟨pb, hpb⟩ : ∃ pb, pb = w3.heap.size := ⟨_, rfl⟩
  rw [← hpb] at P3 ⊢
  clear hpb
  (first | go_at_call 15 | skip)
  refine (HS.out _ _ W3 X3.out).mono ?_
  rintro e w4 ⟨rfl, hb4⟩
  have X4 : Hid (ReadsTd (w4.alloc (Obj.cells #[.int .i64 x0, .int .i64 x1, .int .i64 x2, .int .i64 x3, .int .i64 x4, .int .i64 x5] 41)).heap.size (w4.alloc (Obj.cells #[.int .i64 x0, .int .i64 x1, .int .i64 x2, .int .i64 x3, .int .i64 x4, .int .i64 x5] 41)) (some ⟨g, 0, none⟩) rs) := (((X3.out.below hb4).mono hb4.size).below (below_alloc _ _)).mono (by simp)
  have B4 : Hid (Below w.heap.size w (w4.alloc (Obj.cells #[.int .i64 x0, .int .i64 x1, .int .i64 x2, .int .i64 x3, .int .i64 x4, .int .i64 x5] 41))) := chain (chain B3.out hb4) (below_alloc _ _)
  have P4 : Hid (Six (w4.alloc (Obj.cells #[.int .i64 x0, .int .i64 x1, .int .i64 x2, .int .i64 x3, .int .i64 x4, .int .i64 x5] 41)) pb x0 x1 x2 x3 x4 x5) := (P3.out.below hb4).below (below_alloc _ _)
  have Q4 : Hid (Six (w4.alloc (Obj.cells #[.int .i64 x0, .int .i64 x1, .int .i64 x2, .int .i64 x3, .int .i64 x4, .int .i64 x5] 41)) w4.heap.size x0 x1 x2 x3 x4 x5) := six_made w4 x0 x1 x2 x3 x4 x5
  have hsz4 : (w4.alloc (Obj.cells #[.int .i64 x0, .int .i64 x1, .int .i64 x2, .int .i64 x3, .int .i64 x4, .int .i64 x5] 41)).heap.size = w4.heap.size + 1 := by simp
  have R4 : Hid (TdRow (w4.alloc (Obj.cells #[.int .i64 x0, .int .i64 x1, .int .i64 x2, .int .i64 x3, .int .i64 x4, .int .i64 x5] 41)) (w4.heap.size + 1) (.slice (some ⟨w4.heap.size + 1, 0, none⟩) 0 0) [] ((w4.alloc (Obj.cells #[.int .i64 x0, .int .i64 x1, .int .i64 x2, .int .i64 x3, .int .i64 x4, .int .i64 x5] 41)).alloc (Obj.cells #[] 47))) := by have := TdRow.start (w4.alloc (Obj.cells #[.int .i64 x0, .int .i64 x1, .int .i64 x2, .int .i64 x3, .int .i64 x4, .int .i64 x5] 41)); rwa [hsz4] at this
  clear hb4 X3 B3 P3
  go_wp2
  obtain ⟨W4, hW4⟩ : ∃ W4, W4 = w4.alloc (Obj.cells #[.int .i64 x0, .int .i64 x1, .int .i64 x2, .int .i64 x3, .int .i64 x4, .int .i64 x5] 41) := ⟨_, rfl⟩
  rw [← hW4] at X4 B4 P4 Q4 R4 hsz4 ⊢
  rw [← hsz4] at R4 ⊢
  clear hW4 hsz4
  obtain ⟨wb, hwb⟩ : ∃ wb, wb = w4.heap.size := ⟨_, rfl⟩
  rw [← hwb] at Q4 ⊢
  clear hwb
  go_loopw [9, 10] (fun v x wr => ∃ (j : Nat) (z : Int) (gv cv : Nat), j ≤ rs.length ∧ x = .int .i64 z ∧ z = (rs.length : Int) - 1 - (j : Int) ∧ v = .slice (some ⟨gv, 0, none⟩) (rs.drop (rs.length - j)).reverse.length cv ∧ TdRow W4 W4.heap.size v (rs.drop (rs.length - j)).reverse wr) (fun _ x _ => (intOf x + 1).toNat)
  case atStart => exact ⟨0, _, W4.heap.size, 0, Nat.zero_le _, rfl, by omega, by simp, by simpa using R4.out⟩
  case round =>
    obtain ⟨j, z, gv, cv, hj, rfl, hz, rfl, hrow⟩ := hrel
    have HRw : Hid (TdRow W4 W4.heap.size (.slice (some ⟨gv, 0, none⟩) (rs.drop (rs.length - j)).reverse.length cv) (rs.drop (rs.length - j)).reverse wr) := hrow
    clear hrow R4
    by_cases hjl : j < rs.length
    · rcases X4.out with h | ⟨b0, o0, ha, hB0, ia⟩
      · rw [h] at hjl; simp at hjl
      have hgo : b0 = g ∧ o0 = 0 := by injection ha with ha; injection ha with h1 h2; exact ⟨h1.symm, h2.symm⟩
      obtain ⟨rfl, rfl⟩ := hgo
      obtain ⟨c0, c1, c2, c3⟩ := (ia.below HRw.out.2.2 hB0) (rs.length - (j + 1)) (by omega)
      have hq1 : z = ((rs.length - (j + 1) : Nat) : Int) := by omega
      subst hq1
      have HStep : Hid ((rs.drop (rs.length - j)).reverse ++ [rs.getD (rs.length - (j + 1)) zTd] = (rs.drop (rs.length - (j + 1))).reverse) := rev_step rs j hjl
      have hlen : (rs.drop (rs.length - j)).reverse.length ≤ 5 := by simp; omega
      have hql : rs.length - (j + 1) < rs.length := by omega
      have HNx : Hid (((rs.length - (j + 1) : Nat) : Int) - 1 = (rs.length : Int) - 1 - ((j + 1 : Nat) : Int)) := by show _ = _; omega
      have HLn : Hid ((rs.drop (rs.length - (j + 1))).reverse.length = (rs.drop (rs.length - j)).reverse.length + 1) := by show _ = _; rw [← HStep.out]; simp
      rw [Nat.zero_add] at c0 c1 c2 c3
      generalize (rs.drop (rs.length - j)).reverse = qs at *
      generalize hqe : rs.length - (j + 1) = q at *
      have hql' : (q : Int) < (rs.length : Int) := by omega
      generalize rs.getD q zTd = r at *
      obtain ⟨kd, am, n, d⟩ := r
      dsimp only at c0 c1 c2 c3
      have HQ : Hid (rs.length - (j + 1) = q) := hqe
      clear ia hz hqe
      go_wp2_with (at_builtin; refine wpList_append_lies _ rfl _ _ 37 rfl W4.heap.size 47 i0 (.agg #[.int .i64 0, .int .i64 0, .int .i64 0, .int .i64 0]) 4 32 Try.underlying37 hi hi0 hi1 hi2 rfl (by decide) _ _ _ rfl (HRw.out.alloc _).1 ⟨wr.heap.size, 0, none⟩ 1 1 [.int .i64 kd, .int .i64 am, .int .i64 n, .int .i64 d] rfl rfl (World.news_of_block (heapNew wr _)) (one4 _ _ _ _) (by omega) (by unfold maxLen; omega) (by omega) (HRw.out.alloc _).2.1 _ rfl ?_; intro g1 cp1 w9 hown1 hgrow1 hat1 hglt1; have HF9 : Hid (TdRow W4 W4.heap.size (.slice (some ⟨g1, 0, none⟩) (qs.length + 1) cp1) (qs ++ [⟨kd, am, n, d⟩]) w9) := (HRw.out.alloc _).push (r := ⟨kd, am, n, d⟩) hown1 hgrow1; clear hown1 hgrow1 hat1 hglt1)
      go_roundw
      case rel =>
        refine ⟨j + 1, (q : Int) - 1, g1, cp1, by omega, by go_num, HNx.out, ?_, ?_⟩
        · rw [HQ.out, HLn.out]
        · rw [HQ.out, ← HStep.out]; exact HF9.out
      case measure => simp [intOf] <;> omega
    · have hjn : j = rs.length := by omega
      have hzz : z = -1 := by omega
      subst hzz
      have hdr : (rs.drop (rs.length - j)).reverse = rs.reverse := by rw [hjn]; simp
      rw [hdr] at HRw ⊢
      have hll : rs.reverse.length = rs.length := by simp
      have HRv : Hid (ReadsTd wr.heap.size wr (some ⟨gv, 0, none⟩) rs.reverse) := .inr ⟨gv, 0, rfl, (HRw.out.1.lt gv rfl).2, tds_of_row HRw.out.1⟩
      have BW : Hid (Below W4.heap.size W4 wr) := HRw.out.2.2
      rw [hll] at *
      clear HRw hz hdr hjl hj
      go_wp2_with fail
      (first | go_at_call 14 | skip)
      refine (HV.out _ _ wr HRv.out).mono ?_
      rintro e w6 ⟨rfl, hb6⟩
      have P6 : Hid (Six (w6.alloc (Obj.cells #[.int .i64 x0, .int .i64 x1, .int .i64 x2, .int .i64 x3, .int .i64 x4, .int .i64 x5] 41)) pb x0 x1 x2 x3 x4 x5) := ((P4.out.below BW.out).below hb6).below (below_alloc _ _)
      have Q6 : Hid (Six (w6.alloc (Obj.cells #[.int .i64 x0, .int .i64 x1, .int .i64 x2, .int .i64 x3, .int .i64 x4, .int .i64 x5] 41)) wb x0 x1 x2 x3 x4 x5) := ((Q4.out.below BW.out).below hb6).below (below_alloc _ _)
      have U6 : Hid (Six (w6.alloc (Obj.cells #[.int .i64 x0, .int .i64 x1, .int .i64 x2, .int .i64 x3, .int .i64 x4, .int .i64 x5] 41)) w6.heap.size x0 x1 x2 x3 x4 x5) := six_made w6 x0 x1 x2 x3 x4 x5
      have B6 : Hid (Below w.heap.size w (w6.alloc (Obj.cells #[.int .i64 x0, .int .i64 x1, .int .i64 x2, .int .i64 x3, .int .i64 x4, .int .i64 x5] 41))) := chain (chain (chain B4.out BW.out) hb6) (below_alloc _ _)
      have p1 : pb < w6.heap.size := Nat.lt_of_lt_of_le (Nat.lt_of_lt_of_le P4.out.1 BW.out.size) hb6.size
      have p2 : wb < w6.heap.size := Nat.lt_of_lt_of_le (Nat.lt_of_lt_of_le Q4.out.1 BW.out.size) hb6.size
      clear hb6 HRv BW P4 Q4 B4 X4
      obtain ⟨a0', a1', a2', a3', a4', a5'⟩ := P6.out.cells
      obtain ⟨b0', b1', b2', b3', b4', b5'⟩ := Q6.out.cells
      by_cases hc : c = 0
      · subst hc
        obtain ⟨y0, y1, y2, y3, y4, y5, hy, f1, f2, f3, ⟨k0, k1, k2, k3, k4, k5⟩, f4⟩ := HF.out rfl
        have hyy : x0 = y0 ∧ x1 = y1 ∧ x2 = y2 ∧ x3 = y3 ∧ x4 = y4 ∧ x5 = y5 := by simpa using hy
        obtain ⟨rfl, rfl, rfl, rfl, rfl, rfl⟩ := hyy
        have g1 : IntKind.i64.wrap (x0 + x1) = x0 + x1 := wrap_id _ (by omega) (by omega)
        have g2 : IntKind.i64.wrap (x0 + x1 + x2) = x0 + x1 + x2 := wrap_id _ (by omega) (by omega)
        have g3 : IntKind.i64.wrap (x0 + x1 + x2 + x5) = x0 + x1 + x2 + x5 := wrap_id _ (by omega) (by omega)
        have hsum : (x0 + x1 + x2 + x5 != t) = false := by rw [f1]; simp
        clear HF hy HI HS HV
        rcases (by omega : x4 ≤ 0 ∨ (0 < x4 ∧ x5 ≤ 0)) with e1 | ⟨e1, e2⟩
        · rcases (by omega : x3 ≤ 0 ∨ (0 < x3 ∧ x0 = t)) with e3 | ⟨e3, e4⟩
          · clear f1 f2 f3
            go_wp2
            go_ret
            exact ⟨rfl, B6.out⟩
          · have h0t : (x0 != t) = false := by rw [e4]; simp
            clear f1 f2 f3 e4
            go_wp2
            go_ret
            exact ⟨rfl, B6.out⟩
        · rcases (by omega : x3 ≤ 0 ∨ (0 < x3 ∧ x0 = t)) with e3 | ⟨e3, e4⟩
          · clear f1 f2 f3
            go_wp2
            go_ret
            exact ⟨rfl, B6.out⟩
          · have h0t : (x0 != t) = false := by rw [e4]; simp
            clear f1 f2 f3 e4
            go_wp2
            go_ret
            exact ⟨rfl, B6.out⟩
      · have hc1 : (c != 0) = true := by rw [bne_iff_ne]; exact hc
        have hc2 : (c == 0) = false := by simpa using hc
        go_wp2
        go_ret
        exact ⟨rfl, B6.out⟩

theorem own : ownKnob Try.prog.godebug = none := by kernel_rfl
theorem laidOut : laidOutB Try.prog = true := by kernel_rfl

set_option maxRecDepth 100000 in
theorem lifted (os : Os) (started : os.Started) (H : Type) (enc : TypeId × Value → H) :
    ReturnsInHanded {} Try.checked os 4 .any (Rows.fnPaidSpec.pre6 enc Try.prog Try.f4 Rows.fnPaidRow.domain false) (Rows.fnPaidSpec.post enc Try.prog Try.f4 false true false false) := by
  refine returnsInHanded_of_change (C := Try.checked) own started (by kernel_rfl) Try.func4
    (ChangeSpec.witness6 (enc := enc) (C := Try.checked) false ⟨#[], #[.slice none 0 0], []⟩ 8 (by kernel_rfl) (by kernel_rfl) (by kernel_rfl) (by kernel_rfl)) ?_
  intro W base args ds gs before hval0 hW hcnd _
  have hval : ∀ (j : Nat) t v, Try.f4.params[j]? = some t → args[j]? = some v → Value.okWide Try.prog W .any base t v := hval0
  have hW' := hW
  obtain ⟨p, q, hA0, hV, rfl, hfz, hnd⟩ := hW
  have hA : DataW.TrodAll enc Try.prog W 0 (fun _ => true) true Try.f4.params.toList args.toList ds p := hA0
  rw [Try.params4] at hA hval
  obtain ⟨v0, vs0, d0, ds0, p0, q0, hargs, rfl, rfl, h0, r0⟩ := trodAll_cons hA
  obtain ⟨rfl, rfl, rfl⟩ := trodAll_nil r0
  obtain rfl : args = #[v0] := by cases args; simp_all
  obtain ⟨rfl, rfl⟩ := trodVars_none hV
  have k0 := h0
  have lt0 : ∀ x ∈ p0, x.block < W.heap.size := by obtain ⟨m, hm⟩ := k0; exact DataW.trod_lt m _ _ _ hm
  obtain ⟨a0, len0, cap0, rfl⟩ := okWide_slice Try.underlying22 (hval 0 22 v0 rfl rfl)
  obtain ⟨z0, w0⟩ : ∃ zs, IsRow .u8 W a0 len0 cap0 zs := by
    obtain ⟨fuel, hf⟩ := h0
    rcases open_ints Try.underlying22 Try.underlying5 (by kernel_rfl) hf with ⟨hcs, _⟩ | ⟨x, l, c, zs, hcs, _, hl, hm, hz, _, hcell, hwz⟩
    · simp [Value.cells] at hcs
      obtain ⟨rfl, rfl, rfl⟩ := hcs
      exact ⟨[], .inl ⟨rfl, rfl, rfl, rfl⟩⟩
    · simp [Value.cells] at hcs
      obtain ⟨rfl, rfl, rfl⟩ := hcs
      exact ⟨zs, .inr ⟨_, rfl, hl, hm, by simpa using hz, hcell, hwz⟩⟩
  clear hA0 hval0
  refine (walk a0 len0 cap0 z0 W (rowB_of _ _ _ _ _ w0)).mono fun e W' ⟨he, bel⟩ => ?_
  subst he
  exact ⟨_, rfl, _, _, _, [], _, [], hW', trodAll_mk1 (shut_bool Try.underlying4 _), (trodAll_cons_mk (Below.trod laidOut (by kernel_rfl) (of_decide_eq_true (by kernel_rfl)) k0 bel lt0) trodAll_mk0), rfl, bel.frame _, fun h => by cases h⟩

theorem over : Rows.fnPaidRow.holds Try.pinned (OpenSpec.ofChange Rows.fnPaidSpec) :=
  OpenClaim.holds_of_wide 4 Try.f4 rfl rfl rfl rfl rfl rfl rfl ⟨rfl, rfl, rfl, rfl, rfl⟩ rfl rfl rfl rfl rfl (by kernel_rfl) Try.func4 (by kernel_rfl)
    (of_decide_eq_true (by kernel_rfl)) (by unfold Func.isWrapper; first | (rw [if_pos (by decide +kernel)]; kernel_rfl) | (rw [if_neg (by decide +kernel)]; exact ⟨rfl, rfl⟩))
    (fun os started H enc _ => lifted os started H enc)
end FnPaid

theorem fnPaid_holds : Rows.FnPaidSaid := FnPaid.over
end Go.Proofs.Ytgkbfkdokknedaa
