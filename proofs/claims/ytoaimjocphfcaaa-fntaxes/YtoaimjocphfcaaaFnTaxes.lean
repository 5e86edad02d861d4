/-
  For every list of bytes the law FnTaxes answers true: of drawn right rows and lines each class's net and tax are its gross, all gross is that of the lines, each tax lies within half a cent, and the book does not hang on the order of the lines; with no condition.
-/
import Derived.Test.YtoaimjocphfcaaaTaxesFacts
import Derived.Test.YtoaimjocphfcaaaTaxD2
import Derived.BigQuiet
namespace Go.Proofs.Ytoaimjocphfcaaa
open Go.ChangeShapes Go.WideShapes Go.ChangeAt Go.RowKit Go.Joins
set_option linter.unusedVariables false

/-- v is a row of m lines of its own, from block B on. -/
def LT (w : World) (B : Nat) (v : Value) (m : Nat) (ls : List TL) (wr : World) : Prop :=
  wr.ownsRow B 32 2 v m (lnCells ls) ∧ B ≤ wr.heap.size ∧ Below B w wr
theorem LT.alloc {w : World} {B m : Nat} {v : Value} {ls : List TL} {wr : World} (h : LT w B v m ls wr) (o : Obj) : LT w B v m ls (wr.alloc o) :=
  ⟨h.1.alloc _, by have := h.2.1; simp; omega, h.2.2.alloc h.2.1 _⟩
theorem LT.push {w : World} {B m : Nat} {v : Value} {ls : List TL} {wr w' : World} {g cp : Nat} {l : TL} (h : LT w B v m ls wr)
    (ho : w'.ownsRow B 32 2 (.slice (some ⟨g, 0, none⟩) (m + 1) cp) (m + 1) (lnCells ls ++ [.int .i64 l.cl, .int .i64 l.gr])) (hg : wr.grownBy w' v.ownBlock) : LT w B (.slice (some ⟨g, 0, none⟩) (m + 1) cp) (m + 1) (ls ++ [l]) w' := by
  obtain ⟨h1, h4, h5⟩ := h
  refine ⟨?_, Nat.le_trans h4 hg.size, h5.grown hg h4 (fun q hq => (h1.lt q hq).1)⟩
  rw [lnCells_append]
  have : lnCells [l] = [.int .i64 l.cl, .int .i64 l.gr] := by simp [lnCells]
  rw [this]; exact ho
theorem LT.start (w : World) : LT w w.heap.size (.slice (some ⟨w.heap.size, 0, none⟩) 0 0) 0 [] (w.alloc (Obj.cells #[] 32)) :=
  ⟨⟨rfl, .inr ⟨w.heap.size, 0, #[], rfl, Nat.le_refl _, heapNew w _, Nat.le_refl _, by unfold maxLen; omega, rfl, rfl⟩⟩, by simp, below_alloc w _⟩
theorem wf_small {c : Int} (h : 1 ≤ c) (h' : c ≤ 3) : (Lit.int .i64 c).wf = true := WalkArith.wf_i64 (by omega)

namespace FnTaxes
set_option maxHeartbeats 20000000 in
set_option maxRecDepth 8000 in
theorem walk (a0 : Option Addr) (len0 cap0 : Nat) (z0 : List Int) (w : World) (r0 : RowB w.heap.size w a0 len0 z0) :
    Calls Try.prog 3 #[.slice a0 len0 cap0] w fun e w' => e = .returned (.bool true) ∧ Below w.heap.size w w' := by
  have hl0 := r0.1
  unfold maxLen at hl0
  by_cases h : (1048576 : Int) < (len0 : Int)
  · clear r0
    go_enter Try.func3, Try.ntmps3
    go_wp2
    go_ret
    exact ⟨rfl, Below.refl _ _⟩
  have h' : (len0 : Int) ≤ 1048576 := by omega
  clear h
  have hto := taxesOf_any a0 len0 cap0 z0 w r0
  clear r0 hl0
  obtain ⟨k0, hti2, hzz2⟩ := Option.map_eq_some_iff.1 lineInfo0
  simp only [Prod.mk.injEq] at hzz2
  obtain ⟨hk0, hk1, hk2⟩ := hzz2
  go_enter Try.func3, Try.ntmps3
  go_wp2_with fail
  (first | go_at_call 4 | skip)
  refine hto.mono ?_
  rintro e w1 ⟨rs, ls, g, cp, gl, cl, day, rfl, htr, hok, hcov, hll, hdl, hd, hR, hL, hb1⟩
  obtain ⟨hbk, hcls⟩ := drawn_book htr hcov hd hll hdl
  have hrl : rs.length ≤ 60 := ((trAll_iff rs).1 htr).1
  have B1 : Hid (Below w.heap.size w w1) := hb1
  have HR : Hid (ReadsT w1.heap.size w1 (some ⟨g, 0, none⟩) rs) := hR
  have HL : Hid (ReadsL w1.heap.size w1 (some ⟨gl, 0, none⟩) ls) := hL
  have HDl : Hid (∀ l ∈ ls, DrLine l) := hdl
  have HRk : Hid (Calls Try.prog 5 #[.slice (some ⟨g, 0, none⟩) rs.length cp] w1 fun e w' => e = .returned (.bool true) ∧ Below w1.heap.size w1 w') := by
    have := implRows_any (some ⟨g, 0, none⟩) cp rs (by omega) hok w1 hR
    rw [htr] at this; exact this
  have hns : nth.size = 5 := rfl
  have HBk : Hid (∀ (W : World) (la : Option Addr) (lc : Nat) (ls' : List TL), (ls' = ls ∨ ls' = ls.reverse) → ReadsT W.heap.size W (some ⟨g, 0, none⟩) rs → ReadsL W.heap.size W la ls' → Calls Try.prog 6 #[.slice (some ⟨g, 0, none⟩) rs.length cp, .string nth, .int .i64 day, .slice la ls.length lc] W fun e w' => ∃ g3 c3, e = .returned (.tuple #[.slice g3 (cls ls).length c3, .int .i64 0]) ∧ Own2 W.heap.size w' g3 (bkL (sumOf ls) (tbT rs nth day ls) (cls ls)) ∧ Below W.heap.size W w') := fun W la lc ls' hls hRW hLW => by
    have hlen : ls'.length = ls.length := by rcases hls with e | e <;> rw [e]; simp
    have hgo : tbGo rs nth day ls' = (bkL (sumOf ls) (tbT rs nth day ls) (cls ls), 0) := by
      rcases hls with e | e
      · rw [e]; exact hbk
      · have hdr : ∀ l ∈ ls.reverse, DrLine l := fun l hl => hdl l (by simpa using hl)
        rw [e, (drawn_book htr hcov hd (by simpa using hll) hdr).1, bk_reverse]
    have hb := implBook_any (some ⟨g, 0, none⟩) cp rs (by omega) hok nth (by rw [hns]; unfold maxLen; omega) day la lc ls' (by omega) W hRW hLW
    rw [hlen] at hb
    refine hb.mono ?_
    rintro e w' ⟨g3, c3, rfl, ho, hbb⟩
    rw [hgo] at ho ⊢
    refine ⟨g3, c3, ?_, ho, hbb⟩
    show Ending.returned (.tuple #[.slice g3 ((bkL (sumOf ls) (tbT rs nth day ls) (cls ls)).length / 4) c3, _]) = _
    rw [bkL_length, show (cls ls).length * 4 / 4 = (cls ls).length by omega]
  have HAt : Hid (∀ (W : World) (c : Int), c ∈ cls ls → ReadsT W.heap.size W (some ⟨g, 0, none⟩) rs → Calls Try.prog 7 #[.slice (some ⟨g, 0, none⟩) rs.length cp, .int .i64 c, .string nth, .int .i64 day] W fun e w' => e = .returned (.tuple #[.agg #[.int .i64 (tbN rs nth day c), .int .i64 (tbD rs nth day c)], .int .i64 0]) ∧ Below W.heap.size W w') := fun W c hc hRW => by
    obtain ⟨⟨c1, c2⟩, hs, hrb⟩ := hcls c hc
    have ha := implTaxAt_any (some ⟨g, 0, none⟩) cp rs (by omega) hok c nth ⟨wf_small c1 c2, by rw [hns]; unfold maxLen; omega⟩ day W hRW
    have e1 : taRow rs c nth day = rowFor rs c nth day := by unfold taRow; rw [if_neg (by omega), if_pos htr]
    have e2 : taCode rs c nth day = 0 := by unfold taCode; rw [if_neg (by omega), if_pos htr]; unfold oC; rw [if_pos hs]
    rw [e1, e2] at ha
    exact ha
  have HRt : Hid (∀ c ∈ cls ls, rateB (tbN rs nth day c) (tbD rs nth day c) = true) := fun c hc => (hcls c hc).2.2
  have hnl := cls_len ls
  clear hR hL hb1 hto hbk hcls htr hok hcov hdl
  go_wp2_with fail
  (first | go_at_call 5 | skip)
  refine HRk.out.mono ?_
  rintro e w2 ⟨rfl, hb2⟩
  have B2 : Hid (Below w1.heap.size w1 w2) := hb2
  clear hb2 HRk
  go_wp2_with fail
  (first | go_at_call 6 | skip)
  refine (HBk.out w2 (some ⟨gl, 0, none⟩) cl ls (.inl rfl) ((HR.out.below B2.out).mono B2.out.size) ((HL.out.below B2.out).mono B2.out.size)).mono ?_
  rintro e w3 ⟨g3, c3, rfl, o3, hb3⟩
  have B3 : Hid (Below w1.heap.size w1 w3) := chain B2.out hb3
  have O3 : Hid (Own2 w2.heap.size w3 g3 (bkL (sumOf ls) (tbT rs nth day ls) (cls ls))) := o3
  have HLT0 : Hid (LT w3 w3.heap.size (.slice (some ⟨w3.heap.size, 0, none⟩) 0 0) 0 [] (w3.alloc (Obj.cells #[] 32))) := LT.start w3
  clear hb3 o3
  go_wp2_with fail
  go_loopw [8, 9, 10] (fun v al i wr => ∃ (k gt ct : Nat), k ≤ ls.length ∧ v = .slice (some ⟨gt, 0, none⟩) k ct ∧ al = .int .i64 (total (ls.reverse.take k)) ∧ i = .int .i64 ((ls.length : Int) - 1 - (k : Int)) ∧ LT w3 w3.heap.size (.slice (some ⟨gt, 0, none⟩) k ct) k (ls.reverse.take k) wr) (fun _ _ i _ => (intOf i + 1).toNat)
  case atStart => exact ⟨0, w3.heap.size, 0, Nat.zero_le _, rfl, rfl, by simp, HLT0.out⟩
  case round =>
    clear HLT0
    obtain ⟨k, gt, ct, hk, rfl, rfl, rfl, hT⟩ := hrel
    have HT : Hid (LT w3 w3.heap.size (.slice (some ⟨gt, 0, none⟩) k ct) k (ls.reverse.take k) wr) := hT
    have hts := total_small (ls := ls.reverse.take k) (fun l hl => HDl.out l (by simpa using List.mem_of_mem_take hl))
    have htl : (ls.reverse.take k).length = k := by simp; omega
    rw [htl] at hts
    clear hT htl
    by_cases hkn : k < ls.length
    · obtain ⟨j, hj⟩ : ∃ j : Nat, (ls.length : Int) - 1 - (k : Int) = (j : Int) := ⟨ls.length - 1 - k, by omega⟩
      have hjl : j < ls.length := by omega
      have hjl' : (j : Int) < (ls.length : Int) := by omega
      have hjk : ls.length - 1 - k = j := by omega
      have hlr : k < ls.reverse.length := by simpa using hkn
      have HTn : Hid (total (ls.reverse.take (k + 1)) = total (ls.reverse.take k) + (ls.getD j tl0).gr) := by have := total_next ls.reverse k hlr; rw [rev_getD ls k hkn, hjk] at this; exact this
      have HSn : Hid (ls.reverse.take (k + 1) = ls.reverse.take k ++ [ls.getD j tl0]) := by have := take_snoc ls.reverse k hlr; rw [rev_getD ls k hkn, hjk] at this; exact this
      have hdr : DrLine (ls.getD j tl0) := by
        have e : ls.getD j tl0 = ls[j] := by simp [List.getD_eq_getElem?_getD, hjl]
        rw [e]; exact HDl.out _ (List.getElem_mem _)
      rcases HL.out with hz | ⟨bL, oL, hbo, hBL, iL⟩
      · rw [hz] at hjl; simp at hjl
      obtain ⟨rfl, rfl⟩ : bL = gl ∧ oL = 0 := by simp at hbo; exact ⟨hbo.1.symm, hbo.2.symm⟩
      have HCl : Hid (∀ W, Below w3.heap.size w3 W → W.cell? ⟨bL, j * 2, none⟩ = some (.int .i64 (ls.getD j tl0).cl) ∧ W.cell? ⟨bL, j * 2 + 1, none⟩ = some (.int .i64 (ls.getD j tl0).gr)) := fun W hW => by
        have q := (iL.below (B3.out.trans (hW.mono B3.out.size)) hBL) j hjl
        rw [show 0 + j * 2 = j * 2 by omega] at q
        exact q
      rw [hj]
      obtain ⟨c1, c2⟩ := HCl.out wr HT.out.2.2
      obtain ⟨_, d1, d2⟩ := hdr
      clear iL
      generalize ls.getD j tl0 = l at *
      obtain ⟨lc, lg⟩ := l
      dsimp only at c1 c2 d1 d2 HTn HSn HCl
      have HT5 : Hid (LT w3 w3.heap.size (.slice (some ⟨gt, 0, none⟩) k ct) k (ls.reverse.take k) (wr.alloc (Obj.cells #[.int .i64 lc, .int .i64 lg] 32))) := HT.out.alloc _
      generalize total (ls.reverse.take k) = tt at *
      go_wp2_with (at_builtin; refine wpList_append_lies _ rfl _ _ 24 rfl w3.heap.size 32 k0 (.agg #[.int .i64 0, .int .i64 0]) 2 16 Try.underlying24 hti2 hk0 hk1 hk2 rfl (by decide) _ _ _ rfl HT5.out.1 ⟨wr.heap.size, 0, none⟩ 1 1 [.int .i64 lc, .int .i64 lg] rfl rfl (World.news_of_block (heapNew wr _)) (oneLine _ _) (by omega) (by unfold maxLen; omega) (by omega) HT5.out.2.1 _ rfl ?_; intro g7 cp7 W7 own7 grow7 hat7 hlt7; have HT7 : Hid (LT w3 w3.heap.size (.slice (some ⟨g7, 0, none⟩) (k + 1) cp7) (k + 1) (ls.reverse.take k ++ [⟨lc, lg⟩]) W7) := HT5.out.push (l := ⟨lc, lg⟩) own7 grow7; obtain ⟨e1, e2⟩ := HCl.out W7 HT7.out.2.2; clear own7 grow7 hat7 hlt7)
      go_roundw
      case rel => exact ⟨k + 1, g7, cp7, by omega, rfl, by rw [HTn.out], by congr 1; omega, by rw [HSn.out]; exact HT7.out⟩
      case measure => first | (simp [intOf]; done) | (simp [intOf]; omega)
    · obtain rfl : k = ls.length := by omega
      have hi1 : (ls.length : Int) - 1 - (ls.length : Int) = -1 := by omega
      have hfull : ls.reverse.take ls.length = ls.reverse := List.take_of_length_le (by simp)
      rw [hi1]
      rw [hfull] at HT hts ⊢
      rw [total_reverse] at hts ⊢
      have HT' : Hid (LT w3 w3.heap.size (.slice (some ⟨gt, 0, none⟩) ls.length ct) ls.length ls.reverse wr) := HT.out
      have B4 : Hid (Below w1.heap.size w1 wr) := B3.out.trans (HT'.out.2.2.mono B3.out.size)
      have HRl : Hid (ReadsL wr.heap.size wr (some ⟨gt, 0, none⟩) ls.reverse) := by
        have q := HT'.out.1
        have e : ls.length = ls.reverse.length := by simp
        rw [e] at q
        exact reads_lines q
      obtain ⟨wq, hwq⟩ : ∃ wq, wq = wr := ⟨_, rfl⟩
      subst hwq
      go_wp2_with fail
      (first | go_at_call 6 | skip)
      refine (HBk.out wq (some ⟨gt, 0, none⟩) ct ls.reverse (.inr rfl) ((HR.out.below B4.out).mono B4.out.size) HRl.out).mono ?_
      rintro e w6 ⟨g6, c6, rfl, o6, hb6⟩
      have B6 : Hid (Below w1.heap.size w1 w6) := chain B4.out hb6
      have O6 : Hid (Own2 wq.heap.size w6 g6 (bkL (sumOf ls) (tbT rs nth day ls) (cls ls))) := o6
      have O36 : Hid (Own2 w2.heap.size w6 g3 (bkL (sumOf ls) (tbT rs nth day ls) (cls ls))) := O3.out.below (HT'.out.2.2.trans (hb6.mono HT'.out.2.2.size)) (Nat.le_refl _)
      have HB : Hid (Below w.heap.size w w6) := B1.out.trans (B6.out.mono B1.out.size)
      clear hb6 o6 O3 HBk HRl HT HT' B4
      have hts2 : -60000 ≤ total ls ∧ total ls ≤ 60000 := by omega
      go_wp2_with fail
      go_loopw [9, 13, 14, 15, 16, 17] (fun al i _ _ _ _ wr => ∃ k : Nat, k ≤ (cls ls).length ∧ i = .int .i64 (k : Int) ∧ al = .int .i64 (total ls - (((cls ls).take k).map (sumOf ls)).sum) ∧ Below w6.heap.size w6 wr) (fun _ i _ _ _ _ _ => (cls ls).length - (intOf i).toNat)
      case atStart => exact ⟨0, Nat.zero_le _, rfl, by simp, Below.refl _ _⟩
      case round =>
        obtain ⟨k, hk, rfl, rfl, hb⟩ := hrel
        have HBk : Hid (Below w6.heap.size w6 wr) := hb
        clear hb
        have hA := cls_sum_small HDl.out hll k
        by_cases hkn : k < (cls ls).length
        · have hkn' : (k : Int) < ((cls ls).length : Int) := by omega
          have hcm : (cls ls).getD k 0 ∈ cls ls := by
            have e : (cls ls).getD k 0 = (cls ls)[k] := by simp [List.getD_eq_getElem?_getD, hkn]
            rw [e]; exact List.getElem_mem _
          obtain ⟨⟨n1, n2⟩, d1, d2⟩ := (rateB_iff _ _).mp (HRt.out _ hcm)
          obtain ⟨s1, s2⟩ := sum_small ls HDl.out ((cls ls).getD k 0)
          have hnear := tax_near (sumOf ls ((cls ls).getD k 0)) _ _ (HRt.out _ hcm)
          change 2 * (tbT rs nth day ls ((cls ls).getD k 0) * _ - _) ≤ _ ∧ -(2 * (tbT rs nth day ls ((cls ls).getD k 0) * _ - _)) ≤ _ at hnear
          have HNx : Hid ((((cls ls).take (k + 1)).map (sumOf ls)).sum = (((cls ls).take k).map (sumOf ls)).sum + sumOf ls ((cls ls).getD k 0)) := cls_sum_next ls k hkn
          obtain ⟨v0, v1, v2, v3⟩ := bk_at (sumOf ls) (tbT rs nth day ls) (cls ls) k hkn
          have hLl : (bkL (sumOf ls) (tbT rs nth day ls) (cls ls)).length = (cls ls).length * 4 := bkL_length _ _ _
          obtain ⟨b3, hg3, _, hlt3, hi3, _⟩ : ∃ b, g3 = some ⟨b, 0, none⟩ ∧ w2.heap.size ≤ b ∧ b < w6.heap.size ∧ IntsAt w6 b 0 (bkL (sumOf ls) (tbT rs nth day ls) (cls ls)) ∧ True := by
            rcases O36.out with q | ⟨b, q1, q2, q3, q4, _⟩
            · rw [q] at hLl; simp at hLl; omega
            · exact ⟨b, q1, q2, q3, q4, trivial⟩
          obtain ⟨b6, hg6, _, hlt6, hi6, _⟩ : ∃ b, g6 = some ⟨b, 0, none⟩ ∧ wq.heap.size ≤ b ∧ b < w6.heap.size ∧ IntsAt w6 b 0 (bkL (sumOf ls) (tbT rs nth day ls) (cls ls)) ∧ True := by
            rcases O6.out with q | ⟨b, q1, q2, q3, q4, _⟩
            · rw [q] at hLl; simp at hLl; omega
            · exact ⟨b, q1, q2, q3, q4, trivial⟩
          have HC : Hid (∀ b, b < w6.heap.size → IntsAt w6 b 0 (bkL (sumOf ls) (tbT rs nth day ls) (cls ls)) → ∀ W, Below w6.heap.size w6 W → W.cell? ⟨b, k * 4, none⟩ = some (.int .i64 ((cls ls).getD k 0)) ∧ W.cell? ⟨b, k * 4 + 1, none⟩ = some (.int .i64 (sumOf ls ((cls ls).getD k 0))) ∧ W.cell? ⟨b, k * 4 + 2, none⟩ = some (.int .i64 (sumOf ls ((cls ls).getD k 0) - tbT rs nth day ls ((cls ls).getD k 0))) ∧ W.cell? ⟨b, k * 4 + 3, none⟩ = some (.int .i64 (tbT rs nth day ls ((cls ls).getD k 0)))) := fun b hb hi W hW => by
            have q := hi.below hW hb
            have q0 := q (k * 4) (by omega)
            have q1 := q (k * 4 + 1) (by omega)
            have q2 := q (k * 4 + 2) (by omega)
            have q3 := q (k * 4 + 3) (by omega)
            rw [Nat.zero_add, v0] at q0
            rw [Nat.zero_add, v1] at q1
            rw [Nat.zero_add, v2] at q2
            rw [Nat.zero_add, v3] at q3
            exact ⟨q0, q1, q2, q3⟩
          have HP : Hid (∀ j, k = j + 1 → (cls ls).getD j 0 < (cls ls).getD k 0 ∧ ∀ W, Below w6.heap.size w6 W → W.cell? ⟨b3, j * 4, none⟩ = some (.int .i64 ((cls ls).getD j 0))) := fun j hj => by
            subst hj
            refine ⟨cls_rise ls j hkn, fun W hW => ?_⟩
            have q := (hi3.below hW hlt3) (j * 4) (by omega)
            rwa [Nat.zero_add, (bk_at (sumOf ls) (tbT rs nth day ls) (cls ls) j (by omega)).1] at q
          have HC3 : Hid _ := HC.out b3 hlt3 hi3
          have HC6 : Hid _ := HC.out b6 hlt6 hi6
          have HRw : Hid (∀ W, Below w6.heap.size w6 W → ReadsT W.heap.size W (some ⟨g, 0, none⟩) rs) := fun W hW => (HR.out.below (chain B6.out hW)).mono (chain B6.out hW).size
          have HAc : Hid (∀ W, ReadsT W.heap.size W (some ⟨g, 0, none⟩) rs → Calls Try.prog 7 #[.slice (some ⟨g, 0, none⟩) rs.length cp, .int .i64 ((cls ls).getD k 0), .string nth, .int .i64 day] W fun e w' => e = .returned (.tuple #[.agg #[.int .i64 (tbN rs nth day ((cls ls).getD k 0)), .int .i64 (tbD rs nth day ((cls ls).getD k 0))], .int .i64 0]) ∧ Below W.heap.size W w') := fun W hW => HAt.out W _ hcm hW
          subst hg3 hg6
          obtain ⟨p1, p2⟩ := mul_bound (sumOf ls ((cls ls).getD k 0)) (tbN rs nth day ((cls ls).getD k 0)) 60000 10000 (by omega) (by omega) n1 n2 (by omega)
          clear v0 v1 v2 v3 hLl hi3 hi6 HC hcm
          generalize sumOf ls ((cls ls).getD k 0) = G at *
          generalize tbT rs nth day ls ((cls ls).getD k 0) = T at *
          generalize tbN rs nth day ((cls ls).getD k 0) = n at *
          generalize tbD rs nth day ((cls ls).getD k 0) = d at *
          generalize (((cls ls).take k).map (sumOf ls)).sum = S at *
          generalize (cls ls).getD k 0 = c at *
          obtain ⟨f1, f2⟩ := hnear
          have hT : -70000 ≤ T ∧ T ≤ 70000 := by
            have m2 := Int.mul_le_mul_of_nonneg_right (show G ≤ 60000 by omega) n1
            have m3 := Int.mul_le_mul_of_nonneg_right (show -60000 ≤ G by omega) n1
            constructor
            · rcases (by omega : T < -70000 ∨ -70000 ≤ T) with h | h
              · exfalso
                have m1 := Int.mul_le_mul_of_nonneg_right (show T ≤ -70001 by omega) (show 0 ≤ d + n by omega)
                omega
              · exact h
            · rcases (by omega : 70000 < T ∨ T ≤ 70000) with h | h
              · exfalso
                have m1 := Int.mul_le_mul_of_nonneg_right (show 70001 ≤ T by omega) (show 0 ≤ d + n by omega)
                omega
              · exact h
          have hw0 : IntKind.i64.wrap (d + n) = d + n := wrap_id _ (by omega) (by omega)
          have hw1 : IntKind.i64.wrap (T * (d + n)) = T * (d + n) := wrap_id _ (by omega) (by omega)
          have hw2 : IntKind.i64.wrap (G * n) = G * n := wrap_id _ (by omega) (by omega)
          have hw3 : IntKind.i64.wrap (T * (d + n) - G * n) = T * (d + n) - G * n := wrap_id _ (by omega) (by omega)
          have hw4 : IntKind.i64.wrap (2 * (T * (d + n) - G * n)) = 2 * (T * (d + n) - G * n) := wrap_id _ (by omega) (by omega)
          have hw5 : IntKind.i64.wrap (-(2 * (T * (d + n) - G * n))) = -(2 * (T * (d + n) - G * n)) := wrap_id _ (by omega) (by omega)
          have f3 : decide (d + n < 2 * (T * (d + n) - G * n)) = false := decide_eq_false (by omega)
          have f4 : decide (d + n < -(2 * (T * (d + n) - G * n))) = false := decide_eq_false (by omega)
          have hw6 : IntKind.i64.wrap (G - T + T) = G := by rw [show G - T + T = G by omega]; exact wrap_id _ (by omega) (by omega)
          have hw7 : IntKind.i64.wrap G = G := wrap_id _ (by omega) (by omega)
          obtain ⟨a0, a1, a2, a3⟩ := HC3.out wr HBk.out
          go_wp2_with fail
          (first | go_at_call 7 | skip)
          refine (HAc.out _ (HRw.out _ (chain HBk.out (below_alloc _ _)))).mono ?_
          rintro e w8 ⟨rfl, hb8⟩
          have hW8 : Below w6.heap.size w6 w8 := chain (chain HBk.out (below_alloc _ _)) hb8
          have hl8 : wr.heap.size < w8.heap.size := Nat.lt_of_lt_of_le (by simp) hb8.size
          have y0 : w8.cell? ⟨wr.heap.size, 0, none⟩ = some (.int .i64 c) := (hb8.cell (p := ⟨wr.heap.size, 0, none⟩) (by simp)).trans (by simp)
          have y1 : w8.cell? ⟨wr.heap.size, 1, none⟩ = some (.int .i64 G) := (hb8.cell (p := ⟨wr.heap.size, 1, none⟩) (by simp)).trans (by simp)
          have y2 : w8.cell? ⟨wr.heap.size, 2, none⟩ = some (.int .i64 (G - T)) := (hb8.cell (p := ⟨wr.heap.size, 2, none⟩) (by simp)).trans (by simp)
          have y3 : w8.cell? ⟨wr.heap.size, 3, none⟩ = some (.int .i64 T) := (hb8.cell (p := ⟨wr.heap.size, 3, none⟩) (by simp)).trans (by simp)
          clear hb8 a0 a1 a2 a3
          generalize wr.heap.size = bx at *
          go_wp2_with fail
          obtain ⟨W2, hW2⟩ : ∃ W2, W2 = w8.alloc (Obj.cells #[.int .i64 n, .int .i64 d] 36) := ⟨_, rfl⟩
          have hB2 : Below w8.heap.size w8 W2 := by rw [hW2]; exact below_alloc _ _
          have z0 : W2.cell? ⟨w8.heap.size, 0, none⟩ = some (.int .i64 n) := by rw [hW2]; simp
          have z1 : W2.cell? ⟨w8.heap.size, 1, none⟩ = some (.int .i64 d) := by rw [hW2]; simp
          rw [← hW2]
          have x0 := (hB2.cell (p := ⟨bx, 0, none⟩) hl8).trans y0
          have x1 := (hB2.cell (p := ⟨bx, 1, none⟩) hl8).trans y1
          have x2 := (hB2.cell (p := ⟨bx, 2, none⟩) hl8).trans y2
          have x3 := (hB2.cell (p := ⟨bx, 3, none⟩) hl8).trans y3
          have hW2b : Below w6.heap.size w6 W2 := chain hW8 hB2
          have HZ : Hid (Below w6.heap.size w6 W2) := hW2b
          obtain ⟨q0, q1, q2, q3⟩ := HC6.out W2 hW2b
          have HPp : Hid (∀ j, k = j + 1 → (cls ls).getD j 0 < c ∧ W2.cell? ⟨b3, j * 4, none⟩ = some (.int .i64 ((cls ls).getD j 0))) := fun j hj => ⟨(HP.out j hj).1, (HP.out j hj).2 W2 HZ.out⟩
          clear hB2 hW2 y0 y1 y2 y3 hW8 hW2b HC3 HC6 HP HRw HAc
          generalize w8.heap.size = by' at *
          rcases k with _ | j
          · go_quiet (fail)
            go_wp2
            go_roundw
            case rel => exact ⟨1, by omega, rfl, by rw [HNx.out]; congr 1; omega, by exact HZ.out.trans (below_drewN (Below.refl _ _) _)⟩
            case measure => simp [intOf]; omega
          · obtain ⟨u1, u2⟩ := HPp.out j rfl
            generalize (cls ls).getD j 0 = pc at *
            have u3 : decide (c ≤ pc) = false := decide_eq_false (by omega)
            go_quiet (fail)
            go_wp2
            go_roundw
            case rel => exact ⟨j + 1 + 1, by omega, by go_num, by rw [HNx.out]; congr 1; omega, by exact HZ.out.trans (below_drewN (Below.refl _ _) _)⟩
            case measure => simp [intOf]; omega
        · obtain rfl : k = (cls ls).length := by omega
          have hz : total ls - (((cls ls).take (cls ls).length).map (sumOf ls)).sum = 0 := by rw [List.take_length, sum_cls HDl.out]; omega
          rw [hz]
          go_wp2
          go_ret
          exact ⟨rfl, chain HB.out HBk.out⟩

theorem own : ownKnob Try.prog.godebug = none := by kernel_rfl
theorem laidOut : laidOutB Try.prog = true := by kernel_rfl

set_option maxRecDepth 100000 in
theorem lifted (os : Os) (started : os.Started) (H : Type) (enc : TypeId × Value → H) :
    ReturnsInHanded {} Try.checked os 3 .any (Rows.fnTaxesSpec.pre6 enc Try.prog Try.f3 Rows.fnTaxesRow.domain false) (Rows.fnTaxesSpec.post enc Try.prog Try.f3 false true false false) := by
  refine returnsInHanded_of_change (C := Try.checked) own started (by kernel_rfl) Try.func3
    (ChangeSpec.witness6 (enc := enc) (C := Try.checked) false ⟨#[], #[.slice none 0 0], []⟩ 8 (by kernel_rfl) (by kernel_rfl) (by kernel_rfl) (by kernel_rfl)) ?_
  intro W base args ds gs before hval0 hW hcnd _
  have hval : ∀ (j : Nat) t v, Try.f3.params[j]? = some t → args[j]? = some v → Value.okWide Try.prog W .any base t v := hval0
  have hW' := hW
  obtain ⟨p, q, hA0, hV, rfl, hfz, hnd⟩ := hW
  have hA : DataW.TrodAll enc Try.prog W 0 (fun _ => true) true Try.f3.params.toList args.toList ds p := hA0
  rw [Try.params3] at hA hval
  obtain ⟨v0, vs0, d0, ds0, p0, q0, hargs, rfl, rfl, h0, r0⟩ := trodAll_cons hA
  obtain ⟨rfl, rfl, rfl⟩ := trodAll_nil r0
  obtain rfl : args = #[v0] := by cases args; simp_all
  obtain ⟨rfl, rfl⟩ := trodVars_none hV
  have k0 := h0
  have lt0 : ∀ x ∈ p0, x.block < W.heap.size := by obtain ⟨m, hm⟩ := k0; exact DataW.trod_lt m _ _ _ hm
  obtain ⟨a0, len0, cap0, rfl⟩ := okWide_slice Try.underlying22 (hval 0 22 v0 rfl rfl)
  obtain ⟨z0, w0⟩ : ∃ zs, IsRow .u8 W a0 len0 cap0 zs := by
    obtain ⟨fuel, hf⟩ := h0
    rcases open_ints Try.underlying22 Try.underlying5 (by kernel_rfl) hf with ⟨hcs, _⟩ | ⟨x, l, c, zs, hcs, _, hl, hm, hz, _, hcell, hwz⟩
    · simp [Value.cells] at hcs
      obtain ⟨rfl, rfl, rfl⟩ := hcs
      exact ⟨[], .inl ⟨rfl, rfl, rfl, rfl⟩⟩
    · simp [Value.cells] at hcs
      obtain ⟨rfl, rfl, rfl⟩ := hcs
      exact ⟨zs, .inr ⟨_, rfl, hl, hm, by simpa using hz, hcell, hwz⟩⟩
  clear hA0 hval0
  refine (walk a0 len0 cap0 z0 W (rowB_of _ _ _ _ _ w0)).mono fun e W' ⟨he, bel⟩ => ?_
  subst he
  exact ⟨_, rfl, _, _, _, [], _, [], hW', trodAll_mk1 (shut_bool Try.underlying4 _), (trodAll_cons_mk (Below.trod laidOut (by kernel_rfl) (of_decide_eq_true (by kernel_rfl)) k0 bel lt0) trodAll_mk0), rfl, bel.frame _, fun h => by cases h⟩

theorem over : Rows.fnTaxesRow.holds Try.pinned (OpenSpec.ofChange Rows.fnTaxesSpec) :=
  OpenClaim.holds_of_wide 3 Try.f3 rfl rfl rfl rfl rfl rfl rfl ⟨rfl, rfl, rfl, rfl, rfl⟩ rfl rfl rfl rfl rfl (by kernel_rfl) Try.func3 (by kernel_rfl)
    (of_decide_eq_true (by kernel_rfl)) (by unfold Func.isWrapper; first | (rw [if_pos (by decide +kernel)]; kernel_rfl) | (rw [if_neg (by decide +kernel)]; exact ⟨rfl, rfl⟩))
    (fun os started H enc _ => lifted os started H enc)
end FnTaxes

theorem fnTaxes_holds : Rows.FnTaxesSaid := FnTaxes.over
end Go.Proofs.Ytoaimjocphfcaaa
