/-
  The program's bookOf: the sums of the classes, each split by its rate.
-/
import Derived.Test.YtoaimjocphfcaaaBookC
import Derived.Test.YtoaimjocphfcaaaSplit
namespace Go.Proofs.Ytoaimjocphfcaaa
open Go.ChangeShapes Go.WideShapes Go.ChangeAt Go.RowKit
set_option linter.unusedVariables false

/-- Number j of a book's row of numbers: class, gross, net, tax, class by class. -/
def bkI (G T : Int → Int) (cs : List Int) (j : Nat) : Int :=
  if j % 4 = 0 then cs.getD (j / 4) 0 else if j % 4 = 1 then G (cs.getD (j / 4) 0) else if j % 4 = 2 then G (cs.getD (j / 4) 0) - T (cs.getD (j / 4) 0) else T (cs.getD (j / 4) 0)
def bkL (G T : Int → Int) (cs : List Int) : List Int := (List.range (cs.length * 4)).map (bkI G T cs)
def bkFill (G T : Int → Int) (cs : List Int) (k j : Nat) : Value := .int .i64 (if j / 4 < k then bkI G T cs j else 0)
theorem bkL_length (G T : Int → Int) (cs : List Int) : (bkL G T cs).length = cs.length * 4 := by simp [bkL]
theorem bkL_getD (G T : Int → Int) (cs : List Int) (j : Nat) (h : j < cs.length * 4) : (bkL G T cs).getD j 0 = bkI G T cs j := by simp [bkL, List.getD_eq_getElem?_getD, h]
theorem sumInfo : (Try.prog.info? 34).map (fun i => (i.zero, i.size, i.bytes)) = some (some (.agg #[.int .i64 0, .int .i64 0, .int .i64 0, .int .i64 0]), 4, 32) := by kernel_rfl
theorem make_sums (n : Nat) (hn : n ≤ 100000000) (w : World) :
    (Instr.makeSlice 28 (.int .i64 (n : Int)) (.int .i64 (n : Int))).run Try.prog w = .ok (.slice (some ⟨w.heap.size, 0, none⟩) n n) (w.alloc (.cells (madeCells #[.int .i64 0, .int .i64 0, .int .i64 0, .int .i64 0] (n * 4)) 34)) := by
  obtain ⟨i, hi, hzz⟩ := Option.map_eq_some_iff.1 sumInfo
  simp only [Prod.mk.injEq] at hzz
  obtain ⟨hz, hs, hb⟩ := hzz
  have hr := run_make (P := Try.prog) w 28 34 i _ Try.underlying28 hi hz .i64 .i64 (n : Int) (n : Int) (by omega) (Int.le_refl _) (by rw [hb]; omega) (by omega)
  simp only [Int.toNat_natCast, hs] at hr
  exact hr
theorem sums_made (w : World) (G T : Int → Int) (cs : List Int) (n : Nat) : (w.alloc (.cells (madeCells #[.int .i64 0, .int .i64 0, .int .i64 0, .int .i64 0] (n * 4)) 34)).rowIs w.heap.size 34 (n * 4) (bkFill G T cs 0) := by
  refine ⟨_, heapNew _ _, size_madeCells _ _, fun i hi => ?_⟩
  have h4 : i % 4 = 0 ∨ i % 4 = 1 ∨ i % 4 = 2 ∨ i % 4 = 3 := by omega
  unfold bkFill
  rcases h4 with h | h | h | h <;> simp [madeCells, hi, h]
theorem bkFill_set {w : World} {b : Nat} {G T : Int → Int} {cs : List Int} {n k : Nat} (h : w.rowIs b 34 (n * 4) (bkFill G T cs k)) :
    ((((w.setCell ⟨b, k * 4, none⟩ (.int .i64 (cs.getD k 0))).setCell ⟨b, k * 4 + 1, none⟩ (.int .i64 (G (cs.getD k 0)))).setCell ⟨b, k * 4 + 2, none⟩ (.int .i64 (G (cs.getD k 0) - T (cs.getD k 0)))).setCell ⟨b, k * 4 + 3, none⟩ (.int .i64 (T (cs.getD k 0)))).rowIs b 34 (n * 4) (bkFill G T cs (k + 1)) := by
  refine ((((h.set (k * 4) _).set (k * 4 + 1) _).set (k * 4 + 2) _).set (k * 4 + 3) _).congr fun j hj => ?_
  unfold bkFill bkI
  by_cases e3 : j = k * 4 + 3
  · rw [if_pos e3, if_pos (by omega), show j / 4 = k by omega, if_neg (by omega), if_neg (by omega), if_neg (by omega)]
  rw [if_neg e3]
  by_cases e2 : j = k * 4 + 2
  · rw [if_pos e2, if_pos (by omega), show j / 4 = k by omega, if_neg (by omega), if_neg (by omega), if_pos (by omega)]
  rw [if_neg e2]
  by_cases e1 : j = k * 4 + 1
  · rw [if_pos e1, if_pos (by omega), show j / 4 = k by omega, if_neg (by omega), if_pos (by omega)]
  rw [if_neg e1]
  by_cases e0 : j = k * 4
  · rw [if_pos e0, if_pos (by omega), show j / 4 = k by omega, if_pos (by omega)]
  rw [if_neg e0]
  by_cases h : j / 4 < k
  · rw [if_pos h, if_pos (show j / 4 < k + 1 by omega)]
  · rw [if_neg h, if_neg (show ¬ j / 4 < k + 1 by omega)]
theorem own_of_fill {w : World} {B b : Nat} {G T : Int → Int} {cs : List Int} (h : w.rowIs b 34 (cs.length * 4) (bkFill G T cs cs.length)) (hB : B ≤ b) : Own2 B w (some ⟨b, 0, none⟩) (bkL G T cs) := by
  refine .inr ⟨b, rfl, hB, h.lt, fun i hi => ?_, fun i hi => h.frozen _⟩
  rw [bkL_length] at hi
  rw [bkL_getD _ _ _ _ hi, Nat.zero_add, h.cell hi]
  unfold bkFill
  rw [if_pos (by omega)]

/-- What bookOf answers: the book, or that a sum is over. -/
def BkPost (ok : Bool) (L : List Int) (w : World) (e : Ending) (w' : World) : Prop :=
  ∃ g cap, e = .returned (.tuple #[.slice g ((if ok = true then L else []).length / 4) cap, .int .i64 (if ok = true then 0 else 11)]) ∧ Own2 w.heap.size w' g (if ok = true then L else []) ∧ Below w.heap.size w w'
theorem threeA {wr w2 : World} (h : Below wr.heap.size wr w2) (x y z : Value) : ∃ W5, w2.alloc (Obj.cells #[x, y, z] 78) = W5 ∧ Below wr.heap.size wr W5 ∧ W5.cell? ⟨w2.heap.size, 0, none⟩ = some x ∧ W5.cell? ⟨w2.heap.size, 1, none⟩ = some y ∧ W5.cell? ⟨w2.heap.size, 2, none⟩ = some z := by
  have e : (w2.alloc (Obj.cells #[x, y, z] 78)).heap[w2.heap.size]? = some (.cells #[x, y, z] 78 (0, 0)) := heapNew w2 _
  refine ⟨_, rfl, h.alloc h.size _, ?_, ?_, ?_⟩
  · rw [cell_of_row _ _ _ _ _ _ e]; rfl
  · rw [cell_of_row _ _ _ _ _ _ e]; rfl
  · rw [cell_of_row _ _ _ _ _ _ e]; rfl
theorem threeB {wr w2 : World} (hb : Below (wr.drew.alloc (Obj.cells #[.int .i64 0, .int .i64 0, .int .i64 0] 78)).heap.size (wr.drew.alloc (Obj.cells #[.int .i64 0, .int .i64 0, .int .i64 0] 78)) w2) : ((w2.cell? ⟨wr.heap.size, 0, none⟩ = some (.int .i64 0) ∧ w2.cell? ⟨wr.heap.size, 1, none⟩ = some (.int .i64 0) ∧ w2.cell? ⟨wr.heap.size, 2, none⟩ = some (.int .i64 0)) ∧ w2.frozen? ⟨wr.heap.size, 0, none⟩ = false ∧ w2.frozen? ⟨wr.heap.size, 1, none⟩ = false ∧ w2.frozen? ⟨wr.heap.size, 2, none⟩ = false) ∧
    ∀ x y z : Value, ∃ W5, ((w2.setCell ⟨wr.heap.size, 0, none⟩ x).setCell ⟨wr.heap.size, 1, none⟩ y).setCell ⟨wr.heap.size, 2, none⟩ z = W5 ∧ Below wr.heap.size wr W5 ∧ W5.cell? ⟨wr.heap.size, 0, none⟩ = some x ∧ W5.cell? ⟨wr.heap.size, 1, none⟩ = some y ∧ W5.cell? ⟨wr.heap.size, 2, none⟩ = some z := by
  have e : (wr.drew.alloc (Obj.cells #[.int .i64 0, .int .i64 0, .int .i64 0] 78)).heap[wr.heap.size]? = some (.cells #[.int .i64 0, .int .i64 0, .int .i64 0] 78 (0, 0)) := heapNew wr.drew _
  have l : wr.heap.size < (wr.drew.alloc (Obj.cells #[.int .i64 0, .int .i64 0, .int .i64 0] 78)).heap.size := (Array.getElem?_eq_some_iff.1 e).1
  have e2 : w2.heap[wr.heap.size]? = some (.cells #[.int .i64 0, .int .i64 0, .int .i64 0] 78 (0, 0)) := (hb.block _ l).trans e
  have r : w2.rowIs wr.heap.size 78 3 (fun _ => .int .i64 0) := ⟨_, e2, rfl, fun i hi => by
    have h3 : i = 0 ∨ i = 1 ∨ i = 2 := by omega
    rcases h3 with rfl | rfl | rfl <;> rfl⟩
  refine ⟨⟨⟨r.cell (by omega), r.cell (by omega), r.cell (by omega)⟩, r.frozen _, r.frozen _, r.frozen _⟩, fun x y z => ⟨_, rfl, ?_, ?_, ?_, ?_⟩⟩
  · exact ((((below_drew wr).alloc (Nat.le_refl _) _).trans (hb.mono (Nat.le_of_lt l))).setCell (Nat.le_refl _) _).setCell (Nat.le_refl _) _ |>.setCell (Nat.le_refl _) _
  · exact (((r.set 0 x).set 1 y).set 2 z).cell (by omega)
  · exact (((r.set 0 x).set 1 y).set 2 z).cell (by omega)
  · exact (((r.set 0 x).set 1 y).set 2 z).cell (by omega)
theorem allC_next (p : Int → Bool) (cs : List Int) (k : Nat) (h : k < cs.length) : (cs.take (k + 1)).all p = ((cs.take k).all p && p (cs.getD k 0)) := by
  rw [List.take_succ_eq_append_getElem h, List.all_append]
  have e : cs.getD k 0 = cs[k] := by simp [List.getD_eq_getElem?_getD, h]
  rw [e]; simp
theorem allC_not {p : Int → Bool} {cs : List Int} {k : Nat} (h : k < cs.length) (hp : p (cs.getD k 0) = false) : cs.all p = false := by
  have e : cs.getD k 0 = cs[k] := by simp [List.getD_eq_getElem?_getD, h]
  rw [e] at hp
  exact List.all_eq_false.mpr ⟨cs[k], List.getElem_mem _, by simp [hp]⟩
/-- The rates of the classes, two numbers each, lie in block b. -/
def RatesAt (w : World) (b : Nat) (RN RD : Int → Int) (cs : List Int) : Prop := ∀ i, i < cs.length → w.cell? ⟨b, i * 2, none⟩ = some (.int .i64 (RN (cs.getD i 0))) ∧ w.cell? ⟨b, i * 2 + 1, none⟩ = some (.int .i64 (RD (cs.getD i 0)))
theorem RatesAt.below {B : Nat} {w w' : World} {b : Nat} {RN RD : Int → Int} {cs : List Int} (h : RatesAt w b RN RD cs) (hb : Below B w w') (hB : b < B) : RatesAt w' b RN RD cs := fun i hi =>
  ⟨(hb.cell (p := ⟨b, i * 2, none⟩) hB).trans (h i hi).1, (hb.cell (p := ⟨b, i * 2 + 1, none⟩) hB).trans (h i hi).2⟩

set_option maxHeartbeats 8000000 in
set_option maxRecDepth 4000 in
theorem bookOf_any (a : Option Addr) (ca : Nat) (cs : List Int) (hlen : cs.length ≤ 9) (hwf : ∀ c ∈ cs, WfI c) (m nn : Nat) (ls : List TL) (rb : Nat) (RN RD : Int → Int) (G T : Int → Int) (hG : ∀ c, G c = sumOf ls c) (hT : ∀ c, T c = spT (sumOf ls c) (RN c) (RD c)) (w : World) (hr : Reads w.heap.size w a cs) (hS : SumTab w m nn ls) (hrb : rb < w.heap.size) (hR : RatesAt w rb RN RD cs) :
    Calls Try.prog 23 #[.slice a cs.length ca, .map (some m), .slice (some ⟨rb, 0, none⟩) cs.length cs.length] w (BkPost (cs.all fun c => spOK (sumOf ls c) (RN c) (RD c)) (bkL G T cs) w) := by
  have HR : Hid (Reads w.heap.size w a cs) := hr
  have HS : Hid (SumTab w m nn ls) := hS
  have HQ : Hid (RatesAt w rb RN RD cs) := hR
  have HG : Hid ((∀ c, G c = sumOf ls c) ∧ ∀ c, T c = spT (sumOf ls c) (RN c) (RD c)) := ⟨hG, hT⟩
  have HWF : Hid (∀ c ∈ cs, WfI c) := hwf
  have hmk := fun w => make_sums cs.length (by omega) w
  have HM : Hid ((w.alloc (.cells (madeCells #[.int .i64 0, .int .i64 0, .int .i64 0, .int .i64 0] (cs.length * 4)) 34)).rowIs w.heap.size 34 (cs.length * 4) (bkFill G T cs 0)) := sums_made w G T cs cs.length
  clear hr hS hR hG hT hwf
  go_enter Try.func23, Try.ntmps23
  go_wp2
  go_loopw [9, 10, 11, 12, 18] (fun _ _ _ _ i wr => ∃ k : Nat, k ≤ cs.length ∧ i = .int .i64 (k : Int) ∧ (cs.take k).all (fun c => spOK (sumOf ls c) (RN c) (RD c)) = true ∧ wr.rowIs w.heap.size 34 (cs.length * 4) (bkFill G T cs k) ∧ Below w.heap.size w wr) (fun _ _ _ _ i _ => cs.length - (intOf i).toNat)
  case atStart => exact ⟨0, Nat.zero_le _, rfl, rfl, HM.out, below_alloc w _⟩
  case round =>
    obtain ⟨k, hk, rfl, hall, hrow, hb⟩ := hrel
    have HB : Hid (Below w.heap.size w wr) := hb
    have HW : Hid (wr.rowIs w.heap.size 34 (cs.length * 4) (bkFill G T cs k)) := hrow
    have HA : Hid ((cs.take k).all (fun c => spOK (sumOf ls c) (RN c) (RD c)) = true) := hall
    clear hb hrow hall HM
    by_cases hlt : k < cs.length
    · have hlt' : (k : Int) < (cs.length : Int) := by omega
      rcases HR.out with h | ⟨b0, o0, ha, hB0, ia⟩
      · rw [h] at hlt; simp at hlt
      have c0 := (ia.below HB.out hB0) k hlt
      have lt0 : b0 < wr.heap.size := Nat.lt_of_lt_of_le hB0 HB.out.size
      have lt1 : rb < wr.heap.size := Nat.lt_of_lt_of_le hrb HB.out.size
      have lt2 : m < wr.heap.size := Nat.lt_of_lt_of_le HS.out.lt HB.out.size
      have hwc : WfI (cs.getD k 0) := by
        have e : cs.getD k 0 = cs[k] := by simp [List.getD_eq_getElem?_getD, hlt]
        rw [e]; exact HWF.out _ (List.getElem_mem _)
      have HSm : Hid (∀ W, Below wr.heap.size wr W → (Instr.lookup 53 (.map (some m)) (.int .i64 (cs.getD k 0)) false).run Try.prog W = .ok (.int .i64 (sumOf ls (cs.getD k 0))) W ∧ W.cell? ⟨rb, k * 2, none⟩ = some (.int .i64 (RN (cs.getD k 0))) ∧ W.cell? ⟨rb, k * 2 + 1, none⟩ = some (.int .i64 (RD (cs.getD k 0)))) := fun W hW =>
        ⟨(HS.out.block ((chain HB.out hW).block _ HS.out.lt)).look hwc, ((HQ.out.below (chain HB.out hW) hrb) k hlt).1, ((HQ.out.below (chain HB.out hW) hrb) k hlt).2⟩
      have HN0 : Hid (∀ W, Below wr.heap.size wr W → ((((W.setCell ⟨w.heap.size, k * 4, none⟩ (.int .i64 (cs.getD k 0))).setCell ⟨w.heap.size, k * 4 + 1, none⟩ (.int .i64 (G (cs.getD k 0)))).setCell ⟨w.heap.size, k * 4 + 2, none⟩ (.int .i64 (G (cs.getD k 0) - T (cs.getD k 0)))).setCell ⟨w.heap.size, k * 4 + 3, none⟩ (.int .i64 (T (cs.getD k 0)))).rowIs w.heap.size 34 (cs.length * 4) (bkFill G T cs (k + 1)) ∧ Below w.heap.size w ((((W.setCell ⟨w.heap.size, k * 4, none⟩ (.int .i64 (cs.getD k 0))).setCell ⟨w.heap.size, k * 4 + 1, none⟩ (.int .i64 (G (cs.getD k 0)))).setCell ⟨w.heap.size, k * 4 + 2, none⟩ (.int .i64 (G (cs.getD k 0) - T (cs.getD k 0)))).setCell ⟨w.heap.size, k * 4 + 3, none⟩ (.int .i64 (T (cs.getD k 0)))) ∧ (∀ j, j < 4 → (W.cell? ⟨w.heap.size, k * 4 + j, none⟩).isSome = true) ∧ (∀ j, W.frozen? ⟨w.heap.size, j, none⟩ = false)) := fun W hb2 => by
        have hw2 := HW.out.of_block (hb2.block _ HW.out.lt)
        refine ⟨bkFill_set hw2, (((((HB.out.trans (hb2.mono HB.out.size)).setCell (Nat.le_refl _) _).setCell (Nat.le_refl _) _).setCell (Nat.le_refl _) _).setCell (Nat.le_refl _) _), fun j hj => ?_, fun j => hw2.frozen j⟩
        rw [hw2.cell (by omega)]; rfl
      rw [HG.out.1, HG.out.2] at HN0
      have HA0 : Hid ((cs.take (k + 1)).all (fun c => spOK (sumOf ls c) (RN c) (RD c)) = ((cs.take k).all (fun c => spOK (sumOf ls c) (RN c) (RD c)) && spOK (sumOf ls (cs.getD k 0)) (RN (cs.getD k 0)) (RD (cs.getD k 0)))) := allC_next _ cs k hlt
      have HX : Hid (spOK (sumOf ls (cs.getD k 0)) (RN (cs.getD k 0)) (RD (cs.getD k 0)) = false → cs.all (fun c => spOK (sumOf ls c) (RN c) (RD c)) = false) := fun h => allC_not (p := fun c => spOK (sumOf ls c) (RN c) (RD c)) hlt h
      have HC : Hid (∀ w, Calls Try.prog 36 #[.int .i64 (sumOf ls (cs.getD k 0)), .agg #[.int .i64 (RN (cs.getD k 0)), .int .i64 (RD (cs.getD k 0))]] w fun e w' => e = .returned (.tuple #[spV (sumOf ls (cs.getD k 0)) (RN (cs.getD k 0)) (RD (cs.getD k 0)), .int .i64 (spC (sumOf ls (cs.getD k 0)) (RN (cs.getD k 0)) (RD (cs.getD k 0)))]) ∧ Below w.heap.size w w') := fun w => implSplit_any _ _ _ w
      rw [ha]
      clear ia HWF HQ HS HG hmk hwc
      generalize cs.getD k 0 = c at *
      generalize sumOf ls c = v at *
      generalize RN c = n at *
      generalize RD c = d at *
      cases hok : spOK v n d
      · have HSp : Hid (∀ w, Calls Try.prog 36 #[.int .i64 v, .agg #[.int .i64 n, .int .i64 d]] w fun e w' => e = .returned (.tuple #[.agg #[.int .i64 0, .int .i64 0, .int .i64 0], .int .i64 1]) ∧ Below w.heap.size w w') := by
          have h := HC.out
          unfold spV spC at h
          rw [hok] at h
          exact h
        have HBad : Hid (cs.all (fun c => spOK (sumOf ls c) (RN c) (RD c)) = false) := HX.out hok
        clear HC HX HA0 HN0 hok
        go_wp2
        refine wp_region_held_drew (S := fun W => Below wr.heap.size wr W) (by kernel_rfl) (below_drew wr) (fun hH => ?_)
        refine wpAnyH_take (i := 0) (v := .map (some m)) rfl (by kernel_rfl) (by kernel_rfl) (by kernel_rfl) (fun _ _ _ h => h) (Or.inl ⟨by rfl, fun w hSw => by obtain ⟨s0, s1, s2⟩ := HSm.out w hSw; go_simp⟩) hH ?_
        refine wpAnyH_take (i := 1) (v := .int .i64 c) rfl (by kernel_rfl) (by kernel_rfl) (by kernel_rfl) (fun _ _ _ h => h) (Or.inl ⟨by rfl, fun w hSw => by obtain ⟨s0, s1, s2⟩ := HSm.out w hSw; go_simp⟩) hH ?_
        refine wpAnyH_take (i := 2) (v := .int .i64 v) rfl (by kernel_rfl) (by kernel_rfl) (by kernel_rfl) (fun _ _ _ h => h) (Or.inl ⟨by rfl, fun w hSw => by obtain ⟨s0, s1, s2⟩ := HSm.out w hSw; go_simp⟩) hH ?_
        refine wpAnyH_take (i := 3) (v := .slice (some ⟨rb, 0, none⟩) cs.length cs.length) rfl (by kernel_rfl) (by kernel_rfl) (by kernel_rfl) (fun _ _ _ h => h) (Or.inl ⟨by rfl, fun w hSw => by obtain ⟨s0, s1, s2⟩ := HSm.out w hSw; go_simp⟩) hH ?_
        refine wpAnyH_take (i := 4) (v := .int .i64 (k : Int)) rfl (by kernel_rfl) (by kernel_rfl) (by kernel_rfl) (fun _ _ _ h => h) (Or.inl ⟨by rfl, fun w hSw => by obtain ⟨s0, s1, s2⟩ := HSm.out w hSw; go_simp⟩) hH ?_
        refine wpAnyH_take (i := 5) (v := .pointer (some ⟨rb, k * 2, none⟩)) rfl (by kernel_rfl) (by kernel_rfl) (by kernel_rfl) (fun _ _ _ h => h) (Or.inl ⟨by rfl, fun w hSw => by obtain ⟨s0, s1, s2⟩ := HSm.out w hSw; go_simp⟩) hH ?_
        refine wpAnyH_take (i := 6) (v := .agg #[.int .i64 n, .int .i64 d]) rfl (by kernel_rfl) (by kernel_rfl) (by kernel_rfl) (fun _ _ _ h => h) (Or.inl ⟨by rfl, fun w hSw => by obtain ⟨s0, s1, s2⟩ := HSm.out w hSw; go_simp⟩) hH ?_
        refine wpAnyH_ready (rs := [7, 11]) (by kernel_rfl) (by simp) ?_
        refine AllReadyH.cons rfl (fun K hK => ?_) (AllReadyH.cons rfl (fun K hK => ?_) AllReadyH.nil)
        · go_simp
          go_at_call 36
          refine (HSp.out _).mono ?_
          rintro e w2 ⟨rfl, hb2⟩
          have h2 : Below wr.heap.size wr w2 := chain hH hb2
          refine hK.out _ _ h2 (fun _ => ?_)
          clear hK K hb2
          refine wpAnyH_take (i := 8) (v := .tuple #[.agg #[.int .i64 0, .int .i64 0, .int .i64 0], .int .i64 1]) rfl (by kernel_rfl) (by kernel_rfl) (by kernel_rfl) (fun _ _ _ h => h) (Or.inl ⟨by rfl, fun w hSw => by go_simp⟩) h2 ?_
          refine wpAnyH_take (i := 9) (v := .agg #[.int .i64 0, .int .i64 0, .int .i64 0]) rfl (by kernel_rfl) (by kernel_rfl) (by kernel_rfl) (fun _ _ _ h => h) (Or.inl ⟨by rfl, fun w hSw => by go_simp⟩) h2 ?_
          refine wpAnyH_take (i := 10) (v := .int .i64 1) rfl (by kernel_rfl) (by kernel_rfl) (by kernel_rfl) (fun _ _ _ h => h) (Or.inl ⟨by rfl, fun w hSw => by go_simp⟩) h2 ?_
          refine wpAnyH_ready (rs := [11]) (by kernel_rfl) (by simp) ?_
          refine AllReadyH.cons rfl (fun K hK => ?_) AllReadyH.nil
          go_simp
          have h3 : Below wr.heap.size wr (w2.alloc (Obj.cells #[.int .i64 0, .int .i64 0, .int .i64 0] 78)) := chain h2 (below_alloc _ _)
          refine hK.out _ _ h3 (fun _ => ?_)
          clear hK K
          have HP : Hid (∀ x y z : Value, _) := fun x y z => threeA h2 x y z
          refine wpAnyH_ready (rs := [12]) (by kernel_rfl) (by simp) ?_
          refine AllReadyH.cons rfl (fun K hK => ?_) AllReadyH.nil
          go_simp
          obtain ⟨W5, hW5, h5, q0, q1, q2⟩ := HP.out (.int .i64 0) (.int .i64 0) (.int .i64 0)
          try rw [hW5]
          refine hK.out _ _ h5 (fun _ => ?_)
          refine wpAnyH_take (i := 13) (v := .int .i64 1) rfl (by kernel_rfl) (by kernel_rfl) (by kernel_rfl) (fun _ _ _ h => h) (Or.inl ⟨by rfl, fun w hSw => by go_simp⟩) h5 ?_
          clear hK K
          refine wpAnyH_done (by kernel_rfl) ?_ _
          try simp [Act.put]
          go_wp2
          refine bodyPost_ret (v := .tuple #[.slice none 0 0, .int .i64 11]) (by simp [results, Try.results23, go_sem]) rfl ⟨none, 0, ?_, ?_, chain HB.out h5⟩
          · rw [HBad.out]; simp
          · rw [HBad.out]; exact .inl rfl
        · go_simp
          have h3 : Below wr.heap.size wr (wr.drew.alloc (Obj.cells #[.int .i64 0, .int .i64 0, .int .i64 0] 78)) := chain hH (below_alloc _ _)
          refine hK.out _ _ h3 (fun _ => ?_)
          clear hK K
          refine wpAnyH_ready (rs := [7]) (by kernel_rfl) (by simp) ?_
          refine AllReadyH.cons rfl (fun K hK => ?_) AllReadyH.nil
          go_simp
          go_at_call 36
          refine (HSp.out _).mono ?_
          rintro e w2 ⟨rfl, hb2⟩
          have h2 : Below wr.heap.size wr w2 := chain h3 hb2
          refine hK.out _ _ h2 (fun _ => ?_)
          clear hK K
          obtain ⟨⟨⟨k0, k1, k2⟩, f0, f1, f2⟩, hp⟩ := threeB hb2
          have HP : Hid (∀ x y z : Value, _) := hp
          clear hb2 hp
          refine wpAnyH_take (i := 8) (v := .tuple #[.agg #[.int .i64 0, .int .i64 0, .int .i64 0], .int .i64 1]) rfl (by kernel_rfl) (by kernel_rfl) (by kernel_rfl) (fun _ _ _ h => h) (Or.inl ⟨by rfl, fun w hSw => by go_simp⟩) h2 ?_
          refine wpAnyH_take (i := 9) (v := .agg #[.int .i64 0, .int .i64 0, .int .i64 0]) rfl (by kernel_rfl) (by kernel_rfl) (by kernel_rfl) (fun _ _ _ h => h) (Or.inl ⟨by rfl, fun w hSw => by go_simp⟩) h2 ?_
          refine wpAnyH_take (i := 10) (v := .int .i64 1) rfl (by kernel_rfl) (by kernel_rfl) (by kernel_rfl) (fun _ _ _ h => h) (Or.inl ⟨by rfl, fun w hSw => by go_simp⟩) h2 ?_
          refine wpAnyH_ready (rs := [12]) (by kernel_rfl) (by simp) ?_
          refine AllReadyH.cons rfl (fun K hK => ?_) AllReadyH.nil
          go_simp
          obtain ⟨W5, hW5, h5, q0, q1, q2⟩ := HP.out (.int .i64 0) (.int .i64 0) (.int .i64 0)
          try rw [hW5]
          refine hK.out _ _ h5 (fun _ => ?_)
          refine wpAnyH_take (i := 13) (v := .int .i64 1) rfl (by kernel_rfl) (by kernel_rfl) (by kernel_rfl) (fun _ _ _ h => h) (Or.inl ⟨by rfl, fun w hSw => by go_simp⟩) h5 ?_
          clear hK K
          refine wpAnyH_done (by kernel_rfl) ?_ _
          try simp [Act.put]
          go_wp2
          refine bodyPost_ret (v := .tuple #[.slice none 0 0, .int .i64 11]) (by simp [results, Try.results23, go_sem]) rfl ⟨none, 0, ?_, ?_, chain HB.out h5⟩
          · rw [HBad.out]; simp
          · rw [HBad.out]; exact .inl rfl

      · have HSp : Hid (∀ w, Calls Try.prog 36 #[.int .i64 v, .agg #[.int .i64 n, .int .i64 d]] w fun e w' => e = .returned (.tuple #[.agg #[.int .i64 v, .int .i64 (v - spT v n d), .int .i64 (spT v n d)], .int .i64 0]) ∧ Below w.heap.size w w') := by
          have h := HC.out
          unfold spV spC at h
          rw [hok] at h
          exact h
        have HA1 : Hid ((cs.take (k + 1)).all (fun c => spOK (sumOf ls c) (RN c) (RD c)) = true) := by
          show _ = true
          rw [HA0.out, HA.out, hok]; rfl
        clear HC HX HA0 hok
        generalize spT v n d = t at *
        have HN := HN0
        clear HN0
        go_wp2
        refine wp_region_held_drew (S := fun W => Below wr.heap.size wr W) (by kernel_rfl) (below_drew wr) (fun hH => ?_)
        refine wpAnyH_take (i := 0) (v := .map (some m)) rfl (by kernel_rfl) (by kernel_rfl) (by kernel_rfl) (fun _ _ _ h => h) (Or.inl ⟨by rfl, fun w hSw => by obtain ⟨s0, s1, s2⟩ := HSm.out w hSw; go_simp⟩) hH ?_
        refine wpAnyH_take (i := 1) (v := .int .i64 c) rfl (by kernel_rfl) (by kernel_rfl) (by kernel_rfl) (fun _ _ _ h => h) (Or.inl ⟨by rfl, fun w hSw => by obtain ⟨s0, s1, s2⟩ := HSm.out w hSw; go_simp⟩) hH ?_
        refine wpAnyH_take (i := 2) (v := .int .i64 v) rfl (by kernel_rfl) (by kernel_rfl) (by kernel_rfl) (fun _ _ _ h => h) (Or.inl ⟨by rfl, fun w hSw => by obtain ⟨s0, s1, s2⟩ := HSm.out w hSw; go_simp⟩) hH ?_
        refine wpAnyH_take (i := 3) (v := .slice (some ⟨rb, 0, none⟩) cs.length cs.length) rfl (by kernel_rfl) (by kernel_rfl) (by kernel_rfl) (fun _ _ _ h => h) (Or.inl ⟨by rfl, fun w hSw => by obtain ⟨s0, s1, s2⟩ := HSm.out w hSw; go_simp⟩) hH ?_
        refine wpAnyH_take (i := 4) (v := .int .i64 (k : Int)) rfl (by kernel_rfl) (by kernel_rfl) (by kernel_rfl) (fun _ _ _ h => h) (Or.inl ⟨by rfl, fun w hSw => by obtain ⟨s0, s1, s2⟩ := HSm.out w hSw; go_simp⟩) hH ?_
        refine wpAnyH_take (i := 5) (v := .pointer (some ⟨rb, k * 2, none⟩)) rfl (by kernel_rfl) (by kernel_rfl) (by kernel_rfl) (fun _ _ _ h => h) (Or.inl ⟨by rfl, fun w hSw => by obtain ⟨s0, s1, s2⟩ := HSm.out w hSw; go_simp⟩) hH ?_
        refine wpAnyH_take (i := 6) (v := .agg #[.int .i64 n, .int .i64 d]) rfl (by kernel_rfl) (by kernel_rfl) (by kernel_rfl) (fun _ _ _ h => h) (Or.inl ⟨by rfl, fun w hSw => by obtain ⟨s0, s1, s2⟩ := HSm.out w hSw; go_simp⟩) hH ?_
        refine wpAnyH_ready (rs := [7, 11]) (by kernel_rfl) (by simp) ?_
        refine AllReadyH.cons rfl (fun K hK => ?_) (AllReadyH.cons rfl (fun K hK => ?_) AllReadyH.nil)
        · go_simp
          go_at_call 36
          refine (HSp.out _).mono ?_
          rintro e w2 ⟨rfl, hb2⟩
          have h2 : Below wr.heap.size wr w2 := chain hH hb2
          refine hK.out _ _ h2 (fun _ => ?_)
          clear hK K hb2
          refine wpAnyH_take (i := 8) (v := .tuple #[.agg #[.int .i64 v, .int .i64 (v - t), .int .i64 t], .int .i64 0]) rfl (by kernel_rfl) (by kernel_rfl) (by kernel_rfl) (fun _ _ _ h => h) (Or.inl ⟨by rfl, fun w hSw => by go_simp⟩) h2 ?_
          refine wpAnyH_take (i := 9) (v := .agg #[.int .i64 v, .int .i64 (v - t), .int .i64 t]) rfl (by kernel_rfl) (by kernel_rfl) (by kernel_rfl) (fun _ _ _ h => h) (Or.inl ⟨by rfl, fun w hSw => by go_simp⟩) h2 ?_
          refine wpAnyH_take (i := 10) (v := .int .i64 0) rfl (by kernel_rfl) (by kernel_rfl) (by kernel_rfl) (fun _ _ _ h => h) (Or.inl ⟨by rfl, fun w hSw => by go_simp⟩) h2 ?_
          refine wpAnyH_ready (rs := [11]) (by kernel_rfl) (by simp) ?_
          refine AllReadyH.cons rfl (fun K hK => ?_) AllReadyH.nil
          go_simp
          have h3 : Below wr.heap.size wr (w2.alloc (Obj.cells #[.int .i64 0, .int .i64 0, .int .i64 0] 78)) := chain h2 (below_alloc _ _)
          refine hK.out _ _ h3 (fun _ => ?_)
          clear hK K
          have HP : Hid (∀ x y z : Value, _) := fun x y z => threeA h2 x y z
          refine wpAnyH_ready (rs := [12]) (by kernel_rfl) (by simp) ?_
          refine AllReadyH.cons rfl (fun K hK => ?_) AllReadyH.nil
          go_simp
          obtain ⟨W5, hW5, h5, q0, q1, q2⟩ := HP.out (.int .i64 v) (.int .i64 (v - t)) (.int .i64 t)
          try rw [hW5]
          refine hK.out _ _ h5 (fun _ => ?_)
          refine wpAnyH_take (i := 13) (v := .int .i64 0) rfl (by kernel_rfl) (by kernel_rfl) (by kernel_rfl) (fun _ _ _ h => h) (Or.inl ⟨by rfl, fun w hSw => by go_simp⟩) h5 ?_
          clear hK K
          refine wpAnyH_done (by kernel_rfl) ?_ _
          try simp [Act.put]
          clear hH
          obtain ⟨n1, n2, n3, n4⟩ := HN.out W5 h5
          have N1 : Hid (_) := n1
          have N2 : Hid (_) := n2
          obtain ⟨v0, hv0⟩ := Option.isSome_iff_exists.mp (n3 0 (by omega)); obtain ⟨v1, hv1⟩ := Option.isSome_iff_exists.mp (n3 1 (by omega)); obtain ⟨v2, hv2⟩ := Option.isSome_iff_exists.mp (n3 2 (by omega)); obtain ⟨v3, hv3⟩ := Option.isSome_iff_exists.mp (n3 3 (by omega)); rw [Nat.add_zero] at hv0
          clear n1 n2 n3
          go_wp2
          exact ⟨⟨k + 1, by omega, by go_num, HA1.out, N1.out, N2.out⟩, by simp [intOf]; omega⟩
        · go_simp
          have h3 : Below wr.heap.size wr (wr.drew.alloc (Obj.cells #[.int .i64 0, .int .i64 0, .int .i64 0] 78)) := chain hH (below_alloc _ _)
          refine hK.out _ _ h3 (fun _ => ?_)
          clear hK K
          refine wpAnyH_ready (rs := [7]) (by kernel_rfl) (by simp) ?_
          refine AllReadyH.cons rfl (fun K hK => ?_) AllReadyH.nil
          go_simp
          go_at_call 36
          refine (HSp.out _).mono ?_
          rintro e w2 ⟨rfl, hb2⟩
          have h2 : Below wr.heap.size wr w2 := chain h3 hb2
          refine hK.out _ _ h2 (fun _ => ?_)
          clear hK K
          obtain ⟨⟨⟨k0, k1, k2⟩, f0, f1, f2⟩, hp⟩ := threeB hb2
          have HP : Hid (∀ x y z : Value, _) := hp
          clear hb2 hp
          refine wpAnyH_take (i := 8) (v := .tuple #[.agg #[.int .i64 v, .int .i64 (v - t), .int .i64 t], .int .i64 0]) rfl (by kernel_rfl) (by kernel_rfl) (by kernel_rfl) (fun _ _ _ h => h) (Or.inl ⟨by rfl, fun w hSw => by go_simp⟩) h2 ?_
          refine wpAnyH_take (i := 9) (v := .agg #[.int .i64 v, .int .i64 (v - t), .int .i64 t]) rfl (by kernel_rfl) (by kernel_rfl) (by kernel_rfl) (fun _ _ _ h => h) (Or.inl ⟨by rfl, fun w hSw => by go_simp⟩) h2 ?_
          refine wpAnyH_take (i := 10) (v := .int .i64 0) rfl (by kernel_rfl) (by kernel_rfl) (by kernel_rfl) (fun _ _ _ h => h) (Or.inl ⟨by rfl, fun w hSw => by go_simp⟩) h2 ?_
          refine wpAnyH_ready (rs := [12]) (by kernel_rfl) (by simp) ?_
          refine AllReadyH.cons rfl (fun K hK => ?_) AllReadyH.nil
          go_simp
          obtain ⟨W5, hW5, h5, q0, q1, q2⟩ := HP.out (.int .i64 v) (.int .i64 (v - t)) (.int .i64 t)
          try rw [hW5]
          refine hK.out _ _ h5 (fun _ => ?_)
          refine wpAnyH_take (i := 13) (v := .int .i64 0) rfl (by kernel_rfl) (by kernel_rfl) (by kernel_rfl) (fun _ _ _ h => h) (Or.inl ⟨by rfl, fun w hSw => by go_simp⟩) h5 ?_
          clear hK K
          refine wpAnyH_done (by kernel_rfl) ?_ _
          try simp [Act.put]
          clear hH
          obtain ⟨n1, n2, n3, n4⟩ := HN.out W5 h5
          have N1 : Hid (_) := n1
          have N2 : Hid (_) := n2
          obtain ⟨v0, hv0⟩ := Option.isSome_iff_exists.mp (n3 0 (by omega)); obtain ⟨v1, hv1⟩ := Option.isSome_iff_exists.mp (n3 1 (by omega)); obtain ⟨v2, hv2⟩ := Option.isSome_iff_exists.mp (n3 2 (by omega)); obtain ⟨v3, hv3⟩ := Option.isSome_iff_exists.mp (n3 3 (by omega)); rw [Nat.add_zero] at hv0
          clear n1 n2 n3
          go_wp2
          exact ⟨⟨k + 1, by omega, by go_num, HA1.out, N1.out, N2.out⟩, by simp [intOf]; omega⟩

    · obtain rfl : k = cs.length := by omega
      have hle : (cs.length : Int) ≤ (cs.length : Int) := by omega
      have HAe : Hid (cs.all (fun c => spOK (sumOf ls c) (RN c) (RD c)) = true) := by have := HA.out; rwa [List.take_of_length_le (Nat.le_refl _)] at this
      go_wp2
      refine bodyPost_ret (v := .tuple #[.slice (some ⟨w.heap.size, 0, none⟩) cs.length cs.length, .int .i64 0]) (by simp [results, Try.results23, go_sem]) rfl ⟨some ⟨w.heap.size, 0, none⟩, cs.length, ?_, ?_, HB.out⟩
      · rw [HAe.out, if_pos rfl, if_pos rfl, bkL_length, Nat.mul_div_cancel _ (by omega)]
      · rw [HAe.out, if_pos rfl]; exact own_of_fill HW.out (Nat.le_refl _)
end Go.Proofs.Ytoaimjocphfcaaa
