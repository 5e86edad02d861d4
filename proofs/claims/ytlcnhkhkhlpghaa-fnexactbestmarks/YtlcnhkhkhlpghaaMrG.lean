/-
  The specification's search: its block and its table; contracts of l15Search.sold, worth, most.
-/
import Derived.Test.YtlcnhkhkhlpghaaMrM
import Derived.Test.YtlcnhkhkhlpghaaRegZ
namespace Go.Proofs.Ytlcnhkhkhlpghaa
open Go.ChangeShapes Go.WideShapes Go.ChangeAt Go.RowKit Go.Deep
set_option linter.unusedVariables false

/-- What the specification's search has: the price, the percents, the demand, where its table lies. -/
structure Sx where
  price : Int
  ps : List Int
  cs : LL
  pa : Option Addr
  pc : Nat
  da : Option Addr
  dc : Nat
  sb : Nat
  tb : Nat
def Sx.prs (C : Sx) : List Int := prL C.price C.ps
def Sx.N (C : Sx) : Nat := C.ps.length
/-- The place of a day, a step and a number of units in the table. -/
def plc (d s l : Nat) : Nat := (d * 5 + s) * 201 + l
theorem plc_lt {d s l : Nat} (hd : d < 7) (hs : s < 5) (hl : l ≤ 200) : plc d s l < 7035 := by unfold plc; omega
theorem plc_inj {d s l d' s' l' : Nat} (hs : s < 5) (hl : l ≤ 200) (hs' : s' < 5) (hl' : l' ≤ 200) (e : plc d s l = plc d' s' l') : d = d' ∧ s = s' ∧ l = l' := by unfold plc at e; omega
/-- The table: what is there is what the choice brings, or nothing yet. -/
def TbOK (C : Sx) (T : Nat → Int) : Prop := ∀ d s l : Nat, d < C.cs.length → s < C.N → l ≤ 200 → T (plc d s l) < 0 ∨ T (plc d s l) = (chz C.prs C.cs C.N (C.cs.length - d) s (l : Int)).2
structure SxS (C : Sx) (T : Nat → Int) (W : World) : Prop where
  box : W.heap[C.sb]? = some (.cells #[.int .i64 C.price, .slice C.pa C.N C.pc, .slice C.da C.cs.length C.dc, .slice (some ⟨C.tb, 0, none⟩) 7035 7035] 68 (0, 0))
  tab : W.rowIs C.tb 3 7035 (fun i => .int .i64 (T i))
  tok : TbOK C T
  rp : Reads C.tb W C.pa C.ps
  rd : ReadsDm C.tb W C.da C.cs
  low : C.tb ≠ C.sb
theorem SxS.fr {C : Sx} {T : Nat → Int} {W W' : World} (h : SxS C T W) (hb : Below W.heap.size W W') : SxS C T W' :=
  ⟨(hb.block _ (blkLt h.box)).trans h.box, h.tab.of_block (hb.block _ h.tab.lt), h.tok, h.rp.below (hb.mono (Nat.le_of_lt h.tab.lt)), h.rd.below (hb.mono (Nat.le_of_lt h.tab.lt)), h.low⟩
/-- A number more in the table. -/
theorem SxS.put {C : Sx} {T : Nat → Int} {W : World} (h : SxS C T W) (hN : C.N ≤ 5) {d s l : Nat} (hd : d < C.cs.length) (hs : s < C.N) (hl : l ≤ 200) :
    ∃ T', SxS C T' (W.setCell ⟨C.tb, plc d s l, none⟩ (.int .i64 (chz C.prs C.cs C.N (C.cs.length - d) s (l : Int)).2)) := by
  have hb : Below C.tb W (W.setCell ⟨C.tb, plc d s l, none⟩ (.int .i64 (chz C.prs C.cs C.N (C.cs.length - d) s (l : Int)).2)) := Below.setCell (Below.refl C.tb W) (show C.tb ≤ (⟨C.tb, plc d s l, none⟩ : Addr).block from Nat.le_refl _) _
  refine ⟨fun i => if i = plc d s l then (chz C.prs C.cs C.N (C.cs.length - d) s (l : Int)).2 else T i, (Below.heap_setCell _ _ _ _ (Ne.symm h.low)).trans h.box, (h.tab.set (plc d s l) _).congr (fun i _ => by split <;> rfl), fun d' s' l' hd' hs' hl' => ?_, h.rp.below hb, h.rd.below hb, h.low⟩
  try dsimp only
  by_cases e : plc d' s' l' = plc d s l
  · obtain ⟨rfl, rfl, rfl⟩ := plc_inj (by omega) hl' (by omega) hl e
    rw [if_pos rfl]
    exact .inr rfl
  · rw [if_neg e]
    exact h.tok d' s' l' hd' hs' hl'
theorem ssold_any (C : Sx) (T : Nat → Int) (d s : Nat) (hd : d < C.cs.length) (hc : C.cs.length ≤ 7) (hs : s < (C.cs.getD d []).length) (hs5 : (C.cs.getD d []).length ≤ 5) (l : Int) (W : World) (h : SxS C T W) :
    Calls Try.prog 48 #[.pointer (some ⟨C.sb, 0, none⟩), .int .i64 (d : Int), .int .i64 (s : Int), .int .i64 l] W fun e w' => e = .returned (.int .i64 (soA C.cs d s l)) ∧ w' = W := by
  have x2 := blkCell h.box 2 _ rfl
  simp only [List.getElem_toArray, List.getElem_cons_zero, List.getElem_cons_succ] at x2
  rcases h.rd with h' | ⟨b0, o0, hda, hB0, ia⟩
  · rw [h'] at hd; simp at hd
  obtain ⟨q, cp, c0, _, hS⟩ := ia d hd
  rcases hS with hS | ⟨b1, o1, rfl, hB1, ib⟩
  · rw [hS] at hs; simp at hs
  have c1 := ib s hs
  have hd' : (d : Int) < (C.cs.length : Int) := by omega
  have hs' : (s : Int) < ((C.cs.getD d []).length : Int) := by omega
  rw [hda] at x2
  clear ia ib h hda
  unfold soA
  generalize hx : (C.cs.getD d []).getD s 0 = x at *
  generalize (C.cs.getD d []).length = n at *
  generalize C.cs.length = m at *
  go_enter Try.func48, Try.ntmps48
  go_wp2
  all_goals
    go_ret
    exact ⟨ret_int (by omega), rfl⟩
def MoP (C : Sx) (k : Nat) : Prop := ∀ (d s l : Nat) (T : Nat → Int) (W : World), d + k = C.cs.length → s < C.N → l ≤ 200 → SxS C T W →
  Calls Try.prog 46 #[.pointer (some ⟨C.sb, 0, none⟩), .int .i64 (d : Int), .int .i64 (s : Int), .int .i64 (l : Int)] W fun e w' => e = .returned (.int .i64 (chz C.prs C.cs C.N k s (l : Int)).2) ∧ ∃ T', SxS C T' w' ∧ Fr (fun q => q = C.tb) W w'
def WoP (C : Sx) (k : Nat) : Prop := ∀ (d s l : Nat) (T : Nat → Int) (W : World), d + (k + 1) = C.cs.length → s < C.N → l ≤ 200 → SxS C T W →
  Calls Try.prog 47 #[.pointer (some ⟨C.sb, 0, none⟩), .int .i64 (d : Int), .int .i64 (s : Int), .int .i64 (l : Int)] W fun e w' => e = .returned (.int .i64 (wo C.prs C.cs C.N k s (l : Int))) ∧ ∃ T', SxS C T' w' ∧ Fr (fun q => q = C.tb) W w'
structure SxOK (C : Sx) : Prop where
  mr : MrOK C.prs C.cs C.N
  pr : 0 ≤ C.price ∧ C.price ≤ 1000000
  pv : ∀ k, k < C.ps.length → 0 ≤ C.ps.getD k 0 ∧ C.ps.getD k 0 ≤ 100
set_option maxHeartbeats 4000000 in
theorem worth_of (C : Sx) (hC : SxOK C) (k : Nat) (hM : MoP C k) : WoP C k := fun d s l T W hd hs hl h => by
  have hok := hC.mr
  have hdl : d < C.cs.length := by omega
  have hc7 := hok.cl.2
  have hN5 := hok.n1.2
  have hdk : C.cs.length - (k + 1) = d := by omega
  have hl0 : (0 : Int) ≤ (l : Int) := by omega
  have hl2 : (l : Int) ≤ 200 := by omega
  obtain ⟨⟨so1, so2⟩, so3, so4⟩ := hok.so hdl hs hl0 hl2
  obtain ⟨l2, hl2e⟩ : ∃ l2 : Nat, (l2 : Int) = (l : Int) - soA C.cs d s (l : Int) := ⟨((l : Int) - soA C.cs d s (l : Int)).toNat, by omega⟩
  have HSo : Hid (∀ W', SxS C T W' → Calls Try.prog 48 #[.pointer (some ⟨C.sb, 0, none⟩), .int .i64 (d : Int), .int .i64 (s : Int), .int .i64 (l : Int)] W' fun e w' => e = .returned (.int .i64 (soA C.cs d s (l : Int))) ∧ w' = W') := fun W' h' => ssold_any C T d s hdl hc7 (by rw [hok.cr d hdl]; exact hs) (by rw [hok.cr d hdl]; exact hN5) (l : Int) W' h'
  have HMo : Hid (∀ W', SxS C T W' → Calls Try.prog 46 #[.pointer (some ⟨C.sb, 0, none⟩), .int .i64 ((d + 1 : Nat) : Int), .int .i64 (s : Int), .int .i64 ((l : Int) - soA C.cs d s (l : Int))] W' fun e w' => e = .returned (.int .i64 (chz C.prs C.cs C.N k s ((l : Int) - soA C.cs d s (l : Int))).2) ∧ ∃ T', SxS C T' w' ∧ Fr (fun q => q = C.tb) W' w') := fun W' h' => by rw [← hl2e]; exact hM (d + 1) s l2 T W' (by omega) hs (by omega) h'
  have HPx : Hid (∀ W', Calls Try.prog 37 #[.int .i64 C.price, .int .i64 (C.ps.getD s 0)] W' fun e w' => e = .returned (.int .i64 (C.prs.getD s 0)) ∧ w' = W') := fun W' => by unfold Sx.prs; rw [prL_at hs]; exact l15Price_any C.price (C.ps.getD s 0) hC.pr.1 hC.pr.2 (hC.pv s hs).1 (hC.pv s hs).2 W'
  have HWo : Hid (wo C.prs C.cs C.N k s (l : Int) = soA C.cs d s (l : Int) * C.prs.getD s 0 + (chz C.prs C.cs C.N k s ((l : Int) - soA C.cs d s (l : Int))).2) := by show _ = _; unfold wo; rw [hdk]
  obtain ⟨⟨b1, b2⟩, _⟩ := chz_bounds hok k s ((l : Int) - soA C.cs d s (l : Int)) (by omega) hs (by omega) (by omega)
  have hb3 : (chz C.prs C.cs C.N k s ((l : Int) - soA C.cs d s (l : Int))).2 ≤ 1400000000 := by omega
  have HH : Hid (SxS C T W) := h
  rcases h.rp with hR0 | ⟨ab, ao, hab, hAB, ia⟩
  · unfold Sx.N at hs; rw [hR0] at hs; simp at hs
  have HQ : Hid (∀ X, Fr (fun q => q = C.tb) W X → (X.cell? ⟨C.sb, 0, none⟩ = some (.int .i64 C.price) ∧ X.cell? ⟨C.sb, 1, none⟩ = some (.slice (some ⟨ab, ao, none⟩) C.N C.pc)) ∧ X.cell? ⟨ab, ao + s, none⟩ = some (.int .i64 (C.ps.getD s 0))) := fun X hf => by
    have g := (hf.block _ (blkLt HH.out.box) (Ne.symm HH.out.low)).trans HH.out.box
    rw [hab] at g
    exact ⟨⟨blkCell g 0 _ rfl, blkCell g 1 _ rfl⟩, (ia.below (hf.below (Below.refl _ _) (Nat.le_of_lt HH.out.tab.lt) (fun q e => by rw [e]; exact Nat.le_refl _)) hAB) s hs⟩
  clear hM hC hok hdk b2 ia hab h hl2e
  generalize wo C.prs C.cs C.N k s (l : Int) = wv at *
  generalize (chz C.prs C.cs C.N k s ((l : Int) - soA C.cs d s (l : Int))).2 = c2 at *
  generalize soA C.cs d s (l : Int) = so at *
  generalize C.prs.getD s 0 = px at *
  generalize C.ps.getD s 0 = pcv at *
  obtain rfl : wv = so * px + c2 := HWo.out
  clear HWo
  have hw1 : IntKind.i64.wrap (so * px) = so * px := wrap_id _ (by omega) (by omega)
  have hw2 : IntKind.i64.wrap (so * px + c2) = so * px + c2 := wrap_id _ (by omega) (by omega)
  have hw3 : IntKind.i64.wrap ((d : Int) + 1) = ((d + 1 : Nat) : Int) := by rw [wrap_id _ (by omega) (by omega)]; omega
  have hw4 : IntKind.i64.wrap ((l : Int) - so) = (l : Int) - so := wrap_id _ (by omega) (by omega)
  clear so3 so4 b1 hb3
  have hsN : (s : Int) < (C.N : Int) := by omega
  go_enter Try.func47, Try.ntmps47
  go_upto_region 2 with (go_at_call 48; refine (HSo.out W HH.out).mono ?_; rintro e w1 ⟨rfl, rfl⟩)
  refine wp_region_z (S := fun X => Fr (fun q => q = C.tb) w1 X) 23 (by kernel_rfl) (Fr.of (below_drew _)) (fun hH => ?_)
  refine wpAnyZ_take (i := 0) (v := .int .i64 so) rfl (by kernel_rfl) (by kernel_rfl) (by kernel_rfl) (by kernel_rfl) (fun _ _ _ h => h) (Or.inl ⟨by rfl, fun w hSw => by clear hSw; go_simp⟩) hH ?_
  refine wpAnyZ_take (i := 1) (v := .pointer (some ⟨C.sb, 0, none⟩)) rfl (by kernel_rfl) (by kernel_rfl) (by kernel_rfl) (by kernel_rfl) (fun _ _ _ h => h) (Or.inl ⟨by rfl, fun w hSw => by clear hSw; go_simp⟩) hH ?_
  try simp only [Act.put, List.setIfInBounds_toArray, List.set_cons_zero, List.set_cons_succ, List.getElem_toArray, List.getElem_cons_succ, List.getElem_cons_zero]
  refine wpAnyZ_take (i := 2) (v := .pointer (some ⟨C.sb, 0, none⟩)) rfl (by kernel_rfl) (by kernel_rfl) (by kernel_rfl) (by kernel_rfl) (fun _ _ _ h => h) (Or.inl ⟨by rfl, fun w hSw => by clear hSw; go_simp⟩) hH ?_
  try simp only [Act.put, List.setIfInBounds_toArray, List.set_cons_zero, List.set_cons_succ, List.getElem_toArray, List.getElem_cons_succ, List.getElem_cons_zero]
  refine wpAnyZ_take (i := 3) (v := .pointer (some ⟨C.sb, 0, none⟩)) rfl (by kernel_rfl) (by kernel_rfl) (by kernel_rfl) (by kernel_rfl) (fun _ _ _ h => h) (Or.inl ⟨by rfl, fun w hSw => by clear hSw; go_simp⟩) hH ?_
  try simp only [Act.put, List.setIfInBounds_toArray, List.set_cons_zero, List.set_cons_succ, List.getElem_toArray, List.getElem_cons_succ, List.getElem_cons_zero]
  refine wpAnyZ_take (i := 4) (v := .int .i64 C.price) rfl (by kernel_rfl) (by kernel_rfl) (by kernel_rfl) (by kernel_rfl) (fun _ _ _ h => h) (Or.inl ⟨by rfl, fun w hSw => by have f := (HQ.out w hSw).1.1; clear hSw; go_simp⟩) hH ?_
  try simp only [Act.put, List.setIfInBounds_toArray, List.set_cons_zero, List.set_cons_succ, List.getElem_toArray, List.getElem_cons_succ, List.getElem_cons_zero]
  refine wpAnyZ_take (i := 5) (v := .pointer (some ⟨C.sb, 0, none⟩)) rfl (by kernel_rfl) (by kernel_rfl) (by kernel_rfl) (by kernel_rfl) (fun _ _ _ h => h) (Or.inl ⟨by rfl, fun w hSw => by clear hSw; go_simp⟩) hH ?_
  try simp only [Act.put, List.setIfInBounds_toArray, List.set_cons_zero, List.set_cons_succ, List.getElem_toArray, List.getElem_cons_succ, List.getElem_cons_zero]
  refine wpAnyZ_take (i := 6) (v := .pointer (some ⟨C.sb, 0, none⟩)) rfl (by kernel_rfl) (by kernel_rfl) (by kernel_rfl) (by kernel_rfl) (fun _ _ _ h => h) (Or.inl ⟨by rfl, fun w hSw => by clear hSw; go_simp⟩) hH ?_
  try simp only [Act.put, List.setIfInBounds_toArray, List.set_cons_zero, List.set_cons_succ, List.getElem_toArray, List.getElem_cons_succ, List.getElem_cons_zero]
  refine wpAnyZ_take (i := 7) (v := .pointer (some ⟨C.sb, 1, none⟩)) rfl (by kernel_rfl) (by kernel_rfl) (by kernel_rfl) (by kernel_rfl) (fun _ _ _ h => h) (Or.inl ⟨by rfl, fun w hSw => by clear hSw; go_simp⟩) hH ?_
  try simp only [Act.put, List.setIfInBounds_toArray, List.set_cons_zero, List.set_cons_succ, List.getElem_toArray, List.getElem_cons_succ, List.getElem_cons_zero]
  refine wpAnyZ_take (i := 8) (v := .slice (some ⟨ab, ao, none⟩) C.N C.pc) rfl (by kernel_rfl) (by kernel_rfl) (by kernel_rfl) (by kernel_rfl) (fun _ _ _ h => h) (Or.inl ⟨by rfl, fun w hSw => by have f := (HQ.out w hSw).1.2; clear hSw; go_simp⟩) hH ?_
  try simp only [Act.put, List.setIfInBounds_toArray, List.set_cons_zero, List.set_cons_succ, List.getElem_toArray, List.getElem_cons_succ, List.getElem_cons_zero]
  refine wpAnyZ_take (i := 9) (v := .int .i64 (s : Int)) rfl (by kernel_rfl) (by kernel_rfl) (by kernel_rfl) (by kernel_rfl) (fun _ _ _ h => h) (Or.inl ⟨by rfl, fun w hSw => by clear hSw; go_simp⟩) hH ?_
  try simp only [Act.put, List.setIfInBounds_toArray, List.set_cons_zero, List.set_cons_succ, List.getElem_toArray, List.getElem_cons_succ, List.getElem_cons_zero]
  refine wpAnyZ_take (i := 10) (v := .pointer (some ⟨ab, ao + s, none⟩)) rfl (by kernel_rfl) (by kernel_rfl) (by kernel_rfl) (by kernel_rfl) (fun _ _ _ h => h) (Or.inl ⟨by rfl, fun w hSw => by clear hSw; go_simp⟩) hH ?_
  try simp only [Act.put, List.setIfInBounds_toArray, List.set_cons_zero, List.set_cons_succ, List.getElem_toArray, List.getElem_cons_succ, List.getElem_cons_zero]
  refine wpAnyZ_take (i := 11) (v := .int .i64 pcv) rfl (by kernel_rfl) (by kernel_rfl) (by kernel_rfl) (by kernel_rfl) (fun _ _ _ h => h) (Or.inl ⟨by rfl, fun w hSw => by have f := (HQ.out w hSw).2; clear hSw; go_simp⟩) hH ?_
  try simp only [Act.put, List.setIfInBounds_toArray, List.set_cons_zero, List.set_cons_succ, List.getElem_toArray, List.getElem_cons_succ, List.getElem_cons_zero]
  refine wpAnyZ_take (i := 14) (v := .pointer (some ⟨C.sb, 0, none⟩)) rfl (by kernel_rfl) (by kernel_rfl) (by kernel_rfl) (by kernel_rfl) (fun _ _ _ h => h) (Or.inl ⟨by rfl, fun w hSw => by clear hSw; go_simp⟩) hH ?_
  try simp only [Act.put, List.setIfInBounds_toArray, List.set_cons_zero, List.set_cons_succ, List.getElem_toArray, List.getElem_cons_succ, List.getElem_cons_zero]
  refine wpAnyZ_take (i := 15) (v := .int .i64 (d : Int)) rfl (by kernel_rfl) (by kernel_rfl) (by kernel_rfl) (by kernel_rfl) (fun _ _ _ h => h) (Or.inl ⟨by rfl, fun w hSw => by clear hSw; go_simp⟩) hH ?_
  try simp only [Act.put, List.setIfInBounds_toArray, List.set_cons_zero, List.set_cons_succ, List.getElem_toArray, List.getElem_cons_succ, List.getElem_cons_zero]
  refine wpAnyZ_take (i := 16) (v := .int .i64 ((d + 1 : Nat) : Int)) rfl (by kernel_rfl) (by kernel_rfl) (by kernel_rfl) (by kernel_rfl) (fun _ _ _ h => h) (Or.inl ⟨by rfl, fun w hSw => by have f0 := hw3; clear hSw; go_simp⟩) hH ?_
  try simp only [Act.put, List.setIfInBounds_toArray, List.set_cons_zero, List.set_cons_succ, List.getElem_toArray, List.getElem_cons_succ, List.getElem_cons_zero]
  refine wpAnyZ_take (i := 17) (v := .int .i64 (s : Int)) rfl (by kernel_rfl) (by kernel_rfl) (by kernel_rfl) (by kernel_rfl) (fun _ _ _ h => h) (Or.inl ⟨by rfl, fun w hSw => by clear hSw; go_simp⟩) hH ?_
  try simp only [Act.put, List.setIfInBounds_toArray, List.set_cons_zero, List.set_cons_succ, List.getElem_toArray, List.getElem_cons_succ, List.getElem_cons_zero]
  refine wpAnyZ_take (i := 18) (v := .int .i64 (l : Int)) rfl (by kernel_rfl) (by kernel_rfl) (by kernel_rfl) (by kernel_rfl) (fun _ _ _ h => h) (Or.inl ⟨by rfl, fun w hSw => by clear hSw; go_simp⟩) hH ?_
  try simp only [Act.put, List.setIfInBounds_toArray, List.set_cons_zero, List.set_cons_succ, List.getElem_toArray, List.getElem_cons_succ, List.getElem_cons_zero]
  refine wpAnyZ_take (i := 19) (v := .int .i64 so) rfl (by kernel_rfl) (by kernel_rfl) (by kernel_rfl) (by kernel_rfl) (fun _ _ _ h => h) (Or.inl ⟨by rfl, fun w hSw => by clear hSw; go_simp⟩) hH ?_
  try simp only [Act.put, List.setIfInBounds_toArray, List.set_cons_zero, List.set_cons_succ, List.getElem_toArray, List.getElem_cons_succ, List.getElem_cons_zero]
  refine wpAnyZ_take (i := 20) (v := .int .i64 ((l : Int) - so)) rfl (by kernel_rfl) (by kernel_rfl) (by kernel_rfl) (by kernel_rfl) (fun _ _ _ h => h) (Or.inl ⟨by rfl, fun w hSw => by have f0 := hw4; clear hSw; go_simp⟩) hH ?_
  try simp only [Act.put, List.setIfInBounds_toArray, List.set_cons_zero, List.set_cons_succ, List.getElem_toArray, List.getElem_cons_succ, List.getElem_cons_zero]
  refine wpAnyZ_ready (rs := [12]) (by kernel_rfl) (by simp) ?_
  refine AllReadyZ.cons rfl (fun K hK => ?_) AllReadyZ.nil
  go_simp
  go_at_call 37
  refine (HPx.out _).mono ?_
  rintro e w6 ⟨rfl, h6⟩
  rw [h6]
  clear h6
  refine hK.out _ _ (Or.inr hH) (fun _ => ?_)
  clear hK K
  try simp only [Act.put, List.setIfInBounds_toArray, List.set_cons_zero, List.set_cons_succ, List.getElem_toArray, List.getElem_cons_succ, List.getElem_cons_zero]
  refine wpAnyZ_take (i := 13) (v := .int .i64 (so * px)) rfl (by kernel_rfl) (by kernel_rfl) (by kernel_rfl) (by kernel_rfl) (fun _ _ _ h => h) (Or.inl ⟨by rfl, fun w hSw => by have f0 := hw1; clear hSw; go_simp⟩) hH ?_
  try simp only [Act.put, List.setIfInBounds_toArray, List.set_cons_zero, List.set_cons_succ, List.getElem_toArray, List.getElem_cons_succ, List.getElem_cons_zero]
  refine wpAnyZ_ready (rs := [21]) (by kernel_rfl) (by simp) ?_
  refine AllReadyZ.cons rfl (fun K hK => ?_) AllReadyZ.nil
  go_simp
  go_at_call 46
  refine (HMo.out _ (HH.out.fr (below_drew _))).mono ?_
  rintro e w3 ⟨rfl, T3, hT3, hf3⟩
  have h3 : Fr (fun q => q = C.tb) w1 w3 := hH.trans hf3
  have HT3 : Hid (SxS C T3 w3) := hT3
  have HF3 : Hid (Fr (fun q => q = C.tb) w1 w3) := h3
  clear hT3 hf3
  refine hK.out _ _ (Or.inr h3) (fun _ => ?_)
  clear hK K
  try simp only [Act.put, List.setIfInBounds_toArray, List.set_cons_zero, List.set_cons_succ, List.getElem_toArray, List.getElem_cons_succ, List.getElem_cons_zero]
  refine wpAnyZ_take (i := 22) (v := .int .i64 (so * px + c2)) rfl (by kernel_rfl) (by kernel_rfl) (by kernel_rfl) (by kernel_rfl) (fun _ _ _ h => h) (Or.inl ⟨by rfl, fun w hSw => by have f0 := hw2; clear hSw; go_simp⟩) h3 ?_
  try simp only [Act.put, List.setIfInBounds_toArray, List.set_cons_zero, List.set_cons_succ, List.getElem_toArray, List.getElem_cons_succ, List.getElem_cons_zero]
  refine wpAnyZ_ready (rs := [23]) (by kernel_rfl) (by simp) ?_
  refine AllReadyZ.cons rfl (fun K hK => ?_) AllReadyZ.nil
  clear h3 hH HQ HMo HSo HPx
  go_simp
  refine hK.out _ _ (Or.inl rfl) (fun _ => ?_)
  clear hK K
  try simp only [Act.put, List.setIfInBounds_toArray, List.set_cons_zero, List.set_cons_succ, List.getElem_toArray, List.getElem_cons_succ, List.getElem_cons_zero]
  refine wpAnyZ_done (by kernel_rfl) ?_ _
  go_wp2_with fail
  go_ret
  exact ⟨rfl, ⟨T3, HT3.out⟩, HF3.out⟩
theorem most_zero (C : Sx) (hc : C.cs.length ≤ 7) : MoP C 0 := fun d s l T W hd hs hl h => by
  have HH : Hid (SxS C T W) := h
  have x2 := blkCell h.box 2 _ rfl
  simp only [List.getElem_toArray, List.getElem_cons_zero, List.getElem_cons_succ] at x2
  obtain rfl : d = C.cs.length := by omega
  show Calls _ _ _ _ fun e w' => e = .returned (.int .i64 0) ∧ _
  clear h hd
  generalize C.cs.length = m at *
  go_enter Try.func46, Try.ntmps46
  go_wp2
  go_ret
  exact ⟨rfl, T, HH.out, Fr.refl _ _⟩
set_option maxRecDepth 100000 in
set_option maxHeartbeats 4000000 in
theorem most_succ (C : Sx) (hC : SxOK C) (k : Nat) (hW : WoP C k) : MoP C (k + 1) := fun d s l T W hd hs hl h => by
  have hok := hC.mr
  have hc7 := hok.cl.2
  have hN5 := hok.n1.2
  have hdl : d < C.cs.length := by omega
  have hdk : C.cs.length - d = k + 1 := by omega
  have HWo : Hid (∀ (t : Nat) T W, t < C.N → SxS C T W → Calls Try.prog 47 #[.pointer (some ⟨C.sb, 0, none⟩), .int .i64 (d : Int), .int .i64 (t : Int), .int .i64 (l : Int)] W fun e w' => e = .returned (.int .i64 (wo C.prs C.cs C.N k t (l : Int))) ∧ ∃ T', SxS C T' w' ∧ Fr (fun q => q = C.tb) W w') := fun t T W h1 h2 => hW d t l T W hd h1 hl h2
  have HWb : Hid (∀ t, t < C.N → 0 ≤ wo C.prs C.cs C.N k t (l : Int) ∧ wo C.prs C.cs C.N k t (l : Int) ≤ 1400000000) := fun t ht => by have := wo_bounds hok (k := k) (by omega) ht (l := (l : Int)) (by omega) (by omega); omega
  have HTk : Hid (T (plc d s l) < 0 ∨ T (plc d s l) = (chz C.prs C.cs C.N (k + 1) s (l : Int)).2) := by have := h.tok d s l hdl hs hl; rwa [hdk] at this
  have HNn : Hid (0 ≤ (chz C.prs C.cs C.N (k + 1) s (l : Int)).2) := (chz_bounds hok (k + 1) s (l : Int) (by omega) hs (by omega) (by omega)).1.1
  have HPu : Hid (∀ T X, SxS C T X → ∃ T', SxS C T' (X.setCell ⟨C.tb, plc d s l, none⟩ (.int .i64 (chz C.prs C.cs C.N (k + 1) s (l : Int)).2))) := fun T X h' => by have := h'.put hN5 hdl hs hl; rwa [hdk] at this
  have HCz : Hid ((chz C.prs C.cs C.N (k + 1) s (l : Int)).2 = (pick (fun t => wo C.prs C.cs C.N k t (l : Int)) s (C.N - 1 - s)).2) := by show _ = _; rw [chz_next]
  have HH : Hid (SxS C T W) := h
  have hpl : plc d s l < 7035 := plc_lt (by omega) (by omega) hl
  have hpe : (((d : Int) * 5 + (s : Int)) * 201 + (l : Int)) = (plc d s l : Int) := by unfold plc; omega
  have hw1 : IntKind.i64.wrap ((d : Int) * 5) = (d : Int) * 5 := wrap_id _ (by omega) (by omega)
  have hw2 : IntKind.i64.wrap ((d : Int) * 5 + (s : Int)) = (d : Int) * 5 + (s : Int) := wrap_id _ (by omega) (by omega)
  have hw3 : IntKind.i64.wrap (((d : Int) * 5 + (s : Int)) * 201) = ((d : Int) * 5 + (s : Int)) * 201 := wrap_id _ (by omega) (by omega)
  have hw4 : IntKind.i64.wrap (((d : Int) * 5 + (s : Int)) * 201 + (l : Int)) = (plc d s l : Int) := by rw [wrap_id _ (by omega) (by omega), hpe]
  have hdm : ¬ (d : Int) = (C.cs.length : Int) := by omega
  clear hW h hC hok hpe hdk
  generalize hg : (fun t => wo C.prs C.cs C.N k t (l : Int)) = g at *
  have HG : Hid (∀ t, wo C.prs C.cs C.N k t (l : Int) = g t) := fun t => by rw [← hg]
  have HWo2 : Hid (∀ (t : Nat) T W, t < C.N → SxS C T W → Calls Try.prog 47 #[.pointer (some ⟨C.sb, 0, none⟩), .int .i64 (d : Int), .int .i64 (t : Int), .int .i64 (l : Int)] W fun e w' => e = .returned (.int .i64 (g t)) ∧ ∃ T', SxS C T' w' ∧ Fr (fun q => q = C.tb) W w') := fun t T W h1 h2 => by rw [← HG.out t]; exact HWo.out t T W h1 h2
  have HWb2 : Hid (∀ t, t < C.N → 0 ≤ g t ∧ g t ≤ 1400000000) := fun t ht => by rw [← HG.out t]; exact HWb.out t ht
  clear hg HG HWo HWb
  generalize (chz C.prs C.cs C.N (k + 1) s (l : Int)).2 = cv at *
  generalize plc d s l = pl at *
  have hpl' : (pl : Int) < 7035 := by omega
  have HBx : Hid (∀ T X, SxS C T X → (X.cell? ⟨C.sb, 1, none⟩ = some (.slice C.pa C.N C.pc) ∧ X.cell? ⟨C.sb, 2, none⟩ = some (.slice C.da C.cs.length C.dc) ∧ X.cell? ⟨C.sb, 3, none⟩ = some (.slice (some ⟨C.tb, 0, none⟩) 7035 7035)) ∧ X.cell? ⟨C.tb, pl, none⟩ = some (.int .i64 (T pl)) ∧ X.frozen? ⟨C.tb, pl, none⟩ = false) := fun T X h' => by
    refine ⟨⟨blkCell h'.box 1 _ rfl, blkCell h'.box 2 _ rfl, blkCell h'.box 3 _ rfl⟩, ?_, h'.tab.frozen pl⟩
    rw [h'.tab.cell hpl]
  obtain ⟨⟨x1, x2, x3⟩, x4, x5⟩ := HBx.out T W HH.out
  have hsb : C.sb ≠ C.tb := Ne.symm HH.out.low
  by_cases hT : 0 ≤ T pl
  · have HE : Hid (T pl = cv) := by
      rcases HTk.out with q | q
      · omega
      · exact q
    generalize T pl = tv at *
    generalize C.cs.length = m at *
    go_enter Try.func46, Try.ntmps46
    go_wp2
    go_ret
    exact ⟨ret_int HE.out, T, HH.out, Fr.refl _ _⟩
  · have hT2 : ¬ (0 : Int) ≤ T pl := hT
    generalize T pl = tv at *
    go_enter Try.func46, Try.ntmps46
    go_wp2_with fail
    clear x1 x2 x3 x4 x5 hT hT2 HTk
    go_loopw [10, 11] (fun b c wr => ∃ (j t : Nat) (bv : Int) (T' : Nat → Int), t = s + j ∧ t ≤ C.N ∧ c = .int .i64 (t : Int) ∧ b = .int .i64 bv ∧ ((j = 0 ∧ bv = 0) ∨ ∃ i, j = i + 1 ∧ bv = (pick g s i).2) ∧ (0 ≤ bv ∧ bv ≤ 1400000000) ∧ SxS C T' wr ∧ Fr (fun q => q = C.tb) W wr) (fun _ c _ => C.N - (intOf c).toNat)
    case atStart => exact ⟨0, s, 0, T, by omega, by omega, rfl, rfl, .inl ⟨rfl, rfl⟩, ⟨by omega, by omega⟩, HH.out, Fr.refl _ _⟩
    case round =>
      clear HH
      obtain ⟨j, t, bv, T', hjt, htN, rfl, rfl, hbv, hbb, hS, hfr⟩ := hrel
      have HS : Hid (SxS C T' wr) := hS
      have HFr : Hid (Fr (fun q => q = C.tb) W wr) := hfr
      have HJt : Hid (t = s + j) := hjt
      have HBv : Hid ((j = 0 ∧ bv = 0) ∨ ∃ i, j = i + 1 ∧ bv = (pick g s i).2) := hbv
      clear hS hfr hjt hbv
      obtain ⟨⟨x1, x2, x3⟩, x4, x5⟩ := HBx.out T' wr HS.out
      by_cases hlt : t < C.N
      · have hlt' : (t : Int) < (C.N : Int) := by omega
        obtain ⟨g1, g2⟩ := HWb2.out t hlt
        have HNx : Hid (max bv (g t) = (pick g s j).2) := by
          have hjt := HJt.out
          rcases HBv.out with ⟨rfl, rfl⟩ | ⟨i, rfl, hb⟩
          · show _ = g s
            rw [Nat.add_zero] at hjt
            rw [hjt] at g1 ⊢
            omega
          · show _ = _
            rw [pick_step, ← hb, hjt, show s + (i + 1) = s + 1 + i by omega]
        have hwt : IntKind.i64.wrap ((t : Int) + 1) = ((t + 1 : Nat) : Int) := by rw [wrap_id _ (by omega) (by omega)]; omega
        go_wp2_with fail
        (first | go_at_call 47 | skip)
        refine (HWo2.out t T' wr hlt HS.out).mono ?_
        rintro e w3 ⟨rfl, T3, hT3, hf3⟩
        have HS3 : Hid (SxS C T3 w3) := hT3
        have HF3 : Hid (Fr (fun q => q = C.tb) W w3) := HFr.out.trans hf3
        clear x1 x2 x3 x4 x5 hT3 hf3
        generalize g t = gt at *
        have hmx : 0 ≤ max bv gt ∧ max bv gt ≤ 1400000000 := by omega
        go_wp2_with fail
        all_goals
          go_roundw
          case rel => exact ⟨j + 1, t + 1, max bv gt, T3, by have := HJt.out; omega, by omega, by go_num, by congr 1; omega, .inr ⟨j, rfl, HNx.out⟩, hmx, HS3.out, HF3.out⟩
          case measure => simp [intOf]; omega
      · obtain rfl : t = C.N := by omega
        have HV : Hid (bv = cv) := by
          have hjt := HJt.out
          rcases HBv.out with ⟨rfl, rfl⟩ | ⟨i, rfl, hb⟩
          · omega
          · show _ = _
            rw [HCz.out, hb, show C.N - 1 - s = i by omega]
        obtain ⟨T4, hT4⟩ := HPu.out T' wr HS.out
        have HT4 : Hid (SxS C T4 (wr.setCell ⟨C.tb, pl, none⟩ (.int .i64 bv))) := by rw [HV.out]; exact hT4
        clear hT4
        go_wp2_with fail
        go_ret
        exact ⟨ret_int HV.out, T4, HT4.out, HFr.out.set rfl _ _⟩
theorem most_all (C : Sx) (hC : SxOK C) : ∀ k, MoP C k
  | 0 => most_zero C hC.mr.cl.2
  | k + 1 => most_succ C hC k (worth_of C hC k (most_all C hC k))
end Go.Proofs.Ytlcnhkhkhlpghaa
