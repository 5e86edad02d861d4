/-
  Texts of this claim laid together: BhC.
-/
import Derived.Test.YtkfmifbffgbiiaaM30
import Derived.Test.YtkfmifbffgbiiaaM22
/-
  Contract of the specification's Priced.
-/
namespace Go.Proofs.Ytkfmifbffgbiiaa
open Go.ChangeShapes Go.WideShapes Go.ChangeAt Go.RowKit
set_option linter.unusedVariables false

theorem useT_step (us : List RUn) (ds : List CDl) (cs : List CUs) (k : Nat) : useT us ds (cs.getD k zUs) (tkB cs k) (spB cs k) = stepB us ds cs k := rfl
theorem boolInfo : (Try.prog.info? 4).map (fun i => (i.zero, i.size, i.bytes)) = some (some (.bool false), 1, 1) := by kernel_rfl
theorem makeBools (n : Nat) (hn : n ≤ 100000000) (w : World) :
    (Instr.makeSlice 60 (.int .i64 (n : Int)) (.int .i64 (n : Int))).run Try.prog w = .ok (.slice (some ⟨w.heap.size, 0, none⟩) n n) (w.alloc (.cells (madeCells #[.bool false] n) 4)) := by
  obtain ⟨i, hi, hzz⟩ := Option.map_eq_some_iff.1 boolInfo
  simp only [Prod.mk.injEq] at hzz
  obtain ⟨hz, hs, hb⟩ := hzz
  have hr := run_make (P := Try.prog) w 60 4 i _ Try.underlying60 hi hz .i64 .i64 (n : Int) (n : Int) (by omega) (by omega) (by rw [hb]; omega) (by omega)
  simp only [Int.toNat_natCast, hs, Nat.mul_one] at hr
  exact hr
theorem bools_made (w : World) (n : Nat) : (w.alloc (.cells (madeCells #[.bool false] n) 4)).rowIs w.heap.size 4 n (fun _ => .bool false) := by
  refine ⟨_, heapNew _ _, size_madeCells _ _, fun i hi => ?_⟩
  have h1 : i % 1 = 0 := Nat.mod_one i
  simp [madeCells, hi, h1]
/-- Own blocks and lists lie from L on. -/
def HiE (L : Nat) (v : Value) (E : List EU) : Prop := (∀ q, v.ownBlock = some q → L ≤ q) ∧ ∀ e ∈ E, L ≤ e.2.1
/-- A store into a block between leaves the row as it was. -/
theorem RowE.setLow {B P R L : Nat} {w wr : World} {v : Value} {E : List EU} (h : RowE B P R w wr v E) (hh : HiE L v E) {d : Nat} (h1 : B ≤ d) (h2 : d < L) (o : Nat) (x : Value) : RowE B P R w (wr.setCell ⟨d, o, none⟩ x) v E := by
  refine ⟨row_of_block h.row (fun q hq => Below.heap_setCell _ _ _ _ (show q ≠ d by have := hh.1 q hq; omega)), by rw [World.size_setCell]; exact h.base, h.below.setCell h1 _, h.own, fun e he => ?_, h.apart⟩
  obtain ⟨⟨k1, k2, k3, k4⟩, k5, k6, k7⟩ := h.ins e he
  have := hh.2 e he
  exact ⟨⟨k1, by rw [World.size_setCell]; exact k2, k3, k4⟩, k5, intsAt_set k6 (by omega) _ _, freeAt_set k7 _ _⟩

theorem bg_push2 {B P R L g1 cp1 gc cc : Nat} {v : Value} {w w3 w4 w5 : World} {E : List EU} {m sx : Int} {ns : List Int} {t s : Int} {o : Obj} (hE : RowE B P R w w3 v E) (hH : HiE L v E) (hP : w3.rowIs P 29 3 (bgF t s v)) (hZ : w3.rowIs R 29 3 (bgF 0 0 (.slice none 0 0))) (hBP : B ≤ P) (hPR : P ≠ R) (hL : L ≤ w3.heap.size) (hb4 : Below w3.heap.size w3 w4) (hg1 : w3.heap.size ≤ gc) (hg2 : gc < w4.heap.size) (hcc : ns.length ≤ cc) (hci : IntsAt w4 gc 0 ns) (hcf : FreeAt w4 gc 0 ns.length)
    (hown : w5.ownsRow B 36 3 (.slice (some ⟨g1, 0, none⟩) (E.length + 1) cp1) (E.length + 1) (E.flatMap cellsU ++ cellsU (⟨m, sx, ns⟩, gc, cc))) (hgrow : (w4.alloc o).grownBy w5 v.ownBlock) (hat : v.ownBlock = some g1 ∨ g1 = w4.heap.size + 1) :
    (RowE B P R w (w5.setCell ⟨P, 2, none⟩ (.slice (some ⟨g1, 0, none⟩) (E.length + 1) cp1)) (.slice (some ⟨g1, 0, none⟩) (E.length + 1) cp1) (E ++ [(⟨m, sx, ns⟩, gc, cc)]) ∧ HiE L (.slice (some ⟨g1, 0, none⟩) (E.length + 1) cp1) (E ++ [((⟨m, sx, ns⟩ : CUs), gc, cc)])) ∧ (w5.setCell ⟨P, 2, none⟩ (.slice (some ⟨g1, 0, none⟩) (E.length + 1) cp1)).rowIs P 29 3 (bgF t s (.slice (some ⟨g1, 0, none⟩) (E.length + 1) cp1)) ∧ (w5.setCell ⟨P, 2, none⟩ (.slice (some ⟨g1, 0, none⟩) (E.length + 1) cp1)).rowIs R 29 3 (bgF 0 0 (.slice none 0 0)) ∧
    ∀ (x n : Nat) (f : Nat → Value), x < L → x ≠ P → w3.rowIs x 4 n f → (w5.setCell ⟨P, 2, none⟩ (.slice (some ⟨g1, 0, none⟩) (E.length + 1) cp1)).rowIs x 4 n f := by
  have hz : (w4.alloc o).heap.size = w4.heap.size + 1 := World.size_alloc _ _
  have hPl := hP.lt
  have hRl := hZ.lt
  have hs4 := hb4.size
  have hba : Below w4.heap.size w4 (w4.alloc o) := below_alloc _ _
  have h5 := (hE.later (hb4.trans (hba.mono hs4))).push (e := (⟨m, sx, ns⟩, gc, cc)) hown hgrow (by rw [hz]; exact hat) (by omega) (by omega) ⟨by have := hE.base; show B ≤ gc; omega, by show gc < _; omega, by show gc ≠ P; omega, by show gc ≠ R; omega⟩ hcc (hci.below hba hg2) (hcf.below hba hg2) (fun x hx => by have := (hE.row.lt x hx).2; show x ≠ gc; omega) (fun d hd => by have := (hE.ins d hd).1.2.1; show d.2.1 ≠ gc; omega)
  have bk : ∀ x, x < w3.heap.size → v.ownBlock ≠ some x → w5.heap[x]? = w3.heap[x]? := fun x hx hne => (hgrow.block x (by omega) (fun h => hne h.symm)).trans ((hba.block x (by omega)).trans (hb4.block x hx))
  refine ⟨⟨h5.setP hBP _ _, ?_, ?_⟩, bg_set2 (hP.of_block (bk P hPl (fun h => (hE.own P h).1 rfl))), (hZ.of_block (bk R hRl (fun h => (hE.own R h).2.1 rfl))).setOther (Ne.symm hPR) _, fun x n f hx hxP hr => (hr.of_block (bk x hr.lt (fun h => by have := hH.1 x h; omega))).setOther hxP _⟩
  · intro q hq
    cases hq
    rcases hat with k | k
    · exact hH.1 g1 k
    · show L ≤ g1
      omega
  · intro e he
    rcases List.mem_append.mp he with k | k
    · exact hH.2 e k
    · simp at k; subst k; show L ≤ gc; omega
theorem savN_bound2 {us : List RUn} {ds : List CDl} {cs : List CUs} (hg : ∀ u, useB us ds u = true → Good us ds u) {k : Nat} (hf : fitN us ds cs k = true) (hk : k ≤ cs.length) : 0 ≤ savN us ds cs k ∧ savN us ds cs k ≤ 400000000 * (k : Int) := by
  have := savN_bound (us := us) (ds := ds) (cs := cs.take k) (fun u hu => by
    obtain ⟨i, hi, rfl⟩ := List.getElem_of_mem hu
    rw [List.length_take] at hi
    have hs := fitN_at hf i (by omega)
    unfold stepB at hs
    rw [Bool.and_eq_true] at hs
    have h3 := hs.1
    rw [show cs.getD i zUs = (cs.take k)[i] by simp [List.getD_eq_getElem?_getD, show i < cs.length by omega]] at h3
    exact hg _ h3) k (by rw [List.length_take]; omega)
  unfold savN at *
  rwa [List.take_take, Nat.min_self] at this
theorem clone_lies {w w8 : World} {B g cp : Nat} {ns : List Int} (h : One w B (.slice (some ⟨g, 0, none⟩) (([] : List Int).length + ns.length) cp) ([] ++ ns) w8) (h1 : 1 ≤ ns.length) : (B ≤ g ∧ g < w8.heap.size) ∧ ns.length ≤ cp ∧ IntsAt w8 g 0 ns ∧ FreeAt w8 g 0 ns.length ∧ Below B w w8 := by
  have h' : One w B (.slice (some ⟨g, 0, none⟩) ns.length cp) ns w8 := by simpa using h
  rcases h'.own2 rfl with hz | ⟨g2, hg2, k1, k2, k3, k4⟩
  · rw [hz] at h1; simp at h1
  cases hg2
  exact ⟨⟨k1, k2⟩, h'.cap, k3, k4, h'.2.2⟩

set_option maxHeartbeats 8000000 in
set_option maxRecDepth 4000 in
theorem specPriced_any (a : Option Addr) (cap : Nat) (us : List RUn) (hl : us.length ≤ 100000000) (hp : ∀ r ∈ us, UnOK r) (b : Option Addr) (cb : Nat) (ds : List CDl) (hd : ds.length ≤ 100000000) (hq : ∀ r ∈ ds, DlOK r) (g : Option Addr) (cg : Nat) (cs : List CUs) (hc : cs.length ≤ 1048576) (hu : ∀ r ∈ cs, UsOK r) (w : World) (hr : ReadsUn w.heap.size w a us) (ks : ReadsDl w.heap.size w b ds) (js : ReadsUs w.heap.size w g cs) :
    Calls Try.prog 12 #[.slice a us.length cap, .slice b ds.length cb, .slice g cs.length cg] w (AnsP us ds cs w) := by
  have HU : Hid (∀ W, Below w.heap.size w W → Calls Try.prog 27 #[.slice a us.length cap] W fun e w' => e = .returned (.bool (unAll us)) ∧ Below W.heap.size W w') := fun W hb => specUnits_any a cap us hl hp W (hr.later hb)
  have HDl : Hid (∀ W, Below w.heap.size w W → Calls Try.prog 28 #[.slice b ds.length cb] W fun e w' => e = .returned (.bool (dlAll ds)) ∧ Below W.heap.size W w') := fun W hb => specDeals_any b cb ds hd hq W (ks.later hb)
  have HC : Hid (pcode us ds cs = if 4096 < cs.length then 2 else if faultOf us ds = 0 then (if fitB us ds cs = true then 0 else 3) else faultOf us ds) := rfl
  have HNo : Hid (∀ (c : Int) (w' : World), pcode us ds cs = c → c ≠ 0 → Below w.heap.size w w' → AnsP us ds cs w (.returned (.tuple #[.agg #[.int .i64 0, .int .i64 0, .slice none 0 0], .int .i64 c])) w') := fun c w' h1 h2 h3 => ansNone h1 h2 h3
  have HR : Hid (ReadsUn w.heap.size w a us) := hr
  have HK : Hid (ReadsDl w.heap.size w b ds) := ks
  have HJ : Hid (ReadsUs w.heap.size w g cs) := js
  have HQ : Hid (∀ r ∈ ds, DlOK r) := hq
  have HUs : Hid (∀ r ∈ cs, UsOK r) := hu
  clear hr ks js hp hq hu
  have hlong : 4096 < us.length ∨ 4096 < ds.length → faultOf us ds = 2 := fun h => by unfold faultOf; rw [if_pos h]
  have HLg : Hid _ := hlong
  clear hlong
  by_cases h4 : (4096 : Int) < (us.length : Int)
  · have HC2 : Hid (pcode us ds cs = 2) := by show _ = _; rw [HC.out, HLg.out (.inl (by omega))]; split <;> rfl
    have hd1 : decide ((4096 : Int) < (us.length : Int)) = true := decide_eq_true h4
    go_enter Try.func12, Try.ntmps12
    go_wp2
    refine bodyPost_ret (v := .tuple #[.agg #[.int .i64 0, .int .i64 0, .slice none 0 0], .int .i64 2]) (by simp [results, Try.results12, go_sem]) rfl ?_
    exact HNo.out 2 _ HC2.out (by omega) (below_alloc _ _)
  by_cases h5 : (4096 : Int) < (ds.length : Int)
  · have HC2 : Hid (pcode us ds cs = 2) := by show _ = _; rw [HC.out, HLg.out (.inr (by omega))]; split <;> rfl
    have hd1 : decide ((4096 : Int) < (us.length : Int)) = false := decide_eq_false h4
    go_enter Try.func12, Try.ntmps12
    go_wp2
    refine bodyPost_ret (v := .tuple #[.agg #[.int .i64 0, .int .i64 0, .slice none 0 0], .int .i64 2]) (by simp [results, Try.results12, go_sem]) rfl ?_
    exact HNo.out 2 _ HC2.out (by omega) (below_alloc _ _)
  by_cases h6 : (4096 : Int) < (cs.length : Int)
  · have HC2 : Hid (pcode us ds cs = 2) := by show _ = _; rw [HC.out, if_pos (by omega)]
    go_enter Try.func12, Try.ntmps12
    go_wp2
    refine bodyPost_ret (v := .tuple #[.agg #[.int .i64 0, .int .i64 0, .slice none 0 0], .int .i64 2]) (by simp [results, Try.results12, go_sem]) rfl ?_
    exact HNo.out 2 _ HC2.out (by omega) (below_alloc _ _)
  have HF : Hid (faultOf us ds = if (unAll us && dlAll ds) = true then 0 else 1) := by show _ = _; unfold faultOf; rw [if_neg (by omega)]
  have hc4 : ¬ 4096 < cs.length := by omega
  cases hua : unAll us
  · have HC1 : Hid (pcode us ds cs = 1) := by show _ = _; rw [HC.out, if_neg hc4, HF.out, hua]; rfl
    rw [hua] at HU
    go_enter Try.func12, Try.ntmps12
    go_wp2_with fail
    (first | go_at_call 27 | skip)
    refine (HU.out _ (below_alloc _ _)).mono ?_
    rintro e w2 ⟨rfl, hb2⟩
    have B2 : Hid (Below w.heap.size w w2) := chain (below_alloc _ _) hb2
    have R2 : Hid (w2.rowIs w.heap.size 29 3 (bgF 0 0 (.slice none 0 0))) := (bg_new w 0 0 (.slice none 0 0)).of_block (hb2.block _ (by simp))
    have z0 : w2.cell? ⟨w.heap.size, 0, none⟩ = some (.int .i64 0) := R2.out.cell (i := 0) (by omega)
    have z1 : w2.cell? ⟨w.heap.size, 1, none⟩ = some (.int .i64 0) := R2.out.cell (i := 1) (by omega)
    have z2 : w2.cell? ⟨w.heap.size, 2, none⟩ = some (.slice none 0 0) := R2.out.cell (i := 2) (by omega)
    have y0 := R2.out.frozen 0
    have y1 := R2.out.frozen 1
    have y2 := R2.out.frozen 2
    clear hb2 HU
    go_wp2
    refine bodyPost_ret (v := .tuple #[.agg #[.int .i64 0, .int .i64 0, .slice none 0 0], .int .i64 1]) (by simp [results, Try.results12, go_sem, z0, z1, z2]) rfl ?_
    refine HNo.out 1 _ HC1.out (by omega) ?_
    repeat refine Below.setCell ?_ (by dsimp only; omega) _
    exact B2.out
  rw [hua] at HU
  cases hda : dlAll ds
  · have HC1 : Hid (pcode us ds cs = 1) := by show _ = _; rw [HC.out, if_neg hc4, HF.out, hua, hda]; rfl
    rw [hda] at HDl
    go_enter Try.func12, Try.ntmps12
    go_wp2_with fail
    (first | go_at_call 27 | skip)
    refine (HU.out _ (below_alloc _ _)).mono ?_
    rintro e w1 ⟨rfl, hb1⟩
    have B1 : Hid (Below w.heap.size w w1) := chain (below_alloc _ _) hb1
    have R1 : Hid (w1.rowIs w.heap.size 29 3 (bgF 0 0 (.slice none 0 0))) := (bg_new w 0 0 (.slice none 0 0)).of_block (hb1.block _ (by simp))
    clear hb1
    go_wp2_with fail
    (first | go_at_call 28 | skip)
    refine (HDl.out _ B1.out).mono ?_
    rintro e w2 ⟨rfl, hb2⟩
    have B2 : Hid (Below w.heap.size w w2) := chain B1.out hb2
    have R2 : Hid (w2.rowIs w.heap.size 29 3 (bgF 0 0 (.slice none 0 0))) := R1.out.of_block (hb2.block _ R1.out.lt)
    have z0 : w2.cell? ⟨w.heap.size, 0, none⟩ = some (.int .i64 0) := R2.out.cell (i := 0) (by omega)
    have z1 : w2.cell? ⟨w.heap.size, 1, none⟩ = some (.int .i64 0) := R2.out.cell (i := 1) (by omega)
    have z2 : w2.cell? ⟨w.heap.size, 2, none⟩ = some (.slice none 0 0) := R2.out.cell (i := 2) (by omega)
    have y0 := R2.out.frozen 0
    have y1 := R2.out.frozen 1
    have y2 := R2.out.frozen 2
    clear hb2 HU HDl
    go_wp2
    refine bodyPost_ret (v := .tuple #[.agg #[.int .i64 0, .int .i64 0, .slice none 0 0], .int .i64 1]) (by simp [results, Try.results12, go_sem, z0, z1, z2]) rfl ?_
    refine HNo.out 1 _ HC1.out (by omega) ?_
    repeat refine Below.setCell ?_ (by dsimp only; omega) _
    exact B2.out
  rw [hda] at HDl
  obtain ⟨hu8, hup⟩ := unAll_yes hua
  obtain ⟨hd6, hdy⟩ := dlAll_yes hda
  have HUp : Hid (UnPr us) := hup
  have HCf : Hid (pcode us ds cs = if fitB us ds cs = true then 0 else 3) := by show _ = _; rw [HC.out, if_neg hc4, HF.out, hua, hda]; rfl
  have HGd : Hid (∀ u, useB us ds u = true → Good us ds u) := fun u h => good_of_use hua hda h
  have hmk1 := fun w => makeBools us.length (by omega) w
  have hmk2 := fun w => makeBools ds.length (by omega) w
  have HSum : Hid (∀ W, Below w.heap.size w W → Calls Try.prog 29 #[.slice a us.length cap] W fun e w' => e = .returned (.int .i64 (sumU us)) ∧ w' = W) := fun W hb => specSum_any a cap us hu8 HUp.out W (HR.out.later hb)
  clear hup hdy HC HF hua hda
  go_enter Try.func12, Try.ntmps12
  go_wp2_with fail
  (first | go_at_call 27 | skip)
  refine (HU.out _ (below_alloc _ _)).mono ?_
  rintro e w1 ⟨rfl, hb1⟩
  have B1 : Hid (Below w.heap.size w w1) := chain (below_alloc _ _) hb1
  have R1 : Hid (w1.rowIs w.heap.size 29 3 (bgF 0 0 (.slice none 0 0))) := (bg_new w 0 0 (.slice none 0 0)).of_block (hb1.block _ (by simp))
  clear hb1 HU
  go_wp2_with fail
  (first | go_at_call 28 | skip)
  refine (HDl.out _ B1.out).mono ?_
  rintro e w2 ⟨rfl, hb2⟩
  have B2 : Hid (Below w.heap.size w w2) := chain B1.out hb2
  have R2 : Hid (w2.rowIs w.heap.size 29 3 (bgF 0 0 (.slice none 0 0))) := R1.out.of_block (hb2.block _ R1.out.lt)
  clear hb2 HDl R1 B1
  go_wp2_with fail
  (first | go_at_call 29 | skip)
  refine (HSum.out _ (chain B2.out (chain (below_alloc _ _) (below_alloc _ _)))).mono ?_
  rintro e w3 ⟨rfl, rfl⟩
  go_wp2
  have HW0 : Hid (∀ W, W = (((w2.alloc (Obj.cells (madeCells #[.bool false] us.length) 4)).alloc (Obj.cells (madeCells #[.bool false] ds.length) 4)).alloc (Obj.cells #[.int .i64 (sumU us), .int .i64 0, .slice none 0 0] 29)) →
      RowE w.heap.size (w2.heap.size + 1 + 1) w.heap.size w W (.slice none 0 0) [] ∧ W.rowIs (w2.heap.size + 1 + 1) 29 3 (bgF (sumU us) 0 (.slice none 0 0)) ∧ W.rowIs w.heap.size 29 3 (bgF 0 0 (.slice none 0 0)) ∧ W.rowIs w2.heap.size 4 us.length (fun n => .bool (tkB cs 0 n)) ∧ W.rowIs (w2.heap.size + 1) 4 ds.length (fun n => .bool (spB cs 0 n))) := fun W hW => by
    subst hW
    have hb : Below w2.heap.size w2 (((w2.alloc (Obj.cells (madeCells #[.bool false] us.length) 4)).alloc (Obj.cells (madeCells #[.bool false] ds.length) 4)).alloc (Obj.cells #[.int .i64 (sumU us), .int .i64 0, .slice none 0 0] 29)) := chain (chain (below_alloc _ _) (below_alloc _ _)) (below_alloc _ _)
    have hR := R2.out.lt
    refine ⟨⟨⟨rfl, .inl ⟨rfl, rfl⟩⟩, by simp only [World.size_alloc]; have := B2.out.size; omega, chain B2.out hb, fun q hq => by simp [Value.ownBlock] at hq, by simp, List.Pairwise.nil⟩, ?_, R2.out.of_block (hb.block _ hR), ?_, ?_⟩
    · have := bg_new ((w2.alloc (Obj.cells (madeCells #[.bool false] us.length) 4)).alloc (Obj.cells (madeCells #[.bool false] ds.length) 4)) (sumU us) 0 (.slice none 0 0)
      rwa [World.size_alloc, World.size_alloc] at this
    · have := bools_made w2 us.length
      exact (this.of_block ((chain (below_alloc _ _) (below_alloc _ _)).block _ this.lt)).congr (fun i hi => rfl)
    · have := bools_made (w2.alloc (Obj.cells (madeCells #[.bool false] us.length) 4)) ds.length
      rw [World.size_alloc] at this
      exact (this.of_block ((below_alloc _ _).block _ this.lt)).congr (fun i hi => rfl)
  have hRw : w.heap.size < w2.heap.size := R2.out.lt
  go_outline
  go_loopw [11, 12, 13, 14] (fun c _ _ _ wr => ∃ (v : Value) (E : List EU), E.length ≤ cs.length ∧ c = .int .i64 (E.length : Int) ∧ fitN us ds cs E.length = true ∧ E.map (·.1) = (cs.take E.length).map (told us ds) ∧ RowE w.heap.size (w2.heap.size + 1 + 1) w.heap.size w wr v E ∧ HiE (w2.heap.size + 1 + 1 + 1) v E ∧ wr.rowIs (w2.heap.size + 1 + 1) 29 3 (bgF (sumU us) (savN us ds cs E.length) v) ∧ wr.rowIs w.heap.size 29 3 (bgF 0 0 (.slice none 0 0)) ∧ wr.rowIs w2.heap.size 4 us.length (fun n => .bool (tkB cs E.length n)) ∧ wr.rowIs (w2.heap.size + 1) 4 ds.length (fun n => .bool (spB cs E.length n))) (fun c _ _ _ _ => cs.length - (intOf c).toNat)
  case atStart =>
    obtain ⟨h1, h2, h3, h4, h5⟩ := HW0.out _ rfl
    exact ⟨.slice none 0 0, [], Nat.zero_le _, rfl, rfl, rfl, h1, ⟨fun q hq => by simp [Value.ownBlock] at hq, by simp⟩, h2, h3, h4, h5⟩
  case round =>
    clear HW0 hmk1 hmk2 HSum R2
    obtain ⟨v, E, hk, rfl, hf, hm, h1, h2, h3, h4, h5, h6'⟩ := hrel
    have HFt : Hid (fitN us ds cs E.length = true) := hf
    have HEm : Hid (E.map (·.1) = (cs.take E.length).map (told us ds)) := hm
    have HE : Hid (RowE w.heap.size (w2.heap.size + 1 + 1) w.heap.size w wr v E) := h1
    have HHi : Hid (HiE (w2.heap.size + 1 + 1 + 1) v E) := h2
    have HP : Hid (wr.rowIs (w2.heap.size + 1 + 1) 29 3 (bgF (sumU us) (savN us ds cs E.length) v)) := h3
    have HZ : Hid (wr.rowIs w.heap.size 29 3 (bgF 0 0 (.slice none 0 0))) := h4
    have HT : Hid (wr.rowIs w2.heap.size 4 us.length (fun n => .bool (tkB cs E.length n))) := h5
    have HO : Hid (wr.rowIs (w2.heap.size + 1) 4 ds.length (fun n => .bool (spB cs E.length n))) := h6'
    clear hf hm h1 h2 h3 h4 h5 h6'
    by_cases hkc : E.length < cs.length
    · have hkc' : (E.length : Int) < (cs.length : Int) := by omega
      rcases HJ.out with h | ⟨b0, o0, ha, hB0, ia⟩
      · rw [h] at hkc; simp at hkc
      obtain ⟨h, cp, ⟨c0, c1, c2⟩, hcp, hRd⟩ := (ia.below HE.out.below hB0 (Nat.le_refl _)) E.length hkc
      have HRd : Hid (Reads w.heap.size wr h (cs.getD E.length zUs).us) := hRd
      have HSt : Hid (useT us ds (cs.getD E.length zUs) (tkB cs E.length) (spB cs E.length) = stepB us ds cs E.length) := useT_step us ds cs E.length
      have HXs : Hid (stepB us ds cs E.length = false → pcode us ds cs = 3) := fun q => by rw [HCf.out, fit_stop hkc q]; rfl
      have HNx : Hid (stepB us ds cs E.length = true → fitN us ds cs (E.length + 1) = true) := fun q => by show (fitN us ds cs E.length && stepB us ds cs E.length) = true; rw [HFt.out, q]; rfl
      have HUy : Hid (stepB us ds cs E.length = true → useB us ds (cs.getD E.length zUs) = true) := fun q => by unfold stepB at q; rw [Bool.and_eq_true] at q; exact q.1
      have HGk : Hid (useB us ds (cs.getD E.length zUs) = true → Good us ds (cs.getD E.length zUs)) := HGd.out _
      have HTn : Hid (∀ n, tkB cs (E.length + 1) n = (tkB cs E.length n || amB (cs.getD E.length zUs).us (cs.getD E.length zUs).us.length n)) := fun n => tkB_next cs E.length n hkc
      have HSn : Hid (∀ n, spB cs (E.length + 1) n = (spB cs E.length n || ((cs.getD E.length zUs).dl == (n : Int)))) := fun n => spB_next cs E.length n hkc
      have HVn : Hid (savN us ds cs (E.length + 1) = savN us ds cs E.length + (told us ds (cs.getD E.length zUs)).sv) := savN_next us ds cs E.length hkc
      have HMn : Hid ((cs.take (E.length + 1)).map (told us ds) = (cs.take E.length).map (told us ds) ++ [told us ds (cs.getD E.length zUs)]) := by
        have e : cs.getD E.length zUs = cs[E.length] := by simp [List.getD_eq_getElem?_getD, hkc]
        show _ = _
        rw [List.take_succ_eq_append_getElem hkc, List.map_append, e]; rfl
      have hnb : (cs.getD E.length zUs).us.length ≤ 1048576 := getUs HUs.out hkc
      have HUse : Hid (∀ W, Below w.heap.size w W → Below wr.heap.size wr W → Calls Try.prog 30 #[.slice a us.length cap, .slice b ds.length cb, .agg #[.int .i64 (cs.getD E.length zUs).dl, .int .i64 (cs.getD E.length zUs).sv, .slice h (cs.getD E.length zUs).us.length cp], .slice (some ⟨w2.heap.size, 0, none⟩) us.length us.length, .slice (some ⟨w2.heap.size + 1, 0, none⟩) ds.length ds.length] W fun e w' => e = .returned (.bool (stepB us ds cs E.length)) ∧ Below W.heap.size W w') := fun W q1 q2 => by
        have := specUse_any a cap us hu8 b cb ds hd6 HQ.out (cs.getD E.length zUs) h cp hnb w2.heap.size (w2.heap.size + 1) (tkB cs E.length) (spB cs E.length) W (HR.out.later q1) (HK.out.later q1) ((HRd.out.mono HE.out.base).later q2) (HT.out.of_block (q2.block _ HT.out.lt)) (HO.out.of_block (q2.block _ HO.out.lt))
        rwa [HSt.out] at this
      subst ha
      clear ia hRd HSt HCf
      generalize cs.getD E.length zUs = u at *
      generalize stepB us ds cs E.length = sb at *
      obtain ⟨dl, sv, ns⟩ := u
      dsimp only at *
      generalize hN : ns.length = n at *
      cases sb
      · have HC3 : Hid (pcode us ds cs = 3) := HXs.out rfl
        go_wp2_with fail
        (first | go_at_call 30 | skip)
        refine (HUse.out _ (chain HE.out.below (below_alloc _ _)) (below_alloc _ _)).mono ?_
        rintro e w4 ⟨rfl, hb4⟩
        have hb5 : Below wr.heap.size wr w4 := chain (below_alloc _ _) hb4
        have B4 : Hid (Below w.heap.size w w4) := chain HE.out.below hb5
        have R4 : Hid (w4.rowIs w.heap.size 29 3 (bgF 0 0 (.slice none 0 0))) := HZ.out.of_block (hb5.block _ HZ.out.lt)
        have z0 : w4.cell? ⟨w.heap.size, 0, none⟩ = some (.int .i64 0) := R4.out.cell (i := 0) (by omega)
        have z1 : w4.cell? ⟨w.heap.size, 1, none⟩ = some (.int .i64 0) := R4.out.cell (i := 1) (by omega)
        have z2 : w4.cell? ⟨w.heap.size, 2, none⟩ = some (.slice none 0 0) := R4.out.cell (i := 2) (by omega)
        have y0 := R4.out.frozen 0
        have y1 := R4.out.frozen 1
        have y2 := R4.out.frozen 2
        clear hb4 hb5 HUse
        go_wp2
        refine bodyPost_ret (v := .tuple #[.agg #[.int .i64 0, .int .i64 0, .slice none 0 0], .int .i64 3]) (by simp [results, Try.results12, go_sem, z0, z1, z2]) rfl ?_
        refine HNo.out 3 _ HC3.out (by omega) ?_
        repeat refine Below.setCell ?_ (by dsimp only; omega) _
        exact B4.out
      · have HFn : Hid (fitN us ds cs (E.length + 1) = true) := HNx.out rfl
        have hub := HUy.out rfl
        obtain ⟨⟨g1, g2⟩, gIn, gPs, gTv⟩ := HGk.out hub
        obtain ⟨_, _, hok⟩ := useB_yes hub
        dsimp only at g1 g2 gIn gPs gTv hok
        have HOk : Hid (okN us (dlAt ds dl) ns ns.length = true) := hok
        clear HXs HNx HUy HGk HNo hub hok
        obtain ⟨m, rfl⟩ : ∃ m : Nat, dl = (m : Int) := ⟨dl.toNat, by omega⟩
        have hmd : m < ds.length := by omega
        go_wp2_with fail
        (first | go_at_call 30 | skip)
        refine (HUse.out _ (chain HE.out.below (below_alloc _ _)) (below_alloc _ _)).mono ?_
        rintro e w4 ⟨rfl, hb4⟩
        have hb5 : Below wr.heap.size wr w4 := chain (below_alloc _ _) hb4
        have u0 : w4.cell? ⟨wr.heap.size, 0, none⟩ = some (.int .i64 (m : Int)) := (hb4.cell (p := ⟨wr.heap.size, 0, none⟩) (by simp)).trans (cellNew _ _ _ _ rfl rfl)
        have u2 : w4.cell? ⟨wr.heap.size, 2, none⟩ = some (.slice h n cp) := (hb4.cell (p := ⟨wr.heap.size, 2, none⟩) (by simp)).trans (cellNew _ _ _ _ rfl rfl)
        have hUw : wr.heap.size < w4.heap.size := Nat.lt_of_lt_of_le (by simp) hb4.size
        have hLU : w2.heap.size + 1 + 1 + 1 ≤ wr.heap.size := HP.out.lt
        have HE4 : Hid (RowE w.heap.size (w2.heap.size + 1 + 1) w.heap.size w w4 v E) := HE.out.later hb5
        have HP4 : Hid (w4.rowIs (w2.heap.size + 1 + 1) 29 3 (bgF (sumU us) (savN us ds cs E.length) v)) := HP.out.of_block (hb5.block _ HP.out.lt)
        have HZ4 : Hid (w4.rowIs w.heap.size 29 3 (bgF 0 0 (.slice none 0 0))) := HZ.out.of_block (hb5.block _ HZ.out.lt)
        have HT4 : Hid (w4.rowIs w2.heap.size 4 us.length (fun n => .bool (tkB cs E.length n))) := HT.out.of_block (hb5.block _ HT.out.lt)
        have HO4 : Hid (w4.rowIs (w2.heap.size + 1) 4 ds.length (fun n => .bool (spB cs E.length n))) := HO.out.of_block (hb5.block _ HO.out.lt)
        have HR4 : Hid (Reads w.heap.size w4 h ns) := HRd.out.below (hb5.mono HE.out.base)
        clear hb4 hb5 HUse HE HP HZ HT HO HRd c0 c1 c2
        generalize hUU : wr.heap.size = U at *
        clear hUU
        have s0 := HO4.out.cell (i := m) hmd
        have sf := HO4.out.frozen m
        have hm' : (m : Int) < (ds.length : Int) := by omega
        have HE5 : Hid (RowE w.heap.size (w2.heap.size + 1 + 1) w.heap.size w (w4.setCell ⟨w2.heap.size + 1, m, none⟩ (.bool true)) v E) := HE4.out.setLow HHi.out (by omega) (by omega) _ _
        have HP5 : Hid ((w4.setCell ⟨w2.heap.size + 1, m, none⟩ (.bool true)).rowIs (w2.heap.size + 1 + 1) 29 3 (bgF (sumU us) (savN us ds cs E.length) v)) := HP4.out.setOther (by dsimp only; omega) _
        have HZ5 : Hid ((w4.setCell ⟨w2.heap.size + 1, m, none⟩ (.bool true)).rowIs w.heap.size 29 3 (bgF 0 0 (.slice none 0 0))) := HZ4.out.setOther (by dsimp only; omega) _
        have HT5 : Hid ((w4.setCell ⟨w2.heap.size + 1, m, none⟩ (.bool true)).rowIs w2.heap.size 4 us.length (fun x => .bool (tkB cs E.length x || amB ns 0 x))) := (HT4.out.setOther (by dsimp only; omega) _).congr (fun x hx => by simp [amB])
        have HO5 : Hid ((w4.setCell ⟨w2.heap.size + 1, m, none⟩ (.bool true)).rowIs (w2.heap.size + 1) 4 ds.length (fun n => .bool (spB cs (E.length + 1) n))) := (HO4.out.set m (.bool true)).congr (fun x hx => by
          rw [HSn.out x]
          by_cases e : x = m
          · subst e; rw [if_pos rfl]; simp
          · rw [if_neg e]
            have : ((m : Int) == (x : Int)) = false := by simp; omega
            rw [this, Bool.or_false])
        have HR5 : Hid (Reads w.heap.size (w4.setCell ⟨w2.heap.size + 1, m, none⟩ (.bool true)) h ns) := HR4.out.below ((Below.refl w.heap.size w4).setCell (by dsimp only; omega) _)
        have HU5 : Hid ((w4.setCell ⟨w2.heap.size + 1, m, none⟩ (.bool true)).cell? ⟨U, 0, none⟩ = some (.int .i64 (m : Int)) ∧ (w4.setCell ⟨w2.heap.size + 1, m, none⟩ (.bool true)).cell? ⟨U, 2, none⟩ = some (.slice h n cp) ∧ U < (w4.setCell ⟨w2.heap.size + 1, m, none⟩ (.bool true)).heap.size) := ⟨(World.cell?_setCell_far _ _ _ _ (show w2.heap.size + 1 ≠ U by omega)).trans u0, (World.cell?_setCell_far _ _ _ _ (show w2.heap.size + 1 ≠ U by omega)).trans u2, by rw [World.size_setCell]; exact hUw⟩
        clear HE4 HP4 HZ4 HT4 HO4 HR4
        go_wp2
        generalize w4.setCell ⟨w2.heap.size + 1, m, none⟩ (.bool true) = W5 at *
        go_loopw [13] (fun c wq => ∃ j : Nat, j ≤ n ∧ c = .int .i64 (j : Int) ∧ RowE w.heap.size (w2.heap.size + 1 + 1) w.heap.size w wq v E ∧ wq.rowIs (w2.heap.size + 1 + 1) 29 3 (bgF (sumU us) (savN us ds cs E.length) v) ∧ wq.rowIs w.heap.size 29 3 (bgF 0 0 (.slice none 0 0)) ∧ wq.rowIs w2.heap.size 4 us.length (fun x => .bool (tkB cs E.length x || amB ns j x)) ∧ wq.rowIs (w2.heap.size + 1) 4 ds.length (fun n => .bool (spB cs (E.length + 1) n)) ∧ Reads w.heap.size wq h ns ∧ (wq.cell? ⟨U, 0, none⟩ = some (.int .i64 (m : Int)) ∧ wq.cell? ⟨U, 2, none⟩ = some (.slice h n cp) ∧ U < wq.heap.size)) (fun c _ => n - (intOf c).toNat)
        case atStart => exact ⟨0, Nat.zero_le _, rfl, HE5.out, HP5.out, HZ5.out, HT5.out, HO5.out, HR5.out, HU5.out⟩
        case round =>
          clear HE5 HP5 HZ5 HT5 HO5 HR5 HU5 u0 u2 s0 sf hUw
          obtain ⟨j, hj, rfl, h1, h2, h3, h4, h5, h6', h7⟩ := hrel
          have HE : Hid (RowE w.heap.size (w2.heap.size + 1 + 1) w.heap.size w wr v E) := h1
          have HP : Hid (wr.rowIs (w2.heap.size + 1 + 1) 29 3 (bgF (sumU us) (savN us ds cs E.length) v)) := h2
          have HZ : Hid (wr.rowIs w.heap.size 29 3 (bgF 0 0 (.slice none 0 0))) := h3
          have HT : Hid (wr.rowIs w2.heap.size 4 us.length (fun x => .bool (tkB cs E.length x || amB ns j x))) := h4
          have HO : Hid (wr.rowIs (w2.heap.size + 1) 4 ds.length (fun n => .bool (spB cs (E.length + 1) n))) := h5
          have HRd : Hid (Reads w.heap.size wr h ns) := h6'
          obtain ⟨u0, u2, hUw⟩ := h7
          clear h1 h2 h3 h4 h5 h6'
          by_cases hjn : j < n
          · have hjn' : (j : Int) < (n : Int) := by omega
            obtain ⟨x0, x1, _⟩ := okN_in HOk.out j (by omega)
            obtain ⟨q, hqe⟩ : ∃ q : Nat, ns.getD j 0 = (q : Int) := ⟨(ns.getD j 0).toNat, by omega⟩
            have hq : q < us.length := by omega
            have hq' : (q : Int) < (us.length : Int) := by omega
            have HAm : Hid (∀ x, amB ns (j + 1) x = (amB ns j x || ((q : Int) == (x : Int)))) := fun x => by rw [amB_next ns j x (by omega), hqe]
            have t0 := HT.out.cell (i := q) hq
            have f0 := HT.out.frozen q
            rcases HRd.out with hz | ⟨b2, o2, hb2, hB2, ic⟩
            · rw [hz] at hN; simp at hN; omega
            have d0 := ic j (by omega)
            rw [hqe] at d0
            subst hb2
            have X1 : Hid (RowE w.heap.size (w2.heap.size + 1 + 1) w.heap.size w (wr.setCell ⟨w2.heap.size, q, none⟩ (.bool true)) v E) := HE.out.setLow HHi.out (by omega) (by omega) _ _
            have X2 : Hid ((wr.setCell ⟨w2.heap.size, q, none⟩ (.bool true)).rowIs (w2.heap.size + 1 + 1) 29 3 (bgF (sumU us) (savN us ds cs E.length) v)) := HP.out.setOther (by dsimp only; omega) _
            have X3 : Hid ((wr.setCell ⟨w2.heap.size, q, none⟩ (.bool true)).rowIs w.heap.size 29 3 (bgF 0 0 (.slice none 0 0))) := HZ.out.setOther (by dsimp only; omega) _
            have X4 : Hid ((wr.setCell ⟨w2.heap.size, q, none⟩ (.bool true)).rowIs w2.heap.size 4 us.length (fun x => .bool (tkB cs E.length x || amB ns (j + 1) x))) := (HT.out.set q (.bool true)).congr (fun x hx => by
              rw [HAm.out x]
              by_cases e : x = q
              · subst e; rw [if_pos rfl]; simp
              · rw [if_neg e]
                have : ((q : Int) == (x : Int)) = false := by simp; omega
                rw [this, Bool.or_false])
            have X5 : Hid ((wr.setCell ⟨w2.heap.size, q, none⟩ (.bool true)).rowIs (w2.heap.size + 1) 4 ds.length (fun n => .bool (spB cs (E.length + 1) n))) := HO.out.setOther (by dsimp only; omega) _
            have X6 : Hid (Reads w.heap.size (wr.setCell ⟨w2.heap.size, q, none⟩ (.bool true)) (some ⟨b2, o2, none⟩) ns) := HRd.out.below ((Below.refl w.heap.size wr).setCell (by dsimp only; omega) _)
            have X7 : Hid ((wr.setCell ⟨w2.heap.size, q, none⟩ (.bool true)).cell? ⟨U, 0, none⟩ = some (.int .i64 (m : Int)) ∧ (wr.setCell ⟨w2.heap.size, q, none⟩ (.bool true)).cell? ⟨U, 2, none⟩ = some (.slice (some ⟨b2, o2, none⟩) n cp) ∧ U < (wr.setCell ⟨w2.heap.size, q, none⟩ (.bool true)).heap.size) := ⟨(World.cell?_setCell_far _ _ _ _ (show w2.heap.size ≠ U by omega)).trans u0, (World.cell?_setCell_far _ _ _ _ (show w2.heap.size ≠ U by omega)).trans u2, by rw [World.size_setCell]; exact hUw⟩
            clear HE HP HZ HT HO HRd ic x0 x1 hqe
            go_wp2
            go_roundw
            case rel => exact ⟨j + 1, by omega, by go_num, X1.out, X2.out, X3.out, X4.out, X5.out, X6.out, X7.out⟩
            case measure => simp [intOf]; omega
          · obtain rfl : j = n := by omega
            have HT' : Hid (wr.rowIs w2.heap.size 4 us.length (fun x => .bool (tkB cs (E.length + 1) x))) := HT.out.congr (fun x hx => by rw [HTn.out x])
            clear HT HTn HSn HOk hjn
            have hdm : dlAt ds (m : Int) = ds.getD m zDl := by unfold dlAt; rw [Int.toNat_natCast]
            have hns : 1 ≤ ns.length ∧ ns.length ≤ 4 := by have := gPs.1; rwa [List.length_map] at this
            have HTo : Hid (told us ds ⟨(m : Int), sv, ns⟩ = ⟨(m : Int), svB (ds.getD m zDl).kd (ds.getD m zDl).vl (ns.map (prAt us)), ns⟩) := by show _ = _; unfold told; dsimp only; rw [hdm]
            rw [hdm] at gTv
            have hvb := sv_bound gPs gTv
            rw [HTo.out] at HVn HMn
            dsimp only at HVn
            rcases HK.out with hz | ⟨b1, o1, hb1, hB1, ic⟩
            · rw [hz] at hmd; simp at hmd
            obtain ⟨h0, cq0, hAt, _, _⟩ := (ic.below HE.out.below hB1 (Nat.le_refl _)) m hmd
            subst hb1
            have HSv : Hid (∀ W, Below wr.heap.size wr W → Calls Try.prog 31 #[.slice a us.length cap, .agg #[.string (ds.getD m zDl).nm, .int .i64 (ds.getD m zDl).kd, .slice h0 (ds.getD m zDl).arts.length cq0, .int .i64 (ds.getD m zDl).nd, .int .i64 (ds.getD m zDl).vl, .bool (ds.getD m zDl).on], .slice h ns.length cp] W fun e w' => e = .returned (.int .i64 (svB (ds.getD m zDl).kd (ds.getD m zDl).vl (ns.map (prAt us)))) ∧ Below W.heap.size W w') := fun W q => specSaves_any a cap us hu8 (ds.getD m zDl) h0 cq0 h cp ns gIn gPs gTv W (HR.out.later (chain HE.out.below q)) ((HRd.out.mono HE.out.base).later q)
            rw [hN] at HSv hns
            clear ic gIn gPs gTv hdm HTo
            generalize svB (ds.getD m zDl).kd (ds.getD m zDl).vl (ns.map (prAt us)) = sx at *
            generalize ds.getD m zDl = d at *
            obtain ⟨nm, kd, arts, nd, vl, on⟩ := d
            obtain ⟨d0, d1, d2, d3, d4, d5⟩ := hAt
            dsimp only at d0 d1 d2 d3 d4 d5 HSv
            generalize arts.length = an at *
            have lt1 : b1 < wr.heap.size := Nat.lt_of_lt_of_le hB1 HE.out.base
            have D0 : Hid (Below wr.heap.size wr wr.drew) := (Below.refl _ _).drew
            go_wp2_with fail
            go_region_held3 (fun W => Below wr.heap.size wr W ∧ W.cell? ⟨U, 0, none⟩ = some (.int .i64 (m : Int)) ∧ W.cell? ⟨U, 2, none⟩ = some (.slice h j cp) ∧ W.cell? ⟨b1, o1 + m * 6, none⟩ = some (.string nm) ∧ W.cell? ⟨b1, o1 + m * 6 + 1, none⟩ = some (.int .i64 kd) ∧ W.cell? ⟨b1, o1 + m * 6 + 2, none⟩ = some (.slice h0 an cq0) ∧ W.cell? ⟨b1, o1 + m * 6 + 3, none⟩ = some (.int .i64 nd) ∧ W.cell? ⟨b1, o1 + m * 6 + 4, none⟩ = some (.int .i64 vl) ∧ W.cell? ⟨b1, o1 + m * 6 + 5, none⟩ = some (.bool on) ∧ b1 < W.heap.size ∧ U < W.heap.size) (first | exact ⟨Below.refl _ _, u0, u2, d0, d1, d2, d3, d4, d5, lt1, hUw⟩ | exact ⟨D0.out, u0, u2, d0, d1, d2, d3, d4, d5, lt1, hUw⟩ | exact keepB (by assumption) (by assumption)) (first | (go_at_call 31; refine (HSv.out _ (by first | assumption | exact D0.out | exact Below.refl _ _)).mono ?_; rintro e w6 ⟨rfl, hb6⟩))
            have hb7 : Below wr.heap.size wr w6 := by first | exact chain D0.out hb6 | exact hb6
            have v0 : w6.cell? ⟨U, 0, none⟩ = some (.int .i64 (m : Int)) := (hb7.cell (p := ⟨U, 0, none⟩) hUw).trans u0
            have v2 : w6.cell? ⟨U, 2, none⟩ = some (.slice h j cp) := (hb7.cell (p := ⟨U, 2, none⟩) hUw).trans u2
            have hU6 : U < w6.heap.size := Nat.lt_of_lt_of_le hUw hb7.size
            have HE6 : Hid (RowE w.heap.size (w2.heap.size + 1 + 1) w.heap.size w w6 v E) := HE.out.later hb7
            have HP6 : Hid (w6.rowIs (w2.heap.size + 1 + 1) 29 3 (bgF (sumU us) (savN us ds cs E.length) v)) := HP.out.of_block (hb7.block _ HP.out.lt)
            have HZ6 : Hid (w6.rowIs w.heap.size 29 3 (bgF 0 0 (.slice none 0 0))) := HZ.out.of_block (hb7.block _ HZ.out.lt)
            have HT6 : Hid (w6.rowIs w2.heap.size 4 us.length (fun x => .bool (tkB cs (E.length + 1) x))) := HT'.out.of_block (hb7.block _ HT'.out.lt)
            have HO6 : Hid (w6.rowIs (w2.heap.size + 1) 4 ds.length (fun n => .bool (spB cs (E.length + 1) n))) := HO.out.of_block (hb7.block _ HO.out.lt)
            have HR6 : Hid (Reads w.heap.size w6 h ns) := HRd.out.below (hb7.mono HE.out.base)
            clear hb6 hb7 HE HP HZ HT' HO HRd HSv D0 d0 d1 d2 d3 d4 d5 u0 u2 lt1
            have q1 : w6.cell? ⟨w2.heap.size + 1 + 1, 1, none⟩ = some (.int .i64 (savN us ds cs E.length)) := HP6.out.cell (i := 1) (by omega)
            have qf := HP6.out.frozen 1
            have hPU : w2.heap.size + 1 + 1 ≠ U := by omega
            have HW7 : Hid (∀ z : Int, RowE w.heap.size (w2.heap.size + 1 + 1) w.heap.size w (w6.setCell ⟨w2.heap.size + 1 + 1, 1, none⟩ (.int .i64 z)) v E ∧ (w6.setCell ⟨w2.heap.size + 1 + 1, 1, none⟩ (.int .i64 z)).rowIs (w2.heap.size + 1 + 1) 29 3 (bgF (sumU us) z v) ∧ (w6.setCell ⟨w2.heap.size + 1 + 1, 1, none⟩ (.int .i64 z)).rowIs w.heap.size 29 3 (bgF 0 0 (.slice none 0 0)) ∧ (w6.setCell ⟨w2.heap.size + 1 + 1, 1, none⟩ (.int .i64 z)).rowIs w2.heap.size 4 us.length (fun x => .bool (tkB cs (E.length + 1) x)) ∧ (w6.setCell ⟨w2.heap.size + 1 + 1, 1, none⟩ (.int .i64 z)).rowIs (w2.heap.size + 1) 4 ds.length (fun n => .bool (spB cs (E.length + 1) n)) ∧ Reads w.heap.size (w6.setCell ⟨w2.heap.size + 1 + 1, 1, none⟩ (.int .i64 z)) h ns ∧ ((w6.setCell ⟨w2.heap.size + 1 + 1, 1, none⟩ (.int .i64 z)).cell? ⟨U, 0, none⟩ = some (.int .i64 (m : Int)) ∧ (w6.setCell ⟨w2.heap.size + 1 + 1, 1, none⟩ (.int .i64 z)).cell? ⟨U, 2, none⟩ = some (.slice h j cp) ∧ U < (w6.setCell ⟨w2.heap.size + 1 + 1, 1, none⟩ (.int .i64 z)).heap.size)) := fun z => ⟨HE6.out.setP (by omega) _ _, bg_set1 HP6.out, HZ6.out.setOther (by dsimp only; omega) _, HT6.out.setOther (by dsimp only; omega) _, HO6.out.setOther (by dsimp only; omega) _, HR6.out.below ((Below.refl w.heap.size w6).setCell (by dsimp only; omega) _), (World.cell?_setCell_far _ _ _ _ hPU).trans v0, (World.cell?_setCell_far _ _ _ _ hPU).trans v2, by rw [World.size_setCell]; exact hU6⟩
            clear HE6 HP6 HZ6 HT6 HO6 HR6
            have hsv : 0 ≤ savN us ds cs E.length ∧ savN us ds cs E.length ≤ 400000000 * (E.length : Int) := savN_bound2 HGd.out HFt.out hk
            generalize savN us ds cs E.length = sn at *
            have hwr : IntKind.i64.wrap (sn + sx) = sn + sx := wrap_id _ (by omega) (by omega)
            go_wp2_with fail
            obtain ⟨h1, h2, h3, h4', h5', h6', u0, u2, hUw⟩ := HW7.out (sn + sx)
            have HE3 : Hid (RowE _ _ _ _ _ _ _) := h1
            have HP3 : Hid (World.rowIs _ _ _ _ _) := h2
            have HZ3 : Hid (World.rowIs _ _ _ _ _) := h3
            have HT3 : Hid (World.rowIs _ _ _ _ _) := h4'
            have HO3 : Hid (World.rowIs _ _ _ _ _) := h5'
            have HR3 : Hid (Reads _ _ _ _) := h6'
            clear h1 h2 h3 h4' h5' h6' HW7 q1 qf v0 v2 hU6
            generalize w6.setCell ⟨w2.heap.size + 1 + 1, 1, none⟩ (.int .i64 (sn + sx)) = W7 at *
            subst hN
            rcases HR3.out with hz | ⟨bh, oh, hhe, hBh, ih⟩
            · rw [hz] at hns; simp at hns
            subst hhe
            have p2 : W7.cell? ⟨w2.heap.size + 1 + 1, 2, none⟩ = some v := HP3.out.cell (i := 2) (by omega)
            have pf : W7.frozen? ⟨w2.heap.size + 1 + 1, 2, none⟩ = false := HP3.out.frozen 2
            have hPw : w2.heap.size + 1 + 1 < W7.heap.size := HP3.out.lt
            have hvP : v.ownBlock ≠ some (w2.heap.size + 1 + 1) := fun e => (HE3.out.own _ e).1 rfl
            obtain ⟨i0, hi0', hzz⟩ := Option.map_eq_some_iff.1 usInfo
            simp only [Prod.mk.injEq] at hzz
            obtain ⟨hi0, hi1, hi2⟩ := hzz
            obtain ⟨i1, hi1', hzz⟩ := Option.map_eq_some_iff.1 intInfo1
            simp only [Prod.mk.injEq] at hzz
            obtain ⟨hj0, hj1, hj2⟩ := hzz
            have H0 : Hid (One W7 W7.heap.size (.slice (some ⟨W7.heap.size, 0, none⟩) 0 0) [] (W7.alloc (Obj.cells #[] 3)).drew) := One.later (One.start W7 W7.heap.size rfl) (Below.refl _ _).drew
            have HNw : Hid (∀ j u, (ns.map (Value.int .i64))[j]? = some u → (W7.alloc (Obj.cells #[] 3)).drew.cell? ((⟨bh, oh, none⟩ : Addr).add j) = some u) := newsInts (ih.below (below_alloc _ _).drew (Nat.lt_of_lt_of_le hBh HE3.out.base))
            have p2a : ∀ o : Obj, (W7.alloc o).cell? ⟨w2.heap.size + 1 + 1, 2, none⟩ = some v := fun o => (cellOld _ _ hPw).trans p2
            have u0a : ∀ o : Obj, (W7.alloc o).cell? ⟨U, 0, none⟩ = some (.int .i64 (m : Int)) := fun o => (cellOld _ _ hUw).trans u0
            have u2a : ∀ o : Obj, (W7.alloc o).cell? ⟨U, 2, none⟩ = some (.slice (some ⟨bh, oh, none⟩) ns.length cp) := fun o => (cellOld _ _ hUw).trans u2
            clear ih HR3
            go_region_law (first | (refine step_append_lies _ (by rfl) _ _ _ (by rfl) w.heap.size 36 i0 _ 3 40 Try.underlying25 hi0' hi0 hi1 hi2 rfl (by omega) v E.length (E.flatMap cellsU) (by rfl) (HE4.out.later (below_alloc _ _)).row ⟨w8.heap.size, 0, none⟩ 1 1 [.int .i64 (m : Int), .int .i64 sx, .slice (some ⟨gc, 0, none⟩) ns.length cc] (by rfl) (by rfl) (World.news_of_block (cs := #[.int .i64 (m : Int), .int .i64 sx, .slice (some ⟨gc, 0, none⟩) ns.length cc]) (t := 36) (fr := (0, 0)) (heap_alloc_new w8 _)) (by simp [Value.oneCell']) (by omega) (by unfold maxLen; omega) (by omega) (by have := HE4.out.base; simp; omega) (w8.heap.size + 1) (by simp) ?_; intro g1 cp1 w9 hown hgrow hat hlt9; have p29 : w9.cell? ⟨w2.heap.size + 1 + 1, 2, none⟩ = some v := (World.cell?_of_block (a := ⟨w2.heap.size + 1 + 1, 2, none⟩) (hgrow.block (w2.heap.size + 1 + 1) (by have := hb8.size; simp; omega) (fun h => hvP h.symm))).trans ((cellOld _ _ (by have := hb8.size; omega)).trans p28); have pf9 : w9.frozen? ⟨w2.heap.size + 1 + 1, 2, none⟩ = false := (World.frozen?_of_block (a := ⟨w2.heap.size + 1 + 1, 2, none⟩) (hgrow.block (w2.heap.size + 1 + 1) (by have := hb8.size; simp; omega) (fun h => hvP h.symm))).trans (((below_alloc _ _).frozen (p := ⟨w2.heap.size + 1 + 1, 2, none⟩) (show w2.heap.size + 1 + 1 < w8.heap.size by have := hb8.size; omega)).trans pf8)) | (refine step_append_lies _ (by rfl) _ _ _ (by rfl) W7.heap.size 3 i1 _ 1 8 Try.underlying34 hi1' hj0 hj1 hj2 rfl (by omega) (.slice (some ⟨W7.heap.size, 0, none⟩) 0 0) 0 [] (by rfl) H0.out.1 ⟨bh, oh, none⟩ ns.length cp (ns.map (Value.int .i64)) (by rfl) (by simp) HNw.out (by intro u hu; obtain ⟨x, _, rfl⟩ := List.mem_map.mp hu; rfl) (by omega) (by unfold maxLen; omega) (by omega) H0.out.2.1 _ rfl ?_; intro gc cc w8 hownc hgrowc hatc hltc; obtain ⟨⟨hg1, hg2⟩, hcc, hci, hcf, hb8⟩ := clone_lies (One.pushAll H0.out hownc hgrowc) hns.1; have p28 : w8.cell? ⟨w2.heap.size + 1 + 1, 2, none⟩ = some v := (hb8.cell (p := ⟨w2.heap.size + 1 + 1, 2, none⟩) hPw).trans p2; have pf8 : w8.frozen? ⟨w2.heap.size + 1 + 1, 2, none⟩ = false := (hb8.frozen (p := ⟨w2.heap.size + 1 + 1, 2, none⟩) hPw).trans pf; have p28a : ∀ o : Obj, (w8.alloc o).cell? ⟨w2.heap.size + 1 + 1, 2, none⟩ = some v := fun o => (cellOld _ _ (by have := hb8.size; omega)).trans p28; have u08 : w8.cell? ⟨U, 0, none⟩ = some (.int .i64 (m : Int)) := (hb8.cell (p := ⟨U, 0, none⟩) hUw).trans u0; have u08a : ∀ o : Obj, (w8.alloc o).cell? ⟨U, 0, none⟩ = some (.int .i64 (m : Int)) := fun o => (cellOld _ _ (by have := hb8.size; omega)).trans u08; have HE4 : Hid (RowE w.heap.size (w2.heap.size + 1 + 1) w.heap.size w w8 v E) := HE3.out.later hb8; clear hownc hgrowc hatc hltc))
            all_goals
              obtain ⟨⟨x1, xh⟩, x2, x3, xr⟩ := bg_push2 (m := (m : Int)) (sx := sx) HE3.out HHi.out HP3.out HZ3.out (by omega) (by omega) (by omega) hb8 hg1 hg2 hcc hci hcf hown hgrow hat
              have X1 : Hid (RowE _ _ _ _ _ _ _) := x1
              have XH : Hid (HiE _ _ _) := xh
              have X2 : Hid (World.rowIs _ _ _ _ _) := x2
              have X3 : Hid (World.rowIs _ _ _ _ _) := x3
              have XT : Hid (World.rowIs _ _ _ _ _) := xr _ _ _ (by omega) (by omega) HT3.out
              have XO : Hid (World.rowIs _ _ _ _ _) := xr _ _ _ (by omega) (by omega) HO3.out
              clear x1 xh x2 x3 xr hown hgrow hat hlt9 p29 pf9 p28 pf8 p28a u08 u08a HE4 hb8 hg1 hg2 hcc hci hcf HE3 HP3 HZ3 HT3 HO3 p2 pf p2a u0a u2a u0 u2 H0 HNw HHi
              have HM2 : Hid ((E ++ [((⟨(m : Int), sx, ns⟩ : CUs), gc, cc)]).map (·.1) = (cs.take (E.length + 1)).map (told us ds)) := by show _ = _; rw [List.map_append, HEm.out, HMn.out]; rfl
              have HEl : Hid ((E ++ [((⟨(m : Int), sx, ns⟩ : CUs), gc, cc)]).length = E.length + 1) := by show _ = _; rw [List.length_append]; rfl
              generalize w9.setCell ⟨w2.heap.size + 1 + 1, 2, none⟩ (.slice (some ⟨g1, 0, none⟩) (E.length + 1) cp1) = W10 at *
              go_wp2
              exact ⟨⟨_, _, by rw [HEl.out]; omega, by rw [HEl.out]; go_num, by rw [HEl.out]; exact HFn.out, by rw [HEl.out]; exact HM2.out, X1.out, XH.out, by rw [HEl.out, HVn.out]; exact X2.out, X3.out, by rw [HEl.out]; exact XT.out, by rw [HEl.out]; exact XO.out⟩, by simp [intOf]; omega⟩
    · have hEc : E.length = cs.length := by omega
      have HC0 : Hid (pcode us ds cs = 0) := by show _ = _; rw [HCf.out]; unfold fitB; rw [← hEc, HFt.out]; rfl
      have HFit : Hid (fitB us ds cs = true) := by show fitN _ _ _ _ = _; rw [← hEc]; exact HFt.out
      have HGa : Hid (∀ u ∈ cs, Good us ds u) := fun u hu => by
        obtain ⟨i, hi, rfl⟩ := List.getElem_of_mem hu
        have hs := fitN_at HFit.out i hi
        unfold stepB at hs
        rw [Bool.and_eq_true] at hs
        have h3 := hs.1
        rw [show cs.getD i zUs = cs[i] by simp [List.getD_eq_getElem?_getD, hi]] at h3
        exact HGd.out _ h3
      obtain ⟨qa, cqa, hve⟩ : ∃ q cq, v = .slice q E.length cq := by
        rcases HE.out.row.2 with ⟨e1, e2⟩ | ⟨g', cap', cur, e1, _⟩
        · exact ⟨none, 0, by rw [e1, e2]⟩
        · exact ⟨_, _, e1⟩
      subst hve
      have hsv := savN_bound HGa.out E.length hk
      have hsb := sumN_bound HUp.out us.length
      rw [show ((us.take us.length).map (·.pr)).sum = sumU us by rw [List.take_length]; rfl] at hsb
      have HSs : Hid (savN us ds cs E.length = savS us ds cs) := by show _ = _; unfold savN savS; rw [hEc, List.take_length]
      have HMm : Hid (E.map (·.1) = cs.map (told us ds)) := by have := HEm.out; rwa [hEc, List.take_length] at this
      rw [HSs.out] at HP hsv
      clear HSs HEm
      have p0 : wr.cell? ⟨w2.heap.size + 1 + 1, 0, none⟩ = some (.int .i64 (sumU us)) := HP.out.cell (i := 0) (by omega)
      have p1 : wr.cell? ⟨w2.heap.size + 1 + 1, 1, none⟩ = some (.int .i64 (savS us ds cs)) := HP.out.cell (i := 1) (by omega)
      have p2 : wr.cell? ⟨w2.heap.size + 1 + 1, 2, none⟩ = some (.slice qa E.length cqa) := HP.out.cell (i := 2) (by omega)
      have f0 := HP.out.frozen 0
      have z0 : wr.cell? ⟨w.heap.size, 0, none⟩ = some (.int .i64 0) := HZ.out.cell (i := 0) (by omega)
      have z1 : wr.cell? ⟨w.heap.size, 1, none⟩ = some (.int .i64 0) := HZ.out.cell (i := 1) (by omega)
      have z2 : wr.cell? ⟨w.heap.size, 2, none⟩ = some (.slice none 0 0) := HZ.out.cell (i := 2) (by omega)
      have y0 := HZ.out.frozen 0
      have y1 := HZ.out.frozen 1
      have y2 := HZ.out.frozen 2
      have hPRa : w2.heap.size + 1 + 1 ≠ w.heap.size := by omega
      have HFn : Hid (∀ x v0 v1 v2, RowE w.heap.size (w2.heap.size + 1 + 1) w.heap.size w ((((wr.setCell ⟨w2.heap.size + 1 + 1, 0, none⟩ x).setCell ⟨w.heap.size, 0, none⟩ v0).setCell ⟨w.heap.size, 1, none⟩ v1).setCell ⟨w.heap.size, 2, none⟩ v2) (.slice qa E.length cqa) E) := fun x v0 v1 v2 => (((HE.out.setP (by omega) 0 x).setR (Nat.le_refl _) 0 v0).setR (Nat.le_refl _) 1 v1).setR (Nat.le_refl _) 2 v2
      have HYe : Hid (∀ w', OwnUs w.heap.size w' qa (cs.map (told us ds)) → Below w.heap.size w w' → AnsP us ds cs w (.returned (.tuple #[.agg #[.int .i64 (sumU us - savS us ds cs), .int .i64 (savS us ds cs), .slice qa cs.length cqa], .int .i64 0])) w') := fun w' h1 h2 => ansSome HC0.out h1 h2
      rw [← hEc] at HYe
      clear HE HP HZ HT HO HHi HNo HCf
      have hle2 : (cs.length : Int) ≤ (E.length : Int) := by omega
      clear hEc
      generalize savS us ds cs = sx at *
      generalize sumU us = tx at *
      have hwr : IntKind.i64.wrap (tx - sx) = tx - sx := wrap_id _ (by omega) (by omega)
      go_wp2
      refine bodyPost_ret (v := .tuple #[.agg #[.int .i64 (tx - sx), .int .i64 sx, .slice qa E.length cqa], .int .i64 0]) (by simp [results, Try.results12, go_sem, z0, z1, z2]) rfl ?_
      have hF := HFn.out (.int .i64 (tx - sx)) (.int .i64 (tx - sx)) (.int .i64 sx) (.slice qa E.length cqa)
      have hOo := hF.ownUs rfl
      rw [HMm.out] at hOo
      exact HYe.out _ hOo hF.below

end Go.Proofs.Ytkfmifbffgbiiaa
