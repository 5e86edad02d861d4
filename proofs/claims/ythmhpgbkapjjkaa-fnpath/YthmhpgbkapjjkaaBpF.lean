/-
  The specification's search for the shortest way in memory.
-/
import Derived.Test.YthmhpgbkapjjkaaBpE
import Derived.Laws.BitsLemmas
namespace Go.Proofs.Ythmhpgbkapjjkaa
open Go.ChangeShapes Go.WideShapes Go.ChangeAt Go.RowKit Go.Joins Go.Deep
set_option linter.unusedVariables false

theorem wrapsI (n : Int) (h₀ : 0 ≤ n) (h₁ : n < 2 ^ 63) : IntKind.i64.wrap n = n := wrap_id _ (by omega) (by omega)
theorem orI (a b : Nat) (ha : a < 65536) (hb : b < 65536) : bits .or .i64 (a : Int) (b : Int) = ((a ||| b : Nat) : Int) := (bits_nat .i64 63 (by decide) wrapsI a b (by omega) (by omega)).2
theorem andI (a b : Nat) (ha : a < 65536) (hb : b < 65536) : bits .and .i64 (a : Int) (b : Int) = ((a &&& b : Nat) : Int) := (bits_nat .i64 63 (by decide) wrapsI a b (by omega) (by omega)).1
theorem powI (x : Nat) (h : x ≤ 9) : wrap64 ((2 : Int) ^ x) = ((2 ^ x : Nat) : Int) := by
  rcases (by omega : x = 0 ∨ x = 1 ∨ x = 2 ∨ x = 3 ∨ x = 4 ∨ x = 5 ∨ x = 6 ∨ x = 7 ∨ x = 8 ∨ x = 9) with rfl | rfl | rfl | rfl | rfl | rfl | rfl | rfl | rfl | rfl <;> first | decide | kernel_rfl
theorem pow_le {x : Nat} (h : x ≤ 9) : 2 ^ x ≤ 512 := Nat.pow_le_pow_right (n := 2) (by omega) h
/-- mask>>k&1. -/
theorem shr_bit (mask k : Nat) (hm : mask < 65536) : bits .and .i64 ((mask : Int) / 2 ^ k) 1 = ((if mask.testBit k = true then 1 else 0 : Nat) : Int) := by
  have e : ((mask : Int) / 2 ^ k) = ((mask / 2 ^ k : Nat) : Int) := by simp
  have hl : mask / 2 ^ k < 65536 := Nat.lt_of_le_of_lt (Nat.div_le_self _ _) hm
  have h := andI (mask / 2 ^ k) 1 hl (by omega)
  have e1 : mask / 2 ^ k &&& 1 = if mask.testBit k = true then 1 else 0 := by
    unfold Nat.testBit
    rw [Nat.shiftRight_eq_div_pow, Nat.and_one_is_mod, Nat.and_comm, Nat.and_one_is_mod]
    rcases Nat.mod_two_eq_zero_or_one (mask / 2 ^ k) with h | h <;> simp [h]
  rw [e, ← e1, ← h]
  rfl
/-- The search in block sb, its memo in block mb. -/
structure LsI (sb mb : Nat) (a p g : Int) (ad : Option Addr) (cap : Nat) (rs : List RPt) (ms : List Int) (w0 W : World) : Prop where
  se : W.heap[sb]? = some (.cells #[.int .i64 a, .int .i64 p, .int .i64 g, .slice ad rs.length cap, .slice (some ⟨mb, 0, none⟩) ms.length ms.length] 83 (0, 0))
  me : W.heap[mb]? = some (.cells (inV ms).toArray 3 (0, 0))
  ok : MeOK p g rs ms
  low : Below w0.heap.size w0 W
section
variable {sb mb : Nat} {a p g : Int} {ad : Option Addr} {cap : Nat} {rs : List RPt} {ms : List Int} {w0 W W' : World}
theorem LsI.later (h : LsI sb mb a p g ad cap rs ms w0 W) (hb : Below W.heap.size W W') : LsI sb mb a p g ad cap rs ms w0 W' :=
  ⟨(hb.block sb (blkLt h.se)).trans h.se, (hb.block mb (blkLt h.me)).trans h.me, h.ok, chain h.low hb⟩
theorem LsI.cells (h : LsI sb mb a p g ad cap rs ms w0 W) : W.cell? ⟨sb, 0, none⟩ = some (.int .i64 a) ∧ W.cell? ⟨sb, 1, none⟩ = some (.int .i64 p) ∧ W.cell? ⟨sb, 2, none⟩ = some (.int .i64 g) ∧ W.cell? ⟨sb, 3, none⟩ = some (.slice ad rs.length cap) ∧ W.cell? ⟨sb, 4, none⟩ = some (.slice (some ⟨mb, 0, none⟩) ms.length ms.length) :=
  ⟨blkCell h.se 0 _ rfl, blkCell h.se 1 _ rfl, blkCell h.se 2 _ rfl, blkCell h.se 3 _ rfl, blkCell h.se 4 _ rfl⟩
theorem LsI.two (h : LsI sb mb a p g ad cap rs ms w0 W) : sb ≠ mb := by
  intro e
  have := h.se
  rw [e, h.me] at this
  simp at this
theorem LsI.memo (h : LsI sb mb a p g ad cap rs ms w0 W) {k : Nat} (hk : k < ms.length) : W.cell? ⟨mb, k, none⟩ = some (.int .i64 (ms.getD k 0)) ∧ W.frozen? ⟨mb, k, none⟩ = false :=
  ⟨blkCell h.me k _ (by simp [inV, hk, List.getD_eq_getElem?_getD]), blkFree h.me k⟩
theorem LsI.put (h : LsI sb mb a p g ad cap rs ms w0 W) (hmb : w0.heap.size ≤ mb) {mask last : Nat} (hm : mask < 2 ^ rs.length) (hl : last ≤ rs.length) : LsI sb mb a p g ad cap rs (ms.set (ixN rs.length mask last) (lvN p g rs mask (rs.getD last zPt))) w0 (W.setCell ⟨mb, ixN rs.length mask last, none⟩ (.int .i64 (lvN p g rs mask (rs.getD last zPt)))) := by
  have e1 := heap_setCell_same W mb (ixN rs.length mask last) _ _ (.int .i64 (lvN p g rs mask (rs.getD last zPt))) h.me
  refine ⟨?_, ?_, h.ok.put hm hl, h.low.setCell (p := ⟨mb, ixN rs.length mask last, none⟩) hmb _⟩
  · rw [List.length_set]
    exact (heap_setCell_other _ _ _ _ h.two).trans h.se
  · rw [e1]
    simp [inV, List.map_set]
end
/-- What least leaves. -/
def LeQ (sb mb : Nat) (a p g : Int) (ad : Option Addr) (cap : Nat) (rs : List RPt) (w0 W : World) (v : Int) (e : Ending) (w' : World) : Prop :=
  e = .returned (.int .i64 v) ∧ (∃ ms, LsI sb mb a p g ad cap rs ms w0 w') ∧ Fr (fun x => x = mb) W w'
/-- In the midst of least: the box ab with the spot where one stands. -/
structure LeI (sb mb ab : Nat) (a p g : Int) (ad : Option Addr) (cap : Nat) (rs : List RPt) (q : RPt) (w0 W wr : World) : Prop where
  ls : ∃ ms, LsI sb mb a p g ad cap rs ms w0 wr
  box : wr.heap[ab]? = some (.cells #[.int .i64 q.ai, .int .i64 q.pl] 35 (0, 0))
  fr : Fr (fun x => x = mb) W wr
section
variable {sb mb ab : Nat} {a p g : Int} {ad : Option Addr} {cap : Nat} {rs : List RPt} {q : RPt} {w0 W wr w' : World} {ms : List Int}
theorem LeI.later (h : LeI sb mb ab a p g ad cap rs q w0 W wr) (hb : Below wr.heap.size wr w') : LeI sb mb ab a p g ad cap rs q w0 W w' := by
  obtain ⟨ms, h1⟩ := h.ls
  exact ⟨⟨ms, h1.later hb⟩, (hb.block ab (blkLt h.box)).trans h.box, h.fr.trans (Fr.of hb)⟩
theorem LeI.bx (h : LeI sb mb ab a p g ad cap rs q w0 W wr) : wr.cell? ⟨ab, 0, none⟩ = some (.int .i64 q.ai) ∧ wr.cell? ⟨ab, 1, none⟩ = some (.int .i64 q.pl) := ⟨blkCell h.box 0 _ rfl, blkCell h.box 1 _ rfl⟩
theorem LeI.sc (h : LeI sb mb ab a p g ad cap rs q w0 W wr) : wr.cell? ⟨sb, 0, none⟩ = some (.int .i64 a) ∧ wr.cell? ⟨sb, 1, none⟩ = some (.int .i64 p) ∧ wr.cell? ⟨sb, 2, none⟩ = some (.int .i64 g) ∧ wr.cell? ⟨sb, 3, none⟩ = some (.slice ad rs.length cap) := by
  obtain ⟨ms, h1⟩ := h.ls
  obtain ⟨c0, c1, c2, c3, c4⟩ := h1.cells
  exact ⟨c0, c1, c2, c3⟩
theorem LeI.start (h : LsI sb mb a p g ad cap rs ms w0 W) (q : RPt) : LeI sb mb W.heap.size a p g ad cap rs q w0 W (W.alloc (Obj.cells #[.int .i64 q.ai, .int .i64 q.pl] 35)) :=
  ⟨⟨ms, h.later (below_alloc _ _)⟩, heapNew _ _, Fr.of (below_alloc _ _)⟩
/-- Behind a deeper call. -/
theorem LeI.deep {e : Ending} {v : Int} (h : LeI sb mb ab a p g ad cap rs q w0 W wr) (hq : LeQ sb mb a p g ad cap rs w0 wr v e w') : e = .returned (.int .i64 v) ∧ LeI sb mb ab a p g ad cap rs q w0 W w' := by
  obtain ⟨h1, h2, h3⟩ := hq
  refine ⟨h1, h2, (h3.block ab (blkLt h.box) (fun e => ?_)).trans h.box, h.fr.trans h3⟩
  obtain ⟨ms, k⟩ := h.ls
  have := h.box
  have e : ab = mb := e
  rw [e, k.me] at this
  simp at this
theorem LeI.set (h : LeI sb mb ab a p g ad cap rs q w0 W wr) (ha : W.heap.size ≤ ab) (hw : w0.heap.size ≤ W.heap.size) (r : RPt) : LeI sb mb ab a p g ad cap rs r w0 W ((wr.setCell ⟨ab, 0, none⟩ (.int .i64 r.ai)).setCell ⟨ab, 1, none⟩ (.int .i64 r.pl)) := by
  obtain ⟨ms, k⟩ := h.ls
  obtain ⟨e1, e2⟩ := set_two h.box (.int .i64 r.ai) (.int .i64 r.pl)
  have n1 : sb ≠ ab := fun e => by
    have := k.se
    rw [e, h.box] at this
    simp at this
  have n2 : mb ≠ ab := fun e => by
    have := k.me
    rw [e, h.box] at this
    simp at this
  exact ⟨⟨ms, (e2 sb n1).trans k.se, (e2 mb n2).trans k.me, k.ok, (k.low.setCell (p := ⟨ab, 0, none⟩) (Nat.le_trans hw ha) _).setCell (p := ⟨ab, 1, none⟩) (Nat.le_trans hw ha) _⟩, e1, (h.fr.setNew ha 0 _).setNew ha 1 _⟩
theorem LeI.fin (h : LeI sb mb ab a p g ad cap rs q w0 W wr) (v : Int) : LeQ sb mb a p g ad cap rs w0 W v (.returned (.int .i64 v)) wr := ⟨rfl, h.ls, h.fr⟩
end
set_option maxHeartbeats 8000000 in
set_option maxRecDepth 4000 in
theorem least_zero (sb mb : Nat) (a p g : Int) (ad : Option Addr) (cap : Nat) (rs : List RPt) (hh : hlB a p g = true) (hs : spsB a p rs = true) (h9 : rs.length ≤ 9) (w0 : World) (hr0 : ReadsPt w0.heap.size w0 ad rs) (hmb : w0.heap.size ≤ mb) : ∀ (mask last : Nat) (ms : List Int) (W : World), (msL mask rs.length).length = 0 → mask < 2 ^ rs.length → last ≤ rs.length → LsI sb mb a p g ad cap rs ms w0 W →
    Calls Try.prog 43 #[.pointer (some ⟨sb, 0, none⟩), .int .i64 (mask : Int), .int .i64 (last : Int)] W (LeQ sb mb a p g ad cap rs w0 W (lvN p g rs mask (rs.getD last zPt))) := by
  intro mask last ms W hk hm hla hI0
  have hp9 := pow_le h9
  have hpw := powI rs.length h9
  have HPn : Hid (mask < 2 ^ rs.length ∧ 2 ^ rs.length ≤ 512) := ⟨hm, hp9⟩
  have hnil : msL mask rs.length = [] := List.length_eq_zero_iff.1 hk
  have hmN := (ms_nil hm).1 hnil
  have HLv : Hid (∀ q, lvN p g rs mask q = farN p g q zPt) := fun q => lv_end hnil
  generalize 2 ^ rs.length = N at hp9 hpw hm hmN
  have heq : ((mask : Int) == (N : Int) - 1) = true := by rw [beq_iff_eq]; omega
  have hsub : wrap64 ((N : Int) - 1) = (N : Int) - 1 := by unfold wrap64; omega
  have HQ : Hid (spB a p (rs.getD last zPt) = true) := sp_get hh hs last
  obtain ⟨q, hq⟩ : ∃ q, q = rs.getD last zPt := ⟨_, rfl⟩
  have HFz : Hid (∀ W, Calls Try.prog 42 #[.agg #[.int .i64 a, .int .i64 p, .int .i64 g], .agg #[.int .i64 q.ai, .int .i64 q.pl], .agg #[.int .i64 0, .int .i64 0]] W fun e w' => e = .returned (.int .i64 (farN p g q zPt)) ∧ Below W.heap.size W w') := fun W => specFar_any a p g q.ai q.pl 0 0 hh (by rw [hq]; exact HQ.out) (sp_z hh) W
  obtain ⟨f0, f1, f2, f3, f4⟩ := hI0.cells
  have HQq : Hid (q = rs.getD last zPt) := hq
  rw [← hq]
  have HW0 : Hid (w0.heap.size ≤ W.heap.size) := hI0.low.size
  have HI1 := LeI.start hI0 zPt
  have HX : Hid (∀ b0 o0, ad = some ⟨b0, o0, none⟩ → b0 < w0.heap.size → PtsAt w0 b0 o0 rs → last < rs.length → ∀ W', Below W.heap.size W W' → W'.cell? ⟨b0, o0 + last * 2, none⟩ = some (.int .i64 q.ai) ∧ W'.cell? ⟨b0, o0 + last * 2 + 1, none⟩ = some (.int .i64 q.pl)) := fun b0 o0 _ hB0 ia hl W' hW' => by
    have := (ia last hl).below (chain hI0.low hW') hB0
    rw [← hq] at this
    exact this
  have HI0 : Hid (LsI sb mb a p g ad cap rs ms w0 W) := hI0
  clear hI0 hq
  go_enter Try.func43, Try.ntmps43
  go_upto_region 3 with fail
  obtain ⟨ab, hab⟩ : ∃ ab, ab = W.heap.size := ⟨_, rfl⟩
  obtain ⟨W1, hW1⟩ : ∃ W1, W1 = W.alloc (Obj.cells #[.int .i64 0, .int .i64 0] 35) := ⟨_, rfl⟩
  have HB1 : Hid (Below W.heap.size W W1 ∧ W.heap.size ≤ ab) := by rw [hW1, hab]; exact ⟨below_alloc _ _, Nat.le_refl _⟩
  have HI2 : Hid (LeI sb mb ab a p g ad cap rs zPt w0 W W1) := by rw [hW1, hab]; exact HI1
  rw [← hW1, ← hab]
  clear f0 f1 f2 f3 f4 HI1 hW1 hab
  obtain ⟨f0, f1, f2, f3⟩ := HI2.out.sc
  by_cases hlt : last < rs.length
  · have hlt' : (last : Int) < (rs.length : Int) := by omega
    rcases hr0 with h | ⟨b0, o0, ha, hB0, ia⟩
    · rw [h] at hlt; simp at hlt
    obtain ⟨x0, x1⟩ := HX.out b0 o0 ha hB0 ia hlt W1 HB1.out.1
    subst ha
    have y0 := blkCell HI2.out.box 0 _ rfl
    have y1 := blkCell HI2.out.box 1 _ rfl
    have y2 := blkFree HI2.out.box 0
    have y3 := blkFree HI2.out.box 1
    have HI3 := HI2.out.set HB1.out.2 HW0.out q
    have HI4 : Hid (LeI sb mb ab a p g (some ⟨b0, o0, none⟩) cap rs q w0 W ((W1.setCell ⟨ab, 0, none⟩ (.int .i64 q.ai)).setCell ⟨ab, 1, none⟩ (.int .i64 q.pl))) := HI3
    clear HI3 ia HX
    obtain ⟨W5, hW5⟩ : ∃ W5, W5 = (W1.setCell ⟨ab, 0, none⟩ (.int .i64 q.ai)).setCell ⟨ab, 1, none⟩ (.int .i64 q.pl) := ⟨_, rfl⟩
    go_upto_region 5 with fail
    rw [← hW5] at HI4 ⊢
    clear hW5 f0 f1 f2 f3 x0 x1 y0 y1 y2 y3 HI2 HB1
    go_upto_region 6 with fail
    refine wp_region_held_drew (S := fun W' => Below W5.heap.size W5 W') (by kernel_rfl) (below_drew _) (fun hH => ?_)
    refine wpAnyH_take (i := 0) (v := .pointer (some ⟨sb, 0, none⟩)) rfl (by kernel_rfl) (by kernel_rfl) (by kernel_rfl) (fun _ _ _ h => h) (Or.inl ⟨by rfl, fun w hSw => by clear hSw; go_simp⟩) hH ?_
    refine wpAnyH_take (i := 1) (v := .pointer (some ⟨sb, 0, none⟩)) rfl (by kernel_rfl) (by kernel_rfl) (by kernel_rfl) (fun _ _ _ h => h) (Or.inl ⟨by rfl, fun w hSw => by clear hSw; go_simp⟩) hH ?_
    try simp only [Act.put, List.setIfInBounds_toArray, List.set_cons_zero, List.set_cons_succ, List.getElem_toArray, List.getElem_cons_succ, List.getElem_cons_zero]
    refine wpAnyH_take (i := 2) (v := .pointer (some ⟨sb, 0, none⟩)) rfl (by kernel_rfl) (by kernel_rfl) (by kernel_rfl) (fun _ _ _ h => h) (Or.inl ⟨by rfl, fun w hSw => by clear hSw; go_simp⟩) hH ?_
    try simp only [Act.put, List.setIfInBounds_toArray, List.set_cons_zero, List.set_cons_succ, List.getElem_toArray, List.getElem_cons_succ, List.getElem_cons_zero]
    refine wpAnyH_take (i := 3) (v := .agg #[.int .i64 a, .int .i64 p, .int .i64 g]) rfl (by kernel_rfl) (by kernel_rfl) (by kernel_rfl) (fun _ _ _ h => h) (Or.inl ⟨by rfl, fun w hSw => by obtain ⟨f0, f1, f2, f3⟩ := (HI4.out.later hSw).sc; clear hSw; go_simp⟩) hH ?_
    try simp only [Act.put, List.setIfInBounds_toArray, List.set_cons_zero, List.set_cons_succ, List.getElem_toArray, List.getElem_cons_succ, List.getElem_cons_zero]
    refine wpAnyH_take (i := 4) (v := .agg #[.int .i64 q.ai, .int .i64 q.pl]) rfl (by kernel_rfl) (by kernel_rfl) (by kernel_rfl) (fun _ _ _ h => h) (Or.inl ⟨by rfl, fun w hSw => by obtain ⟨f0, f1⟩ := (HI4.out.later hSw).bx; clear hSw; go_simp⟩) hH ?_
    try simp only [Act.put, List.setIfInBounds_toArray, List.set_cons_zero, List.set_cons_succ, List.getElem_toArray, List.getElem_cons_succ, List.getElem_cons_zero]
    refine wpAnyH_take (i := 5) (v := .agg #[.int .i64 0, .int .i64 0]) rfl (by kernel_rfl) (by kernel_rfl) (by kernel_rfl) (fun _ _ _ h => h) (Or.inl ⟨by rfl, fun w hSw => by clear hSw; go_simp⟩) hH ?_
    try simp only [Act.put, List.setIfInBounds_toArray, List.set_cons_zero, List.set_cons_succ, List.getElem_toArray, List.getElem_cons_succ, List.getElem_cons_zero]
    refine wpAnyH_ready (rs := [6]) (by kernel_rfl) (by simp) ?_
    refine AllReadyH.cons rfl (fun K hK => ?_) AllReadyH.nil
    go_simp
    go_at_call 42
    refine (HFz.out _).mono ?_
    rintro e w6 ⟨rfl, hb6⟩
    have B6 : Hid (Below W5.heap.size W5 w6) := chain (below_drew _) hb6
    clear hb6
    refine hK.out _ _ B6.out (fun _ => ?_)
    clear hK K
    try simp only [Act.put, List.setIfInBounds_toArray, List.set_cons_zero, List.set_cons_succ, List.getElem_toArray, List.getElem_cons_succ, List.getElem_cons_zero]
    refine wpAnyH_take (i := 7) (v := .int .i64 (farN p g q zPt)) rfl (by kernel_rfl) (by kernel_rfl) (by kernel_rfl) (fun _ _ _ h => h) (Or.inl ⟨by rfl, fun w hSw => by clear hSw; go_simp⟩) B6.out ?_
    try simp only [Act.put, List.setIfInBounds_toArray, List.set_cons_zero, List.set_cons_succ, List.getElem_toArray, List.getElem_cons_succ, List.getElem_cons_zero]
    refine wpAnyH_done (by kernel_rfl) ?_ _
    clear hH
    go_wp2
    go_ret
    rw [HLv.out]
    exact (HI4.out.later B6.out).fin _
  · have hle : (rs.length : Int) ≤ (last : Int) := by omega
    have HQz : Hid (q = zPt) := by
      rw [HQq.out]
      show _ = _
      rw [List.getD_eq_getElem?_getD, List.getElem?_eq_none (by omega)]
      rfl
    have HI4 : Hid (LeI sb mb ab a p g ad cap rs q w0 W W1) := by rw [HQz.out]; exact HI2.out
    go_upto_region 5 with fail
    clear f0 f1 f2 f3 HI2 HB1
    generalize W1 = W5 at *
    go_upto_region 6 with fail
    refine wp_region_held_drew (S := fun W' => Below W5.heap.size W5 W') (by kernel_rfl) (below_drew _) (fun hH => ?_)
    refine wpAnyH_take (i := 0) (v := .pointer (some ⟨sb, 0, none⟩)) rfl (by kernel_rfl) (by kernel_rfl) (by kernel_rfl) (fun _ _ _ h => h) (Or.inl ⟨by rfl, fun w hSw => by clear hSw; go_simp⟩) hH ?_
    refine wpAnyH_take (i := 1) (v := .pointer (some ⟨sb, 0, none⟩)) rfl (by kernel_rfl) (by kernel_rfl) (by kernel_rfl) (fun _ _ _ h => h) (Or.inl ⟨by rfl, fun w hSw => by clear hSw; go_simp⟩) hH ?_
    try simp only [Act.put, List.setIfInBounds_toArray, List.set_cons_zero, List.set_cons_succ, List.getElem_toArray, List.getElem_cons_succ, List.getElem_cons_zero]
    refine wpAnyH_take (i := 2) (v := .pointer (some ⟨sb, 0, none⟩)) rfl (by kernel_rfl) (by kernel_rfl) (by kernel_rfl) (fun _ _ _ h => h) (Or.inl ⟨by rfl, fun w hSw => by clear hSw; go_simp⟩) hH ?_
    try simp only [Act.put, List.setIfInBounds_toArray, List.set_cons_zero, List.set_cons_succ, List.getElem_toArray, List.getElem_cons_succ, List.getElem_cons_zero]
    refine wpAnyH_take (i := 3) (v := .agg #[.int .i64 a, .int .i64 p, .int .i64 g]) rfl (by kernel_rfl) (by kernel_rfl) (by kernel_rfl) (fun _ _ _ h => h) (Or.inl ⟨by rfl, fun w hSw => by obtain ⟨f0, f1, f2, f3⟩ := (HI4.out.later hSw).sc; clear hSw; go_simp⟩) hH ?_
    try simp only [Act.put, List.setIfInBounds_toArray, List.set_cons_zero, List.set_cons_succ, List.getElem_toArray, List.getElem_cons_succ, List.getElem_cons_zero]
    refine wpAnyH_take (i := 4) (v := .agg #[.int .i64 q.ai, .int .i64 q.pl]) rfl (by kernel_rfl) (by kernel_rfl) (by kernel_rfl) (fun _ _ _ h => h) (Or.inl ⟨by rfl, fun w hSw => by obtain ⟨f0, f1⟩ := (HI4.out.later hSw).bx; clear hSw; go_simp⟩) hH ?_
    try simp only [Act.put, List.setIfInBounds_toArray, List.set_cons_zero, List.set_cons_succ, List.getElem_toArray, List.getElem_cons_succ, List.getElem_cons_zero]
    refine wpAnyH_take (i := 5) (v := .agg #[.int .i64 0, .int .i64 0]) rfl (by kernel_rfl) (by kernel_rfl) (by kernel_rfl) (fun _ _ _ h => h) (Or.inl ⟨by rfl, fun w hSw => by clear hSw; go_simp⟩) hH ?_
    try simp only [Act.put, List.setIfInBounds_toArray, List.set_cons_zero, List.set_cons_succ, List.getElem_toArray, List.getElem_cons_succ, List.getElem_cons_zero]
    refine wpAnyH_ready (rs := [6]) (by kernel_rfl) (by simp) ?_
    refine AllReadyH.cons rfl (fun K hK => ?_) AllReadyH.nil
    go_simp
    go_at_call 42
    refine (HFz.out _).mono ?_
    rintro e w6 ⟨rfl, hb6⟩
    have B6 : Hid (Below W5.heap.size W5 w6) := chain (below_drew _) hb6
    clear hb6
    refine hK.out _ _ B6.out (fun _ => ?_)
    clear hK K
    try simp only [Act.put, List.setIfInBounds_toArray, List.set_cons_zero, List.set_cons_succ, List.getElem_toArray, List.getElem_cons_succ, List.getElem_cons_zero]
    refine wpAnyH_take (i := 7) (v := .int .i64 (farN p g q zPt)) rfl (by kernel_rfl) (by kernel_rfl) (by kernel_rfl) (fun _ _ _ h => h) (Or.inl ⟨by rfl, fun w hSw => by clear hSw; go_simp⟩) B6.out ?_
    try simp only [Act.put, List.setIfInBounds_toArray, List.set_cons_zero, List.set_cons_succ, List.getElem_toArray, List.getElem_cons_succ, List.getElem_cons_zero]
    refine wpAnyH_done (by kernel_rfl) ?_ _
    clear hH
    go_wp2
    go_ret
    rw [HLv.out]
    exact (HI4.out.later B6.out).fin _
end Go.Proofs.Ythmhpgbkapjjkaa
