/-
  Texts of this claim laid together: BeI.
-/
import Derived.Test.YtkfmifbffgbiiaaM42
import Derived.Deep.DeepCutAuto
/-
  The search: the way that is known, the way without the first unit.
-/
namespace Go.Proofs.Ytkfmifbffgbiiaa
open Go.ChangeShapes Go.WideShapes Go.ChangeAt Go.RowKit Go.Deep
set_option linter.unusedVariables false

theorem zeroWay (w : World) : (zeroValue 73).run Try.prog w = .ok zWay w := by kernel_rfl
set_option maxHeartbeats 8000000 in
theorem search_nil (C : Cx) (hC : CxOK C) (sp : Nat) (a : Option Addr) (c : Nat) (W : World) (hE : Env C W) :
    Calls Try.prog 36 #[.slice a 0 c, .int .u64 (sp : Int), .pointer (some ⟨C.kx, 0, none⟩), .pointer (some ⟨C.sb, 0, none⟩), .pointer (some ⟨C.db, 0, none⟩), .pointer (some ⟨C.ub, 0, none⟩)] W fun e w' => ∃ v, e = .returned v ∧ HoldsW w' v (sr C.us C.ds [] sp) ∧ Fr (fun q => q = C.kb) W w' ∧ Memo C.us C.ds w' C.kb := by
  have HB : Hid (∀ o o', Below W.heap.size W ((W.alloc o).alloc o')) := fun o o' => chain (below_alloc _ _) (below_alloc _ _)
  have HE : Hid (Env C W) := hE
  clear hE
  go_enter Try.func36, Try.ntmps36
  go_wp2
  refine bodyPost_ret (v := .agg #[.int .i64 0, .slice none 0 0]) (by simp [results, Try.results36, go_sem]) rfl ?_
  exact ⟨_, rfl, ⟨none, 0, by rw [sr_nil]; rfl, .inl (by rw [sr_nil])⟩, Fr.of (HB.out _ _), (HE.out.later (HB.out _ _)).memo⟩
/-- A search under way: its boxes, and what it was given. -/
structure Sx (C : Cx) (W : World) (sp : Nat) (a : Option Addr) (r : List Nat) (W' : World) : Prop where
  env : Env C W'
  spx : W'.heap[W.heap.size]? = some (.cells #[.int .u64 (sp : Int)] 71 (0, 0))
  rsx : W'.heap[W.heap.size + 1]? = some (.cells #[.int .i64 0, .slice none 0 0] 73 (0, 0))
  kyx : W'.heap[W.heap.size + 1 + 1]? = some (.cells #[.int .u64 (bitsN r : Int), .int .u64 (sp : Int)] 76 (0, 0))
  row : RI W' a r
  frm : Fr (fun q => q = C.kb) W W'
theorem Sx.fr {C : Cx} {W W' W'' : World} {sp : Nat} {a : Option Addr} {r : List Nat} {X : Nat → Prop} (h : Sx C W sp a r W') (ht : Typ W' X) (hf : Fr X W' W'') (hX : ∀ q, X q → q = C.kb ∨ W.heap.size + 1 < q) (hx2 : ∀ q, X q → C.B0 ≤ q) (hm : Memo C.us C.ds W'' C.kb) (hB : C.B0 ≤ W.heap.size) : Sx C W sp a r W'' := by
  have hne : ¬ X (W.heap.size + 1) := fun e => by
    rcases hX _ e with e | e
    · obtain ⟨es, ck, hk⟩ := h.env.memo.is
      have := h.rsx
      rw [e, hk] at this
      simp at this
    · omega
  refine ⟨h.env.fr ht hf hx2 hm, (ht.keep hf h.spx (by decide)).trans h.spx, (hf.block _ (blkLt h.rsx) hne).trans h.rsx, (ht.keep hf h.kyx (by decide)).trans h.kyx, h.row.fr ht hf, ?_⟩
  refine ⟨hf.os.trans h.frm.os, hf.tape.trans h.frm.tape, hf.output.trans h.frm.output, Nat.le_trans h.frm.size hf.size, fun q hq hx => ?_⟩
  refine (hf.block q (Nat.lt_of_lt_of_le hq h.frm.size) (fun e => ?_)).trans (h.frm.block q hq hx)
  rcases hX q e with e | e
  · exact hx e
  · omega
theorem Sx.later {C : Cx} {W W' W'' : World} {sp : Nat} {a : Option Addr} {r : List Nat} (h : Sx C W sp a r W') (hb : Below W'.heap.size W' W'') (hB : C.B0 ≤ W.heap.size) : Sx C W sp a r W'' := h.fr (X := fun _ => False) (fun _ _ _ _ _ e => e) (Fr.of hb) (fun _ e => e.elim) (fun _ e => e.elim) (h.env.later hb).memo hB
theorem Sx.setBest {C : Cx} {W w6 : World} {sp : Nat} {a : Option Addr} {r : List Nat} (h : Sx C W sp a r w6) {bb : Nat} {v0 v1 : Value} (hb : w6.heap[bb]? = some (.cells #[v0, v1] 73 (0, 0))) (hlt : W.heap.size + 1 < bb) (hB : C.B0 ≤ W.heap.size) (y : Wy) (va : Option Addr) (vc : Nat) (hr : RU w6 va y.us) :
    Sx C W sp a r ((w6.setCell ⟨bb, 0, none⟩ (.int .i64 y.sv)).setCell ⟨bb, 1, none⟩ (.slice va y.us.length vc)) ∧ ((w6.setCell ⟨bb, 0, none⟩ (.int .i64 y.sv)).setCell ⟨bb, 1, none⟩ (.slice va y.us.length vc)).heap[bb]? = some (.cells #[.int .i64 y.sv, .slice va y.us.length vc] 73 (0, 0)) ∧ RU ((w6.setCell ⟨bb, 0, none⟩ (.int .i64 y.sv)).setCell ⟨bb, 1, none⟩ (.slice va y.us.length vc)) va y.us := by
  have ht : Typ w6 (fun q => q = bb) := fun q cur t hq ht e => by
    rw [e, hb] at hq
    simp at hq
    exact ht hq.2.symm
  have hf : Fr (fun q => q = bb) w6 ((w6.setCell ⟨bb, 0, none⟩ (.int .i64 y.sv)).setCell ⟨bb, 1, none⟩ (.slice va y.us.length vc)) := Fr.set (X := fun q => q = bb) (Fr.set (X := fun q => q = bb) (Fr.refl _ _) (b := bb) rfl _ _) (b := bb) rfl _ _
  have hne : ¬ C.kb = bb := fun e => by
    obtain ⟨es, ck, hm⟩ := h.env.memo.is
    rw [← e, hm] at hb
    simp at hb
  exact ⟨h.fr ht hf (fun q e => .inr (by rw [e]; exact hlt)) (fun q e => by rw [e]; omega) (h.env.memo.fr ht hf hne) hB, bb_set2 hb _ _, hr.fr ht hf⟩
/-- The best way when k deals were tried. -/
def bestK (us : List RUn) (ds : List CDl) (x : Nat) (l : List Nat) (sp k : Nat) : Wy := (List.range k).foldl (stD us ds (sr us ds) (x :: l) sp) (sr us ds l sp)
theorem bestK_succ (us : List RUn) (ds : List CDl) (x : Nat) (l : List Nat) (sp k : Nat) : bestK us ds x l sp (k + 1) = stD us ds (sr us ds) (x :: l) sp (bestK us ds x l sp k) k := by
  unfold bestK
  rw [List.range_succ, List.foldl_append]; rfl
theorem and_pow (n k : Nat) : n &&& 2 ^ k = if n.testBit k = true then 2 ^ k else 0 := by
  apply Nat.eq_of_testBit_eq
  intro i
  rw [Nat.testBit_and, Nat.testBit_two_pow]
  by_cases h : k = i
  · subst h
    cases n.testBit k <;> simp
  · split <;> simp [h]
theorem and_off (d : CDl) (sp k : Nat) : (((sp &&& (if d.on = true then 2 ^ k else 0) : Nat) : Int) != 0) = offD d sp k := by
  unfold offD
  cases d.on
  · simp
  · rw [if_pos rfl, and_pow, Bool.true_and]
    cases h : sp.testBit k
    · rfl
    · rw [if_pos rfl, bne_iff_ne]
      have : 0 < 2 ^ k := Nat.two_pow_pos k
      omega
theorem Sx.ret {C : Cx} {W w6 : World} {sp : Nat} {a : Option Addr} {r : List Nat} (h : Sx C W sp a r w6) (y : Wy) (fa : Option Addr) (fc : Nat) (hr : RU w6 fa y.us) (W5 : World) (e : W5 = (w6.setCell ⟨W.heap.size + 1, 0, none⟩ (.int .i64 y.sv)).setCell ⟨W.heap.size + 1, 1, none⟩ (.slice fa y.us.length fc)) :
    W5.cell? ⟨W.heap.size + 1, 0, none⟩ = some (.int .i64 y.sv) ∧ W5.cell? ⟨W.heap.size + 1, 1, none⟩ = some (.slice fa y.us.length fc) ∧ RU W5 fa y.us ∧ Fr (fun q => q = C.kb) W W5 ∧ Memo C.us C.ds W5 C.kb := by
  have hs := bb_set2 h.rsx (.int .i64 y.sv) (.slice fa y.us.length fc)
  rw [← e] at hs
  obtain ⟨es, ck, hk⟩ := h.env.memo.is
  have hkn : ¬ C.kb = W.heap.size + 1 := fun ek => by
    have := h.rsx
    rw [← ek, hk] at this
    simp at this
  have ht : Typ w6 (fun q => q = W.heap.size + 1) := fun q cur t hq ht eq => by
    rw [eq, h.rsx] at hq
    simp at hq
    exact ht hq.2.symm
  have hf : Fr (fun q => q = W.heap.size + 1) w6 W5 := by rw [e]; exact Fr.set (X := fun q => q = W.heap.size + 1) (Fr.set (X := fun q => q = W.heap.size + 1) (Fr.refl _ _) (b := W.heap.size + 1) rfl _ _) (b := W.heap.size + 1) rfl _ _
  refine ⟨blkCell hs 0 _ rfl, blkCell hs 1 _ rfl, hr.fr ht hf, ?_, h.env.memo.fr ht hf hkn⟩
  rw [e]
  exact Fr.setNew (Fr.setNew h.frm (b := W.heap.size + 1) (by omega) _ _) (b := W.heap.size + 1) (by omega) _ _
theorem deal_at {C : Cx} (hC : CxOK C) {W : World} (hE : Env C W) (k : Nat) (hk : k < C.ds.length) : ∃ b o h cp, C.da = some ⟨b, o, none⟩ ∧ DlAt W b (o + k * 6) h cp (C.ds.getD k zDl) ∧ ReadsS C.B0 C.w0 h (C.ds.getD k zDl).arts := by
  rcases hC.rd with h | ⟨b, o, ha, hB, hi⟩
  · rw [h] at hk; simp at hk
  · obtain ⟨h', cp, k0, k1, k2⟩ := hi k hk
    exact ⟨b, o, h', cp, ha, k0.below hE.low hB, k2⟩
set_option maxHeartbeats 8000000 in
set_option maxRecDepth 8000 in
theorem search_cons (C : Cx) (hC : CxOK C) (N : Nat) (HS : SrP C N) (x : Nat) (l : List Nat) (hN : l.length + 1 ≤ N) (hleft : Ris C.us.length (x :: l)) (sp : Nat) (hsp : sp < 64) (a : Option Addr) (c : Nat) (hc : l.length + 1 ≤ c) (W : World) (hE : Env C W) (hr : RI W a (x :: l)) :
    Calls Try.prog 36 #[.slice a (l.length + 1) c, .int .u64 (sp : Int), .pointer (some ⟨C.kx, 0, none⟩), .pointer (some ⟨C.sb, 0, none⟩), .pointer (some ⟨C.db, 0, none⟩), .pointer (some ⟨C.ub, 0, none⟩)] W fun e w' => ∃ v, e = .returned v ∧ HoldsW w' v (sr C.us C.ds (x :: l) sp) ∧ Fr (fun q => q = C.kb) W w' ∧ Memo C.us C.ds w' C.kb := by
  have hu8 : C.us.length ≤ 8 := (unAll_yes hC.hu).1
  have hl8 : l.length + 1 ≤ 8 := by have := hleft.le; simp at *; omega
  have hne : ((l.length : Int) + 1 == 0) = false := by rw [beq_eq_false_iff_ne]; omega
  obtain ⟨ab, ao, rfl, _⟩ := hr.at 0 (by simp)
  obtain ⟨W2, hW2⟩ : ∃ W2, W2 = (W.alloc (Obj.cells #[.int .u64 (sp : Int)] 71)).alloc (Obj.cells #[.int .i64 0, .slice none 0 0] 73) := ⟨_, rfl⟩
  have HW2 : Hid (W2 = (W.alloc (Obj.cells #[.int .u64 (sp : Int)] 71)).alloc (Obj.cells #[.int .i64 0, .slice none 0 0] 73)) := hW2
  have H2 : Hid (Below W.heap.size W W2 ∧ W2.heap.size = W.heap.size + 1 + 1 ∧ W2.heap[W.heap.size]? = some (.cells #[.int .u64 (sp : Int)] 71 (0, 0)) ∧ W2.heap[W.heap.size + 1]? = some (.cells #[.int .i64 0, .slice none 0 0] 73 (0, 0))) := by
    have a1 := heapNew W (Obj.cells #[.int .u64 (sp : Int)] 71)
    have a2 := heapNew (W.alloc (Obj.cells #[.int .u64 (sp : Int)] 71)) (Obj.cells #[.int .i64 0, .slice none 0 0] 73)
    rw [alloc_size] at a2
    rw [hW2]
    exact ⟨chain (below_alloc _ _) (below_alloc _ _), by rw [alloc_size, alloc_size], alloc_old a1, a2⟩
  have HE : Hid (Env C W ∧ RI W (some ⟨ab, ao, none⟩) (x :: l)) := ⟨hE, hr⟩
  have HC : Hid (CxOK C) := hC
  have HSr : Hid (SrP C N) := HS
  have HL : Hid (Ris C.us.length (x :: l)) := hleft
  have hbt : bitsN (x :: l) < 256 := bitsN_lt (fun y hy => by have := hleft.2 y hy; omega)
  have HBt : Hid (∀ W', Below W2.heap.size W2 W' → Calls Try.prog 37 #[.slice (some ⟨ab, ao, none⟩) (l.length + 1) c] W' fun e w' => e = .returned (.int .u64 (bitsN (x :: l) : Int)) ∧ w' = W') := fun W' hW => bitsOf_any (some ⟨ab, ao, none⟩) c (x :: l) ⟨hleft.1, fun y hy => by have := hleft.2 y hy; omega⟩ W' (hr.later (chain H2.out.1 hW))
  clear hE hr hC HS hleft hW2
  have HBn : Hid (∃ bt, bt = bitsN (x :: l)) := ⟨_, rfl⟩
  generalize hbe : bitsN (x :: l) = bt at *
  have HBe : Hid (bitsN (x :: l) = bt) := hbe
  clear hbe HBn
  go_enter Try.func36, Try.ntmps36
  go_upto_region 3 with fail
  rw [← HW2.out]
  clear HW2
  go_cut [9] from 21 to 24 (fun k9 wx => k9 = .pointer (some ⟨W.heap.size + 1 + 1, 0, none⟩) ∧ Sx C W sp (some ⟨ab, ao, none⟩) (x :: l) wx)
  case first =>
    have HQ : Hid (∀ W', Below W2.heap.size W2 W' → W'.cell? ⟨W.heap.size, 0, none⟩ = some (.int .u64 (sp : Int))) := fun W' hW => blkCell ((hW.block _ (blkLt H2.out.2.2.1)).trans H2.out.2.2.1) 0 _ rfl
    have HEnd : Hid (∀ W3, W3 = (W2.alloc (Obj.cells #[.int .u64 (bt : Int), .int .u64 (sp : Int)] 76)).drew → Sx C W sp (some ⟨ab, ao, none⟩) (x :: l) W3) := fun W3 e => by
      have hb3 : Below W2.heap.size W2 W3 := by rw [e]; exact chain (below_alloc _ _) (below_drew _)
      have hb : Below W.heap.size W W3 := chain H2.out.1 hb3
      refine ⟨HE.out.1.later hb, (hb3.block _ (blkLt H2.out.2.2.1)).trans H2.out.2.2.1, (hb3.block _ (blkLt H2.out.2.2.2)).trans H2.out.2.2.2, ?_, HE.out.2.later hb, Fr.of hb⟩
      rw [HBe.out, e, ← H2.out.2.1]
      exact heapNew W2 _
    have hsz : W2.heap.size = W.heap.size + 1 + 1 := H2.out.2.1
    refine wp_region_z (S := fun W' => Below W2.heap.size W2 W') 5 (by kernel_rfl) (below_drew _) (fun hH => ?_)
    refine wpAnyZ_take (i := 0) (v := .slice (some ⟨ab, ao, none⟩) (l.length + 1) c) rfl (by kernel_rfl) (by kernel_rfl) (by kernel_rfl) (by kernel_rfl) (fun _ _ _ h => h) (Or.inl ⟨by rfl, fun w hSw => by go_simp⟩) hH ?_
    refine wpAnyZ_take (i := 2) (v := .int .u64 (sp : Int)) rfl (by kernel_rfl) (by kernel_rfl) (by kernel_rfl) (by kernel_rfl) (fun _ _ _ h => h) (Or.inl ⟨by rfl, fun w hSw => by have f0 := HQ.out w hSw; go_simp⟩) hH ?_
    try simp only [Act.put, List.setIfInBounds_toArray, List.set_cons_zero, List.set_cons_succ, List.getElem_toArray, List.getElem_cons_succ, List.getElem_cons_zero]
    refine wpAnyZ_ready (rs := [1, 4]) (by kernel_rfl) (by simp) ?_
    refine AllReadyZ.cons rfl (fun K hK => ?_) (AllReadyZ.cons rfl (fun K hK => ?_) AllReadyZ.nil)
    · go_simp
      go_at_call 37
      refine (HBt.out _ hH).mono ?_
      rintro e w2 ⟨rfl, rfl⟩
      refine hK.out _ _ (Or.inr hH) (fun _ => ?_)
      clear hK K
      try simp only [Act.put, List.setIfInBounds_toArray, List.set_cons_zero, List.set_cons_succ, List.getElem_toArray, List.getElem_cons_succ, List.getElem_cons_zero]
      refine wpAnyZ_take (i := 3) (v := .agg #[.int .u64 (bt : Int), .int .u64 (sp : Int)]) rfl (by kernel_rfl) (by kernel_rfl) (by kernel_rfl) (by kernel_rfl) (fun _ _ _ h => h) (Or.inl ⟨by rfl, fun w hSw => by go_simp⟩) hH ?_
      try simp only [Act.put, List.setIfInBounds_toArray, List.set_cons_zero, List.set_cons_succ, List.getElem_toArray, List.getElem_cons_succ, List.getElem_cons_zero]
      refine wpAnyZ_ready (rs := [4]) (by kernel_rfl) (by simp) ?_
      refine AllReadyZ.cons rfl (fun K hK => ?_) AllReadyZ.nil
      go_simp
      have h3 : Below W2.heap.size W2 (W2.alloc (Obj.cells #[.int .u64 0, .int .u64 0] 76)).drew := chain (below_alloc _ _) (below_drew _)
      refine hK.out _ _ (Or.inr h3) (fun _ => ?_)
      clear hK K
      try simp only [Act.put, List.setIfInBounds_toArray, List.set_cons_zero, List.set_cons_succ, List.getElem_toArray, List.getElem_cons_succ, List.getElem_cons_zero]
      refine wpAnyZ_ready (rs := [5]) (by kernel_rfl) (by simp) ?_
      refine AllReadyZ.cons rfl (fun K hK => ?_) AllReadyZ.nil
      go_simp
      refine hK.out _ _ (Or.inl rfl) (fun _ => ?_)
      clear hK K
      try simp only [Act.put, List.setIfInBounds_toArray, List.set_cons_zero, List.set_cons_succ, List.getElem_toArray, List.getElem_cons_succ, List.getElem_cons_zero]
      refine wpAnyZ_done (by kernel_rfl) ?_ _
      go_wp2_with fail
      go_meet
      exact ⟨rfl, HEnd.out _ rfl⟩
    · go_simp
      have h3 : Below W2.heap.size W2 (W2.alloc (Obj.cells #[.int .u64 0, .int .u64 0] 76)).drew := chain (below_alloc _ _) (below_drew _)
      refine hK.out _ _ (Or.inr h3) (fun _ => ?_)
      clear hK K
      try simp only [Act.put, List.setIfInBounds_toArray, List.set_cons_zero, List.set_cons_succ, List.getElem_toArray, List.getElem_cons_succ, List.getElem_cons_zero]
      refine wpAnyZ_ready (rs := [1]) (by kernel_rfl) (by simp) ?_
      refine AllReadyZ.cons rfl (fun K hK => ?_) AllReadyZ.nil
      go_simp
      go_at_call 37
      refine (HBt.out _ h3).mono ?_
      rintro e w2 ⟨rfl, rfl⟩
      refine hK.out _ _ (Or.inr h3) (fun _ => ?_)
      clear hK K
      try simp only [Act.put, List.setIfInBounds_toArray, List.set_cons_zero, List.set_cons_succ, List.getElem_toArray, List.getElem_cons_succ, List.getElem_cons_zero]
      refine wpAnyZ_take (i := 3) (v := .agg #[.int .u64 (bt : Int), .int .u64 (sp : Int)]) rfl (by kernel_rfl) (by kernel_rfl) (by kernel_rfl) (by kernel_rfl) (fun _ _ _ h => h) (Or.inl ⟨by rfl, fun w hSw => by go_simp⟩) h3 ?_
      try simp only [Act.put, List.setIfInBounds_toArray, List.set_cons_zero, List.set_cons_succ, List.getElem_toArray, List.getElem_cons_succ, List.getElem_cons_zero]
      refine wpAnyZ_ready (rs := [5]) (by kernel_rfl) (by simp) ?_
      refine AllReadyZ.cons rfl (fun K hK => ?_) AllReadyZ.nil
      go_simp
      refine hK.out _ _ (Or.inl rfl) (fun _ => ?_)
      clear hK K
      try simp only [Act.put, List.setIfInBounds_toArray, List.set_cons_zero, List.set_cons_succ, List.getElem_toArray, List.getElem_cons_succ, List.getElem_cons_zero]
      refine wpAnyZ_done (by kernel_rfl) ?_ _
      go_wp2_with fail
      go_meet
      exact ⟨rfl, HEnd.out _ rfl⟩
  case rest =>
    obtain ⟨rfl, hX⟩ := hcut
    have HX : Hid (Sx C W sp (some ⟨ab, ao, none⟩) (x :: l) wc) := hX
    clear hX
    have hB0 : C.B0 ≤ W.heap.size := HE.out.1.top
    have x0 : wc.cell? ⟨C.kx, 0, none⟩ = some (.map (some C.kb)) := blkCell HX.out.env.kbx 0 _ rfl
    have x1 : wc.cell? ⟨W.heap.size + 1 + 1, 0, none⟩ = some (.int .u64 (bt : Int)) := by rw [← HBe.out]; exact blkCell HX.out.kyx 0 _ rfl
    have x2 : wc.cell? ⟨W.heap.size + 1 + 1, 1, none⟩ = some (.int .u64 (sp : Int)) := blkCell HX.out.kyx 1 _ rfl
    obtain ⟨n, f, hm1, hm2, hm3⟩ := HX.out.env.memo
    have hlk := MapS.look hm1 Try.underlying69 (zeroWay wc) (wfU_of bt (by omega)) (wfU_of sp (by omega))
    unfold keyS at hlk
    cases hf : f bt sp with
    | some v =>
      obtain ⟨fa, fc, hv, hru⟩ := hm3 bt sp v hf (x :: l) HL.out HBe.out
      subst hv
      rw [hf] at hlk
      simp only [Option.getD_some, Option.isSome_some] at hlk
      clear hm1 hm2 hm3 hf
      obtain ⟨y, hy⟩ : ∃ y, y = sr C.us C.ds (x :: l) sp := ⟨_, rfl⟩
      rw [← hy] at hlk hru
      have HY : Hid (y = sr C.us C.ds (x :: l) sp) := hy
      clear hy
      have HRu : Hid (RU wc fa y.us) := hru
      clear hru
      have hbA : Below wc.heap.size wc (wc.alloc (Obj.cells #[.int .i64 y.sv, .slice fa y.us.length fc] 73)) := below_alloc _ _
      have HRs : Hid ((wc.alloc (Obj.cells #[.int .i64 y.sv, .slice fa y.us.length fc] 73)).heap[W.heap.size + 1]? = some (.cells #[.int .i64 0, .slice none 0 0] 73 (0, 0))) := (hbA.block _ (blkLt HX.out.rsx)).trans HX.out.rsx
      have r0 := blkCell HRs.out 0 _ rfl
      have r1 := blkCell HRs.out 1 _ rfl
      have r2 := blkFree HRs.out 0
      have r3 := blkFree HRs.out 1
      simp only [List.getElem_toArray, List.getElem_cons_zero, List.getElem_cons_succ] at r0 r1
      have HFin : Hid (∀ W5, W5 = ((wc.alloc (Obj.cells #[.int .i64 y.sv, .slice fa y.us.length fc] 73)).setCell ⟨W.heap.size + 1, 0, none⟩ (.int .i64 y.sv)).setCell ⟨W.heap.size + 1, 1, none⟩ (.slice fa y.us.length fc) → W5.cell? ⟨W.heap.size + 1, 0, none⟩ = some (.int .i64 y.sv) ∧ W5.cell? ⟨W.heap.size + 1, 1, none⟩ = some (.slice fa y.us.length fc) ∧ RU W5 fa y.us ∧ Fr (fun q => q = C.kb) W W5 ∧ Memo C.us C.ds W5 C.kb) := fun W5 e => by
        have hs := bb_set2 HRs.out (.int .i64 y.sv) (.slice fa y.us.length fc)
        rw [← e] at hs
        have hX := HX.out.later hbA hB0
        obtain ⟨es, ck, hk⟩ := hX.env.memo.is
        have hkn : ¬ C.kb = W.heap.size + 1 := fun ek => by
          have := hX.rsx
          rw [← ek, hk] at this
          simp at this
        have ht : Typ (wc.alloc (Obj.cells #[.int .i64 y.sv, .slice fa y.us.length fc] 73)) (fun q => q = W.heap.size + 1) := fun q cur t hq ht eq => by
          rw [eq, HRs.out] at hq
          simp at hq
          exact ht hq.2.symm
        have hf : Fr (fun q => q = W.heap.size + 1) (wc.alloc (Obj.cells #[.int .i64 y.sv, .slice fa y.us.length fc] 73)) W5 := by rw [e]; exact Fr.set (X := fun q => q = W.heap.size + 1) (Fr.set (X := fun q => q = W.heap.size + 1) (Fr.refl _ _) (b := W.heap.size + 1) rfl _ _) (b := W.heap.size + 1) rfl _ _
        refine ⟨blkCell hs 0 _ rfl, blkCell hs 1 _ rfl, (HRu.out.later hbA).fr ht hf, ?_, hX.env.memo.fr ht hf hkn⟩
        rw [e]
        exact Fr.setNew (Fr.setNew hX.frm (b := W.heap.size + 1) (by omega) _ _) (b := W.heap.size + 1) (by omega) _ _
      clear hbA
      go_wp2
      obtain ⟨W5, hW5⟩ : ∃ W5, W5 = ((wc.alloc (Obj.cells #[.int .i64 y.sv, .slice fa y.us.length fc] 73)).setCell ⟨W.heap.size + 1, 0, none⟩ (.int .i64 y.sv)).setCell ⟨W.heap.size + 1, 1, none⟩ (.slice fa y.us.length fc) := ⟨_, rfl⟩
      obtain ⟨z0, z1, z2, z3, z4⟩ := HFin.out W5 hW5
      rw [← hW5]
      refine bodyPost_ret (v := .agg #[.int .i64 y.sv, .slice fa y.us.length fc]) (by simp [results, Try.results36, go_sem, z0, z1]) rfl ?_
      rw [← HY.out]
      exact ⟨_, rfl, ⟨fa, fc, rfl, z2⟩, z3, z4⟩
    | none =>
      rw [hf] at hlk
      simp only [Option.getD_none, Option.isSome_none] at hlk
      unfold zWay at hlk
      clear hm1 hm2 hm3 hf
      obtain ⟨W4, hW4⟩ : ∃ W4, W4 = wc.alloc (Obj.cells #[.int .i64 0, .slice none 0 0] 73) := ⟨_, rfl⟩
      have HX4 : Hid (Sx C W sp (some ⟨ab, ao, none⟩) (x :: l) W4) := by show Sx _ _ _ _ _ _; rw [hW4]; exact HX.out.later (below_alloc _ _) hB0
      have HW4 : Hid (W4 = wc.alloc (Obj.cells #[.int .i64 0, .slice none 0 0] 73)) := hW4
      clear hW4
      go_upto_region 7 with fail
      rw [← HW4.out]
      clear HW4 HX x0 x1 x2 hlk
      go_cut [12] from 33 to 37 (fun b12 wx => ∃ bb, b12 = .pointer (some ⟨bb, 0, none⟩) ∧ W.heap.size + 1 + 1 < bb ∧ Sx C W sp (some ⟨ab, ao, none⟩) (x :: l) wx ∧ ∃ va vc, wx.heap[bb]? = some (.cells #[.int .i64 (sr C.us C.ds l sp).sv, .slice va (sr C.us C.ds l sp).us.length vc] 73 (0, 0)) ∧ RU wx va (sr C.us C.ds l sp).us)
      case first =>
        have HSS : Hid (∀ W', (Fr (fun q => q = C.kb) W4 W' ∧ Memo C.us C.ds W' C.kb) → Sx C W sp (some ⟨ab, ao, none⟩) (x :: l) W') := fun W' h => HX4.out.fr (typ_map HX4.out.env.memo.is) h.1 (fun q e => .inl e) (fun q e => by rw [e]; exact HC.out.lkb) h.2 hB0
        obtain ⟨o8, ho8⟩ : ∃ o8 : Nat, o8 = if c = 1 then ao else ao + 1 := ⟨_, rfl⟩
        have hof : (if c = 1 then (some (⟨ab, ao, none⟩ : Addr)) else some ⟨ab, ao + 1, none⟩) = some ⟨ab, o8, none⟩ := by rw [ho8]; split <;> rfl
        have HDr : Hid (0 < l.length → o8 = ao + 1) := fun h => by rw [ho8, if_neg (by omega)]
        clear ho8
        have hlt1 : ¬ ((l.length : Int) + 1 < 1) := by omega
        obtain ⟨y, hy⟩ : ∃ y, y = sr C.us C.ds l sp := ⟨_, rfl⟩
        have HY : Hid (y = sr C.us C.ds l sp) := hy
        clear hy
        have HCl : Hid (∀ W', (Fr (fun q => q = C.kb) W4 W' ∧ Memo C.us C.ds W' C.kb) → Calls Try.prog 36 #[.slice (some ⟨ab, o8, none⟩) l.length (c - 1), .int .u64 (sp : Int), .pointer (some ⟨C.kx, 0, none⟩), .pointer (some ⟨C.sb, 0, none⟩), .pointer (some ⟨C.db, 0, none⟩), .pointer (some ⟨C.ub, 0, none⟩)] W' fun e w' => ∃ v, e = .returned v ∧ HoldsW w' v y ∧ Fr (fun q => q = C.kb) W' w' ∧ Memo C.us C.ds w' C.kb) := fun W' h => by
          have hs := HSS.out W' h
          rw [HY.out]
          exact HSr.out l sp (some ⟨ab, o8, none⟩) (c - 1) W' (by omega) HL.out.tail hsp (by omega) hs.env (hs.row.drop 1 o8 (fun h => HDr.out (by simpa using h)))
        have HQ : Hid (∀ W', (Fr (fun q => q = C.kb) W4 W' ∧ Memo C.us C.ds W' C.kb) → W'.cell? ⟨C.sb, 0, none⟩ = some (.func (.func 36) #[] #[.pointer (some ⟨C.kx, 0, none⟩), .pointer (some ⟨C.sb, 0, none⟩), .pointer (some ⟨C.db, 0, none⟩), .pointer (some ⟨C.ub, 0, none⟩)]) ∧ W'.cell? ⟨W.heap.size, 0, none⟩ = some (.int .u64 (sp : Int))) := fun W' h => ⟨by have := blkCell (HSS.out W' h).env.sbx 0 _ rfl; exact this, blkCell (HSS.out W' h).spx 0 _ rfl⟩
        have hS0 : Fr (fun q => q = C.kb) W4 W4.drew ∧ Memo C.us C.ds W4.drew C.kb := ⟨Fr.of (below_drew _), (HX4.out.env.later (below_drew _)).memo⟩
        have HLt : Hid (W.heap.size + 1 + 1 < W4.heap.size) := blkLt HX4.out.kyx
        clear hne
        refine wp_region_z (S := fun W' => Fr (fun q => q = C.kb) W4 W' ∧ Memo C.us C.ds W' C.kb) 6 (by kernel_rfl) hS0 (fun hH => ?_)
        refine wpAnyZ_take (i := 0) (v := .func (.func 36) #[] #[.pointer (some ⟨C.kx, 0, none⟩), .pointer (some ⟨C.sb, 0, none⟩), .pointer (some ⟨C.db, 0, none⟩), .pointer (some ⟨C.ub, 0, none⟩)]) rfl (by kernel_rfl) (by kernel_rfl) (by kernel_rfl) (by kernel_rfl) (fun _ _ _ h => h) (Or.inl ⟨by rfl, fun w hSw => by have f0 := (HQ.out w hSw).1; clear hSw; go_simp⟩) hH ?_
        refine wpAnyZ_take (i := 1) (v := .slice (some ⟨ab, ao, none⟩) (l.length + 1) c) rfl (by kernel_rfl) (by kernel_rfl) (by kernel_rfl) (by kernel_rfl) (fun _ _ _ h => h) (Or.inl ⟨by rfl, fun w hSw => by clear hSw; go_simp⟩) hH ?_
        try simp only [Act.put, List.setIfInBounds_toArray, List.set_cons_zero, List.set_cons_succ, List.getElem_toArray, List.getElem_cons_succ, List.getElem_cons_zero]
        refine wpAnyZ_take (i := 2) (v := .slice (some ⟨ab, o8, none⟩) l.length (c - 1)) rfl (by kernel_rfl) (by kernel_rfl) (by kernel_rfl) (by kernel_rfl) (fun _ _ _ h => h) (Or.inl ⟨by rfl, fun w hSw => by clear hSw; go_simp⟩) hH ?_
        try simp only [Act.put, List.setIfInBounds_toArray, List.set_cons_zero, List.set_cons_succ, List.getElem_toArray, List.getElem_cons_succ, List.getElem_cons_zero]
        refine wpAnyZ_take (i := 3) (v := .int .u64 (sp : Int)) rfl (by kernel_rfl) (by kernel_rfl) (by kernel_rfl) (by kernel_rfl) (fun _ _ _ h => h) (Or.inl ⟨by rfl, fun w hSw => by have f0 := (HQ.out w hSw).2; clear hSw; go_simp⟩) hH ?_
        try simp only [Act.put, List.setIfInBounds_toArray, List.set_cons_zero, List.set_cons_succ, List.getElem_toArray, List.getElem_cons_succ, List.getElem_cons_zero]
        refine wpAnyZ_ready (rs := [4, 5]) (by kernel_rfl) (by simp) ?_
        refine AllReadyZ.cons rfl (fun K hK => ?_) (AllReadyZ.cons rfl (fun K hK => ?_) AllReadyZ.nil)
        · go_simp
          go_at_call 36
          refine (HCl.out _ hH).mono ?_
          rintro e w5 ⟨v, rfl, ⟨va, vc, rfl, hru⟩, hf5, hm5⟩
          have h5 : Fr (fun q => q = C.kb) W4 w5 ∧ Memo C.us C.ds w5 C.kb := ⟨hH.1.trans hf5, hm5⟩
          have HRu : Hid (RU w5 va y.us) := hru
          clear hf5 hm5 hru
          refine hK.out _ _ (Or.inr h5) (fun _ => ?_)
          clear hK K
          try simp only [Act.put, List.setIfInBounds_toArray, List.set_cons_zero, List.set_cons_succ, List.getElem_toArray, List.getElem_cons_succ, List.getElem_cons_zero]
          refine wpAnyZ_ready (rs := [5]) (by kernel_rfl) (by simp) ?_
          refine AllReadyZ.cons rfl (fun K hK => ?_) AllReadyZ.nil
          go_simp
          have h6 : Fr (fun q => q = C.kb) W4 (w5.alloc (Obj.cells #[.int .i64 0, .slice none 0 0] 73)) ∧ Memo C.us C.ds (w5.alloc (Obj.cells #[.int .i64 0, .slice none 0 0] 73)) C.kb := ⟨h5.1.alloc _, ((HSS.out _ h5).env.later (below_alloc _ _)).memo⟩
          refine hK.out _ _ (Or.inr h6) (fun _ => ?_)
          clear hK K
          try simp only [Act.put, List.setIfInBounds_toArray, List.set_cons_zero, List.set_cons_succ, List.getElem_toArray, List.getElem_cons_succ, List.getElem_cons_zero]
          refine wpAnyZ_ready (rs := [6]) (by kernel_rfl) (by simp) ?_
          refine AllReadyZ.cons rfl (fun K hK => ?_) AllReadyZ.nil
          clear h6 hH
          go_simp
          refine hK.out _ _ (Or.inl rfl) (fun _ => ?_)
          clear hK K
          try simp only [Act.put, List.setIfInBounds_toArray, List.set_cons_zero, List.set_cons_succ, List.getElem_toArray, List.getElem_cons_succ, List.getElem_cons_zero]
          refine wpAnyZ_done (by kernel_rfl) ?_ _
          have HH5 : Hid (Sx C W sp (some ⟨ab, ao, none⟩) (x :: l) w5) := HSS.out _ h5
          have HSz : Hid (W4.heap.size ≤ w5.heap.size) := h5.1.size
          clear h5
          go_wp2_with fail
          go_meet
          refine ⟨w5.heap.size, rfl, Nat.lt_of_lt_of_le HLt.out ?_, HH5.out.later (below_alloc _ _) hB0, va, vc, ?_, ?_⟩
          · exact HSz.out
          · rw [← HY.out]; exact heapNew _ _
          · rw [← HY.out]; exact HRu.out.later (below_alloc _ _)
        · go_simp
          have hb5 : Below W4.heap.size W4 (W4.alloc (Obj.cells #[.int .i64 0, .slice none 0 0] 73)).drew := chain (below_alloc _ _) (below_drew _)
          have h5 : Fr (fun q => q = C.kb) W4 (W4.alloc (Obj.cells #[.int .i64 0, .slice none 0 0] 73)).drew ∧ Memo C.us C.ds (W4.alloc (Obj.cells #[.int .i64 0, .slice none 0 0] 73)).drew C.kb := ⟨Fr.of hb5, (HX4.out.env.later hb5).memo⟩
          have HN : Hid ((W4.alloc (Obj.cells #[.int .i64 0, .slice none 0 0] 73)).drew.heap[W4.heap.size]? = some (.cells #[.int .i64 0, .slice none 0 0] 73 (0, 0))) := heapNew W4 _
          clear hb5
          refine hK.out _ _ (Or.inr h5) (fun _ => ?_)
          clear hK K
          try simp only [Act.put, List.setIfInBounds_toArray, List.set_cons_zero, List.set_cons_succ, List.getElem_toArray, List.getElem_cons_succ, List.getElem_cons_zero]
          generalize (W4.alloc (Obj.cells #[.int .i64 0, .slice none 0 0] 73)).drew = W5 at *
          refine wpAnyZ_ready (rs := [4]) (by kernel_rfl) (by simp) ?_
          refine AllReadyZ.cons rfl (fun K hK => ?_) AllReadyZ.nil
          go_simp
          go_at_call 36
          refine (HCl.out _ h5).mono ?_
          rintro e w6 ⟨v, rfl, ⟨va, vc, rfl, hru⟩, hf6, hm6⟩
          have h6 : Fr (fun q => q = C.kb) W4 w6 ∧ Memo C.us C.ds w6 C.kb := ⟨h5.1.trans hf6, hm6⟩
          have hne : ¬ W4.heap.size = C.kb := fun e => by
            obtain ⟨es, ck, hk⟩ := h5.2.is
            have := HN.out
            rw [e, hk] at this
            simp at this
          have hb6 : w6.heap[W4.heap.size]? = some (.cells #[.int .i64 0, .slice none 0 0] 73 (0, 0)) := (hf6.block _ (blkLt HN.out) hne).trans HN.out
          have HFin := (HSS.out _ h6).setBest hb6 (Nat.lt_of_le_of_lt (Nat.le_succ _) HLt.out) hB0 y va vc hru
          have r0 := blkCell hb6 0 _ rfl
          have r1 := blkCell hb6 1 _ rfl
          have r2 := blkFree hb6 0
          have r3 := blkFree hb6 1
          simp only [List.getElem_toArray, List.getElem_cons_zero, List.getElem_cons_succ] at r0 r1
          have HFi : Hid (Sx C W sp (some ⟨ab, ao, none⟩) (x :: l) ((w6.setCell ⟨W4.heap.size, 0, none⟩ (.int .i64 y.sv)).setCell ⟨W4.heap.size, 1, none⟩ (.slice va y.us.length vc)) ∧ ((w6.setCell ⟨W4.heap.size, 0, none⟩ (.int .i64 y.sv)).setCell ⟨W4.heap.size, 1, none⟩ (.slice va y.us.length vc)).heap[W4.heap.size]? = some (.cells #[.int .i64 y.sv, .slice va y.us.length vc] 73 (0, 0)) ∧ RU ((w6.setCell ⟨W4.heap.size, 0, none⟩ (.int .i64 y.sv)).setCell ⟨W4.heap.size, 1, none⟩ (.slice va y.us.length vc)) va y.us) := HFin
          clear HFin hb6 hf6 hm6 hru hne
          refine hK.out _ _ (Or.inr h6) (fun _ => ?_)
          clear hK K
          try simp only [Act.put, List.setIfInBounds_toArray, List.set_cons_zero, List.set_cons_succ, List.getElem_toArray, List.getElem_cons_succ, List.getElem_cons_zero]
          refine wpAnyZ_ready (rs := [6]) (by kernel_rfl) (by simp) ?_
          refine AllReadyZ.cons rfl (fun K hK => ?_) AllReadyZ.nil
          clear h5 h6 hH
          go_simp
          refine hK.out _ _ (Or.inl rfl) (fun _ => ?_)
          clear hK K
          try simp only [Act.put, List.setIfInBounds_toArray, List.set_cons_zero, List.set_cons_succ, List.getElem_toArray, List.getElem_cons_succ, List.getElem_cons_zero]
          refine wpAnyZ_done (by kernel_rfl) ?_ _
          clear r0 r1 r2 r3
          generalize (w6.setCell ⟨W4.heap.size, 0, none⟩ (.int .i64 y.sv)).setCell ⟨W4.heap.size, 1, none⟩ (.slice va y.us.length vc) = W7 at *
          go_wp2_with fail
          go_meet
          exact ⟨W4.heap.size, rfl, HLt.out, HFi.out.1, va, vc, by rw [← HY.out]; exact HFi.out.2.1, by rw [← HY.out]; exact HFi.out.2.2⟩
      case rest =>
        obtain ⟨bb, rfl, hbb, hX7, va0, vc0, hb7, hr7⟩ := hcut
        have H7 : Hid (Sx C W sp (some ⟨ab, ao, none⟩) (x :: l) wc ∧ ∃ va vc, wc.heap[bb]? = some (.cells #[.int .i64 (bestK C.us C.ds x l sp 0).sv, .slice va (bestK C.us C.ds x l sp 0).us.length vc] 73 (0, 0)) ∧ RU wc va (bestK C.us C.ds x l sp 0).us) := ⟨hX7, va0, vc0, hb7, hr7⟩
        have hdl6 : C.ds.length ≤ 6 := (dlAll_yes HC.out.hd).1
        have x0 : wc.cell? ⟨C.db, 0, none⟩ = some (.slice C.da C.ds.length C.dc) := blkCell hX7.env.dbx 0 _ rfl
        clear hb7 hr7 hX7 HX4
        go_wp2_with fail
        clear x0
        go_loopw [13, 14, 15, 16, 40] (fun _ _ _ _ c40 wr => ∃ k : Nat, k ≤ C.ds.length ∧ c40 = .int .i64 (k : Int) ∧ Sx C W sp (some ⟨ab, ao, none⟩) (x :: l) wr ∧ ∃ va vc, wr.heap[bb]? = some (.cells #[.int .i64 (bestK C.us C.ds x l sp k).sv, .slice va (bestK C.us C.ds x l sp k).us.length vc] 73 (0, 0)) ∧ RU wr va (bestK C.us C.ds x l sp k).us) (fun _ _ _ _ c40 _ => C.ds.length - (intOf c40).toNat)
        case atStart => exact ⟨0, Nat.zero_le _, rfl, H7.out⟩
        case round =>
          clear H7
          obtain ⟨k, hk, rfl, hX, va, vc, hb, hru⟩ := hrel
          by_cases hlt : k < C.ds.length
          · obtain ⟨db, dof, dh, dcp, hda, hdc, hds⟩ := deal_at HC.out hX.env k hlt
            have hlt' : (k : Int) < (C.ds.length : Int) := by omega
            obtain ⟨d0, d1, d2, d3, d4, d5⟩ := hdc
            have HX : Hid (Sx C W sp (some ⟨ab, ao, none⟩) (x :: l) wr ∧ ∃ va vc, wr.heap[bb]? = some (.cells #[.int .i64 (bestK C.us C.ds x l sp k).sv, .slice va (bestK C.us C.ds x l sp k).us.length vc] 73 (0, 0)) ∧ RU wr va (bestK C.us C.ds x l sp k).us) := ⟨hX, va, vc, hb, hru⟩
            have HRd : Hid (ReadsS C.B0 C.w0 dh (C.ds.getD k zDl).arts) := hds
            have Hlt : Hid (k < C.ds.length) := hlt
            clear hX hb hru hds hlt
            have HD : Hid (∃ d, d = C.ds.getD k zDl) := ⟨_, rfl⟩
            obtain ⟨d, hd⟩ : ∃ d, d = C.ds.getD k zDl := ⟨_, rfl⟩
            rw [← hd] at d0 d1 d2 d3 d4 d5
            have HDe : Hid (d = C.ds.getD k zDl) := hd
            clear hd HD
            rw [hda]
            have HCb : Hid (∀ W', Calls Try.prog 38 #[.int .i64 (k : Int), .agg #[.string d.nm, .int .i64 d.kd, .slice dh d.arts.length dcp, .int .i64 d.nd, .int .i64 d.vl, .bool d.on]] W' fun e w' => e = .returned (.int .u64 ((if d.on = true then 2 ^ k else 0 : Nat) : Int)) ∧ Below W'.heap.size W' w') := fun W' => couponBit_any k (by omega) d dh dcp W'
            obtain ⟨cpn, hcp⟩ : ∃ cpn : Nat, cpn = (if d.on = true then 2 ^ k else 0 : Nat) := ⟨_, rfl⟩
            rw [← hcp] at HCb
            have HCp : Hid (cpn = (if d.on = true then 2 ^ k else 0 : Nat)) := hcp
            clear hcp
            obtain ⟨W8, hW8⟩ : ∃ W8, W8 = (wr.alloc (Obj.cells #[.int .i64 (k : Int)] 3)).alloc (Obj.cells #[.string d.nm, .int .i64 d.kd, .slice dh d.arts.length dcp, .int .i64 d.nd, .int .i64 d.vl, .bool d.on] 39) := ⟨_, rfl⟩
            have H8 : Hid (Below wr.heap.size wr W8 ∧ W8.heap[wr.heap.size]? = some (.cells #[.int .i64 (k : Int)] 3 (0, 0)) ∧ W8.heap[wr.heap.size + 1]? = some (.cells #[.string d.nm, .int .i64 d.kd, .slice dh d.arts.length dcp, .int .i64 d.nd, .int .i64 d.vl, .bool d.on] 39 (0, 0))) := by
              have a1 := heapNew wr (Obj.cells #[.int .i64 (k : Int)] 3)
              have a2 := heapNew (wr.alloc (Obj.cells #[.int .i64 (k : Int)] 3)) (Obj.cells #[.string d.nm, .int .i64 d.kd, .slice dh d.arts.length dcp, .int .i64 d.nd, .int .i64 d.vl, .bool d.on] 39)
              rw [alloc_size] at a2
              rw [hW8]
              exact ⟨chain (below_alloc _ _) (below_alloc _ _), alloc_old a1, a2⟩
            have HW8 : Hid (W8 = (wr.alloc (Obj.cells #[.int .i64 (k : Int)] 3)).alloc (Obj.cells #[.string d.nm, .int .i64 d.kd, .slice dh d.arts.length dcp, .int .i64 d.nd, .int .i64 d.vl, .bool d.on] 39)) := hW8
            clear hW8
            go_wp2_with fail
            rw [← HW8.out]
            clear HW8 d0 d1 d2 d3 d4 d5
            refine (HCb.out _).mono ?_
            rintro e w8 ⟨rfl, hb8⟩
            have hb9 : Below W8.heap.size W8 (w8.alloc (Obj.cells #[.int .u64 (cpn : Int)] 71)) := chain hb8 (below_alloc _ _)
            have HSt : Hid (∀ W', Below (w8.alloc (Obj.cells #[.int .u64 (cpn : Int)] 71)).heap.size (w8.alloc (Obj.cells #[.int .u64 (cpn : Int)] 71)) W' → Sx C W sp (some ⟨ab, ao, none⟩) (x :: l) W' ∧ StB C k sp bb W.heap.size w8.heap.size (wr.heap.size + 1) wr.heap.size (bestK C.us C.ds x l sp k) W' ∧ DlAt W' (wr.heap.size + 1) 0 dh dcp d) := fun W' hW => by
              have hb := chain (chain H8.out.1 hb9) hW
              have hX := HX.out.1.later hb hB0
              obtain ⟨va, vc, hb2, hr2⟩ := HX.out.2
              have e1 : W'.heap[wr.heap.size + 1]? = some (.cells #[.string d.nm, .int .i64 d.kd, .slice dh d.arts.length dcp, .int .i64 d.nd, .int .i64 d.vl, .bool d.on] 39 (0, 0)) := ((chain hb9 hW).block _ (blkLt H8.out.2.2)).trans H8.out.2.2
              have e2 : W'.heap[w8.heap.size]? = some (.cells #[.int .u64 (cpn : Int)] 71 (0, 0)) := (hW.block _ (blkLt (heapNew w8 _))).trans (heapNew w8 _)
              refine ⟨hX, ⟨hX.env, ⟨va, vc, (hb.block _ (blkLt hb2)).trans hb2, hr2.later hb⟩, hX.spx, ?_, ?_, ((chain hb9 hW).block _ (blkLt H8.out.2.1)).trans H8.out.2.1, by omega⟩, blkCell e1 0 _ rfl, blkCell e1 1 _ rfl, blkCell e1 2 _ rfl, blkCell e1 3 _ rfl, blkCell e1 4 _ rfl, blkCell e1 5 _ rfl⟩
              · rw [← HDe.out, ← HCp.out]; exact e2
              · refine ⟨dh, dcp, ?_, HRd.out⟩
                rw [← HDe.out]; exact e1
            have hc0 := HSt.out _ (Below.refl _ _)
            have x7 : (w8.alloc (Obj.cells #[.int .u64 (cpn : Int)] 71)).cell? ⟨W.heap.size, 0, none⟩ = some (.int .u64 (sp : Int)) := blkCell hc0.1.spx 0 _ rfl
            have x8 := hc0.2.2.2.2.2.1
            clear hc0 hb8 hb9 H8
            have hcl : cpn < 65536 := by
              rw [HCp.out]
              have := pow_lt k (by omega)
              split <;> omega
            have handU : bits .and .u64 (sp : Int) (cpn : Int) = ((sp &&& cpn : Nat) : Int) := andU sp cpn (by omega) hcl
            have HOf : Hid ((((sp &&& cpn : Nat) : Int) != 0) = offD d sp k) := by show _ = _; rw [HCp.out]; exact and_off d sp k
            obtain ⟨an, han⟩ : ∃ an : Nat, an = sp &&& cpn := ⟨_, rfl⟩
            rw [← han] at handU HOf
            clear han
            by_cases hoff : offD d sp k = true
            · have hne0 : ((an : Int) != 0) = true := HOf.out.trans hoff
              have HBs : Hid (bestK C.us C.ds x l sp (k + 1) = bestK C.us C.ds x l sp k) := by
                show _ = _
                rw [bestK_succ, stD, ← HDe.out, if_pos hoff]
              have HEn : Hid (Sx C W sp (some ⟨ab, ao, none⟩) (x :: l) (w8.alloc (Obj.cells #[.int .u64 (cpn : Int)] 71)) ∧ ∃ va vc, (w8.alloc (Obj.cells #[.int .u64 (cpn : Int)] 71)).heap[bb]? = some (.cells #[.int .i64 (bestK C.us C.ds x l sp (k + 1)).sv, .slice va (bestK C.us C.ds x l sp (k + 1)).us.length vc] 73 (0, 0)) ∧ RU (w8.alloc (Obj.cells #[.int .u64 (cpn : Int)] 71)) va (bestK C.us C.ds x l sp (k + 1)).us) := by
                have hh := HSt.out _ (Below.refl _ _)
                obtain ⟨va, vc, h1, h2⟩ := hh.2.1.best
                rw [HBs.out]
                exact ⟨hh.1, va, vc, h1, h2⟩
              have hki : k + 1 ≤ C.ds.length := Hlt.out
              clear HSt
              go_wp2
              exact ⟨⟨k + 1, hki, by go_num, HEn.out⟩, by simp [intOf]; omega⟩
            · have hne0 : ((an : Int) != 0) = false := HOf.out.trans (by simpa using hoff)
              have HBs : Hid (bestK C.us C.ds x l sp (k + 1) = (takes C.us (C.ds.getD k zDl) (x :: l)).foldl (stT (svU C.us (C.ds.getD k zDl)) (fun r => sr C.us C.ds r (spD (C.ds.getD k zDl) sp k)) k) (bestK C.us C.ds x l sp k)) := by
                show _ = _
                rw [bestK_succ, stD, if_neg (by rw [← HDe.out]; exact hoff)]
              have HEt : Hid (Calls Try.prog 41 #[.slice (some ⟨ab, ao, none⟩) (l.length + 1) c, .int .i64 d.nd, .func (.func 39) #[] #[.pointer (some ⟨wr.heap.size + 1, 0, none⟩), .pointer (some ⟨C.ub, 0, none⟩)], .func (.func 42) #[] #[.pointer (some ⟨C.sb, 0, none⟩), .pointer (some ⟨W.heap.size, 0, none⟩), .pointer (some ⟨w8.heap.size, 0, none⟩), .pointer (some ⟨wr.heap.size + 1, 0, none⟩), .pointer (some ⟨C.ub, 0, none⟩), .pointer (some ⟨bb, 0, none⟩), .pointer (some ⟨wr.heap.size, 0, none⟩)]] (w8.alloc (Obj.cells #[.int .u64 (cpn : Int)] 71)) fun e w' => e = .returned (.tuple #[]) ∧ StB C k sp bb W.heap.size w8.heap.size (wr.heap.size + 1) wr.heap.size ((takes C.us (C.ds.getD k zDl) (x :: l)).foldl (stT (svU C.us (C.ds.getD k zDl)) (fun r => sr C.us C.ds r (spD (C.ds.getD k zDl) sp k)) k) (bestK C.us C.ds x l sp k)) w' ∧ Fr (XB C bb) (w8.alloc (Obj.cells #[.int .u64 (cpn : Int)] 71)) w') := by
                have hh := HSt.out _ (Below.refl _ _)
                have hnd : 1 ≤ d.nd := by
                  rw [HDe.out]
                  exact nd_ok HC.out.hd k Hlt.out
                have := each_any C HC.out N HSr.out k sp bb W.heap.size w8.heap.size (wr.heap.size + 1) wr.heap.size Hlt.out hsp x l HL.out hN (bestK C.us C.ds x l sp k) (some ⟨ab, ao, none⟩) c hc d.nd.toNat (by rw [← HDe.out]; omega) _ hh.2.1 hh.1.row
                rw [Int.toNat_of_nonneg (by omega)] at this
                exact this
              have hki : k + 1 ≤ C.ds.length := Hlt.out
              go_wp2_with fail
              refine HEt.out.mono ?_
              rintro e w9 ⟨rfl, hS9, hF9⟩
              have HEn : Hid (Sx C W sp (some ⟨ab, ao, none⟩) (x :: l) w9 ∧ ∃ va vc, w9.heap[bb]? = some (.cells #[.int .i64 (bestK C.us C.ds x l sp (k + 1)).sv, .slice va (bestK C.us C.ds x l sp (k + 1)).us.length vc] 73 (0, 0)) ∧ RU w9 va (bestK C.us C.ds x l sp (k + 1)).us) := by
                have hh := HSt.out _ (Below.refl _ _)
                rw [HBs.out]
                obtain ⟨va, vc, h1, h2⟩ := hS9.best
                refine ⟨hh.1.fr hh.2.1.typ hF9 (fun q e => ?_) (fun q e => ?_) hS9.env.memo hB0, va, vc, h1, h2⟩
                · rcases e with e | e
                  · exact .inl e
                  · exact .inr (by omega)
                · rcases e with e | e
                  · rw [e]; exact HC.out.lkb
                  · omega
              clear hS9 hF9 HSt HEt x7 x8
              go_wp2
              exact ⟨⟨k + 1, hki, by go_num, HEn.out⟩, by simp [intOf]; omega⟩
          · obtain rfl : k = C.ds.length := by omega
            have hnn : ¬ ((C.ds.length : Int) < (C.ds.length : Int)) := by omega
            have hy : bestK C.us C.ds x l sp C.ds.length = sr C.us C.ds (x :: l) sp := (sr_cons (nd_ok HC.out.hd) x l sp).symm
            rw [hy] at hb hru
            obtain ⟨y, hye⟩ : ∃ y, y = sr C.us C.ds (x :: l) sp := ⟨_, rfl⟩
            obtain ⟨w6, hrun, hm6, hf6⟩ := Memo.put hX.env.memo hu8 HL.out hsp ⟨va, vc, rfl, hru⟩
            rw [← hye] at hb hru hrun
            unfold keyS at hrun
            rw [HBe.out] at hrun
            have hX6 := hX.fr (typ_map hX.env.memo.is) hf6 (fun q e => .inl e) (fun q e => by rw [e]; exact HC.out.lkb) hm6 hB0
            have hru6 := hru.fr (typ_map hX.env.memo.is) hf6
            have hne6 : ¬ bb = C.kb := fun e => by
              obtain ⟨es, ck, hk⟩ := hX.env.memo.is
              rw [e, hk] at hb
              simp at hb
            have hb6 := (hf6.block bb (blkLt hb) hne6).trans hb
            have x0 : wr.cell? ⟨C.kx, 0, none⟩ = some (.map (some C.kb)) := blkCell hX.env.kbx 0 _ rfl
            have x1 : wr.cell? ⟨W.heap.size + 1 + 1, 0, none⟩ = some (.int .u64 (bt : Int)) := by rw [← HBe.out]; exact blkCell hX.kyx 0 _ rfl
            have x2 : wr.cell? ⟨W.heap.size + 1 + 1, 1, none⟩ = some (.int .u64 (sp : Int)) := blkCell hX.kyx 1 _ rfl
            have x3 : wr.cell? ⟨bb, 0, none⟩ = some (.int .i64 y.sv) := blkCell hb 0 _ rfl
            have x4 : wr.cell? ⟨bb, 1, none⟩ = some (.slice va y.us.length vc) := blkCell hb 1 _ rfl
            have x5 : w6.cell? ⟨bb, 0, none⟩ = some (.int .i64 y.sv) := blkCell hb6 0 _ rfl
            have x6 : w6.cell? ⟨bb, 1, none⟩ = some (.slice va y.us.length vc) := blkCell hb6 1 _ rfl
            have r0 : w6.cell? ⟨W.heap.size + 1, 0, none⟩ = some (.int .i64 0) := blkCell hX6.rsx 0 _ rfl
            have r1 : w6.cell? ⟨W.heap.size + 1, 1, none⟩ = some (.slice none 0 0) := blkCell hX6.rsx 1 _ rfl
            have r2 := blkFree hX6.rsx 0
            have r3 := blkFree hX6.rsx 1
            have HY : Hid (y = sr C.us C.ds (x :: l) sp) := hye
            have HFi : Hid (Sx C W sp (some ⟨ab, ao, none⟩) (x :: l) w6 ∧ RU w6 va y.us) := ⟨hX6, hru6⟩
            clear hye hX6 hru6 hb6 hb hru hX hm6 hf6 hne6 hy
            go_wp2
            obtain ⟨W5, hW5⟩ : ∃ W5, W5 = (w6.setCell ⟨W.heap.size + 1, 0, none⟩ (.int .i64 y.sv)).setCell ⟨W.heap.size + 1, 1, none⟩ (.slice va y.us.length vc) := ⟨_, rfl⟩
            obtain ⟨z0, z1, z2, z3, z4⟩ := HFi.out.1.ret y va vc HFi.out.2 W5 hW5
            rw [← hW5]
            refine bodyPost_ret (v := .agg #[.int .i64 y.sv, .slice va y.us.length vc]) (by simp [results, Try.results36, go_sem, z0, z1]) rfl ?_
            rw [← HY.out]
            exact ⟨_, rfl, ⟨va, vc, rfl, z2⟩, z3, z4⟩
theorem search_all (C : Cx) (hC : CxOK C) : ∀ N, SrP C N
  | 0 => fun r sp a c W h => absurd h (Nat.not_lt_zero _)
  | N + 1 => fun r sp a c W hl hr hsp hc hE hR => by
    cases r with
    | nil => exact search_nil C hC sp a c W hE
    | cons x l => exact search_cons C hC N (search_all C hC N) x l (by simpa using Nat.lt_succ_iff.1 hl) hr sp hsp a c hc W hE hR
end Go.Proofs.Ytkfmifbffgbiiaa
