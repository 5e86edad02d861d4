/-
  The program's stock.
-/
import Derived.Test.YtlfcaijhlgldnaaKmS
namespace Go.Proofs.Ytlfcaijhlgldnaa
open Go.ChangeShapes Go.WideShapes Go.ChangeAt Go.RowKit Go.Deep
set_option linter.unusedVariables false

def stkV (σ : StS) (lv : Value) : Array Value := #[.int .i64 σ.day, .int .i64 σ.rc, .int .i64 σ.sd, .int .i64 σ.wa, .int .i64 σ.sh, lv]
def stkZ : Array Value := #[.int .i64 0, .int .i64 0, .int .i64 0, .int .i64 0, .int .i64 0, .slice none 0 0]
structure SkSt (w : World) (σ : StS) (k : Nat) (la : Option Addr) (lc : Nat) (wr : World) : Prop where
  low : Below w.heap.size w wr
  res : wr.heap[w.heap.size]? = some (.cells stkZ 29 (0, 0))
  box : wr.heap[w.heap.size + 1]? = some (.cells (stkV σ (.slice la k lc)) 29 (0, 0))
  row : wr.ownsRow w.heap.size 38 5 (.slice la k lc) k (slCells (σ.L.take k))
theorem SkSt.later {w : World} {σ : StS} {k : Nat} {la : Option Addr} {lc : Nat} {wr w' : World} (h : SkSt w σ k la lc wr) (hb : Below wr.heap.size wr w') : SkSt w σ k la lc w' :=
  ⟨chain h.low hb, (hb.block _ (blkLt h.res)).trans h.res, (hb.block _ (blkLt h.box)).trans h.box, row_of h.row (fun q hq => hb.block q (row_lt h.row q hq).2)⟩
theorem SkSt.ne {w : World} {σ : StS} {k : Nat} {la : Option Addr} {lc : Nat} {wr : World} (h : SkSt w σ k la lc wr) : Value.ownBlock (.slice la k lc) ≠ some w.heap.size ∧ Value.ownBlock (.slice la k lc) ≠ some (w.heap.size + 1) := by
  refine ⟨fun e => ?_, fun e => ?_⟩
  · obtain ⟨cur, hc⟩ := row_type h.row e
    rw [h.res] at hc; simp at hc
  · obtain ⟨cur, hc⟩ := row_type h.row e
    rw [h.box] at hc; simp at hc
theorem take_push {L : List RSl} {k : Nat} (h : k < L.length) : slCells (L.take (k + 1)) = slCells (L.take k) ++ slC (gl L k) := by
  rw [List.take_succ_eq_append_getElem h, slCells_append, gl_get h]
  simp [slCells]
theorem SkSt.push {w : World} {σ : StS} {k : Nat} {la : Option Addr} {lc : Nat} {wr w9 : World} {g cp : Nat} (h : SkSt w σ k la lc wr) (hk : k < σ.L.length)
    (ho : w9.ownsRow w.heap.size 38 5 (.slice (some ⟨g, 0, none⟩) (k + 1) cp) (k + 1) (slCells (σ.L.take k) ++ slC (gl σ.L k))) (hg : wr.grownBy w9 (Value.ownBlock (.slice la k lc))) (hat : Value.ownBlock (.slice la k lc) = some g ∨ wr.heap.size ≤ g) :
    SkSt w σ (k + 1) (some ⟨g, 0, none⟩) cp (w9.setCell ⟨w.heap.size + 1, 5, none⟩ (.slice (some ⟨g, 0, none⟩) (k + 1) cp)) ∧ w9.cell? ⟨w.heap.size + 1, 5, none⟩ = some (.slice la k lc) ∧ w9.frozen? ⟨w.heap.size + 1, 5, none⟩ = false := by
  have hn := h.ne
  have hgf := fr_grown hg
  have hbox := (hgf.block _ (blkLt h.box) hn.2).trans h.box
  have hgn : g ≠ w.heap.size + 1 := fun e => by
    rcases hat with q | q
    · exact hn.2 (by rw [q, e])
    · have := blkLt h.box; omega
  have hlow : Below w.heap.size w w9 := h.low.grown hg (Nat.le_of_lt (blkLt h.res)) (fun q hq => (row_lt h.row q hq).1)
  have e5 := heap_setCell_same _ _ 5 _ _ (.slice (some ⟨g, 0, none⟩) (k + 1) cp) hbox
  refine ⟨⟨hlow.setCell (by show w.heap.size ≤ w.heap.size + 1; omega) _, (Below.heap_setCell _ _ _ _ (by show w.heap.size ≠ w.heap.size + 1; omega)).trans ((hgf.block _ (blkLt h.res) hn.1).trans h.res), e5, ?_⟩, blkCell hbox 5 _ rfl, blkFree hbox 5⟩
  rw [take_push hk]
  refine row_of (w := w9) ho (fun q hq => Below.heap_setCell _ _ _ _ ?_)
  have hq2 : g = q := by simpa [Value.ownBlock] using hq
  rw [← hq2]; exact hgn
set_option maxHeartbeats 8000000 in
theorem stock_any {B rb mb ub : Nat} {σ : StS} {ov : Value} {w : World} (h : Rn B rb mb ub σ ov w) (hlen : σ.L.length ≤ 60) (hN : ∀ r ∈ σ.L, SlN r) :
    Calls Try.prog 25 #[.pointer (some ⟨rb, 0, none⟩)] w fun e w' => ∃ la lc, e = .returned (.agg (stkV σ (.slice la σ.L.length lc))) ∧ w'.ownsRow w.heap.size 38 5 (.slice la σ.L.length lc) σ.L.length (slCells σ.L) ∧ Below w.heap.size w w' := by
  obtain ⟨oa, oc, rfl⟩ := row_slice h.ord
  have HR : Hid (Rn B rb mb ub σ (.slice oa σ.L.length oc) w) := h
  have HN : Hid (∀ r ∈ σ.L, SlN r) := hN
  have hW1 := h.later (below_alloc w (Obj.cells stkZ 29))
  have c0 := hW1.at.c0
  have c1 := hW1.at.c1
  have c2 := hW1.at.c2
  have c3 := hW1.at.c3
  have c4 := hW1.at.c4
  have c5 := hW1.at.c5
  have hW2 := hW1.later (below_alloc _ (Obj.cells (stkV σ (.slice none 0 0)) 29))
  have c7 := hW2.at.c7
  unfold stkZ at c0 c1 c2 c3 c4 c5 c7
  unfold stkV at c7
  have H0 : Hid (SkSt w σ 0 none 0 ((w.alloc (Obj.cells stkZ 29)).alloc (Obj.cells (stkV σ (.slice none 0 0)) 29))) := by
    obtain ⟨k1, k2⟩ := heapTwo w (Obj.cells stkZ 29) (Obj.cells (stkV σ (.slice none 0 0)) 29)
    exact ⟨chain (below_alloc _ _) (below_alloc _ _), k1, k2, World.ownsRow_nil _ _ _ _⟩
  unfold stkZ stkV at H0
  obtain ⟨i0, hi, hzz⟩ := Option.map_eq_some_iff.1 slInfo
  simp only [Prod.mk.injEq] at hzz
  obtain ⟨hi0, hi1, hi2⟩ := hzz
  have t0 := fldNu
  have t1 := na_toldT
  have t2 := me_toldT
  clear h hN hW1 hW2
  unfold stkV
  go_enter Try.func25, Try.ntmps25
  go_wp2
  clear c0 c1 c2 c3 c4 c5 c7
  go_loopw [5, 15] (fun _ x wr => ∃ (k : Nat) (la : Option Addr) (lc : Nat), k ≤ σ.L.length ∧ x = .int .i64 (k : Int) ∧ SkSt w σ k la lc wr) (fun _ x _ => σ.L.length - (intOf x).toNat)
  case atStart => exact ⟨0, none, 0, Nat.zero_le _, rfl, H0.out⟩
  case round =>
    obtain ⟨k, la, lc, hk, rfl, hst⟩ := hrel
    have HS : Hid (SkSt w σ k la lc wr) := hst
    clear hst H0
    by_cases hlt : k < σ.L.length
    · have hlt' : (k : Int) < (σ.L.length : Int) := by omega
      have hRr := HR.out.later HS.out.low
      obtain ⟨g, cp, hq⟩ := row_some hRr.ord (by omega)
      simp only [Value.slice.injEq, true_and] at hq
      obtain ⟨rfl, rfl⟩ := hq
      obtain ⟨q0, q1⟩ := row_ky hRr.ord hlt
      obtain ⟨⟨a0, a1, a2, a3, a4⟩, hr⟩ : ∃ r, gl σ.L k = r := ⟨_, rfl⟩
      have HIr : Hid (gl σ.L k = ⟨a0, a1, a2, a3, a4⟩) := hr
      rw [hr] at q0 q1
      dsimp only at q0 q1
      clear hr hRr
      obtain ⟨W1, hW1⟩ : ∃ W1, W1 = wr.alloc (Obj.cells #[.string a0, .int .i64 a1] 82) := ⟨_, rfl⟩
      obtain ⟨kb, hkb⟩ : ∃ kb, kb = wr.heap.size := ⟨_, rfl⟩
      have H1 : Hid (SkSt w σ k la lc W1 ∧ W1.heap[kb]? = some (.cells #[.string a0, .int .i64 a1] 82 (0, 0)) ∧ Value.ownBlock (.slice la k lc) ≠ some kb) := by
        rw [hW1, hkb]
        refine ⟨HS.out.later (below_alloc _ _), heapNew _ _, fun e => ?_⟩
        have := row_lt HS.out.row _ e
        omega
      have HQ : Hid (∀ W, Fr (fun q => Value.ownBlock (.slice la k lc) = some q) W1 W → W.cell? ⟨w.heap.size + 1, 5, none⟩ = some (.slice la k lc) ∧ W.frozen? ⟨w.heap.size + 1, 5, none⟩ = false ∧ W.heap[kb]? = some (.cells #[.string a0, .int .i64 a1] 82 (0, 0)) ∧ Rn B rb mb ub σ (.slice (some ⟨g, 0, none⟩) σ.L.length oc) W) := fun W hW => by
        have hb := (hW.block _ (blkLt H1.out.1.box) H1.out.1.ne.2).trans H1.out.1.box
        refine ⟨blkCell hb 5 _ rfl, blkFree hb 5, (hW.block _ (blkLt H1.out.2.1) H1.out.2.2).trans H1.out.2.1, ?_⟩
        have hRw := HR.out.later H1.out.1.low
        refine hRw.same (fun q hq => hW.block q (hRw.lt q hq).2 (fun e => ?_))
        obtain ⟨cur, hc⟩ := row_type H1.out.1.row e
        exact hRw.notX hc (by decide) (by decide) hq
      go_wp2_with fail
      rw [← hW1, ← hkb]
      clear hW1 hkb q0 q1
      refine wp_region_z (S := fun W => Fr (fun q => Value.ownBlock (.slice la k lc) = some q) W1 W) 12 (by kernel_rfl) (Fr.of (below_drew _)) (fun hH => ?_)
      refine wpAnyZ_take (i := 0) (v := .pointer (some ⟨w.heap.size + 1, 5, none⟩)) rfl (by kernel_rfl) (by kernel_rfl) (by kernel_rfl) (by kernel_rfl) (fun _ _ _ h => h) (Or.inl ⟨by rfl, fun w hSw => by go_simp⟩) hH ?_
      refine wpAnyZ_take (i := 1) (v := .slice la k lc) rfl (by kernel_rfl) (by kernel_rfl) (by kernel_rfl) (by kernel_rfl) (fun _ _ _ h => h) (Or.inl ⟨by rfl, fun w hSw => by have f0 := (HQ.out w hSw).1; go_simp⟩) hH ?_
      try simp only [Act.put, List.setIfInBounds_toArray, List.set_cons_zero, List.set_cons_succ, List.getElem_toArray, List.getElem_cons_succ, List.getElem_cons_zero]
      refine wpAnyZ_take (i := 2) (v := .pointer (some ⟨rb, 0, none⟩)) rfl (by kernel_rfl) (by kernel_rfl) (by kernel_rfl) (by kernel_rfl) (fun _ _ _ h => h) (Or.inl ⟨by rfl, fun w hSw => by go_simp⟩) hH ?_
      try simp only [Act.put, List.setIfInBounds_toArray, List.set_cons_zero, List.set_cons_succ, List.getElem_toArray, List.getElem_cons_succ, List.getElem_cons_zero]
      refine wpAnyZ_take (i := 3) (v := .pointer (some ⟨rb, 0, none⟩)) rfl (by kernel_rfl) (by kernel_rfl) (by kernel_rfl) (by kernel_rfl) (fun _ _ _ h => h) (Or.inl ⟨by rfl, fun w hSw => by go_simp⟩) hH ?_
      try simp only [Act.put, List.setIfInBounds_toArray, List.set_cons_zero, List.set_cons_succ, List.getElem_toArray, List.getElem_cons_succ, List.getElem_cons_zero]
      refine wpAnyZ_take (i := 4) (v := .pointer (some ⟨rb, 6, none⟩)) rfl (by kernel_rfl) (by kernel_rfl) (by kernel_rfl) (by kernel_rfl) (fun _ _ _ h => h) (Or.inl ⟨by rfl, fun w hSw => by go_simp⟩) hH ?_
      try simp only [Act.put, List.setIfInBounds_toArray, List.set_cons_zero, List.set_cons_succ, List.getElem_toArray, List.getElem_cons_succ, List.getElem_cons_zero]
      refine wpAnyZ_take (i := 5) (v := .map (some mb)) rfl (by kernel_rfl) (by kernel_rfl) (by kernel_rfl) (by kernel_rfl) (fun _ _ _ h => h) (Or.inl ⟨by rfl, fun w hSw => by have f0 := (HQ.out w hSw).2.2.2.at.c6; go_simp⟩) hH ?_
      try simp only [Act.put, List.setIfInBounds_toArray, List.set_cons_zero, List.set_cons_succ, List.getElem_toArray, List.getElem_cons_succ, List.getElem_cons_zero]
      refine wpAnyZ_take (i := 6) (v := .agg #[.string a0, .int .i64 a1]) rfl (by kernel_rfl) (by kernel_rfl) (by kernel_rfl) (by kernel_rfl) (fun _ _ _ h => h) (Or.inl ⟨by rfl, fun w hSw => by have f0 := blkCell (HQ.out w hSw).2.2.1 0 _ rfl; have f1 := blkCell (HQ.out w hSw).2.2.1 1 _ rfl; go_simp⟩) hH ?_
      try simp only [Act.put, List.setIfInBounds_toArray, List.set_cons_zero, List.set_cons_succ, List.getElem_toArray, List.getElem_cons_succ, List.getElem_cons_zero]
      refine wpAnyZ_take (i := 7) (v := .iface (lotT a4) (.agg #[.string a0, .int .i64 a1, .int .i64 a2, .int .i64 a3, .bool a4])) rfl (by kernel_rfl) (by kernel_rfl) (by kernel_rfl) (by kernel_rfl) (fun _ _ _ h => h) (Or.inl ⟨by rfl, fun w hSw => by have f0 := (HQ.out w hSw).2.2.2.get HN.out hlt HIr.out; go_simp⟩) hH ?_
      try simp only [Act.put, List.setIfInBounds_toArray, List.set_cons_zero, List.set_cons_succ, List.getElem_toArray, List.getElem_cons_succ, List.getElem_cons_zero]
      have hbd : Below W1.heap.size W1 W1.drew := below_drew _
      refine wpAnyZ_ready (rs := [8]) (by kernel_rfl) (by simp) ?_
      refine AllReadyZ.cons rfl (fun K hK => ?_) AllReadyZ.nil
      go_simp
      refine (told_any a0 a1 a2 a3 a4 _).mono ?_
      rintro e w3 ⟨rfl, hb3⟩
      have hb3' : Below W1.heap.size W1 w3 := chain hbd hb3
      have h3 : Fr (fun q => Value.ownBlock (.slice la k lc) = some q) W1 w3 := Fr.of hb3'
      refine hK.out _ _ (Or.inr h3) (fun _ => ?_)
      clear hK K
      try simp only [Act.put, List.setIfInBounds_toArray, List.set_cons_zero, List.set_cons_succ, List.getElem_toArray, List.getElem_cons_succ, List.getElem_cons_zero]
      clear hb3 hbd hH
      refine wpAnyZ_ready (rs := [9]) (by kernel_rfl) (by simp) ?_
      refine AllReadyZ.cons rfl (fun K hK => ?_) AllReadyZ.nil
      go_simp
      have hb4 : Below W1.heap.size W1 (w3.alloc (Obj.cells #[.string a0, .int .i64 a1, .int .i64 a2, .int .i64 a3, .bool a4] 38)) := chain hb3' (below_alloc _ _)
      have hn4 : (w3.alloc (Obj.cells #[.string a0, .int .i64 a1, .int .i64 a2, .int .i64 a3, .bool a4] 38)).heap[w3.heap.size]? = some (.cells #[.string a0, .int .i64 a1, .int .i64 a2, .int .i64 a3, .bool a4] 38 (0, 0)) := heapNew _ _
      have h4 : Fr (fun q => Value.ownBlock (.slice la k lc) = some q) W1 (w3.alloc (Obj.cells #[.string a0, .int .i64 a1, .int .i64 a2, .int .i64 a3, .bool a4] 38)) := Fr.of hb4
      refine hK.out _ _ (Or.inr h4) (fun _ => ?_)
      clear hK K
      try simp only [Act.put, List.setIfInBounds_toArray, List.set_cons_zero, List.set_cons_succ, List.getElem_toArray, List.getElem_cons_succ, List.getElem_cons_zero]
      generalize w3.alloc (Obj.cells #[.string a0, .int .i64 a1, .int .i64 a2, .int .i64 a3, .bool a4] 38) = W4 at *
      have HS4 : Hid (SkSt w σ k la lc W4) := H1.out.1.later hb4
      clear hb3' h3
      refine wpAnyZ_ready (rs := [10]) (by kernel_rfl) (by simp) ?_
      refine AllReadyZ.cons rfl (fun K hK => ?_) AllReadyZ.nil
      refine step_append_lies _ rfl (.tmp 20) (.tmp 28) 27 rfl w.heap.size 38 i0 (.agg #[.string ⟨#[]⟩, .int .i64 0, .int .i64 0, .int .i64 0, .bool false]) 5 48 Try.underlying27 hi hi0 hi1 hi2 rfl (by decide) (.slice la k lc) _ _ (by simp [Act.eval]) HS4.out.row ⟨w3.heap.size, 0, none⟩ 1 1 [.string a0, .int .i64 a1, .int .i64 a2, .int .i64 a3, .bool a4] (by simp [Act.eval]) rfl (World.news_of_block hn4) (by simp [Value.oneCell']) (by omega) (by unfold maxLen; omega) (by omega) (by have := HS4.out.low.size; omega) _ rfl (fun g1 cp1 w9 hown hgrow hat hglt => ?_)
      have hS9 : Fr (fun q => Value.ownBlock (.slice la k lc) = some q) W1 w9 := h4.trans (fr_grown hgrow)
      have hat2 : Value.ownBlock (.slice la k lc) = some g1 ∨ W4.heap.size ≤ g1 := hat.imp id (fun r => by omega)
      have hpu := HS4.out.push hlt (by rw [HIr.out]; exact hown) hgrow hat2
      have HP : Hid (SkSt w σ (k + 1) (some ⟨g1, 0, none⟩) cp1 (w9.setCell ⟨w.heap.size + 1, 5, none⟩ (.slice (some ⟨g1, 0, none⟩) (k + 1) cp1))) := hpu.1
      have y0 := hpu.2.1
      have y1 := hpu.2.2
      clear hpu hown hgrow hat hat2 hglt hn4 hb4 h4
      refine hK.out _ _ (Or.inr hS9) (fun _ => ?_)
      clear hK K
      try simp only [Act.put, List.setIfInBounds_toArray, List.set_cons_zero, List.set_cons_succ, List.getElem_toArray, List.getElem_cons_succ, List.getElem_cons_zero]
      refine wpAnyZ_take (i := 11) (v := .pointer (some ⟨w.heap.size + 1, 5, none⟩)) rfl (by kernel_rfl) (by kernel_rfl) (by kernel_rfl) (by kernel_rfl) (fun _ _ _ h => h) (Or.inl ⟨by rfl, fun w hSw => by go_simp⟩) hS9 ?_
      try simp only [Act.put, List.setIfInBounds_toArray, List.set_cons_zero, List.set_cons_succ, List.getElem_toArray, List.getElem_cons_succ, List.getElem_cons_zero]
      refine wpAnyZ_ready (rs := [12]) (by kernel_rfl) (by simp) ?_
      refine AllReadyZ.cons rfl (fun K hK => ?_) AllReadyZ.nil
      go_simp
      refine hK.out _ _ (Or.inl rfl) (fun _ => ?_)
      clear hK K
      try simp only [Act.put, List.setIfInBounds_toArray, List.set_cons_zero, List.set_cons_succ, List.getElem_toArray, List.getElem_cons_succ, List.getElem_cons_zero]
      refine wpAnyZ_done (by kernel_rfl) ?_ _
      clear y0 y1 hS9 HQ H1 HS4
      generalize w9.setCell ⟨w.heap.size + 1, 5, none⟩ (.slice (some ⟨g1, 0, none⟩) (k + 1) cp1) = W9 at *
      go_wp2
      exact ⟨⟨k + 1, some ⟨g1, 0, none⟩, cp1, by omega, by go_num, HP.out⟩, by simp [intOf]; omega⟩
    · obtain rfl : k = σ.L.length := by omega
      have HRow : Hid (wr.ownsRow w.heap.size 38 5 (.slice la σ.L.length lc) σ.L.length (slCells σ.L)) := by have := HS.out.row; rwa [List.take_length] at this
      have hbx := HS.out.box
      unfold stkV at hbx
      have hrs := HS.out.res
      unfold stkZ at hrs
      have b0 := blkCell hbx 0 _ rfl
      have b1 := blkCell hbx 1 _ rfl
      have b2 := blkCell hbx 2 _ rfl
      have b3 := blkCell hbx 3 _ rfl
      have b4 := blkCell hbx 4 _ rfl
      have b5 := blkCell hbx 5 _ rfl
      have r0 := blkCell hrs 0 _ rfl
      have r1 := blkCell hrs 1 _ rfl
      have r2 := blkCell hrs 2 _ rfl
      have r3 := blkCell hrs 3 _ rfl
      have r4 := blkCell hrs 4 _ rfl
      have r5 := blkCell hrs 5 _ rfl
      have f0 := blkFree hrs 0
      have f1 := blkFree hrs 1
      have f2 := blkFree hrs 2
      have f3 := blkFree hrs 3
      have f4 := blkFree hrs 4
      have f5 := blkFree hrs 5
      have HEnd : Hid ((((((((wr.setCell ⟨w.heap.size, 0, none⟩ (.int .i64 σ.day)).setCell ⟨w.heap.size, 1, none⟩ (.int .i64 σ.rc)).setCell ⟨w.heap.size, 2, none⟩ (.int .i64 σ.sd)).setCell ⟨w.heap.size, 3, none⟩ (.int .i64 σ.wa)).setCell ⟨w.heap.size, 4, none⟩ (.int .i64 σ.sh)).setCell ⟨w.heap.size, 5, none⟩ (.slice la σ.L.length lc)).heap[w.heap.size]? = some (.cells #[.int .i64 σ.day, .int .i64 σ.rc, .int .i64 σ.sd, .int .i64 σ.wa, .int .i64 σ.sh, .slice la σ.L.length lc] 29 (0, 0))) ∧ (((((((wr.setCell ⟨w.heap.size, 0, none⟩ (.int .i64 σ.day)).setCell ⟨w.heap.size, 1, none⟩ (.int .i64 σ.rc)).setCell ⟨w.heap.size, 2, none⟩ (.int .i64 σ.sd)).setCell ⟨w.heap.size, 3, none⟩ (.int .i64 σ.wa)).setCell ⟨w.heap.size, 4, none⟩ (.int .i64 σ.sh)).setCell ⟨w.heap.size, 5, none⟩ (.slice la σ.L.length lc)).ownsRow w.heap.size 38 5 (.slice la σ.L.length lc) σ.L.length (slCells σ.L)) ∧ Below w.heap.size w ((((((wr.setCell ⟨w.heap.size, 0, none⟩ (.int .i64 σ.day)).setCell ⟨w.heap.size, 1, none⟩ (.int .i64 σ.rc)).setCell ⟨w.heap.size, 2, none⟩ (.int .i64 σ.sd)).setCell ⟨w.heap.size, 3, none⟩ (.int .i64 σ.wa)).setCell ⟨w.heap.size, 4, none⟩ (.int .i64 σ.sh)).setCell ⟨w.heap.size, 5, none⟩ (.slice la σ.L.length lc))) := by
        have hz : w.heap.size ≤ w.heap.size := Nat.le_refl _
        refine ⟨?_, row_of HRow.out (fun q hq => ?_), (((((HS.out.low.setCell hz _).setCell hz _).setCell hz _).setCell hz _).setCell hz _).setCell hz _⟩
        · have e0 := heap_setCell_same _ _ 5 _ _ (.slice la σ.L.length lc) (heap_setCell_same _ _ 4 _ _ (.int .i64 σ.sh) (heap_setCell_same _ _ 3 _ _ (.int .i64 σ.wa) (heap_setCell_same _ _ 2 _ _ (.int .i64 σ.sd) (heap_setCell_same _ _ 1 _ _ (.int .i64 σ.rc) (heap_setCell_same _ _ 0 _ _ (.int .i64 σ.day) hrs)))))
          simp only [List.setIfInBounds_toArray, List.set_cons_zero, List.set_cons_succ] at e0
          exact e0
        · have hne : q ≠ w.heap.size := fun e => HS.out.ne.1 (by rw [hq, e])
          exact (((((Below.heap_setCell _ _ _ _ hne).trans (Below.heap_setCell _ _ _ _ hne)).trans (Below.heap_setCell _ _ _ _ hne)).trans (Below.heap_setCell _ _ _ _ hne)).trans (Below.heap_setCell _ _ _ _ hne)).trans (Below.heap_setCell _ _ _ _ hne)
      clear HS HRow hbx hrs
      go_wp2
      obtain ⟨k1, k2, k3⟩ := HEnd.out
      generalize (((((wr.setCell ⟨w.heap.size, 0, none⟩ (.int .i64 σ.day)).setCell ⟨w.heap.size, 1, none⟩ (.int .i64 σ.rc)).setCell ⟨w.heap.size, 2, none⟩ (.int .i64 σ.sd)).setCell ⟨w.heap.size, 3, none⟩ (.int .i64 σ.wa)).setCell ⟨w.heap.size, 4, none⟩ (.int .i64 σ.sh)).setCell ⟨w.heap.size, 5, none⟩ (.slice la σ.L.length lc) = W9 at *
      have p0 := blkCell k1 0 _ rfl
      have p1 := blkCell k1 1 _ rfl
      have p2 := blkCell k1 2 _ rfl
      have p3 := blkCell k1 3 _ rfl
      have p4 := blkCell k1 4 _ rfl
      have p5 := blkCell k1 5 _ rfl
      exact bodyPost_ret (v := .agg #[.int .i64 σ.day, .int .i64 σ.rc, .int .i64 σ.sd, .int .i64 σ.wa, .int .i64 σ.sh, .slice la σ.L.length lc]) (by simp [results, Try.results25, go_sem, p0, p1, p2, p3, p4, p5]) rfl ⟨la, lc, rfl, k2, k3⟩
end Go.Proofs.Ytlfcaijhlgldnaa
