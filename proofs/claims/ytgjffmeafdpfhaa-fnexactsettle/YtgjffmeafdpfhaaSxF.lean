/-
  The laws' own helpers on what Settle answers: eq.., mark.., held...
-/
import Derived.Test.YtgjffmeafdpfhaaSxB
import Derived.Test.YtgjffmeafdpfhaaSxM
import Derived.Test.YtgjffmeafdpfhaaLists
import Derived.Test.YtgjffmeafdpfhaaSeE
namespace Go.Proofs.Ytgjffmeafdpfhaa
open Go.ChangeShapes Go.WideShapes Go.ChangeAt Go.RowKit Go.Deep
set_option linter.unusedVariables false

theorem ses_block {w w' : World} {b off : Nat} {rs : List RSe} (h : SesAt w b off rs) (hk : w'.heap[b]? = w.heap[b]?) : SesAt w' b off rs := fun i hi => by
  obtain ⟨h0, h1⟩ := h i hi
  exact ⟨(World.cell?_of_block (w := w) (a := ⟨b, off + i * 2, none⟩) hk).trans h0, (World.cell?_of_block (w := w) (a := ⟨b, off + i * 2 + 1, none⟩) hk).trans h1⟩
theorem freeSe_block {w w' : World} {b n : Nat} (h : FreeSe w b n) (hk : w'.heap[b]? = w.heap[b]?) : FreeSe w' b n := fun j hj => (World.frozen?_of_block (w := w) (a := ⟨b, j, none⟩) hk).trans (h j hj)
def iL (xs : List Nat) : List Int := xs.map fun (n : Nat) => (n : Int)
theorem iL_len (xs : List Nat) : (iL xs).length = xs.length := by simp [iL]
theorem reads_row {W : World} {B : Nat} {a : Option Addr} {c : Nat} {xs : List Nat} (h : W.ownsRow B 3 1 (.slice a xs.length c) xs.length (xs.map nV)) : Reads W.heap.size W a (iL xs) := by
  rcases Nat.eq_zero_or_pos xs.length with h0 | h0
  · exact .inl (by rw [List.length_eq_zero_iff.1 h0]; rfl)
  · obtain ⟨g, cp, hq⟩ := row_some h h0
    simp only [Value.slice.injEq, true_and] at hq
    obtain ⟨rfl, rfl⟩ := hq
    refine .inr ⟨g, 0, rfl, (row_lt h g rfl).2, fun i hi => ?_⟩
    rw [iL_len] at hi
    rw [Nat.zero_add, h.cellAt i (by omega)]
    simp [iL, nV, List.getD_eq_getElem?_getD, hi]
theorem eqRow_any {W : World} {B B' : Nat} {a b : Option Addr} {ca cb : Nat} {xs : List Nat} (hx : xs.length ≤ 1000) (h : W.ownsRow B 3 1 (.slice a xs.length ca) xs.length (xs.map nV)) (h' : W.ownsRow B' 3 1 (.slice b xs.length cb) xs.length (xs.map nV)) :
    Calls Try.prog 26 #[.slice a xs.length ca, .slice b xs.length cb] W fun e w' => e = .returned (.bool true) ∧ Below W.heap.size W w' := by
  have := eqInts_any W.heap.size a b ca cb (iL xs) (iL xs) (by rw [iL_len]; omega) (by rw [iL_len]; omega) W (reads_row h) (reads_row h')
  rw [iL_len, decide_eq_true rfl] at this
  exact this
theorem prV_map (p : Nat × Nat) : prV p = [p.1, p.2].map nV := rfl
set_option maxHeartbeats 4000000 in
theorem eqPs_any {ps : List (Nat × Nat)} {ms bs : List Nat} (hn : ps.length ≤ 1000) {pa pa2 : Option Addr} {pc pc2 : Nat} {mv bv mv2 bv2 : Value} {vs vs2 : Nat → Value} {B B2 : Nat} (w : World) (h : AnsM B ps ms bs (.slice pa ps.length pc) mv bv vs w) (h2 : AnsM B2 ps ms bs (.slice pa2 ps.length pc2) mv2 bv2 vs2 w) :
    Calls Try.prog 25 #[.slice pa ps.length pc, .slice pa2 ps.length pc2] w fun e w' => e = .returned (.bool true) ∧ Below w.heap.size w w' := by
  have HA : Hid (AnsM B ps ms bs (.slice pa ps.length pc) mv bv vs w) := h
  have HA2 : Hid (AnsM B2 ps ms bs (.slice pa2 ps.length pc2) mv2 bv2 vs2 w) := h2
  have hcc : ((ps.length : Int) != (ps.length : Int)) = false := by simp
  clear h h2
  go_enter Try.func25, Try.ntmps25
  go_wp2
  go_loopw [5] (fun c wr => ∃ k : Nat, k ≤ ps.length ∧ c = .int .i64 (k : Int) ∧ Below w.heap.size w wr) (fun c _ => ps.length - (intOf c).toNat)
  case atStart => exact ⟨0, Nat.zero_le _, rfl, Below.refl _ _⟩
  case round =>
    obtain ⟨k, hk, rfl, hb⟩ := hrel
    have HB : Hid (Below w.heap.size w wr) := hb
    clear hb
    by_cases hlt : k < ps.length
    · have hlt' : (k : Int) < (ps.length : Int) := by omega
      obtain ⟨g, cp, hq⟩ := row_some HA.out.prow (by omega)
      simp only [Value.slice.injEq, true_and] at hq
      obtain ⟨rfl, rfl⟩ := hq
      obtain ⟨g2, cp2, hq2⟩ := row_some HA2.out.prow (by omega)
      simp only [Value.slice.injEq, true_and] at hq2
      obtain ⟨rfl, rfl⟩ := hq2
      obtain ⟨va, vc, hv⟩ := row_slice (HA.out.each k hlt)
      obtain ⟨va2, vc2, hv2⟩ := row_slice (HA2.out.each k hlt)
      have HQ : Hid (∀ W, Below w.heap.size w W → W.cell? ⟨g, k, none⟩ = some (.slice va 2 vc) ∧ W.cell? ⟨g2, k, none⟩ = some (.slice va2 2 vc2) ∧ Calls Try.prog 26 #[.slice va 2 vc, .slice va2 2 vc2] W fun e w' => e = .returned (.bool true) ∧ Below W.heap.size W w') := fun W hW => by
        have a1 := HA.out.later hW
        have a2 := HA2.out.later hW
        refine ⟨?_, ?_, ?_⟩
        · rw [a1.prow.cellAt k (by omega)]; simp [hlt, hv]
        · rw [a2.prow.cellAt k (by omega)]; simp [hlt, hv2]
        · have e1 := a1.each k hlt
          have e2 := a2.each k hlt
          rw [hv, prV_map] at e1
          rw [hv2, prV_map] at e2
          exact eqRow_any (xs := [(ps.getD k (0, 0)).1, (ps.getD k (0, 0)).2]) (by simp) e1 e2
      clear hv hv2
      go_wp2_with fail
      refine wp_region_held_drew (S := fun W => Below wr.heap.size wr W) (by kernel_rfl) (below_drew _) (fun hH => ?_)
      refine wpAnyH_take (i := 0) (v := .slice (some ⟨g, 0, none⟩) ps.length pc) rfl (by kernel_rfl) (by kernel_rfl) (by kernel_rfl) (fun _ _ _ h => h) (Or.inl ⟨by rfl, fun w hSw => by go_simp⟩) hH ?_
      refine wpAnyH_take (i := 1) (v := .int .i64 (k : Int)) rfl (by kernel_rfl) (by kernel_rfl) (by kernel_rfl) (fun _ _ _ h => h) (Or.inl ⟨by rfl, fun w hSw => by go_simp⟩) hH ?_
      try simp only [Act.put, List.setIfInBounds_toArray, List.set_cons_zero, List.set_cons_succ, List.getElem_toArray, List.getElem_cons_succ, List.getElem_cons_zero]
      refine wpAnyH_take (i := 2) (v := .pointer (some ⟨g, k, none⟩)) rfl (by kernel_rfl) (by kernel_rfl) (by kernel_rfl) (fun _ _ _ h => h) (Or.inl ⟨by rfl, fun w hSw => by go_simp⟩) hH ?_
      try simp only [Act.put, List.setIfInBounds_toArray, List.set_cons_zero, List.set_cons_succ, List.getElem_toArray, List.getElem_cons_succ, List.getElem_cons_zero]
      refine wpAnyH_take (i := 3) (v := .slice va 2 vc) rfl (by kernel_rfl) (by kernel_rfl) (by kernel_rfl) (fun _ _ _ h => h) (Or.inl ⟨by rfl, fun w hSw => by have f0 := (HQ.out _ (chain HB.out hSw)).1; clear hSw; go_simp⟩) hH ?_
      try simp only [Act.put, List.setIfInBounds_toArray, List.set_cons_zero, List.set_cons_succ, List.getElem_toArray, List.getElem_cons_succ, List.getElem_cons_zero]
      refine wpAnyH_take (i := 4) (v := .slice (some ⟨g2, 0, none⟩) ps.length pc2) rfl (by kernel_rfl) (by kernel_rfl) (by kernel_rfl) (fun _ _ _ h => h) (Or.inl ⟨by rfl, fun w hSw => by go_simp⟩) hH ?_
      try simp only [Act.put, List.setIfInBounds_toArray, List.set_cons_zero, List.set_cons_succ, List.getElem_toArray, List.getElem_cons_succ, List.getElem_cons_zero]
      refine wpAnyH_take (i := 5) (v := .int .i64 (k : Int)) rfl (by kernel_rfl) (by kernel_rfl) (by kernel_rfl) (fun _ _ _ h => h) (Or.inl ⟨by rfl, fun w hSw => by go_simp⟩) hH ?_
      try simp only [Act.put, List.setIfInBounds_toArray, List.set_cons_zero, List.set_cons_succ, List.getElem_toArray, List.getElem_cons_succ, List.getElem_cons_zero]
      refine wpAnyH_take (i := 6) (v := .pointer (some ⟨g2, k, none⟩)) rfl (by kernel_rfl) (by kernel_rfl) (by kernel_rfl) (fun _ _ _ h => h) (Or.inl ⟨by rfl, fun w hSw => by go_simp⟩) hH ?_
      try simp only [Act.put, List.setIfInBounds_toArray, List.set_cons_zero, List.set_cons_succ, List.getElem_toArray, List.getElem_cons_succ, List.getElem_cons_zero]
      refine wpAnyH_take (i := 7) (v := .slice va2 2 vc2) rfl (by kernel_rfl) (by kernel_rfl) (by kernel_rfl) (fun _ _ _ h => h) (Or.inl ⟨by rfl, fun w hSw => by have f0 := (HQ.out _ (chain HB.out hSw)).2.1; clear hSw; go_simp⟩) hH ?_
      try simp only [Act.put, List.setIfInBounds_toArray, List.set_cons_zero, List.set_cons_succ, List.getElem_toArray, List.getElem_cons_succ, List.getElem_cons_zero]
      refine wpAnyH_ready (rs := [8]) (by kernel_rfl) (by simp) ?_
      refine AllReadyH.cons rfl (fun K hK => ?_) AllReadyH.nil
      go_simp
      go_at_call 26
      refine (HQ.out _ (chain HB.out hH)).2.2.mono ?_
      rintro e w2 ⟨rfl, hb2⟩
      have h2' := chain hH hb2
      clear hb2 hH
      refine hK.out _ _ h2' (fun _ => ?_)
      clear hK K
      try simp only [Act.put, List.setIfInBounds_toArray, List.set_cons_zero, List.set_cons_succ, List.getElem_toArray, List.getElem_cons_succ, List.getElem_cons_zero]
      refine wpAnyH_take (i := 9) (v := .bool false) rfl (by kernel_rfl) (by kernel_rfl) (by kernel_rfl) (fun _ _ _ h => h) (Or.inl ⟨by rfl, fun w hSw => by go_simp⟩) h2' ?_
      try simp only [Act.put, List.setIfInBounds_toArray, List.set_cons_zero, List.set_cons_succ, List.getElem_toArray, List.getElem_cons_succ, List.getElem_cons_zero]
      refine wpAnyH_done (by kernel_rfl) ?_ _
      have HB2 : Hid (Below w.heap.size w w2) := chain HB.out h2'
      clear h2' HQ
      go_wp2
      exact ⟨⟨k + 1, by omega, by go_num, HB2.out⟩, by simp [intOf]; omega⟩
    · obtain rfl : k = ps.length := by omega
      go_wp2
      go_ret
      exact ⟨rfl, HB.out⟩
set_option maxHeartbeats 4000000 in
theorem eqMt_any {ps : List (Nat × Nat)} {ms bs : List Nat} (hn : ps.length ≤ 1000) (hm : ms.length ≤ 1000) (hbb : bs.length ≤ 1000) (df : Int) {pa pa2 ma ma2 ba ba2 : Option Addr} {pc pc2 mc mc2 bc bc2 : Nat} {vs vs2 : Nat → Value} {B B2 : Nat} (w : World) (h : AnsM B ps ms bs (.slice pa ps.length pc) (.slice ma ms.length mc) (.slice ba bs.length bc) vs w) (h2 : AnsM B2 ps ms bs (.slice pa2 ps.length pc2) (.slice ma2 ms.length mc2) (.slice ba2 bs.length bc2) vs2 w) :
    Calls Try.prog 10 #[.agg #[.slice pa ps.length pc, .slice ma ms.length mc, .slice ba bs.length bc, .int .i64 df], .agg #[.slice pa2 ps.length pc2, .slice ma2 ms.length mc2, .slice ba2 bs.length bc2, .int .i64 df]] w fun e w' => e = .returned (.bool true) ∧ Below w.heap.size w w' := by
  have H1 : Hid (∀ W, Below w.heap.size w W → Calls Try.prog 25 #[.slice pa ps.length pc, .slice pa2 ps.length pc2] W fun e w' => e = .returned (.bool true) ∧ Below W.heap.size W w') := fun W hW => eqPs_any hn W (h.later hW) (h2.later hW)
  have H2 : Hid (∀ W, Below w.heap.size w W → Calls Try.prog 26 #[.slice ma ms.length mc, .slice ma2 ms.length mc2] W fun e w' => e = .returned (.bool true) ∧ Below W.heap.size W w') := fun W hW => eqRow_any hm (h.later hW).mrow (h2.later hW).mrow
  have H3 : Hid (∀ W, Below w.heap.size w W → Calls Try.prog 26 #[.slice ba bs.length bc, .slice ba2 bs.length bc2] W fun e w' => e = .returned (.bool true) ∧ Below W.heap.size W w') := fun W hW => eqRow_any hbb (h.later hW).brow (h2.later hW).brow
  have hdd : (df != df) = false := by simp
  clear h h2
  obtain ⟨w0, hw0⟩ : ∃ w0, w0 = (w.alloc (Obj.cells #[.slice pa ps.length pc, .slice ma ms.length mc, .slice ba bs.length bc, .int .i64 df] 29)).alloc (Obj.cells #[.slice pa2 ps.length pc2, .slice ma2 ms.length mc2, .slice ba2 bs.length bc2, .int .i64 df] 29) := ⟨_, rfl⟩
  have HW0 : Hid (w0 = (w.alloc (Obj.cells #[.slice pa ps.length pc, .slice ma ms.length mc, .slice ba bs.length bc, .int .i64 df] 29)).alloc (Obj.cells #[.slice pa2 ps.length pc2, .slice ma2 ms.length mc2, .slice ba2 bs.length bc2, .int .i64 df] 29)) := hw0
  have HK : Hid (Below w.heap.size w w0 ∧ w0.heap[w.heap.size]? = some (.cells #[.slice pa ps.length pc, .slice ma ms.length mc, .slice ba bs.length bc, .int .i64 df] 29 (0, 0)) ∧ w0.heap[w.heap.size + 1]? = some (.cells #[.slice pa2 ps.length pc2, .slice ma2 ms.length mc2, .slice ba2 bs.length bc2, .int .i64 df] 29 (0, 0))) := by
    have q1 := below_alloc w (Obj.cells #[.slice pa ps.length pc, .slice ma ms.length mc, .slice ba bs.length bc, .int .i64 df] 29)
    have q2 := heapNew w (Obj.cells #[.slice pa ps.length pc, .slice ma ms.length mc, .slice ba bs.length bc, .int .i64 df] 29)
    have q3 : (w.alloc (Obj.cells #[.slice pa ps.length pc, .slice ma ms.length mc, .slice ba bs.length bc, .int .i64 df] 29)).heap.size = w.heap.size + 1 := by simp
    generalize w.alloc (Obj.cells #[.slice pa ps.length pc, .slice ma ms.length mc, .slice ba bs.length bc, .int .i64 df] 29) = w1 at *
    have q4 := below_alloc w1 (Obj.cells #[.slice pa2 ps.length pc2, .slice ma2 ms.length mc2, .slice ba2 bs.length bc2, .int .i64 df] 29)
    have q5 := heapNew w1 (Obj.cells #[.slice pa2 ps.length pc2, .slice ma2 ms.length mc2, .slice ba2 bs.length bc2, .int .i64 df] 29)
    rw [← hw0] at q4 q5
    rw [q3] at q5
    exact ⟨chain q1 q4, (q4.block _ (by omega)).trans q2, q5⟩
  clear hw0
  have HY : Hid (∀ W, Below w0.heap.size w0 W → W.heap[w.heap.size]? = some (.cells #[.slice pa ps.length pc, .slice ma ms.length mc, .slice ba bs.length bc, .int .i64 df] 29 (0, 0)) ∧ W.heap[w.heap.size + 1]? = some (.cells #[.slice pa2 ps.length pc2, .slice ma2 ms.length mc2, .slice ba2 bs.length bc2, .int .i64 df] 29 (0, 0))) := fun W hW => ⟨(hW.block _ (blkLt HK.out.2.1)).trans HK.out.2.1, (hW.block _ (blkLt HK.out.2.2)).trans HK.out.2.2⟩
  go_enter Try.func10, Try.ntmps10
  go_wp2_with fail
  (first | go_at_call 25 | skip)
  rw [← HW0.out]
  refine (H1.out w0 HK.out.1).mono ?_
  rintro e w1 ⟨rfl, hb1⟩
  have HB1 : Hid (Below w0.heap.size w0 w1) := hb1
  have y1 : w1.cell? ⟨w.heap.size, 1, none⟩ = some (.slice ma ms.length mc) := blkCell (HY.out w1 hb1).1 1 _ rfl
  have z1 : w1.cell? ⟨w.heap.size + 1, 1, none⟩ = some (.slice ma2 ms.length mc2) := blkCell (HY.out w1 hb1).2 1 _ rfl
  clear hb1 H1 HW0
  go_wp2_with fail
  (first | go_at_call 26 | skip)
  refine (H2.out w1 (chain HK.out.1 HB1.out)).mono ?_
  rintro e w2 ⟨rfl, hb2⟩
  have HB2 : Hid (Below w0.heap.size w0 w2) := chain HB1.out hb2
  have y2 : w2.cell? ⟨w.heap.size, 2, none⟩ = some (.slice ba bs.length bc) := blkCell (HY.out w2 HB2.out).1 2 _ rfl
  have z2 : w2.cell? ⟨w.heap.size + 1, 2, none⟩ = some (.slice ba2 bs.length bc2) := blkCell (HY.out w2 HB2.out).2 2 _ rfl
  clear hb2 H2 HB1 y1 z1
  go_wp2_with fail
  (first | go_at_call 26 | skip)
  refine (H3.out w2 (chain HK.out.1 HB2.out)).mono ?_
  rintro e w3 ⟨rfl, hb3⟩
  have HB3 : Hid (Below w0.heap.size w0 w3) := chain HB2.out hb3
  have y3 : w3.cell? ⟨w.heap.size, 3, none⟩ = some (.int .i64 df) := blkCell (HY.out w3 HB3.out).1 3 _ rfl
  have z3 : w3.cell? ⟨w.heap.size + 1, 3, none⟩ = some (.int .i64 df) := blkCell (HY.out w3 HB3.out).2 3 _ rfl
  clear hb3 H3 HB2 y2 z2
  go_wp2
  go_ret
  exact ⟨rfl, chain HK.out.1 HB3.out⟩
/-- What is marked. -/
structure AnsG (B : Nat) (n nm nb : Nat) (pv mv bv : Value) (vs : Nat → Value) (C : Nat → List Value) (Cm Cb : List Value) (W : World) : Prop where
  prow : W.ownsRow B 27 1 pv n ((List.range n).map vs)
  each : ∀ i, i < n → W.ownsRow B 3 1 (vs i) 2 (C i)
  far : ∀ i j, i < n → j < n → i ≠ j → FarV (vs i) (vs j)
  mrow : W.ownsRow B 3 1 mv nm Cm
  brow : W.ownsRow B 3 1 bv nb Cb
  mb : FarV mv bv
  vm : ∀ i, i < n → FarV (vs i) mv
  vb : ∀ i, i < n → FarV (vs i) bv
theorem AnsM.toG {B : Nat} {ps : List (Nat × Nat)} {ms bs : List Nat} {pv mv bv : Value} {vs : Nat → Value} {W : World} (h : AnsM B ps ms bs pv mv bv vs W) : AnsG B ps.length ms.length bs.length pv mv bv vs (fun i => prV (ps.getD i (0, 0))) (ms.map nV) (bs.map nV) W := ⟨h.prow, h.each, h.far, h.mrow, h.brow, h.mb, h.vm, h.vb⟩
theorem AnsG.same {B n nm nb : Nat} {pv mv bv : Value} {vs : Nat → Value} {C : Nat → List Value} {Cm Cb : List Value} {W W' : World} (h : AnsG B n nm nb pv mv bv vs C Cm Cb W) (hk : ∀ q, AnsX n pv mv bv vs q → W'.heap[q]? = W.heap[q]?) : AnsG B n nm nb pv mv bv vs C Cm Cb W' :=
  ⟨row_of h.prow (fun q hq => hk q (.inl hq)), fun i hi => row_of (h.each i hi) (fun q hq => hk q (.inr (.inr (.inr ⟨i, hi, hq⟩)))), h.far, row_of h.mrow (fun q hq => hk q (.inr (.inl hq))), row_of h.brow (fun q hq => hk q (.inr (.inr (.inl hq)))), h.mb, h.vm, h.vb⟩
theorem AnsG.lt {B n nm nb : Nat} {pv mv bv : Value} {vs : Nat → Value} {C : Nat → List Value} {Cm Cb : List Value} {W : World} (h : AnsG B n nm nb pv mv bv vs C Cm Cb W) : ∀ q, AnsX n pv mv bv vs q → B ≤ q ∧ q < W.heap.size := by
  rintro q (hq | hq | hq | ⟨i, hi, hq⟩)
  · exact row_lt h.prow q hq
  · exact row_lt h.mrow q hq
  · exact row_lt h.brow q hq
  · exact row_lt (h.each i hi) q hq
theorem AnsG.later {B n nm nb : Nat} {pv mv bv : Value} {vs : Nat → Value} {C : Nat → List Value} {Cm Cb : List Value} {W W' : World} (h : AnsG B n nm nb pv mv bv vs C Cm Cb W) (hb : Below W.heap.size W W') : AnsG B n nm nb pv mv bv vs C Cm Cb W' := h.same (fun q hq => hb.block q (h.lt q hq).2)
theorem AnsG.congr {B n nm nb : Nat} {pv mv bv : Value} {vs : Nat → Value} {C C' : Nat → List Value} {Cm Cb : List Value} {W : World} (h : AnsG B n nm nb pv mv bv vs C Cm Cb W) (hc : ∀ i, i < n → C i = C' i) : AnsG B n nm nb pv mv bv vs C' Cm Cb W := ⟨h.prow, fun i hi => hc i hi ▸ h.each i hi, h.far, h.mrow, h.brow, h.mb, h.vm, h.vb⟩
def mkP (k0 : Nat) (i : Nat) : List Value := mkV (k0 + i * 2) 2
theorem AnsG.step {B n nm nb : Nat} {pv mv bv : Value} {vs : Nat → Value} {C : Nat → List Value} {Cm Cb : List Value} {k0 j : Nat} {W W1 : World} (h : AnsG B n nm nb pv mv bv vs (fun i => if i < j then mkP k0 i else C i) Cm Cb W) (hj : j < n) (hf : Fr (fun q => (vs j).ownBlock = some q) W W1) (hr : W1.ownsRow B 3 1 (vs j) 2 (mkP k0 j)) : AnsG B n nm nb pv mv bv vs (fun i => if i < j + 1 then mkP k0 i else C i) Cm Cb W1 := by
  have hk : ∀ u : Value, FarV u (vs j) → ∀ q, u.ownBlock = some q → q < W.heap.size → W1.heap[q]? = W.heap[q]? := fun u hu q hq hl => hf.block q hl (hu q hq)
  refine ⟨row_of h.prow (fun q hq => hk pv (far_typ h.prow (h.each j hj) (by decide)) q hq (row_lt h.prow q hq).2), fun i hi => ?_, h.far, row_of h.mrow (fun q hq => hk mv (h.vm j hj).symm q hq (row_lt h.mrow q hq).2), row_of h.brow (fun q hq => hk bv (h.vb j hj).symm q hq (row_lt h.brow q hq).2), h.mb, h.vm, h.vb⟩
  by_cases e : i = j
  · subst e
    rw [if_pos (by omega)]
    exact hr
  · have he := h.each i hi
    have e3 : (if i < j + 1 then mkP k0 i else C i) = (if i < j then mkP k0 i else C i) := by
      by_cases e2 : i < j
      · rw [if_pos e2, if_pos (by omega)]
      · rw [if_neg e2, if_neg (by omega)]
    rw [e3]
    exact row_of he (fun q hq => hk _ (h.far i j hi hj e) q hq (row_lt he q hq).2)
set_option maxHeartbeats 4000000 in
theorem markPs_any {B n nm nb : Nat} (hn : n ≤ 1000) {pv mv bv : Value} {vs : Nat → Value} {C : Nat → List Value} {Cm Cb : List Value} (k0 : Nat) (hk : k0 ≤ 1000000) (w : World) (h : AnsG B n nm nb pv mv bv vs C Cm Cb w) :
    Calls Try.prog 29 #[pv, .int .i64 (k0 : Int)] w fun e w' => e = .returned (.int .i64 ((k0 + n * 2 : Nat) : Int)) ∧ Fr (AnsX n pv mv bv vs) w w' ∧ AnsG B n nm nb pv mv bv vs (mkP k0) Cm Cb w' := by
  obtain ⟨a, cap, hv⟩ := row_slice h.prow
  have H0 : Hid (AnsG B n nm nb pv mv bv vs (fun i => if i < 0 then mkP k0 i else C i) Cm Cb w) := h.congr (fun i hi => by simp)
  clear h
  subst hv
  go_enter Try.func29, Try.ntmps29
  go_wp2
  go_loopw [1, 5] (fun k i wr => ∃ j : Nat, j ≤ n ∧ i = .int .i64 (j : Int) ∧ k = .int .i64 ((k0 + j * 2 : Nat) : Int) ∧ Fr (AnsX n (.slice a n cap) mv bv vs) w wr ∧ AnsG B n nm nb (.slice a n cap) mv bv vs (fun i => if i < j then mkP k0 i else C i) Cm Cb wr) (fun _ i _ => n - (intOf i).toNat)
  case atStart => exact ⟨0, Nat.zero_le _, rfl, rfl, Fr.refl _ _, H0.out⟩
  case round =>
    obtain ⟨j, hj, rfl, rfl, hf, hm⟩ := hrel
    have HF : Hid (Fr (AnsX n (.slice a n cap) mv bv vs) w wr) := hf
    have HM : Hid (AnsG B n nm nb (.slice a n cap) mv bv vs (fun i => if i < j then mkP k0 i else C i) Cm Cb wr) := hm
    clear hf hm H0
    by_cases hlt : j < n
    · have hlt' : (j : Int) < (n : Int) := by omega
      obtain ⟨g, cp, hq⟩ := row_some HM.out.prow (by omega)
      simp only [Value.slice.injEq, true_and] at hq
      obtain ⟨rfl, rfl⟩ := hq
      have q0 : wr.cell? ⟨g, j, none⟩ = some (vs j) := by rw [HM.out.prow.cellAt j (by omega)]; simp [hlt]
      have HC := markIn_row B (vs j) 2 (by omega) (k0 + j * 2) (by omega) _ wr (HM.out.each j hlt)
      obtain ⟨va, vc, hvj⟩ := row_slice (HM.out.each j hlt)
      rw [show #[vs j, Value.int .i64 ((k0 + j * 2 : Nat) : Int)] = #[.slice va 2 vc, Value.int .i64 ((k0 + j * 2 : Nat) : Int)] by rw [hvj]] at HC
      rw [hvj] at q0
      clear hvj
      have HKn : Hid (((k0 + (j + 1) * 2 : Nat) : Int) = ((k0 + j * 2 + 2 * 1 : Nat) : Int)) := by show _ = _; omega
      generalize hK0 : k0 + j * 2 = K0 at *
      have HK0 : Hid (k0 + j * 2 = K0) := hK0
      clear hK0
      generalize hK1 : K0 + 2 * 1 = K1 at *
      clear hK1
      go_wp2_with fail
      (first | go_at_call 30 | skip)
      refine HC.mono ?_
      rintro e w1 ⟨rfl, hf1, hr1⟩
      have HN : Hid (Fr (AnsX n (.slice (some ⟨g, 0, none⟩) n cap) mv bv vs) w w1 ∧ AnsG B n nm nb (.slice (some ⟨g, 0, none⟩) n cap) mv bv vs (fun i => if i < j + 1 then mkP k0 i else C i) Cm Cb w1) := by
        refine ⟨HF.out.trans (hf1.mono (fun q hq => .inr (.inr (.inr ⟨j, hlt, hq⟩)))), HM.out.step hlt hf1 ?_⟩
        show w1.ownsRow B 3 1 (vs j) 2 (mkV (k0 + j * 2) 2)
        rw [HK0.out]; exact hr1
      clear hf1 hr1 HC q0
      go_wp2
      exact ⟨⟨j + 1, by omega, by go_num, by rw [HKn.out], HN.out.1, HN.out.2⟩, by simp [intOf]; omega⟩
    · obtain rfl : j = n := by omega
      have HE : Hid (AnsG B j nm nb (.slice a j cap) mv bv vs (mkP k0) Cm Cb wr) := HM.out.congr (fun i hi => by rw [if_pos hi])
      clear HM
      go_wp2
      go_ret
      exact ⟨rfl, HF.out, HE.out⟩
set_option maxHeartbeats 4000000 in
theorem heldPs_any {B n nm nb : Nat} (hn : n ≤ 1000) {pv mv bv : Value} {vs : Nat → Value} {Cm Cb : List Value} (k0 : Nat) (hk : k0 ≤ 1000000) (w : World) (h : AnsG B n nm nb pv mv bv vs (mkP k0) Cm Cb w) :
    Calls Try.prog 31 #[pv, .int .i64 (k0 : Int)] w fun e w' => e = .returned (.int .i64 ((k0 + n * 2 : Nat) : Int)) ∧ Below w.heap.size w w' := by
  obtain ⟨a, cap, hv⟩ := row_slice h.prow
  have H0 : Hid (AnsG B n nm nb pv mv bv vs (mkP k0) Cm Cb w) := h
  clear h
  subst hv
  go_enter Try.func31, Try.ntmps31
  go_wp2
  go_loopw [1, 4, 5] (fun k _ i wr => ∃ j : Nat, j ≤ n ∧ i = .int .i64 (j : Int) ∧ k = .int .i64 ((k0 + j * 2 : Nat) : Int) ∧ Below w.heap.size w wr) (fun _ _ i _ => n - (intOf i).toNat)
  case atStart => exact ⟨0, Nat.zero_le _, rfl, rfl, Below.refl _ _⟩
  case round =>
    obtain ⟨j, hj, rfl, rfl, hb⟩ := hrel
    have HB : Hid (Below w.heap.size w wr) := hb
    have HM : Hid (AnsG B n nm nb (.slice a n cap) mv bv vs (mkP k0) Cm Cb wr) := H0.out.later hb
    clear hb
    by_cases hlt : j < n
    · have hlt' : (j : Int) < (n : Int) := by omega
      obtain ⟨g, cp, hq⟩ := row_some HM.out.prow (by omega)
      simp only [Value.slice.injEq, true_and] at hq
      obtain ⟨rfl, rfl⟩ := hq
      have q0 : wr.cell? ⟨g, j, none⟩ = some (vs j) := by rw [HM.out.prow.cellAt j (by omega)]; simp [hlt]
      have HC := heldIn_row B (vs j) 2 (by omega) (k0 + j * 2) (by omega) wr (HM.out.each j hlt)
      obtain ⟨va, vc, hvj⟩ := row_slice (HM.out.each j hlt)
      rw [show #[vs j, Value.int .i64 ((k0 + j * 2 : Nat) : Int)] = #[.slice va 2 vc, Value.int .i64 ((k0 + j * 2 : Nat) : Int)] by rw [hvj]] at HC
      rw [hvj] at q0
      clear hvj
      have HKn : Hid (((k0 + (j + 1) * 2 : Nat) : Int) = ((k0 + j * 2 + 2 * 1 : Nat) : Int)) := by show _ = _; omega
      generalize k0 + j * 2 = K0 at *
      generalize K0 + 2 * 1 = K1 at *
      have hk0 : ¬ ((K1 : Int) < 0) := by omega
      go_wp2_with fail
      (first | go_at_call 32 | skip)
      refine HC.mono ?_
      rintro e w1 ⟨rfl, hb1⟩
      have HB1 : Hid (Below w.heap.size w w1) := chain HB.out hb1
      clear hb1 HC q0
      go_wp2
      exact ⟨⟨j + 1, by omega, by go_num, by rw [HKn.out], HB1.out⟩, by simp [intOf]; omega⟩
    · obtain rfl : j = n := by omega
      go_wp2
      go_ret
      exact ⟨rfl, HB.out⟩
end Go.Proofs.Ytgjffmeafdpfhaa
