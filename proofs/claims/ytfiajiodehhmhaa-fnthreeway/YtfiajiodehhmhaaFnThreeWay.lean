/-
  For every list of bytes the law FnThreeWay answers true: the program says the same whatever the order of the lines of three drawn right lists; where all three are one list all is right; with no condition.
-/
import Derived.Test.YtfiajiodehhmhaaTyC
import Derived.Test.YtfiajiodehhmhaaTwF
namespace Go.Proofs.Ytfiajiodehhmhaa
open Go.ChangeShapes Go.WideShapes Go.ChangeAt Go.RowKit Go.Joins Go.Deep Go.Sort Go.Shelf
set_option linter.unusedVariables false

theorem OneD.start (w : World) (B : Nat) (hB : w.heap.size = B) : OneD w B (.slice (some ⟨B, 0, none⟩) 0 0) [] (w.alloc (Obj.cells #[] 80)) := by
  subst hB
  refine ⟨⟨rfl, .inr ⟨w.heap.size, 0, #[], rfl, Nat.le_refl _, heapNew w _, Nat.le_refl _, by unfold maxLen; omega, rfl, rfl⟩⟩, by simp, below_alloc w _⟩
theorem OneD.allocY {w : World} {B : Nat} {v : Value} {L : List RDc} {wr : World} (h : OneD w B v L wr) (o : Obj) : OneD w B v L (wr.alloc o) :=
  ⟨h.1.alloc _, by have := h.2.1; simp; omega, h.2.2.alloc h.2.1 _⟩
theorem OneD.one {w : World} {B : Nat} {v : Value} {M : List RDc} {r : RDc} {wr : World} (h : OneD w B v (M ++ [r]) wr) : ∃ g c, v = .slice (some ⟨g, 0, none⟩) (M.length + 1) c ∧ OneD w B (.slice (some ⟨g, 0, none⟩) (M.length + 1) c) (M ++ [r]) wr := by
  obtain ⟨g, c, hv⟩ := row_some h.1 (by simp)
  rw [List.length_append] at hv
  subst hv
  exact ⟨g, c, rfl, h⟩
theorem dcsOne (w : World) (r : RDc) : DcsAt (w.alloc (Obj.cells #[.string r.ar, .int .i64 r.un, .int .i64 r.am] 80)) w.heap.size 0 [r] := fun i hi => by
  obtain rfl : i = 0 := by simp at hi; omega
  exact ⟨cellNew _ _ _ _ rfl rfl, cellNew _ _ _ _ rfl rfl, cellNew _ _ _ _ rfl rfl⟩
theorem revAt (rs : List RDc) (k : Nat) (hk : k < rs.length) : rs.reverse.take (k + 1) = rs.reverse.take k ++ [rs.getD (rs.length - 1 - k) zDc] := by
  rw [List.take_succ_eq_append_getElem (by simpa using hk)]
  have e : rs.getD (rs.length - 1 - k) zDc = rs[rs.length - 1 - k] := by simp [List.getD_eq_getElem?_getD, (by omega : rs.length - 1 - k < rs.length)]
  rw [e, List.getElem_reverse]
def TuP (w : World) (rs : List RDc) (e : Ending) (w' : World) : Prop := ∃ g' c', e = .returned (.slice (some ⟨g', 0, none⟩) rs.length c') ∧ DcsAt w' g' 0 rs.reverse ∧ g' < w'.heap.size ∧ Below w.heap.size w w'
set_option maxHeartbeats 4000000 in
set_option maxRecDepth 4000 in
theorem turned_any (g off cp : Nat) (rs : List RDc) (hl : rs.length ≤ 1000) (w : World) (hg : g < w.heap.size) (hr : DcsAt w g off rs) :
    Calls Try.prog 16 #[.slice (some ⟨g, off, none⟩) rs.length cp] w (TuP w rs) := by
  have HR : Hid (∀ W, Below w.heap.size w W → DcsAt W g off rs) := fun W hW => hr.below hW hg
  have H0 : Hid (OneD w w.heap.size (.slice (some ⟨w.heap.size, 0, none⟩) 0 0) [] (w.alloc (Obj.cells #[] 80))) := OneD.start w _ rfl
  have hw0 : IntKind.i64.wrap ((rs.length : Int) - 1) = (rs.length : Int) - 1 := wrap_id _ (by omega) (by omega)
  clear hr hg
  go_enter Try.func16, Try.ntmps16
  go_wp2
  go_loopw [3, 4] (fun v c wr => ∃ (k g1 c1 : Nat) (i : Int), k ≤ rs.length ∧ c = .int .i64 i ∧ i = (rs.length : Int) - 1 - (k : Int) ∧ v = .slice (some ⟨g1, 0, none⟩) k c1 ∧ OneD w w.heap.size (.slice (some ⟨g1, 0, none⟩) k c1) (rs.reverse.take k) wr) (fun _ c _ => (intOf c + 1).toNat)
  case atStart => exact ⟨0, w.heap.size, 0, (rs.length : Int) - 1, by omega, rfl, by omega, rfl, by simpa using H0.out⟩
  case round =>
    clear H0 hw0
    obtain ⟨k, g1, c1, i, hk, rfl, hi, rfl, hO⟩ := hrel
    have HO : Hid (OneD w w.heap.size (.slice (some ⟨g1, 0, none⟩) k c1) (rs.reverse.take k) wr) := hO
    have HIe : Hid (i = (rs.length : Int) - 1 - (k : Int)) := hi
    clear hO
    by_cases hlt : k < rs.length
    · obtain ⟨m, hm⟩ : ∃ m, m = rs.length - 1 - k := ⟨_, rfl⟩
      obtain rfl : i = (m : Int) := by omega
      have hml : m < rs.length := by omega
      have hml' : (m : Int) < (rs.length : Int) := by omega
      have hm0 : (0 : Int) ≤ (m : Int) := by omega
      obtain ⟨c0, c2, c3⟩ := HR.out wr HO.out.2.2 m hml
      have HT : Hid (rs.reverse.take (k + 1) = rs.reverse.take k ++ [rs.getD m zDc]) := by show _ = _; rw [hm]; exact revAt rs k hlt
      have hlen : (rs.reverse.take k).length = k := by rw [List.length_take, List.length_reverse]; omega
      have hwm : IntKind.i64.wrap ((m : Int) - 1) = (m : Int) - 1 := wrap_id _ (by omega) (by omega)
      have HMe : Hid ((m : Int) - 1 = (rs.length : Int) - 1 - ((k + 1 : Nat) : Int)) := by show _ = _; omega
      clear hi hm HIe
      generalize rs.getD m zDc = r at *
      generalize rs.reverse.take k = M at *
      obtain rfl : M.length = k := hlen
      go_wp2_with (at_builtin; refine wpList_pushD (by rfl) _ _ (by rfl) w w.heap.size _ M _ wr.heap.size 0 1 [r] (HO.out.allocY _) (dcsOne wr r) (by simp; omega) (by rfl) (by rfl) ?_; intro v5 w5 h5; obtain ⟨g5, c5, hv5, h6⟩ := OneD.one h5; subst hv5; have HO5 : Hid (OneD w w.heap.size (.slice (some ⟨g5, 0, none⟩) (M.length + 1) c5) (M ++ [r]) w5) := h6; clear h5 h6)
      go_roundw
      case rel => exact ⟨M.length + 1, g5, c5, (m : Int) - 1, by omega, rfl, HMe.out, by simp, by rw [HT.out]; exact HO5.out⟩
      case measure => simp [intOf]
    · have hi0 : ¬ (0 : Int) ≤ i := by omega
      have HE : Hid (DcsAt wr g1 0 rs.reverse ∧ g1 < wr.heap.size ∧ Below w.heap.size w wr ∧ k = rs.length) := by
        have h := HO.out
        have hkl : k = rs.length := by omega
        rw [List.take_of_length_le (by simp; omega)] at h
        have h1 := h.1
        rw [show k = rs.reverse.length by simp; exact hkl] at h1
        exact ⟨dcs_of_row h1, (row_lt h1 g1 rfl).2, h.2.2, hkl⟩
      clear HO HIe hi
      go_wp2
      go_ret
      obtain ⟨k1, k2, k3, k4⟩ := HE.out
      subst k4
      exact ⟨g1, c1, rfl, k1, k2, k3⟩
namespace FnThreeWay
theorem three {b1 c1 b2 c2 b3 c3 : Nat} {r1 r2 r3 : List RDc} (h1 : DcR r1 ∧ r1.length ≤ 4 ∧ ∀ r ∈ r1, DcOK r) (h2 : DcR r2 ∧ r2.length ≤ 4 ∧ ∀ r ∈ r2, DcOK r) (h3 : DcR r3 ∧ r3.length ≤ 4 ∧ ∀ r ∈ r3, DcOK r) (w : World) (k1 : b1 < w.heap.size) (k2 : b2 < w.heap.size) (k3 : b3 < w.heap.size) (a1 : DcsAt w b1 0 r1) (a2 : DcsAt w b2 0 r2) (a3 : DcsAt w b3 0 r3) :
    Calls Try.prog 15 #[.slice (some ⟨b1, 0, none⟩) r1.length c1, .slice (some ⟨b2, 0, none⟩) r2.length c2, .slice (some ⟨b3, 0, none⟩) r3.length c3] w fun e w' => ∃ a cp, e = .returned (.tuple #[.slice a (twL r1 r2 r3).length cp, .int .i64 0]) ∧ ReadsVd w'.heap.size w' a (twL r1 r2 r3) ∧ Below w.heap.size w w' := by
  have := implThree_any b1 0 c1 b2 0 c2 b3 0 c3 r1 r2 r3 (by omega) (by omega) (by omega) h1.2.2 h2.2.2 h3.2.2 w k1 k2 k3 a1 a2 a3
  obtain ⟨e1, e2⟩ := tw_right h1.1 h2.1 h3.1
  rw [e1, e2] at this
  refine this.mono ?_
  rintro e w' ⟨v, rfl, hv⟩
  obtain ⟨a, cp, rfl, hr⟩ := hv.form
  exact ⟨a, cp, rfl, hr, hv.2.2⟩
theorem rv {r : List RDc} (h : DcR r ∧ r.length ≤ 4 ∧ ∀ x ∈ r, DcOK x) : DcR r.reverse ∧ r.reverse.length ≤ 4 ∧ ∀ x ∈ r.reverse, DcOK x := ⟨h.1.rev, by rw [List.length_reverse]; exact h.2.1, fun x hx => h.2.2 x (List.mem_reverse.1 hx)⟩
theorem tw_len {r1 r2 r3 : List RDc} (h1 : r1.length ≤ 4) (h2 : r2.length ≤ 4) (h3 : r3.length ≤ 4) : (twL r1 r2 r3).length ≤ 12 := by
  unfold twL
  have := artLen ((r1 ++ r2 ++ r3).map (·.ar))
  simp only [List.length_map, List.length_append] at this ⊢
  omega
set_option maxHeartbeats 16000000 in
set_option maxRecDepth 8000 in
theorem walk' (a0 : Option Addr) (len0 cap0 : Nat) (w : World) (h0 : (len0 : Int) ≤ 1048576) (hN : Calls Try.prog 14 #[.slice a0 len0 cap0] w (PostY w)) :
    Calls Try.prog 4 #[.slice a0 len0 cap0] w fun e w' => e = .returned (.bool true) ∧ Below w.heap.size w w' := by
  go_enter Try.func4, Try.ntmps4
  go_wp2_with fail
  (first | go_at_call 14 | skip)
  refine hN.mono ?_
  rintro e' w1 ⟨g1, c1, g2, c2, g3, c3, r1, r2, r3, rfl, ⟨l1, l2, l3⟩, ⟨d1, z1⟩, ⟨d2, z2⟩, ⟨d3, z3⟩, hb1⟩
  clear hN
  have q1 := l1.right
  have q2 := l2.right
  have q3 := l3.right
  have n1 := q1.2.1
  have n2 := q2.2.1
  have n3 := q3.2.1
  have HB1 : Hid (Below w.heap.size w w1) := hb1
  have HD : Hid (∀ W, Below w1.heap.size w1 W → (DcsAt W g1 0 r1 ∧ g1 < W.heap.size) ∧ (DcsAt W g2 0 r2 ∧ g2 < W.heap.size) ∧ (DcsAt W g3 0 r3 ∧ g3 < W.heap.size)) := fun W hW => ⟨⟨d1.below hW z1, Nat.lt_of_lt_of_le z1 hW.size⟩, ⟨d2.below hW z2, Nat.lt_of_lt_of_le z2 hW.size⟩, ⟨d3.below hW z3, Nat.lt_of_lt_of_le z3 hW.size⟩⟩
  have HQ : Hid ((DcR r1 ∧ r1.length ≤ 4 ∧ ∀ r ∈ r1, DcOK r) ∧ (DcR r2 ∧ r2.length ≤ 4 ∧ ∀ r ∈ r2, DcOK r) ∧ (DcR r3 ∧ r3.length ≤ 4 ∧ ∀ r ∈ r3, DcOK r)) := ⟨q1, q2, q3⟩
  have hTl := tw_len n1 n2 n3
  have HRs : Hid (∀ i, 0 < i → i < (twL r1 r2 r3).length → tlB ((twL r1 r2 r3).getD (i - 1) zVd).ar < tlB ((twL r1 r2 r3).getD i zVd).ar) := fun i h1 h2 => tw_rise h1 h2
  have HOn : Hid ((twL r1 r1 r1).length = r1.length ∧ ∀ x ∈ twL r1 r1 r1, x.cd = 0) := tw_one q1.1
  have HC1 := three (c1 := c1) (c2 := c2) (c3 := c3) q1 q2 q3 w1 z1 z2 z3 d1 d2 d3
  have HC2 : Hid (∀ (x1 x2 x3 : Nat) (y1 y2 y3 : Nat) (W : World), x1 < W.heap.size → x2 < W.heap.size → x3 < W.heap.size → DcsAt W x1 0 r1.reverse → DcsAt W x2 0 r2.reverse → DcsAt W x3 0 r3.reverse → Calls Try.prog 15 #[.slice (some ⟨x1, 0, none⟩) r1.length y1, .slice (some ⟨x2, 0, none⟩) r2.length y2, .slice (some ⟨x3, 0, none⟩) r3.length y3] W fun e w' => ∃ a cp, e = .returned (.tuple #[.slice a (twL r1 r2 r3).length cp, .int .i64 0]) ∧ ReadsVd w'.heap.size w' a (twL r1 r2 r3) ∧ Below W.heap.size W w') := fun x1 x2 x3 y1 y2 y3 W k1 k2 k3 m1 m2 m3 => by
    have := three (c1 := y1) (c2 := y2) (c3 := y3) (rv q1) (rv q2) (rv q3) W k1 k2 k3 m1 m2 m3
    rw [tw_rev q1.1 q2.1 q3.1] at this
    simpa only [List.length_reverse] using this
  have HC3 : Hid (∀ W, Below w1.heap.size w1 W → Calls Try.prog 15 #[.slice (some ⟨g1, 0, none⟩) r1.length c1, .slice (some ⟨g1, 0, none⟩) r1.length c1, .slice (some ⟨g1, 0, none⟩) r1.length c1] W fun e w' => ∃ a cp, e = .returned (.tuple #[.slice a (twL r1 r1 r1).length cp, .int .i64 0]) ∧ ReadsVd w'.heap.size w' a (twL r1 r1 r1) ∧ Below W.heap.size W w') := fun W hW => three (c1 := c1) (c2 := c1) (c3 := c1) q1 q1 q1 W (HD.out W hW).1.2 (HD.out W hW).1.2 (HD.out W hW).1.2 (HD.out W hW).1.1 (HD.out W hW).1.1 (HD.out W hW).1.1
  clear q1 q2 q3 l1 l2 l3 d1 d2 d3 hb1
  generalize twL r1 r2 r3 = TL at *
  generalize twL r1 r1 r1 = OL at *
  have hlT : ((TL.length : Int) != (TL.length : Int)) = false := by simp
  go_wp2_with fail
  (first | go_at_call 15 | skip)
  refine HC1.mono ?_
  rintro e w2 ⟨ga, ca, rfl, hr2, hb2⟩
  have K2 : Hid (Below w1.heap.size w1 w2) := hb2
  have R2 : Hid (ReadsVd w2.heap.size w2 ga TL) := hr2
  clear hr2 hb2 HC1
  have HT3 := turned_any g1 0 c1 r1 (by omega) w2 (HD.out w2 (K2.out)).1.2 (HD.out w2 (K2.out)).1.1
  go_wp2_with fail
  (first | go_at_call 16 | skip)
  refine HT3.mono ?_
  rintro e w3 ⟨x3, y3, rfl, dx3, zx3, hb3⟩
  have B3 : Hid (Below w2.heap.size w2 w3) := hb3
  clear HT3 hb3
  have HT4 := turned_any g2 0 c2 r2 (by omega) w3 (HD.out w3 (chain K2.out B3.out)).2.1.2 (HD.out w3 (chain K2.out B3.out)).2.1.1
  go_wp2_with fail
  (first | go_at_call 16 | skip)
  refine HT4.mono ?_
  rintro e w4 ⟨x4, y4, rfl, dx4, zx4, hb4⟩
  have B4 : Hid (Below w3.heap.size w3 w4) := hb4
  clear HT4 hb4
  have HT5 := turned_any g3 0 c3 r3 (by omega) w4 (HD.out w4 (chain (chain K2.out B3.out) B4.out)).2.2.2 (HD.out w4 (chain (chain K2.out B3.out) B4.out)).2.2.1
  go_wp2_with fail
  (first | go_at_call 16 | skip)
  refine HT5.mono ?_
  rintro e w5 ⟨x5, y5, rfl, dx5, zx5, hb5⟩
  have B5 : Hid (Below w4.heap.size w4 w5) := hb5
  clear HT5 hb5
  have H6 := HC2.out x3 x4 x5 y3 y4 y5 w5 (Nat.lt_of_lt_of_le zx3 (chain B4.out B5.out).size) (Nat.lt_of_lt_of_le zx4 B5.out.size) zx5 (dx3.below (chain B4.out B5.out) zx3) (dx4.below B5.out zx4) dx5
  clear dx3 dx4 dx5 zx3 zx4 zx5 HC2
  go_wp2_with fail
  (first | go_at_call 15 | skip)
  refine H6.mono ?_
  rintro e w6 ⟨gb, cb, rfl, hr6, hb6⟩
  have K6 : Hid (Below w2.heap.size w2 w6) := chain (chain (chain B3.out B4.out) B5.out) hb6
  have R6 : Hid (ReadsVd w6.heap.size w6 ga TL ∧ ReadsVd w6.heap.size w6 gb TL) := ⟨(R2.out.below K6.out).mono K6.out.size, hr6⟩
  have K7 : Hid (Below w1.heap.size w1 w6) := chain K2.out K6.out
  clear hr6 hb6 H6 K6 B3 B4 B5 R2 K2
  go_wp2
  go_loopw [10] (fun c wr => ∃ k : Nat, k ≤ TL.length ∧ c = .int .i64 (k : Int) ∧ Below w6.heap.size w6 wr) (fun c _ => TL.length - (intOf c).toNat)
  case atStart => exact ⟨0, Nat.zero_le _, rfl, Below.refl _ _⟩
  case round =>
    obtain ⟨k, hk, rfl, hbl⟩ := hrel
    have HBl : Hid (Below w6.heap.size w6 wr) := hbl
    clear hbl
    by_cases hlt : k < TL.length
    · have hlt' : (k : Int) < (TL.length : Int) := by omega
      rcases R6.out.1 with h | ⟨ba, oa, ha, hBa, ia⟩
      · rw [h] at hlt; simp at hlt
      rcases R6.out.2 with h | ⟨bb, ob, hb, hBb, ib⟩
      · rw [h] at hlt; simp at hlt
      subst ha hb
      obtain ⟨j, hj⟩ : ∃ j, j = k - 1 := ⟨_, rfl⟩
      have hjl : j < TL.length := by omega
      have HC : Hid (∀ W, Below wr.heap.size wr W → VdAt W ba (oa + k * 2) (TL.getD k zVd) ∧ VdAt W bb (ob + k * 2) (TL.getD k zVd) ∧ W.cell? ⟨ba, oa + j * 2, none⟩ = some (.string (TL.getD j zVd).ar)) := fun W hW => ⟨(ia k hlt).below (chain HBl.out hW) hBa, (ib k hlt).below (chain HBl.out hW) hBb, ((ia j hjl).below (chain HBl.out hW) hBa).1⟩
      have HLt : Hid (0 < k → Op.bytesLess (TL.getD j zVd).ar.toList (TL.getD k zVd).ar.toList = true) := fun h => by
        rw [less_iff]
        have := HRs.out k h hlt
        rw [← hj] at this
        exact decide_eq_true this
      clear ia ib
      generalize TL.getD k zVd = x at *
      generalize TL.getD j zVd = y at *
      have hxx : (x.ar.toList == x.ar.toList) = true := by simp
      have hxd : (x.cd == x.cd) = true := by simp
      have hwk : IntKind.i64.wrap ((k : Int) + 1) = (k : Int) + 1 := wrap_id _ (by omega) (by omega)
      by_cases hk0 : k = 0
      · have HK0 : Hid (k = 0) := hk0
        clear hk0
        go_wp2_with fail
        refine wp_region_held_drew (S := fun W' => Below wr.heap.size wr W') (by kernel_rfl) (below_drew _) (fun hH => ?_)
        refine wpAnyH_take (i := 0) (v := .slice (some ⟨ba, oa, none⟩) TL.length ca) rfl (by kernel_rfl) (by kernel_rfl) (by kernel_rfl) (fun _ _ _ h => h) (Or.inl ⟨by rfl, fun w hSw => by clear hSw; go_simp⟩) hH ?_
        refine wpAnyH_take (i := 1) (v := .int .i64 ((k : Int))) rfl (by kernel_rfl) (by kernel_rfl) (by kernel_rfl) (fun _ _ _ h => h) (Or.inl ⟨by rfl, fun w hSw => by clear hSw; go_simp⟩) hH ?_
        try simp only [Act.put, List.setIfInBounds_toArray, List.set_cons_zero, List.set_cons_succ, List.getElem_toArray, List.getElem_cons_succ, List.getElem_cons_zero]
        refine wpAnyH_take (i := 2) (v := .pointer (some ⟨ba, oa + k * 2, none⟩)) rfl (by kernel_rfl) (by kernel_rfl) (by kernel_rfl) (fun _ _ _ h => h) (Or.inl ⟨by rfl, fun w hSw => by clear hSw; go_simp⟩) hH ?_
        try simp only [Act.put, List.setIfInBounds_toArray, List.set_cons_zero, List.set_cons_succ, List.getElem_toArray, List.getElem_cons_succ, List.getElem_cons_zero]
        refine wpAnyH_take (i := 3) (v := .agg #[.string x.ar, .int .i64 x.cd]) rfl (by kernel_rfl) (by kernel_rfl) (by kernel_rfl) (fun _ _ _ h => h) (Or.inl ⟨by rfl, fun w hSw => by obtain ⟨⟨f0, f1⟩, ⟨f2, f3⟩, f4⟩ := HC.out w hSw; clear hSw; go_simp⟩) hH ?_
        try simp only [Act.put, List.setIfInBounds_toArray, List.set_cons_zero, List.set_cons_succ, List.getElem_toArray, List.getElem_cons_succ, List.getElem_cons_zero]
        refine wpAnyH_take (i := 4) (v := .slice (some ⟨bb, ob, none⟩) TL.length cb) rfl (by kernel_rfl) (by kernel_rfl) (by kernel_rfl) (fun _ _ _ h => h) (Or.inl ⟨by rfl, fun w hSw => by clear hSw; go_simp⟩) hH ?_
        try simp only [Act.put, List.setIfInBounds_toArray, List.set_cons_zero, List.set_cons_succ, List.getElem_toArray, List.getElem_cons_succ, List.getElem_cons_zero]
        refine wpAnyH_take (i := 5) (v := .int .i64 ((k : Int))) rfl (by kernel_rfl) (by kernel_rfl) (by kernel_rfl) (fun _ _ _ h => h) (Or.inl ⟨by rfl, fun w hSw => by clear hSw; go_simp⟩) hH ?_
        try simp only [Act.put, List.setIfInBounds_toArray, List.set_cons_zero, List.set_cons_succ, List.getElem_toArray, List.getElem_cons_succ, List.getElem_cons_zero]
        refine wpAnyH_take (i := 6) (v := .pointer (some ⟨bb, ob + k * 2, none⟩)) rfl (by kernel_rfl) (by kernel_rfl) (by kernel_rfl) (fun _ _ _ h => h) (Or.inl ⟨by rfl, fun w hSw => by clear hSw; go_simp⟩) hH ?_
        try simp only [Act.put, List.setIfInBounds_toArray, List.set_cons_zero, List.set_cons_succ, List.getElem_toArray, List.getElem_cons_succ, List.getElem_cons_zero]
        refine wpAnyH_take (i := 7) (v := .agg #[.string x.ar, .int .i64 x.cd]) rfl (by kernel_rfl) (by kernel_rfl) (by kernel_rfl) (fun _ _ _ h => h) (Or.inl ⟨by rfl, fun w hSw => by obtain ⟨⟨f0, f1⟩, ⟨f2, f3⟩, f4⟩ := HC.out w hSw; clear hSw; go_simp⟩) hH ?_
        try simp only [Act.put, List.setIfInBounds_toArray, List.set_cons_zero, List.set_cons_succ, List.getElem_toArray, List.getElem_cons_succ, List.getElem_cons_zero]
        refine wpAnyH_take (i := 8) (v := .bool false) rfl (by kernel_rfl) (by kernel_rfl) (by kernel_rfl) (fun _ _ _ h => h) (Or.inl ⟨by rfl, fun w hSw => by clear hSw; go_simp⟩) hH ?_
        try simp only [Act.put, List.setIfInBounds_toArray, List.set_cons_zero, List.set_cons_succ, List.getElem_toArray, List.getElem_cons_succ, List.getElem_cons_zero]
        refine wpAnyH_take (i := 9) (v := .bool false) rfl (by kernel_rfl) (by kernel_rfl) (by kernel_rfl) (fun _ _ _ h => h) (Or.inl ⟨by rfl, fun w hSw => by clear hSw; go_simp⟩) hH ?_
        try simp only [Act.put, List.setIfInBounds_toArray, List.set_cons_zero, List.set_cons_succ, List.getElem_toArray, List.getElem_cons_succ, List.getElem_cons_zero]
        refine wpAnyH_take (i := 10) (v := .int .i64 ((k : Int))) rfl (by kernel_rfl) (by kernel_rfl) (by kernel_rfl) (fun _ _ _ h => h) (Or.inl ⟨by rfl, fun w hSw => by clear hSw; go_simp⟩) hH ?_
        try simp only [Act.put, List.setIfInBounds_toArray, List.set_cons_zero, List.set_cons_succ, List.getElem_toArray, List.getElem_cons_succ, List.getElem_cons_zero]
        refine wpAnyH_take (i := 11) (v := .bool false) rfl (by kernel_rfl) (by kernel_rfl) (by kernel_rfl) (fun _ _ _ h => h) (Or.inl ⟨by rfl, fun w hSw => by have hk0 := HK0.out; clear hSw; go_simp⟩) hH ?_
        try simp only [Act.put, List.setIfInBounds_toArray, List.set_cons_zero, List.set_cons_succ, List.getElem_toArray, List.getElem_cons_succ, List.getElem_cons_zero]
        refine wpAnyH_take (i := 12) (v := .bool false) rfl (by kernel_rfl) (by kernel_rfl) (by kernel_rfl) (fun _ _ _ h => h) (Or.inl ⟨by rfl, fun w hSw => by clear hSw; go_simp⟩) hH ?_
        try simp only [Act.put, List.setIfInBounds_toArray, List.set_cons_zero, List.set_cons_succ, List.getElem_toArray, List.getElem_cons_succ, List.getElem_cons_zero]
        refine wpAnyH_take (i := 13) (v := undef) rfl (by kernel_rfl) (by kernel_rfl) (by kernel_rfl) (fun _ _ _ h => h) (Or.inr ⟨by rfl, rfl⟩) hH ?_
        try simp only [Act.put, List.setIfInBounds_toArray, List.set_cons_zero, List.set_cons_succ, List.getElem_toArray, List.getElem_cons_succ, List.getElem_cons_zero]
        refine wpAnyH_take (i := 14) (v := undef) rfl (by kernel_rfl) (by kernel_rfl) (by kernel_rfl) (fun _ _ _ h => h) (Or.inr ⟨by rfl, rfl⟩) hH ?_
        try simp only [Act.put, List.setIfInBounds_toArray, List.set_cons_zero, List.set_cons_succ, List.getElem_toArray, List.getElem_cons_succ, List.getElem_cons_zero]
        refine wpAnyH_take (i := 15) (v := undef) rfl (by kernel_rfl) (by kernel_rfl) (by kernel_rfl) (fun _ _ _ h => h) (Or.inr ⟨by rfl, rfl⟩) hH ?_
        try simp only [Act.put, List.setIfInBounds_toArray, List.set_cons_zero, List.set_cons_succ, List.getElem_toArray, List.getElem_cons_succ, List.getElem_cons_zero]
        refine wpAnyH_take (i := 16) (v := undef) rfl (by kernel_rfl) (by kernel_rfl) (by kernel_rfl) (fun _ _ _ h => h) (Or.inr ⟨by rfl, rfl⟩) hH ?_
        try simp only [Act.put, List.setIfInBounds_toArray, List.set_cons_zero, List.set_cons_succ, List.getElem_toArray, List.getElem_cons_succ, List.getElem_cons_zero]
        refine wpAnyH_take (i := 17) (v := undef) rfl (by kernel_rfl) (by kernel_rfl) (by kernel_rfl) (fun _ _ _ h => h) (Or.inr ⟨by rfl, rfl⟩) hH ?_
        try simp only [Act.put, List.setIfInBounds_toArray, List.set_cons_zero, List.set_cons_succ, List.getElem_toArray, List.getElem_cons_succ, List.getElem_cons_zero]
        refine wpAnyH_take (i := 18) (v := undef) rfl (by kernel_rfl) (by kernel_rfl) (by kernel_rfl) (fun _ _ _ h => h) (Or.inr ⟨by rfl, rfl⟩) hH ?_
        try simp only [Act.put, List.setIfInBounds_toArray, List.set_cons_zero, List.set_cons_succ, List.getElem_toArray, List.getElem_cons_succ, List.getElem_cons_zero]
        refine wpAnyH_take (i := 19) (v := undef) rfl (by kernel_rfl) (by kernel_rfl) (by kernel_rfl) (fun _ _ _ h => h) (Or.inr ⟨by rfl, rfl⟩) hH ?_
        try simp only [Act.put, List.setIfInBounds_toArray, List.set_cons_zero, List.set_cons_succ, List.getElem_toArray, List.getElem_cons_succ, List.getElem_cons_zero]
        refine wpAnyH_take (i := 20) (v := undef) rfl (by kernel_rfl) (by kernel_rfl) (by kernel_rfl) (fun _ _ _ h => h) (Or.inr ⟨by rfl, rfl⟩) hH ?_
        try simp only [Act.put, List.setIfInBounds_toArray, List.set_cons_zero, List.set_cons_succ, List.getElem_toArray, List.getElem_cons_succ, List.getElem_cons_zero]
        refine wpAnyH_take (i := 21) (v := undef) rfl (by kernel_rfl) (by kernel_rfl) (by kernel_rfl) (fun _ _ _ h => h) (Or.inr ⟨by rfl, rfl⟩) hH ?_
        try simp only [Act.put, List.setIfInBounds_toArray, List.set_cons_zero, List.set_cons_succ, List.getElem_toArray, List.getElem_cons_succ, List.getElem_cons_zero]
        refine wpAnyH_take (i := 22) (v := undef) rfl (by kernel_rfl) (by kernel_rfl) (by kernel_rfl) (fun _ _ _ h => h) (Or.inr ⟨by rfl, rfl⟩) hH ?_
        try simp only [Act.put, List.setIfInBounds_toArray, List.set_cons_zero, List.set_cons_succ, List.getElem_toArray, List.getElem_cons_succ, List.getElem_cons_zero]
        refine wpAnyH_take (i := 23) (v := undef) rfl (by kernel_rfl) (by kernel_rfl) (by kernel_rfl) (fun _ _ _ h => h) (Or.inr ⟨by rfl, rfl⟩) hH ?_
        try simp only [Act.put, List.setIfInBounds_toArray, List.set_cons_zero, List.set_cons_succ, List.getElem_toArray, List.getElem_cons_succ, List.getElem_cons_zero]
        refine wpAnyH_take (i := 24) (v := undef) rfl (by kernel_rfl) (by kernel_rfl) (by kernel_rfl) (fun _ _ _ h => h) (Or.inr ⟨by rfl, rfl⟩) hH ?_
        try simp only [Act.put, List.setIfInBounds_toArray, List.set_cons_zero, List.set_cons_succ, List.getElem_toArray, List.getElem_cons_succ, List.getElem_cons_zero]
        refine wpAnyH_take (i := 25) (v := .bool false) rfl (by kernel_rfl) (by kernel_rfl) (by kernel_rfl) (fun _ _ _ h => h) (Or.inl ⟨by rfl, fun w hSw => by clear hSw; go_simp⟩) hH ?_
        try simp only [Act.put, List.setIfInBounds_toArray, List.set_cons_zero, List.set_cons_succ, List.getElem_toArray, List.getElem_cons_succ, List.getElem_cons_zero]
        refine wpAnyH_take (i := 26) (v := .bool false) rfl (by kernel_rfl) (by kernel_rfl) (by kernel_rfl) (fun _ _ _ h => h) (Or.inl ⟨by rfl, fun w hSw => by clear hSw; go_simp⟩) hH ?_
        try simp only [Act.put, List.setIfInBounds_toArray, List.set_cons_zero, List.set_cons_succ, List.getElem_toArray, List.getElem_cons_succ, List.getElem_cons_zero]
        refine wpAnyH_done (by kernel_rfl) ?_ _
        clear hH HC HLt
        have HB9 : Hid (Below w6.heap.size w6 wr.drew) := chain HBl.out (below_drew _)
        generalize wr.drew = w9 at *
        go_wp2
        exact ⟨⟨k + 1, by omega, by go_num, HB9.out⟩, by simp [intOf]; omega⟩
      · have HK0 : Hid (0 < k) := by show _ < _; omega
        have HLe : Hid ((!Op.bytesLess y.ar.toList x.ar.toList) = false) := by show _ = _; rw [HLt.out (by omega)]; rfl
        have hwj : IntKind.i64.wrap ((k : Int) - 1) = (j : Int) := by rw [show (k : Int) - 1 = (j : Int) by omega]; exact wrap_id _ (by omega) (by omega)
        have hjl' : (j : Int) < (TL.length : Int) := by omega
        clear hk0 hj
        go_wp2_with fail
        refine wp_region_held_drew (S := fun W' => Below wr.heap.size wr W') (by kernel_rfl) (below_drew _) (fun hH => ?_)
        refine wpAnyH_take (i := 0) (v := .slice (some ⟨ba, oa, none⟩) TL.length ca) rfl (by kernel_rfl) (by kernel_rfl) (by kernel_rfl) (fun _ _ _ h => h) (Or.inl ⟨by rfl, fun w hSw => by clear hSw; go_simp⟩) hH ?_
        refine wpAnyH_take (i := 1) (v := .int .i64 ((k : Int))) rfl (by kernel_rfl) (by kernel_rfl) (by kernel_rfl) (fun _ _ _ h => h) (Or.inl ⟨by rfl, fun w hSw => by clear hSw; go_simp⟩) hH ?_
        try simp only [Act.put, List.setIfInBounds_toArray, List.set_cons_zero, List.set_cons_succ, List.getElem_toArray, List.getElem_cons_succ, List.getElem_cons_zero]
        refine wpAnyH_take (i := 2) (v := .pointer (some ⟨ba, oa + k * 2, none⟩)) rfl (by kernel_rfl) (by kernel_rfl) (by kernel_rfl) (fun _ _ _ h => h) (Or.inl ⟨by rfl, fun w hSw => by clear hSw; go_simp⟩) hH ?_
        try simp only [Act.put, List.setIfInBounds_toArray, List.set_cons_zero, List.set_cons_succ, List.getElem_toArray, List.getElem_cons_succ, List.getElem_cons_zero]
        refine wpAnyH_take (i := 3) (v := .agg #[.string x.ar, .int .i64 x.cd]) rfl (by kernel_rfl) (by kernel_rfl) (by kernel_rfl) (fun _ _ _ h => h) (Or.inl ⟨by rfl, fun w hSw => by obtain ⟨⟨f0, f1⟩, ⟨f2, f3⟩, f4⟩ := HC.out w hSw; clear hSw; go_simp⟩) hH ?_
        try simp only [Act.put, List.setIfInBounds_toArray, List.set_cons_zero, List.set_cons_succ, List.getElem_toArray, List.getElem_cons_succ, List.getElem_cons_zero]
        refine wpAnyH_take (i := 4) (v := .slice (some ⟨bb, ob, none⟩) TL.length cb) rfl (by kernel_rfl) (by kernel_rfl) (by kernel_rfl) (fun _ _ _ h => h) (Or.inl ⟨by rfl, fun w hSw => by clear hSw; go_simp⟩) hH ?_
        try simp only [Act.put, List.setIfInBounds_toArray, List.set_cons_zero, List.set_cons_succ, List.getElem_toArray, List.getElem_cons_succ, List.getElem_cons_zero]
        refine wpAnyH_take (i := 5) (v := .int .i64 ((k : Int))) rfl (by kernel_rfl) (by kernel_rfl) (by kernel_rfl) (fun _ _ _ h => h) (Or.inl ⟨by rfl, fun w hSw => by clear hSw; go_simp⟩) hH ?_
        try simp only [Act.put, List.setIfInBounds_toArray, List.set_cons_zero, List.set_cons_succ, List.getElem_toArray, List.getElem_cons_succ, List.getElem_cons_zero]
        refine wpAnyH_take (i := 6) (v := .pointer (some ⟨bb, ob + k * 2, none⟩)) rfl (by kernel_rfl) (by kernel_rfl) (by kernel_rfl) (fun _ _ _ h => h) (Or.inl ⟨by rfl, fun w hSw => by clear hSw; go_simp⟩) hH ?_
        try simp only [Act.put, List.setIfInBounds_toArray, List.set_cons_zero, List.set_cons_succ, List.getElem_toArray, List.getElem_cons_succ, List.getElem_cons_zero]
        refine wpAnyH_take (i := 7) (v := .agg #[.string x.ar, .int .i64 x.cd]) rfl (by kernel_rfl) (by kernel_rfl) (by kernel_rfl) (fun _ _ _ h => h) (Or.inl ⟨by rfl, fun w hSw => by obtain ⟨⟨f0, f1⟩, ⟨f2, f3⟩, f4⟩ := HC.out w hSw; clear hSw; go_simp⟩) hH ?_
        try simp only [Act.put, List.setIfInBounds_toArray, List.set_cons_zero, List.set_cons_succ, List.getElem_toArray, List.getElem_cons_succ, List.getElem_cons_zero]
        refine wpAnyH_take (i := 8) (v := .bool false) rfl (by kernel_rfl) (by kernel_rfl) (by kernel_rfl) (fun _ _ _ h => h) (Or.inl ⟨by rfl, fun w hSw => by clear hSw; go_simp⟩) hH ?_
        try simp only [Act.put, List.setIfInBounds_toArray, List.set_cons_zero, List.set_cons_succ, List.getElem_toArray, List.getElem_cons_succ, List.getElem_cons_zero]
        refine wpAnyH_take (i := 9) (v := .bool false) rfl (by kernel_rfl) (by kernel_rfl) (by kernel_rfl) (fun _ _ _ h => h) (Or.inl ⟨by rfl, fun w hSw => by clear hSw; go_simp⟩) hH ?_
        try simp only [Act.put, List.setIfInBounds_toArray, List.set_cons_zero, List.set_cons_succ, List.getElem_toArray, List.getElem_cons_succ, List.getElem_cons_zero]
        refine wpAnyH_take (i := 10) (v := .int .i64 ((k : Int))) rfl (by kernel_rfl) (by kernel_rfl) (by kernel_rfl) (fun _ _ _ h => h) (Or.inl ⟨by rfl, fun w hSw => by clear hSw; go_simp⟩) hH ?_
        try simp only [Act.put, List.setIfInBounds_toArray, List.set_cons_zero, List.set_cons_succ, List.getElem_toArray, List.getElem_cons_succ, List.getElem_cons_zero]
        refine wpAnyH_take (i := 11) (v := .bool true) rfl (by kernel_rfl) (by kernel_rfl) (by kernel_rfl) (fun _ _ _ h => h) (Or.inl ⟨by rfl, fun w hSw => by have hk0 := HK0.out; clear hSw; go_simp⟩) hH ?_
        try simp only [Act.put, List.setIfInBounds_toArray, List.set_cons_zero, List.set_cons_succ, List.getElem_toArray, List.getElem_cons_succ, List.getElem_cons_zero]
        refine wpAnyH_take (i := 12) (v := .bool true) rfl (by kernel_rfl) (by kernel_rfl) (by kernel_rfl) (fun _ _ _ h => h) (Or.inl ⟨by rfl, fun w hSw => by clear hSw; go_simp⟩) hH ?_
        try simp only [Act.put, List.setIfInBounds_toArray, List.set_cons_zero, List.set_cons_succ, List.getElem_toArray, List.getElem_cons_succ, List.getElem_cons_zero]
        refine wpAnyH_take (i := 13) (v := .slice (some ⟨ba, oa, none⟩) TL.length ca) rfl (by kernel_rfl) (by kernel_rfl) (by kernel_rfl) (fun _ _ _ h => h) (Or.inl ⟨by rfl, fun w hSw => by clear hSw; go_simp⟩) hH ?_
        try simp only [Act.put, List.setIfInBounds_toArray, List.set_cons_zero, List.set_cons_succ, List.getElem_toArray, List.getElem_cons_succ, List.getElem_cons_zero]
        refine wpAnyH_take (i := 14) (v := .int .i64 ((k : Int))) rfl (by kernel_rfl) (by kernel_rfl) (by kernel_rfl) (fun _ _ _ h => h) (Or.inl ⟨by rfl, fun w hSw => by clear hSw; go_simp⟩) hH ?_
        try simp only [Act.put, List.setIfInBounds_toArray, List.set_cons_zero, List.set_cons_succ, List.getElem_toArray, List.getElem_cons_succ, List.getElem_cons_zero]
        refine wpAnyH_take (i := 15) (v := .int .i64 ((j : Int))) rfl (by kernel_rfl) (by kernel_rfl) (by kernel_rfl) (fun _ _ _ h => h) (Or.inl ⟨by rfl, fun w hSw => by clear hSw; go_simp⟩) hH ?_
        try simp only [Act.put, List.setIfInBounds_toArray, List.set_cons_zero, List.set_cons_succ, List.getElem_toArray, List.getElem_cons_succ, List.getElem_cons_zero]
        refine wpAnyH_take (i := 16) (v := .pointer (some ⟨ba, oa + j * 2, none⟩)) rfl (by kernel_rfl) (by kernel_rfl) (by kernel_rfl) (fun _ _ _ h => h) (Or.inl ⟨by rfl, fun w hSw => by clear hSw; go_simp⟩) hH ?_
        try simp only [Act.put, List.setIfInBounds_toArray, List.set_cons_zero, List.set_cons_succ, List.getElem_toArray, List.getElem_cons_succ, List.getElem_cons_zero]
        refine wpAnyH_take (i := 17) (v := .pointer (some ⟨ba, oa + j * 2, none⟩)) rfl (by kernel_rfl) (by kernel_rfl) (by kernel_rfl) (fun _ _ _ h => h) (Or.inl ⟨by rfl, fun w hSw => by clear hSw; go_simp⟩) hH ?_
        try simp only [Act.put, List.setIfInBounds_toArray, List.set_cons_zero, List.set_cons_succ, List.getElem_toArray, List.getElem_cons_succ, List.getElem_cons_zero]
        refine wpAnyH_take (i := 18) (v := .string y.ar) rfl (by kernel_rfl) (by kernel_rfl) (by kernel_rfl) (fun _ _ _ h => h) (Or.inl ⟨by rfl, fun w hSw => by obtain ⟨⟨f0, f1⟩, ⟨f2, f3⟩, f4⟩ := HC.out w hSw; clear hSw; go_simp⟩) hH ?_
        try simp only [Act.put, List.setIfInBounds_toArray, List.set_cons_zero, List.set_cons_succ, List.getElem_toArray, List.getElem_cons_succ, List.getElem_cons_zero]
        refine wpAnyH_take (i := 19) (v := .slice (some ⟨ba, oa, none⟩) TL.length ca) rfl (by kernel_rfl) (by kernel_rfl) (by kernel_rfl) (fun _ _ _ h => h) (Or.inl ⟨by rfl, fun w hSw => by clear hSw; go_simp⟩) hH ?_
        try simp only [Act.put, List.setIfInBounds_toArray, List.set_cons_zero, List.set_cons_succ, List.getElem_toArray, List.getElem_cons_succ, List.getElem_cons_zero]
        refine wpAnyH_take (i := 20) (v := .int .i64 ((k : Int))) rfl (by kernel_rfl) (by kernel_rfl) (by kernel_rfl) (fun _ _ _ h => h) (Or.inl ⟨by rfl, fun w hSw => by clear hSw; go_simp⟩) hH ?_
        try simp only [Act.put, List.setIfInBounds_toArray, List.set_cons_zero, List.set_cons_succ, List.getElem_toArray, List.getElem_cons_succ, List.getElem_cons_zero]
        refine wpAnyH_take (i := 21) (v := .pointer (some ⟨ba, oa + k * 2, none⟩)) rfl (by kernel_rfl) (by kernel_rfl) (by kernel_rfl) (fun _ _ _ h => h) (Or.inl ⟨by rfl, fun w hSw => by clear hSw; go_simp⟩) hH ?_
        try simp only [Act.put, List.setIfInBounds_toArray, List.set_cons_zero, List.set_cons_succ, List.getElem_toArray, List.getElem_cons_succ, List.getElem_cons_zero]
        refine wpAnyH_take (i := 22) (v := .pointer (some ⟨ba, oa + k * 2, none⟩)) rfl (by kernel_rfl) (by kernel_rfl) (by kernel_rfl) (fun _ _ _ h => h) (Or.inl ⟨by rfl, fun w hSw => by clear hSw; go_simp⟩) hH ?_
        try simp only [Act.put, List.setIfInBounds_toArray, List.set_cons_zero, List.set_cons_succ, List.getElem_toArray, List.getElem_cons_succ, List.getElem_cons_zero]
        refine wpAnyH_take (i := 23) (v := .string x.ar) rfl (by kernel_rfl) (by kernel_rfl) (by kernel_rfl) (fun _ _ _ h => h) (Or.inl ⟨by rfl, fun w hSw => by obtain ⟨⟨f0, f1⟩, ⟨f2, f3⟩, f4⟩ := HC.out w hSw; clear hSw; go_simp⟩) hH ?_
        try simp only [Act.put, List.setIfInBounds_toArray, List.set_cons_zero, List.set_cons_succ, List.getElem_toArray, List.getElem_cons_succ, List.getElem_cons_zero]
        refine wpAnyH_take (i := 24) (v := .bool false) rfl (by kernel_rfl) (by kernel_rfl) (by kernel_rfl) (fun _ _ _ h => h) (Or.inl ⟨by rfl, fun w hSw => by have hle := HLe.out; clear hSw; go_simp⟩) hH ?_
        try simp only [Act.put, List.setIfInBounds_toArray, List.set_cons_zero, List.set_cons_succ, List.getElem_toArray, List.getElem_cons_succ, List.getElem_cons_zero]
        refine wpAnyH_take (i := 25) (v := .bool false) rfl (by kernel_rfl) (by kernel_rfl) (by kernel_rfl) (fun _ _ _ h => h) (Or.inl ⟨by rfl, fun w hSw => by clear hSw; go_simp⟩) hH ?_
        try simp only [Act.put, List.setIfInBounds_toArray, List.set_cons_zero, List.set_cons_succ, List.getElem_toArray, List.getElem_cons_succ, List.getElem_cons_zero]
        refine wpAnyH_take (i := 26) (v := .bool false) rfl (by kernel_rfl) (by kernel_rfl) (by kernel_rfl) (fun _ _ _ h => h) (Or.inl ⟨by rfl, fun w hSw => by clear hSw; go_simp⟩) hH ?_
        try simp only [Act.put, List.setIfInBounds_toArray, List.set_cons_zero, List.set_cons_succ, List.getElem_toArray, List.getElem_cons_succ, List.getElem_cons_zero]
        refine wpAnyH_done (by kernel_rfl) ?_ _
        clear hH HC HLt
        have HB9 : Hid (Below w6.heap.size w6 wr.drew) := chain HBl.out (below_drew _)
        generalize wr.drew = w9 at *
        go_wp2
        exact ⟨⟨k + 1, by omega, by go_num, HB9.out⟩, by simp [intOf]; omega⟩
    · have hle : ¬ (k : Int) < (TL.length : Int) := by omega
      have K8 : Hid (Below w1.heap.size w1 wr) := chain K7.out HBl.out
      have H9 := HC3.out wr K8.out
      have hlO : ((OL.length : Int) != (r1.length : Int)) = false := by rw [HOn.out.1]; simp
      have hOl : OL.length ≤ 4 := by rw [HOn.out.1]; exact n1
      clear R6 K7 HC3
      go_wp2_with fail
      (first | go_at_call 15 | skip)
      refine H9.mono ?_
      rintro e w9 ⟨gc, cc, rfl, hr9, hb9⟩
      have R9 : Hid (ReadsVd w9.heap.size w9 gc OL) := hr9
      have B9 : Hid (Below w.heap.size w w9) := chain HB1.out (chain K8.out hb9)
      have HZ : Hid (∀ k, k < OL.length → (OL.getD k zVd).cd = 0) := fun k hk => getVd (p := fun r => r.cd = 0) HOn.out.2 hk
      clear hr9 hb9 H9
      go_wp2
      obtain ⟨wo, rfl⟩ : ∃ wo, wo = wr := ⟨_, rfl⟩
      go_loop [13] (fun c => ∃ k : Nat, k ≤ OL.length ∧ c = .int .i64 (k : Int)) (fun c => OL.length - (intOf c).toNat)
      case atStart => exact ⟨0, Nat.zero_le _, rfl⟩
      case round =>
        obtain ⟨m, hm, rfl⟩ := hrel
        by_cases hml : m < OL.length
        · have hml' : (m : Int) < (OL.length : Int) := by omega
          rcases R9.out with h | ⟨bc, oc, hc, hBc, ic⟩
          · rw [h] at hml; simp at hml
          subst hc
          obtain ⟨f0, f1⟩ := ic m hml
          rw [HZ.out m hml] at f1
          clear ic
          go_wp2
          go_round
          case rel => exact ⟨m + 1, by omega, by go_num⟩
          case measure => simp [intOf]; omega
        · have hml' : ¬ (m : Int) < (OL.length : Int) := by omega
          go_wp2
          go_ret
          exact ⟨rfl, B9.out⟩
theorem walk (a0 : Option Addr) (len0 cap0 : Nat) (z0 : List Int) (w : World) (h : RowB w.heap.size w a0 len0 z0) :
    Calls Try.prog 4 #[.slice a0 len0 cap0] w fun e w' => e = .returned (.bool true) ∧ Below w.heap.size w w' := by
  by_cases g : (1048576 : Int) < (len0 : Int)
  · go_enter Try.func4, Try.ntmps4
    go_wp2
    go_ret
    exact ⟨rfl, Below.refl _ _⟩
  · exact walk' a0 len0 cap0 w (by omega) (docsOf_any a0 len0 cap0 z0 w h)

theorem own : ownKnob Try.prog.godebug = none := by kernel_rfl
theorem laidOut : laidOutB Try.prog = true := by kernel_rfl

set_option maxRecDepth 100000 in
theorem lifted (os : Os) (started : os.Started) (H : Type) (enc : TypeId × Value → H) :
    ReturnsInHanded {} Try.checked os 4 .any (Rows.fnThreeWaySpec.pre6 enc Try.prog Try.f4 Rows.fnThreeWayRow.domain false) (Rows.fnThreeWaySpec.post enc Try.prog Try.f4 false true false false) := by
  refine returnsInHanded_of_change (C := Try.checked) own started (by kernel_rfl) Try.func4
    (ChangeSpec.witness6 (enc := enc) (C := Try.checked) false ⟨#[], #[.slice none 0 0], []⟩ 8 (by kernel_rfl) (by kernel_rfl) (by kernel_rfl) (by kernel_rfl)) ?_
  intro W base args ds gs before hval0 hW hcnd _
  have hval : ∀ (j : Nat) t v, Try.f4.params[j]? = some t → args[j]? = some v → Value.okWide Try.prog W .any base t v := hval0
  have hW' := hW
  obtain ⟨p, q, hA0, hV, rfl, hfz, hnd⟩ := hW
  have hA : DataW.TrodAll enc Try.prog W 0 (fun _ => true) true Try.f4.params.toList args.toList ds p := hA0
  rw [Try.params4] at hA hval
  obtain ⟨v0, vs0, d0, ds0, p0, q0, hargs, rfl, rfl, h0, r0⟩ := trodAll_cons hA
  obtain ⟨rfl, rfl, rfl⟩ := trodAll_nil r0
  obtain rfl : args = #[v0] := by cases args; simp_all
  obtain ⟨rfl, rfl⟩ := trodVars_none hV
  have k0 := h0
  have lt0 : ∀ x ∈ p0, x.block < W.heap.size := by obtain ⟨m, hm⟩ := k0; exact DataW.trod_lt m _ _ _ hm
  obtain ⟨a0, len0, cap0, rfl⟩ := okWide_slice Try.underlying22 (hval 0 22 v0 rfl rfl)
  obtain ⟨z0, w0⟩ : ∃ zs, IsRow .u8 W a0 len0 cap0 zs := by
    obtain ⟨fuel, hf⟩ := h0
    rcases open_ints Try.underlying22 Try.underlying5 (by kernel_rfl) hf with ⟨hcs, _⟩ | ⟨x, l, c, zs, hcs, _, hl, hm, hz, _, hcell, hwz⟩
    · simp [Value.cells] at hcs
      obtain ⟨rfl, rfl, rfl⟩ := hcs
      exact ⟨[], .inl ⟨rfl, rfl, rfl, rfl⟩⟩
    · simp [Value.cells] at hcs
      obtain ⟨rfl, rfl, rfl⟩ := hcs
      exact ⟨zs, .inr ⟨_, rfl, hl, hm, by simpa using hz, hcell, hwz⟩⟩
  clear hA0 hval0
  refine (walk a0 len0 cap0 z0 W (rowB_of _ _ _ _ _ w0)).mono fun e W' ⟨he, bel⟩ => ?_
  subst he
  exact ⟨_, rfl, _, _, _, [], _, [], hW', trodAll_mk1 (shut_bool Try.underlying4 _), (trodAll_cons_mk (Below.trod laidOut (by kernel_rfl) (of_decide_eq_true (by kernel_rfl)) k0 bel lt0) trodAll_mk0), rfl, bel.frame _, fun h => by cases h⟩

theorem over : Rows.fnThreeWayRow.holds Try.pinned (OpenSpec.ofChange Rows.fnThreeWaySpec) :=
  OpenClaim.holds_of_wide 4 Try.f4 rfl rfl rfl rfl rfl rfl rfl ⟨rfl, rfl, rfl, rfl, rfl⟩ rfl rfl rfl rfl rfl (by kernel_rfl) Try.func4 (by kernel_rfl)
    (of_decide_eq_true (by kernel_rfl)) (by unfold Func.isWrapper; first | (rw [if_pos (by decide +kernel)]; kernel_rfl) | (rw [if_neg (by decide +kernel)]; exact ⟨rfl, rfl⟩))
    (fun os started H enc _ => lifted os started H enc)
end FnThreeWay

theorem fnThreeWay_holds : Rows.FnThreeWaySaid := FnThreeWay.over
end Go.Proofs.Ytfiajiodehhmhaa
