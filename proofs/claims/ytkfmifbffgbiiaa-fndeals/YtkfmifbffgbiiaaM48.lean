/-
  FnDeals: for every input the law returns true: no drawn uses that can be priced are cheaper than the program's best, whose uses come to just what it tells, none of them saves nothing, and a deal less is never cheaper; each argument reads afterwards as it read before. No conditions.
-/
import Derived.Test.YtkfmifbffgbiiaaM32
import Derived.Test.YtkfmifbffgbiiaaM47
namespace Go.Proofs.Ytkfmifbffgbiiaa
open Go.ChangeShapes Go.WideShapes Go.ChangeAt Go.RowKit Go.Deep
set_option linter.unusedVariables false

/-- A bargain without a code: its numbers and its uses. -/
def AnsQ (t s : Int) (L : List CUs) (w : World) (e : Ending) (w' : World) : Prop := ∃ q cq, e = .returned (.tuple #[.agg #[.int .i64 t, .int .i64 s, .slice q L.length cq], .int .i64 0]) ∧ OwnUs w.heap.size w' q L ∧ Below w.heap.size w w'
theorem AnsQ.of {us : List RUn} {ds : List CDl} {cs : List CUs} {w : World} {e : Ending} {w' : World} (hc : pcode us ds cs = 0) (h : AnsP us ds cs w e w') : AnsQ (sumU us - savS us ds cs) (savS us ds cs) (cs.map (told us ds)) w e w' := by
  obtain ⟨q, cq, h1, h2, h3⟩ := h
  unfold ptot psav ptold at h1
  unfold ptold at h2
  rw [if_pos hc] at h2
  rw [if_pos hc, if_pos hc, if_pos hc, hc] at h1
  exact ⟨q, cq, h1, h2, h3⟩
theorem pcode_fit {us : List RUn} {ds : List CDl} {cs : List CUs} (hf : faultOf us ds = 0) (h : pcode us ds cs = 0) : fitB us ds cs = true := by
  unfold pcode at h
  by_cases h1 : 4096 < cs.length
  · rw [if_pos h1] at h; omega
  rw [if_neg h1, if_pos hf] at h
  by_cases h2 : fitB us ds cs = true
  · exact h2
  · rw [if_neg h2] at h; omega
theorem pcode_of {us : List RUn} {ds : List CDl} {cs : List CUs} (hf : faultOf us ds = 0) (hl : cs.length ≤ 8) (h : fitB us ds cs = true) : pcode us ds cs = 0 := by
  unfold pcode
  rw [if_neg (by omega), if_pos hf, if_pos h]
/-- The uses of the best, as they are told. -/
def bsT (us : List RUn) (ds : List CDl) : List CUs := (bsU us ds).map (told us ds)
theorem bsT_len (us : List RUn) (ds : List CDl) : (bsT us ds).length ≤ 8 := by unfold bsT; rw [List.length_map]; exact bsU_len
theorem bsT_ok (us : List RUn) (ds : List CDl) : ∀ r ∈ bsT us ds, UsOK r := fun r hr => by
  obtain ⟨u, hu, rfl⟩ := List.mem_map.1 hr
  exact bsU_ok u hu
theorem bsT_fit {us : List RUn} {ds : List CDl} (hf : faultOf us ds = 0) : fitB us ds (bsT us ds) = true := (fitB_told us ds _).trans (bsU_fit hf)
theorem bsT_told (us : List RUn) (ds : List CDl) : (bsT us ds).map (told us ds) = bsT us ds := by
  unfold bsT
  rw [List.map_map]
  exact List.map_congr_left (fun u _ => told_told us ds u)
theorem bsT_sav (us : List RUn) (ds : List CDl) : savS us ds (bsT us ds) = savS us ds (bsU us ds) := savS_told us ds _
theorem bsT_use {us : List RUn} {ds : List CDl} (hf : faultOf us ds = 0) (i : Nat) (hi : i < (bsT us ds).length) : 1 ≤ ((bsT us ds).getD i zUs).sv ∧ (0 ≤ ((bsT us ds).getD i zUs).dl ∧ ((bsT us ds).getD i zUs).dl < (ds.length : Int)) ∧ ((dlAt ds ((bsT us ds).getD i zUs).dl).on = true → ∀ j, j < i → ((bsT us ds).getD j zUs).dl ≠ ((bsT us ds).getD i zUs).dl) := by
  have hfit := fit_stepAt (bsT_fit hf) i hi
  unfold stepB at hfit
  rw [Bool.and_eq_true, Bool.and_eq_true] at hfit
  obtain ⟨hu, ho, _⟩ := hfit
  unfold useB at hu
  rw [Bool.and_eq_true, Bool.and_eq_true] at hu
  have hd := of_decide_eq_true hu.1.1
  refine ⟨?_, hd, fun hon j hj e => ?_⟩
  · have hm : (bsT us ds).getD i zUs ∈ bsT us ds := by simp [List.getD_eq_getElem?_getD, hi]
    obtain ⟨u, hu, hue⟩ := List.mem_map.1 hm
    rw [← hue]
    exact bs_pos hf u hu
  · rw [hon, Bool.true_and] at ho
    have hs : spB (bsT us ds) i ((bsT us ds).getD i zUs).dl.toNat = true := by
      unfold spB
      rw [List.any_eq_true]
      refine ⟨(bsT us ds).getD j zUs, ?_, ?_⟩
      · have hj2 : j < (bsT us ds).length := by omega
        have e2 : (bsT us ds).getD j zUs = (bsT us ds)[j] := by simp [List.getD_eq_getElem?_getD, hj2]
        rw [e2]
        exact List.mem_take_iff_getElem.2 ⟨j, by omega, rfl⟩
      · show (((bsT us ds).getD j zUs).dl == _) = true
        rw [e, Int.toNat_of_nonneg hd.1]
        exact beq_self_eq_true _
    rw [hs] at ho
    simp at ho
theorem ReadsDl.take {B : Nat} {w : World} {a : Option Addr} {cs : List CDl} (h : ReadsDl B w a cs) (m : Nat) : ReadsDl B w a (cs.take m) := by
  rcases h with h | ⟨b, off, ha, hB, hi⟩
  · exact .inl (by rw [h, List.take_nil])
  · refine .inr ⟨b, off, ha, hB, fun i hi' => ?_⟩
    rw [List.length_take] at hi'
    have e : (cs.take m).getD i zDl = cs.getD i zDl := by simp only [List.getD_eq_getElem?_getD]; rw [List.getElem?_take, if_pos (by omega)]
    rw [e]
    exact hi i (by omega)
/-- What the law keeps: three bargains in boxes, units, deals and two lists of uses. -/
structure DSt (us : List RUn) (ds : List CDl) (tb sb xt xs : Int) (ug dg : Option Addr) (b6 b8 b10 : Nat) (q q2 q3 : Option Addr) (cq cq2 n3 cq3 : Nat) (L : List CUs) (W : World) : Prop where
  h6 : W.heap[b6]? = some (.cells #[.int .i64 tb, .int .i64 sb, .slice q L.length cq] 29 (0, 0))
  h8 : W.heap[b8]? = some (.cells #[.int .i64 tb, .int .i64 sb, .slice q2 L.length cq2] 29 (0, 0))
  h10 : W.heap[b10]? = some (.cells #[.int .i64 xt, .int .i64 xs, .slice q3 n3 cq3] 29 (0, 0))
  un : ReadsUn W.heap.size W ug us
  dl : ReadsDl W.heap.size W dg ds
  u1 : ReadsUs W.heap.size W q L
  u2 : ReadsUs W.heap.size W q2 L
theorem DSt.later {us : List RUn} {ds : List CDl} {tb sb xt xs : Int} {ug dg : Option Addr} {b6 b8 b10 : Nat} {q q2 q3 : Option Addr} {cq cq2 n3 cq3 : Nat} {L : List CUs} {W W' : World} (h : DSt us ds tb sb xt xs ug dg b6 b8 b10 q q2 q3 cq cq2 n3 cq3 L W) (hb : Below W.heap.size W W') : DSt us ds tb sb xt xs ug dg b6 b8 b10 q q2 q3 cq cq2 n3 cq3 L W' :=
  ⟨(hb.block _ (blkLt h.h6)).trans h.h6, (hb.block _ (blkLt h.h8)).trans h.h8, (hb.block _ (blkLt h.h10)).trans h.h10, (h.un.below hb).mono hb.size, h.dl.later hb, h.u1.later hb, h.u2.later hb⟩
theorem on_push {L : List CUs} {on : List Int} {i : Nat} {x : Int} (h : ∀ y ∈ on, ∃ j, j < i ∧ y = (L.getD j zUs).dl) (hx : x = (L.getD i zUs).dl) : ∀ y ∈ on ++ [x], ∃ j, j < i + 1 ∧ y = (L.getD j zUs).dl := fun y hy => by
  rcases List.mem_append.1 hy with h1 | h1
  · obtain ⟨j, h2, h3⟩ := h y h1
    exact ⟨j, by omega, h3⟩
  · exact ⟨i, by omega, by rw [List.mem_singleton.1 h1, hx]⟩
theorem on_keep {L : List CUs} {on : List Int} {i : Nat} (h : ∀ y ∈ on, ∃ j, j < i ∧ y = (L.getD j zUs).dl) : ∀ y ∈ on, ∃ j, j < i + 1 ∧ y = (L.getD j zUs).dl := fun y hy => by
  obtain ⟨j, h2, h3⟩ := h y hy
  exact ⟨j, by omega, h3⟩

theorem on_grown {w5 w w9 : World} {oa : Option Addr} {oc : Nat} {on : List Int} {x : Int} {o : Obj} {g9 c9 : Nat} (hb : Below w5.heap.size w5 w) (hr : w.ownsRow w5.heap.size 3 1 (.slice oa on.length oc) on.length (on.map (.int .i64))) (ho : w9.ownsRow w5.heap.size 3 1 (.slice (some ⟨g9, 0, none⟩) (on.length + 1) c9) (on.length + 1) (on.map (.int .i64) ++ [.int .i64 x])) (hg : (w.alloc o).grownBy w9 (Value.ownBlock (.slice oa on.length oc))) :
    w9.ownsRow w5.heap.size 3 1 (.slice (some ⟨g9, 0, none⟩) (on ++ [x]).length c9) (on ++ [x]).length ((on ++ [x]).map (.int .i64)) ∧ Below w5.heap.size w5 w9 := by
  refine ⟨by rw [List.length_append, List.map_append]; exact ho, (chain hb (below_alloc w o)).grown hg (by have := hb.size; simp; omega) (fun k e => (hr.lt k e).1)⟩
namespace FnDeals
set_option maxHeartbeats 16000000 in
set_option maxRecDepth 8000 in
theorem walk (a0 : Option Addr) (len0 cap0 : Nat) (z0 : List Int) (w : World) (r0 : RowB w.heap.size w a0 len0 z0) :
    Calls Try.prog 3 #[.slice a0 len0 cap0] w fun e w' => e = .returned (.bool true) ∧ Below w.heap.size w w' := by
  by_cases hbig : (1048576 : Int) < (len0 : Int)
  · clear r0
    go_enter Try.func3, Try.ntmps3
    go_wp2
    go_ret
    exact ⟨rfl, Below.refl _ _⟩
  have hbig' : (len0 : Int) ≤ 1048576 := by omega
  have hT := basketOf_any a0 len0 cap0 z0 w r0
  clear r0 hbig
  obtain ⟨i0, hti, hzz⟩ := Option.map_eq_some_iff.1 intInfo'
  simp only [Prod.mk.injEq] at hzz
  obtain ⟨hi0, hi1, hi2⟩ := hzz
  go_enter Try.func3, Try.ntmps3
  go_wp2_with fail
  (first | go_at_call 4 | skip)
  refine hT.mono ?_
  rintro e w1 ⟨us, ds, cs, ug, uc, dg, dc, g, cp, rfl, hul, hdl, hdc, hdr, hdd, hcl, hok, hpc, r1, r2, r3, hb1⟩
  have HFt : Hid (faultOf us ds = 0 ∧ (∀ r ∈ us, UnOK r) ∧ ∀ r ∈ ds, DlOK r) := drawn_right hul hdl hdr hdd
  have HUp : Hid (UnPr us) := (unAll_yes (fault_both HFt.out.1).1).2
  have hda : dlAll ds = true := (fault_both HFt.out.1).2
  obtain ⟨L, hL⟩ : ∃ L, L = bsT us ds := ⟨_, rfl⟩
  obtain ⟨tb, htb⟩ : ∃ tb, tb = sumU us - savS us ds (bsU us ds) := ⟨_, rfl⟩
  obtain ⟨sb, hsb⟩ : ∃ sb, sb = savS us ds (bsU us ds) := ⟨_, rfl⟩
  obtain ⟨xt, hxt⟩ : ∃ xt, xt = sumU us - savS us ds cs := ⟨_, rfl⟩
  obtain ⟨xs, hxs⟩ : ∃ xs, xs = savS us ds cs := ⟨_, rfl⟩
  obtain ⟨L3, hL3⟩ : ∃ L3, L3 = cs.map (told us ds) := ⟨_, rfl⟩
  have hL8 : L.length ≤ 8 := by rw [hL]; exact bsT_len us ds
  have HLu : Hid (∀ i, i < L.length → 1 ≤ (L.getD i zUs).sv ∧ (0 ≤ (L.getD i zUs).dl ∧ (L.getD i zUs).dl < (ds.length : Int)) ∧ ((dlAt ds (L.getD i zUs).dl).on = true → ∀ j, j < i → (L.getD j zUs).dl ≠ (L.getD i zUs).dl)) := fun i hi => by
    rw [hL] at hi ⊢
    exact bsT_use HFt.out.1 i hi
  have hle : ¬ xt < tb := by
    have := bs_most HFt.out.1 (pcode_fit HFt.out.1 hpc)
    rw [hxt, htb]
    omega
  have HTb : Hid (tb = sumU us - savS us ds (bsU us ds)) := htb
  have HSm : Hid (sumU us = tb + sb) := by show _ = _; rw [htb, hsb]; omega
  have hsb0 : 0 ≤ sb := by rw [hsb]; exact bs_bound HFt.out.1
  have htb0 : 0 ≤ tb := by have := bs_total HFt.out.1; rw [htb]; omega
  have hsum : tb + sb ≤ 800000000 := by
    have h1 := sumN_bound HUp.out us.length
    rw [List.take_length] at h1
    have h2 : sumU us = (us.map (·.pr)).sum := rfl
    rw [← HSm.out, h2]
    omega
  have hw64 : IntKind.i64.wrap (tb + sb) = tb + sb := wrap_id _ (by omega) (by omega)
  have HBest : Hid (Calls Try.prog 5 #[.slice (some ⟨ug, 0, none⟩) us.length uc, .slice (some ⟨dg, 0, none⟩) ds.length dc] w1 (AnsQ tb sb L w1)) := by
    have h2 : pcode us ds (bsU us ds) = 0 := bsU_code.trans HFt.out.1
    have h3 := implBest_any (some ⟨ug, 0, none⟩) uc us (by omega) HFt.out.2.1 (some ⟨dg, 0, none⟩) dc ds (by omega) HFt.out.2.2 w1 r1 r2
    show Calls _ _ _ _ _
    rw [htb, hsb, hL]
    exact h3.mono (fun e w' h => AnsQ.of h2 h)
  have HP1 : Hid (∀ W q cq, Below w1.heap.size w1 W → ReadsUs W.heap.size W q L → Calls Try.prog 6 #[.slice (some ⟨ug, 0, none⟩) us.length uc, .slice (some ⟨dg, 0, none⟩) ds.length dc, .slice q L.length cq] W (AnsQ tb sb L W)) := fun W q cq hb hr => by
    have h2 : pcode us ds (bsT us ds) = 0 := pcode_of HFt.out.1 (bsT_len us ds) (bsT_fit HFt.out.1)
    rw [hL] at hr ⊢
    have h3 := implPriced_any (some ⟨ug, 0, none⟩) uc us (by omega) HFt.out.2.1 (some ⟨dg, 0, none⟩) dc ds (by omega) HFt.out.2.2 q cq (bsT us ds) (by have := bsT_len us ds; omega) (bsT_ok us ds) W ((r1.below hb).mono hb.size) (r2.later hb) hr
    refine h3.mono (fun e w' h => ?_)
    have h4 := AnsQ.of h2 h
    rw [bsT_told, bsT_sav] at h4
    rw [htb, hsb]
    exact h4
  have HP2 : Hid (∀ W, Below w1.heap.size w1 W → Calls Try.prog 6 #[.slice (some ⟨ug, 0, none⟩) us.length uc, .slice (some ⟨dg, 0, none⟩) ds.length dc, .slice (some ⟨g, 0, none⟩) cs.length cp] W (AnsQ xt xs L3 W)) := fun W hb => by
    have h3 := implPriced_any (some ⟨ug, 0, none⟩) uc us (by omega) HFt.out.2.1 (some ⟨dg, 0, none⟩) dc ds (by omega) HFt.out.2.2 (some ⟨g, 0, none⟩) cp cs (by omega) hok W ((r1.below hb).mono hb.size) (r2.later hb) (r3.later hb)
    rw [hxt, hxs, hL3]
    exact h3.mono (fun e w' h => AnsQ.of hpc h)
  have HDo : Hid (∀ W, Below w1.heap.size w1 W → Calls Try.prog 7 #[.slice (some ⟨dg, 0, none⟩) ds.length dc] W fun e w' => e = .returned (.bool true) ∧ Below W.heap.size W w') := fun W hb => by
    have h3 := implDeals_any (some ⟨dg, 0, none⟩) dc ds (by omega) HFt.out.2.2 W (r2.later hb)
    rw [hda] at h3
    exact h3
  have HR12 : Hid (ReadsUn w1.heap.size w1 (some ⟨ug, 0, none⟩) us ∧ ReadsDl w1.heap.size w1 (some ⟨dg, 0, none⟩) ds) := ⟨r1, r2⟩
  have HBw1 : Hid (Below w.heap.size w w1) := hb1
  clear hT hdr hdd hok hpc r1 r2 r3 hb1 hda hL htb hsb hxt hxs hL3
  go_wp2_with fail
  (first | go_at_call 5 | skip)
  refine HBest.out.mono ?_
  rintro e w2 ⟨q, cq, rfl, ho2, hb2⟩
  obtain ⟨W2, hW2⟩ : ∃ W2, W2 = w2.alloc (Obj.cells #[.int .i64 tb, .int .i64 sb, .slice q L.length cq] 29) := ⟨_, rfl⟩
  obtain ⟨b6, hb6⟩ : ∃ b6, b6 = w2.heap.size := ⟨_, rfl⟩
  have HW2 : Hid (W2 = w2.alloc (Obj.cells #[.int .i64 tb, .int .i64 sb, .slice q L.length cq] 29) ∧ b6 = w2.heap.size) := ⟨hW2, hb6⟩
  have HB2 : Hid (Below w1.heap.size w1 W2) := by show Below _ _ _; rw [hW2]; exact chain hb2 (below_alloc _ _)
  have H6 : Hid (W2.heap[b6]? = some (.cells #[.int .i64 tb, .int .i64 sb, .slice q L.length cq] 29 (0, 0))) := by show _ = _; rw [hW2, hb6]; exact heapNew _ _
  have HU1 : Hid (ReadsUs W2.heap.size W2 q L) := by show ReadsUs _ _ _ _; rw [hW2]; exact ho2.reads.later (below_alloc _ _)
  have x62 := blkCell H6.out 2 _ rfl
  simp only [List.getElem_toArray, List.getElem_cons_zero, List.getElem_cons_succ] at x62
  clear ho2 hb2 hW2 hb6 HBest
  go_upto_region 5 with fail
  rw [← HW2.out.1, ← HW2.out.2]
  clear HW2
  go_wp2_with fail
  (first | go_at_call 6 | skip)
  refine (HP1.out W2 q cq HB2.out HU1.out).mono ?_
  rintro e w3 ⟨q2, cq2, rfl, ho3, hb3⟩
  obtain ⟨W3, hW3⟩ : ∃ W3, W3 = w3.alloc (Obj.cells #[.int .i64 tb, .int .i64 sb, .slice q2 L.length cq2] 29) := ⟨_, rfl⟩
  obtain ⟨b8, hb8⟩ : ∃ b8, b8 = w3.heap.size := ⟨_, rfl⟩
  have HW3 : Hid (W3 = w3.alloc (Obj.cells #[.int .i64 tb, .int .i64 sb, .slice q2 L.length cq2] 29) ∧ b8 = w3.heap.size) := ⟨hW3, hb8⟩
  have HB3 : Hid (Below W2.heap.size W2 W3) := by show Below _ _ _; rw [hW3]; exact chain hb3 (below_alloc _ _)
  have H8 : Hid (W3.heap[b8]? = some (.cells #[.int .i64 tb, .int .i64 sb, .slice q2 L.length cq2] 29 (0, 0))) := by show _ = _; rw [hW3, hb8]; exact heapNew _ _
  have HU2 : Hid (ReadsUs W3.heap.size W3 q2 L) := by show ReadsUs _ _ _ _; rw [hW3]; exact ho3.reads.later (below_alloc _ _)
  clear ho3 hb3 hW3 hb8 x62 HP1
  go_upto_region 6 with fail
  rw [← HW3.out.1, ← HW3.out.2]
  clear HW3
  go_wp2_with fail
  (first | go_at_call 6 | skip)
  refine (HP2.out W3 (chain HB2.out HB3.out)).mono ?_
  rintro e w4 ⟨q3, cq3, rfl, _, hb4⟩
  obtain ⟨W4, hW4⟩ : ∃ W4, W4 = w4.alloc (Obj.cells #[.int .i64 xt, .int .i64 xs, .slice q3 L3.length cq3] 29) := ⟨_, rfl⟩
  obtain ⟨b10, hb10⟩ : ∃ b10, b10 = w4.heap.size := ⟨_, rfl⟩
  obtain ⟨n3, hn3⟩ : ∃ n3, n3 = L3.length := ⟨_, rfl⟩
  have HW4 : Hid (W4 = w4.alloc (Obj.cells #[.int .i64 xt, .int .i64 xs, .slice q3 L3.length cq3] 29) ∧ b10 = w4.heap.size) := ⟨hW4, hb10⟩
  have HB4 : Hid (Below W3.heap.size W3 W4) := by show Below _ _ _; rw [hW4]; exact chain hb4 (below_alloc _ _)
  have HD4 : Hid (DSt us ds tb sb xt xs (some ⟨ug, 0, none⟩) (some ⟨dg, 0, none⟩) b6 b8 b10 q q2 q3 cq cq2 n3 cq3 L W4) := by
    have hb23 := chain HB3.out HB4.out
    have hb14 := chain HB2.out hb23
    refine ⟨(hb23.block _ (blkLt H6.out)).trans H6.out, (HB4.out.block _ (blkLt H8.out)).trans H8.out, ?_, (HR12.out.1.below hb14).mono hb14.size, HR12.out.2.later hb14, HU1.out.later hb23, HU2.out.later HB4.out⟩
    rw [hW4, hb10, hn3]; exact heapNew _ _
  have HB14 : Hid (Below w1.heap.size w1 W4) := chain HB2.out (chain HB3.out HB4.out)
  clear hb4 hW4 hb10 hn3 HP2 HB2 HB3 HB4 H6 H8 HU1 HU2 HR12
  go_upto_region 7 with fail
  rw [← HW4.out.1, ← HW4.out.2]
  clear HW4
  go_wp2_with fail
  (first | go_at_call 7 | skip)
  refine (HDo.out W4 HB14.out).mono ?_
  rintro e w5 ⟨rfl, hb5⟩
  have HD5 : Hid (DSt us ds tb sb xt xs (some ⟨ug, 0, none⟩) (some ⟨dg, 0, none⟩) b6 b8 b10 q q2 q3 cq cq2 n3 cq3 L w5) := HD4.out.later hb5
  have HBw5 : Hid (Below w.heap.size w w5) := chain HBw1.out (chain HB14.out hb5)
  have y60 := blkCell HD5.out.h6 0 _ rfl
  have y61 := blkCell HD5.out.h6 1 _ rfl
  have y62 := blkCell HD5.out.h6 2 _ rfl
  have y80 := blkCell HD5.out.h8 0 _ rfl
  have y81 := blkCell HD5.out.h8 1 _ rfl
  have y10 := blkCell HD5.out.h10 0 _ rfl
  simp only [List.getElem_toArray, List.getElem_cons_zero, List.getElem_cons_succ] at y60 y61 y62 y80 y81 y10
  have HR0 : Hid ((w5.alloc (Obj.cells #[] 3)).ownsRow w5.heap.size 3 1 (.slice (some ⟨w5.heap.size, 0, none⟩) 0 0) 0 (([] : List Int).map (.int .i64))) := ⟨rfl, .inr ⟨w5.heap.size, 0, #[], rfl, Nat.le_refl _, heapNew w5 _, Nat.le_refl _, by unfold maxLen; omega, rfl, rfl⟩⟩
  have hle' : decide (xt < tb) = false := decide_eq_false (by omega)
  clear hb5 HD4 HB14 HBw1 HDo
  go_wp2_with fail
  clear y60 y61 y62 y80 y81 y10
  go_loopw [12, 13, 14, 15] (fun v c _ _ wr => ∃ (i : Nat) (on : List Int) (oa : Option Addr) (oc : Nat), i ≤ L.length ∧ c = .int .i64 (i : Int) ∧ v = .slice oa on.length oc ∧ on.length ≤ i ∧ (∀ y ∈ on, ∃ j, j < i ∧ y = (L.getD j zUs).dl) ∧ wr.ownsRow w5.heap.size 3 1 (.slice oa on.length oc) on.length (on.map (.int .i64)) ∧ Below w5.heap.size w5 wr) (fun _ c _ _ _ => L.length - (intOf c).toNat)
  case atStart => exact ⟨0, [], some ⟨w5.heap.size, 0, none⟩, 0, Nat.zero_le _, rfl, rfl, Nat.le_refl _, fun y hy => by simp at hy, HR0.out, below_alloc _ _⟩
  case round =>
    clear HR0
    obtain ⟨i, on, oa, oc, hi, rfl, rfl, honl, hOn, hrow, hbr⟩ := hrel
    have HOn : Hid (∀ y ∈ on, ∃ j, j < i ∧ y = (L.getD j zUs).dl) := hOn
    have HRow : Hid (wr.ownsRow w5.heap.size 3 1 (.slice oa on.length oc) on.length (on.map (.int .i64))) := hrow
    have HBr : Hid (Below w5.heap.size w5 wr) := hbr
    clear hOn hrow hbr
    by_cases hlt : i < L.length
    · skip
      have hlt' : (i : Int) < (L.length : Int) := by omega
      have HDr : Hid (DSt us ds tb sb xt xs (some ⟨ug, 0, none⟩) (some ⟨dg, 0, none⟩) b6 b8 b10 q q2 q3 cq cq2 n3 cq3 L wr) := HD5.out.later HBr.out
      have hz6 := blkCell HDr.out.h6 2 _ rfl
      have hz8 := blkCell HDr.out.h8 2 _ rfl
      simp only [List.getElem_toArray, List.getElem_cons_zero, List.getElem_cons_succ] at hz6 hz8
      obtain ⟨s1, ⟨s2, s3⟩, s4⟩ := HLu.out i hlt
      rcases HDr.out.u1 with h | ⟨g1, o1, hq1, hB1, ia⟩
      · rw [h] at hlt; simp at hlt
      rcases HDr.out.u2 with h | ⟨g2, o2, hq2, hB2, ja⟩
      · rw [h] at hlt; simp at hlt
      obtain ⟨h, c, ⟨c0, c1, c2⟩, _, _⟩ := ia i hlt
      obtain ⟨_, _, ⟨_, d1, _⟩, _, _⟩ := ja i hlt
      have HDlx : Hid (∀ n, n < ds.length → wr.cell? ⟨dg, n * 6 + 5, none⟩ = some (.bool (ds.getD n zDl).on) ∧ dg < wr.heap.size) := fun n hn => by
        rcases HDr.out.dl with h | ⟨g3, o3, hd, hB3, ka⟩
        · rw [h] at hn; simp at hn
        · cases hd
          obtain ⟨_, _, ⟨_, _, _, _, _, k5⟩, _, _⟩ := ka n hn
          rw [Nat.zero_add] at k5
          exact ⟨k5, hB3⟩
      have HNo : Hid ((dlAt ds (L.getD i zUs).dl).on = true → ∀ j, j < i → (L.getD j zUs).dl ≠ (L.getD i zUs).dl) := s4
      have HLi : Hid (∀ y, y = (L.getD i zUs).dl → ∀ z ∈ on ++ [y], ∃ j, j < i + 1 ∧ z = (L.getD j zUs).dl) := fun y hy => on_push HOn.out hy
      clear s4 ia ja
      subst hq1 hq2
      generalize L.getD i zUs = r at *
      obtain ⟨dl, sv, us5⟩ := r
      dsimp only at *
      obtain ⟨dn, rfl⟩ : ∃ dn : Nat, dl = (dn : Int) := ⟨dl.toNat, by omega⟩
      have hdn : dn < ds.length := by omega
      obtain ⟨k5, hdg⟩ := HDlx.out dn hdn
      have HNo2 : Hid ((ds.getD dn zDl).on = true → ∀ z ∈ on, z ≠ (dn : Int)) := fun ho z hz => by
        obtain ⟨j, hj, hjz⟩ := HOn.out z hz
        have := HNo.out (by unfold dlAt; rw [Int.toNat_natCast]; exact ho) j hj
        rw [hjz]
        exact this
      obtain ⟨Wu, hWu⟩ : ∃ Wu, Wu = wr.alloc (Obj.cells #[.int .i64 (dn : Int), .int .i64 sv, .slice h us5.length c] 36) := ⟨_, rfl⟩
      obtain ⟨ub, hub⟩ : ∃ ub, ub = wr.heap.size := ⟨_, rfl⟩
      have HWu : Hid (Wu = wr.alloc (Obj.cells #[.int .i64 (dn : Int), .int .i64 sv, .slice h us5.length c] 36)) := hWu
      have Hub : Hid (ub = wr.heap.size) := hub
      have hbu : Below wr.heap.size wr Wu := by rw [hWu]; exact below_alloc _ _
      have hbx : Wu.heap[ub]? = some (.cells #[.int .i64 (dn : Int), .int .i64 sv, .slice h us5.length c] 36 (0, 0)) := by rw [hWu, hub]; exact heapNew _ _
      have HBx : Hid (Wu.heap[ub]? = some (.cells #[.int .i64 (dn : Int), .int .i64 sv, .slice h us5.length c] 36 (0, 0))) := hbx
      have v0 := blkCell hbx 0 _ rfl
      have v1 := blkCell hbx 1 _ rfl
      have y8 : Wu.cell? ⟨b8, 2, none⟩ = some (.slice (some ⟨g2, o2, none⟩) L.length cq2) := (hbu.cell (p := ⟨b8, 2, none⟩) (blkLt HDr.out.h8)).trans hz8
      have yd : Wu.cell? ⟨g2, o2 + i * 3 + 1, none⟩ = some (.int .i64 sv) := (hbu.cell (p := ⟨g2, o2 + i * 3 + 1, none⟩) hB2).trans d1
      have yk : Wu.cell? ⟨dg, dn * 6 + 5, none⟩ = some (.bool (ds.getD dn zDl).on) := (hbu.cell (p := ⟨dg, dn * 6 + 5, none⟩) hdg).trans k5
      simp only [List.getElem_toArray, List.getElem_cons_zero, List.getElem_cons_succ] at v0 v1
      have HBu : Hid (Below wr.heap.size wr Wu) := hbu
      have HRw : Hid (∀ W, Below Wu.heap.size Wu W → W.ownsRow w5.heap.size 3 1 (.slice oa on.length oc) on.length (on.map (.int .i64)) ∧ Below w5.heap.size w5 W) := fun W hb => by
        have hb' := chain HBu.out hb
        exact ⟨ownsRow_sameP HRow.out (fun k hk => hb'.block k (HRow.out.lt k hk).2), chain HBr.out hb'⟩
      have h1 : ¬ sv < 1 := by omega
      have h2 : ¬ (dn : Int) < 0 := by omega
      have h3 : ¬ (ds.length : Int) ≤ (dn : Int) := by omega
      have h4 : (dn : Int) < (ds.length : Int) := by omega
      go_upto_region 14 with fail
      rw [← HWu.out, ← Hub.out]
      clear c0 c1 c2 d1 k5 hz8 hbx hbu hWu hub HWu HDlx HNo HDr HLu
      generalize hon : (ds.getD dn zDl).on = on1 at *
      have HNo3 : Hid (on1 = true → ∀ z ∈ on, z ≠ (dn : Int)) := HNo2.out
      clear HNo2 hon
      cases on1
      · skip
        refine wp_region_held_drew (S := fun W' => W' = Wu.drew) (by kernel_rfl) rfl (fun hH => ?_)
        refine wpAnyH_take (i := 0) (v := .pointer (some ⟨ub, 1, none⟩)) rfl (by kernel_rfl) (by kernel_rfl) (by kernel_rfl) (fun _ _ _ h => h) (Or.inl ⟨by rfl, fun w hSw => by subst hSw; go_simp⟩) hH ?_
        refine wpAnyH_take (i := 1) (v := .int .i64 sv) rfl (by kernel_rfl) (by kernel_rfl) (by kernel_rfl) (fun _ _ _ h => h) (Or.inl ⟨by rfl, fun w hSw => by subst hSw; go_simp⟩) hH ?_
        try simp only [Act.put, List.setIfInBounds_toArray, List.set_cons_zero, List.set_cons_succ, List.getElem_toArray, List.getElem_cons_succ, List.getElem_cons_zero]
        refine wpAnyH_take (i := 2) (v := .bool false) rfl (by kernel_rfl) (by kernel_rfl) (by kernel_rfl) (fun _ _ _ h => h) (Or.inl ⟨by rfl, fun w hSw => by subst hSw; go_simp⟩) hH ?_
        try simp only [Act.put, List.setIfInBounds_toArray, List.set_cons_zero, List.set_cons_succ, List.getElem_toArray, List.getElem_cons_succ, List.getElem_cons_zero]
        refine wpAnyH_take (i := 3) (v := .bool false) rfl (by kernel_rfl) (by kernel_rfl) (by kernel_rfl) (fun _ _ _ h => h) (Or.inl ⟨by rfl, fun w hSw => by subst hSw; go_simp⟩) hH ?_
        try simp only [Act.put, List.setIfInBounds_toArray, List.set_cons_zero, List.set_cons_succ, List.getElem_toArray, List.getElem_cons_succ, List.getElem_cons_zero]
        refine wpAnyH_take (i := 4) (v := .pointer (some ⟨ub, 1, none⟩)) rfl (by kernel_rfl) (by kernel_rfl) (by kernel_rfl) (fun _ _ _ h => h) (Or.inl ⟨by rfl, fun w hSw => by subst hSw; go_simp⟩) hH ?_
        try simp only [Act.put, List.setIfInBounds_toArray, List.set_cons_zero, List.set_cons_succ, List.getElem_toArray, List.getElem_cons_succ, List.getElem_cons_zero]
        refine wpAnyH_take (i := 5) (v := .int .i64 sv) rfl (by kernel_rfl) (by kernel_rfl) (by kernel_rfl) (fun _ _ _ h => h) (Or.inl ⟨by rfl, fun w hSw => by subst hSw; go_simp⟩) hH ?_
        try simp only [Act.put, List.setIfInBounds_toArray, List.set_cons_zero, List.set_cons_succ, List.getElem_toArray, List.getElem_cons_succ, List.getElem_cons_zero]
        refine wpAnyH_take (i := 6) (v := .pointer (some ⟨b8, 2, none⟩)) rfl (by kernel_rfl) (by kernel_rfl) (by kernel_rfl) (fun _ _ _ h => h) (Or.inl ⟨by rfl, fun w hSw => by subst hSw; go_simp⟩) hH ?_
        try simp only [Act.put, List.setIfInBounds_toArray, List.set_cons_zero, List.set_cons_succ, List.getElem_toArray, List.getElem_cons_succ, List.getElem_cons_zero]
        refine wpAnyH_take (i := 7) (v := .slice (some ⟨g2, o2, none⟩) L.length cq2) rfl (by kernel_rfl) (by kernel_rfl) (by kernel_rfl) (fun _ _ _ h => h) (Or.inl ⟨by rfl, fun w hSw => by subst hSw; go_simp⟩) hH ?_
        try simp only [Act.put, List.setIfInBounds_toArray, List.set_cons_zero, List.set_cons_succ, List.getElem_toArray, List.getElem_cons_succ, List.getElem_cons_zero]
        refine wpAnyH_take (i := 8) (v := .int .i64 (i : Int)) rfl (by kernel_rfl) (by kernel_rfl) (by kernel_rfl) (fun _ _ _ h => h) (Or.inl ⟨by rfl, fun w hSw => by subst hSw; go_simp⟩) hH ?_
        try simp only [Act.put, List.setIfInBounds_toArray, List.set_cons_zero, List.set_cons_succ, List.getElem_toArray, List.getElem_cons_succ, List.getElem_cons_zero]
        refine wpAnyH_take (i := 9) (v := .pointer (some ⟨g2, o2 + i * 3, none⟩)) rfl (by kernel_rfl) (by kernel_rfl) (by kernel_rfl) (fun _ _ _ h => h) (Or.inl ⟨by rfl, fun w hSw => by subst hSw; go_simp⟩) hH ?_
        try simp only [Act.put, List.setIfInBounds_toArray, List.set_cons_zero, List.set_cons_succ, List.getElem_toArray, List.getElem_cons_succ, List.getElem_cons_zero]
        refine wpAnyH_take (i := 10) (v := .pointer (some ⟨g2, o2 + i * 3 + 1, none⟩)) rfl (by kernel_rfl) (by kernel_rfl) (by kernel_rfl) (fun _ _ _ h => h) (Or.inl ⟨by rfl, fun w hSw => by subst hSw; go_simp⟩) hH ?_
        try simp only [Act.put, List.setIfInBounds_toArray, List.set_cons_zero, List.set_cons_succ, List.getElem_toArray, List.getElem_cons_succ, List.getElem_cons_zero]
        refine wpAnyH_take (i := 11) (v := .int .i64 sv) rfl (by kernel_rfl) (by kernel_rfl) (by kernel_rfl) (fun _ _ _ h => h) (Or.inl ⟨by rfl, fun w hSw => by subst hSw; go_simp⟩) hH ?_
        try simp only [Act.put, List.setIfInBounds_toArray, List.set_cons_zero, List.set_cons_succ, List.getElem_toArray, List.getElem_cons_succ, List.getElem_cons_zero]
        refine wpAnyH_take (i := 12) (v := .bool false) rfl (by kernel_rfl) (by kernel_rfl) (by kernel_rfl) (fun _ _ _ h => h) (Or.inl ⟨by rfl, fun w hSw => by subst hSw; go_simp⟩) hH ?_
        try simp only [Act.put, List.setIfInBounds_toArray, List.set_cons_zero, List.set_cons_succ, List.getElem_toArray, List.getElem_cons_succ, List.getElem_cons_zero]
        refine wpAnyH_take (i := 13) (v := .bool false) rfl (by kernel_rfl) (by kernel_rfl) (by kernel_rfl) (fun _ _ _ h => h) (Or.inl ⟨by rfl, fun w hSw => by subst hSw; go_simp⟩) hH ?_
        try simp only [Act.put, List.setIfInBounds_toArray, List.set_cons_zero, List.set_cons_succ, List.getElem_toArray, List.getElem_cons_succ, List.getElem_cons_zero]
        refine wpAnyH_take (i := 14) (v := .bool false) rfl (by kernel_rfl) (by kernel_rfl) (by kernel_rfl) (fun _ _ _ h => h) (Or.inl ⟨by rfl, fun w hSw => by subst hSw; go_simp⟩) hH ?_
        try simp only [Act.put, List.setIfInBounds_toArray, List.set_cons_zero, List.set_cons_succ, List.getElem_toArray, List.getElem_cons_succ, List.getElem_cons_zero]
        refine wpAnyH_take (i := 15) (v := .pointer (some ⟨ub, 0, none⟩)) rfl (by kernel_rfl) (by kernel_rfl) (by kernel_rfl) (fun _ _ _ h => h) (Or.inl ⟨by rfl, fun w hSw => by subst hSw; go_simp⟩) hH ?_
        try simp only [Act.put, List.setIfInBounds_toArray, List.set_cons_zero, List.set_cons_succ, List.getElem_toArray, List.getElem_cons_succ, List.getElem_cons_zero]
        refine wpAnyH_take (i := 16) (v := .int .i64 (dn : Int)) rfl (by kernel_rfl) (by kernel_rfl) (by kernel_rfl) (fun _ _ _ h => h) (Or.inl ⟨by rfl, fun w hSw => by subst hSw; go_simp⟩) hH ?_
        try simp only [Act.put, List.setIfInBounds_toArray, List.set_cons_zero, List.set_cons_succ, List.getElem_toArray, List.getElem_cons_succ, List.getElem_cons_zero]
        refine wpAnyH_take (i := 17) (v := .bool false) rfl (by kernel_rfl) (by kernel_rfl) (by kernel_rfl) (fun _ _ _ h => h) (Or.inl ⟨by rfl, fun w hSw => by subst hSw; go_simp⟩) hH ?_
        try simp only [Act.put, List.setIfInBounds_toArray, List.set_cons_zero, List.set_cons_succ, List.getElem_toArray, List.getElem_cons_succ, List.getElem_cons_zero]
        refine wpAnyH_take (i := 18) (v := .bool false) rfl (by kernel_rfl) (by kernel_rfl) (by kernel_rfl) (fun _ _ _ h => h) (Or.inl ⟨by rfl, fun w hSw => by subst hSw; go_simp⟩) hH ?_
        try simp only [Act.put, List.setIfInBounds_toArray, List.set_cons_zero, List.set_cons_succ, List.getElem_toArray, List.getElem_cons_succ, List.getElem_cons_zero]
        refine wpAnyH_take (i := 19) (v := .bool false) rfl (by kernel_rfl) (by kernel_rfl) (by kernel_rfl) (fun _ _ _ h => h) (Or.inl ⟨by rfl, fun w hSw => by subst hSw; go_simp⟩) hH ?_
        try simp only [Act.put, List.setIfInBounds_toArray, List.set_cons_zero, List.set_cons_succ, List.getElem_toArray, List.getElem_cons_succ, List.getElem_cons_zero]
        refine wpAnyH_take (i := 20) (v := .pointer (some ⟨ub, 0, none⟩)) rfl (by kernel_rfl) (by kernel_rfl) (by kernel_rfl) (fun _ _ _ h => h) (Or.inl ⟨by rfl, fun w hSw => by subst hSw; go_simp⟩) hH ?_
        try simp only [Act.put, List.setIfInBounds_toArray, List.set_cons_zero, List.set_cons_succ, List.getElem_toArray, List.getElem_cons_succ, List.getElem_cons_zero]
        refine wpAnyH_take (i := 21) (v := .int .i64 (dn : Int)) rfl (by kernel_rfl) (by kernel_rfl) (by kernel_rfl) (fun _ _ _ h => h) (Or.inl ⟨by rfl, fun w hSw => by subst hSw; go_simp⟩) hH ?_
        try simp only [Act.put, List.setIfInBounds_toArray, List.set_cons_zero, List.set_cons_succ, List.getElem_toArray, List.getElem_cons_succ, List.getElem_cons_zero]
        refine wpAnyH_take (i := 22) (v := .slice (some ⟨dg, 0, none⟩) ds.length dc) rfl (by kernel_rfl) (by kernel_rfl) (by kernel_rfl) (fun _ _ _ h => h) (Or.inl ⟨by rfl, fun w hSw => by subst hSw; go_simp⟩) hH ?_
        try simp only [Act.put, List.setIfInBounds_toArray, List.set_cons_zero, List.set_cons_succ, List.getElem_toArray, List.getElem_cons_succ, List.getElem_cons_zero]
        refine wpAnyH_take (i := 23) (v := .int .i64 (ds.length : Int)) rfl (by kernel_rfl) (by kernel_rfl) (by kernel_rfl) (fun _ _ _ h => h) (Or.inl ⟨by rfl, fun w hSw => by subst hSw; go_simp⟩) hH ?_
        try simp only [Act.put, List.setIfInBounds_toArray, List.set_cons_zero, List.set_cons_succ, List.getElem_toArray, List.getElem_cons_succ, List.getElem_cons_zero]
        refine wpAnyH_take (i := 24) (v := .bool false) rfl (by kernel_rfl) (by kernel_rfl) (by kernel_rfl) (fun _ _ _ h => h) (Or.inl ⟨by rfl, fun w hSw => by subst hSw; go_simp⟩) hH ?_
        try simp only [Act.put, List.setIfInBounds_toArray, List.set_cons_zero, List.set_cons_succ, List.getElem_toArray, List.getElem_cons_succ, List.getElem_cons_zero]
        refine wpAnyH_take (i := 25) (v := .bool false) rfl (by kernel_rfl) (by kernel_rfl) (by kernel_rfl) (fun _ _ _ h => h) (Or.inl ⟨by rfl, fun w hSw => by subst hSw; go_simp⟩) hH ?_
        try simp only [Act.put, List.setIfInBounds_toArray, List.set_cons_zero, List.set_cons_succ, List.getElem_toArray, List.getElem_cons_succ, List.getElem_cons_zero]
        refine wpAnyH_done (by kernel_rfl) ?_ _
        clear hH
        go_wp2_with fail
        go_roundw
        case rel => exact ⟨i + 1, on, oa, oc, by omega, by go_num, rfl, by omega, on_keep HOn.out, (HRw.out _ (by first | exact below_drew _ | exact Below.refl _ _)).1, (HRw.out _ (by first | exact below_drew _ | exact Below.refl _ _)).2⟩
        case measure => simp [intOf]; omega
      · skip
        refine wp_region_held_drew (S := fun W' => W' = Wu.drew) (by kernel_rfl) rfl (fun hH => ?_)
        refine wpAnyH_take (i := 0) (v := .pointer (some ⟨ub, 1, none⟩)) rfl (by kernel_rfl) (by kernel_rfl) (by kernel_rfl) (fun _ _ _ h => h) (Or.inl ⟨by rfl, fun w hSw => by subst hSw; go_simp⟩) hH ?_
        refine wpAnyH_take (i := 1) (v := .int .i64 sv) rfl (by kernel_rfl) (by kernel_rfl) (by kernel_rfl) (fun _ _ _ h => h) (Or.inl ⟨by rfl, fun w hSw => by subst hSw; go_simp⟩) hH ?_
        try simp only [Act.put, List.setIfInBounds_toArray, List.set_cons_zero, List.set_cons_succ, List.getElem_toArray, List.getElem_cons_succ, List.getElem_cons_zero]
        refine wpAnyH_take (i := 2) (v := .bool false) rfl (by kernel_rfl) (by kernel_rfl) (by kernel_rfl) (fun _ _ _ h => h) (Or.inl ⟨by rfl, fun w hSw => by subst hSw; go_simp⟩) hH ?_
        try simp only [Act.put, List.setIfInBounds_toArray, List.set_cons_zero, List.set_cons_succ, List.getElem_toArray, List.getElem_cons_succ, List.getElem_cons_zero]
        refine wpAnyH_take (i := 3) (v := .bool false) rfl (by kernel_rfl) (by kernel_rfl) (by kernel_rfl) (fun _ _ _ h => h) (Or.inl ⟨by rfl, fun w hSw => by subst hSw; go_simp⟩) hH ?_
        try simp only [Act.put, List.setIfInBounds_toArray, List.set_cons_zero, List.set_cons_succ, List.getElem_toArray, List.getElem_cons_succ, List.getElem_cons_zero]
        refine wpAnyH_take (i := 4) (v := .pointer (some ⟨ub, 1, none⟩)) rfl (by kernel_rfl) (by kernel_rfl) (by kernel_rfl) (fun _ _ _ h => h) (Or.inl ⟨by rfl, fun w hSw => by subst hSw; go_simp⟩) hH ?_
        try simp only [Act.put, List.setIfInBounds_toArray, List.set_cons_zero, List.set_cons_succ, List.getElem_toArray, List.getElem_cons_succ, List.getElem_cons_zero]
        refine wpAnyH_take (i := 5) (v := .int .i64 sv) rfl (by kernel_rfl) (by kernel_rfl) (by kernel_rfl) (fun _ _ _ h => h) (Or.inl ⟨by rfl, fun w hSw => by subst hSw; go_simp⟩) hH ?_
        try simp only [Act.put, List.setIfInBounds_toArray, List.set_cons_zero, List.set_cons_succ, List.getElem_toArray, List.getElem_cons_succ, List.getElem_cons_zero]
        refine wpAnyH_take (i := 6) (v := .pointer (some ⟨b8, 2, none⟩)) rfl (by kernel_rfl) (by kernel_rfl) (by kernel_rfl) (fun _ _ _ h => h) (Or.inl ⟨by rfl, fun w hSw => by subst hSw; go_simp⟩) hH ?_
        try simp only [Act.put, List.setIfInBounds_toArray, List.set_cons_zero, List.set_cons_succ, List.getElem_toArray, List.getElem_cons_succ, List.getElem_cons_zero]
        refine wpAnyH_take (i := 7) (v := .slice (some ⟨g2, o2, none⟩) L.length cq2) rfl (by kernel_rfl) (by kernel_rfl) (by kernel_rfl) (fun _ _ _ h => h) (Or.inl ⟨by rfl, fun w hSw => by subst hSw; go_simp⟩) hH ?_
        try simp only [Act.put, List.setIfInBounds_toArray, List.set_cons_zero, List.set_cons_succ, List.getElem_toArray, List.getElem_cons_succ, List.getElem_cons_zero]
        refine wpAnyH_take (i := 8) (v := .int .i64 (i : Int)) rfl (by kernel_rfl) (by kernel_rfl) (by kernel_rfl) (fun _ _ _ h => h) (Or.inl ⟨by rfl, fun w hSw => by subst hSw; go_simp⟩) hH ?_
        try simp only [Act.put, List.setIfInBounds_toArray, List.set_cons_zero, List.set_cons_succ, List.getElem_toArray, List.getElem_cons_succ, List.getElem_cons_zero]
        refine wpAnyH_take (i := 9) (v := .pointer (some ⟨g2, o2 + i * 3, none⟩)) rfl (by kernel_rfl) (by kernel_rfl) (by kernel_rfl) (fun _ _ _ h => h) (Or.inl ⟨by rfl, fun w hSw => by subst hSw; go_simp⟩) hH ?_
        try simp only [Act.put, List.setIfInBounds_toArray, List.set_cons_zero, List.set_cons_succ, List.getElem_toArray, List.getElem_cons_succ, List.getElem_cons_zero]
        refine wpAnyH_take (i := 10) (v := .pointer (some ⟨g2, o2 + i * 3 + 1, none⟩)) rfl (by kernel_rfl) (by kernel_rfl) (by kernel_rfl) (fun _ _ _ h => h) (Or.inl ⟨by rfl, fun w hSw => by subst hSw; go_simp⟩) hH ?_
        try simp only [Act.put, List.setIfInBounds_toArray, List.set_cons_zero, List.set_cons_succ, List.getElem_toArray, List.getElem_cons_succ, List.getElem_cons_zero]
        refine wpAnyH_take (i := 11) (v := .int .i64 sv) rfl (by kernel_rfl) (by kernel_rfl) (by kernel_rfl) (fun _ _ _ h => h) (Or.inl ⟨by rfl, fun w hSw => by subst hSw; go_simp⟩) hH ?_
        try simp only [Act.put, List.setIfInBounds_toArray, List.set_cons_zero, List.set_cons_succ, List.getElem_toArray, List.getElem_cons_succ, List.getElem_cons_zero]
        refine wpAnyH_take (i := 12) (v := .bool false) rfl (by kernel_rfl) (by kernel_rfl) (by kernel_rfl) (fun _ _ _ h => h) (Or.inl ⟨by rfl, fun w hSw => by subst hSw; go_simp⟩) hH ?_
        try simp only [Act.put, List.setIfInBounds_toArray, List.set_cons_zero, List.set_cons_succ, List.getElem_toArray, List.getElem_cons_succ, List.getElem_cons_zero]
        refine wpAnyH_take (i := 13) (v := .bool false) rfl (by kernel_rfl) (by kernel_rfl) (by kernel_rfl) (fun _ _ _ h => h) (Or.inl ⟨by rfl, fun w hSw => by subst hSw; go_simp⟩) hH ?_
        try simp only [Act.put, List.setIfInBounds_toArray, List.set_cons_zero, List.set_cons_succ, List.getElem_toArray, List.getElem_cons_succ, List.getElem_cons_zero]
        refine wpAnyH_take (i := 14) (v := .bool false) rfl (by kernel_rfl) (by kernel_rfl) (by kernel_rfl) (fun _ _ _ h => h) (Or.inl ⟨by rfl, fun w hSw => by subst hSw; go_simp⟩) hH ?_
        try simp only [Act.put, List.setIfInBounds_toArray, List.set_cons_zero, List.set_cons_succ, List.getElem_toArray, List.getElem_cons_succ, List.getElem_cons_zero]
        refine wpAnyH_take (i := 15) (v := .pointer (some ⟨ub, 0, none⟩)) rfl (by kernel_rfl) (by kernel_rfl) (by kernel_rfl) (fun _ _ _ h => h) (Or.inl ⟨by rfl, fun w hSw => by subst hSw; go_simp⟩) hH ?_
        try simp only [Act.put, List.setIfInBounds_toArray, List.set_cons_zero, List.set_cons_succ, List.getElem_toArray, List.getElem_cons_succ, List.getElem_cons_zero]
        refine wpAnyH_take (i := 16) (v := .int .i64 (dn : Int)) rfl (by kernel_rfl) (by kernel_rfl) (by kernel_rfl) (fun _ _ _ h => h) (Or.inl ⟨by rfl, fun w hSw => by subst hSw; go_simp⟩) hH ?_
        try simp only [Act.put, List.setIfInBounds_toArray, List.set_cons_zero, List.set_cons_succ, List.getElem_toArray, List.getElem_cons_succ, List.getElem_cons_zero]
        refine wpAnyH_take (i := 17) (v := .bool false) rfl (by kernel_rfl) (by kernel_rfl) (by kernel_rfl) (fun _ _ _ h => h) (Or.inl ⟨by rfl, fun w hSw => by subst hSw; go_simp⟩) hH ?_
        try simp only [Act.put, List.setIfInBounds_toArray, List.set_cons_zero, List.set_cons_succ, List.getElem_toArray, List.getElem_cons_succ, List.getElem_cons_zero]
        refine wpAnyH_take (i := 18) (v := .bool false) rfl (by kernel_rfl) (by kernel_rfl) (by kernel_rfl) (fun _ _ _ h => h) (Or.inl ⟨by rfl, fun w hSw => by subst hSw; go_simp⟩) hH ?_
        try simp only [Act.put, List.setIfInBounds_toArray, List.set_cons_zero, List.set_cons_succ, List.getElem_toArray, List.getElem_cons_succ, List.getElem_cons_zero]
        refine wpAnyH_take (i := 19) (v := .bool false) rfl (by kernel_rfl) (by kernel_rfl) (by kernel_rfl) (fun _ _ _ h => h) (Or.inl ⟨by rfl, fun w hSw => by subst hSw; go_simp⟩) hH ?_
        try simp only [Act.put, List.setIfInBounds_toArray, List.set_cons_zero, List.set_cons_succ, List.getElem_toArray, List.getElem_cons_succ, List.getElem_cons_zero]
        refine wpAnyH_take (i := 20) (v := .pointer (some ⟨ub, 0, none⟩)) rfl (by kernel_rfl) (by kernel_rfl) (by kernel_rfl) (fun _ _ _ h => h) (Or.inl ⟨by rfl, fun w hSw => by subst hSw; go_simp⟩) hH ?_
        try simp only [Act.put, List.setIfInBounds_toArray, List.set_cons_zero, List.set_cons_succ, List.getElem_toArray, List.getElem_cons_succ, List.getElem_cons_zero]
        refine wpAnyH_take (i := 21) (v := .int .i64 (dn : Int)) rfl (by kernel_rfl) (by kernel_rfl) (by kernel_rfl) (fun _ _ _ h => h) (Or.inl ⟨by rfl, fun w hSw => by subst hSw; go_simp⟩) hH ?_
        try simp only [Act.put, List.setIfInBounds_toArray, List.set_cons_zero, List.set_cons_succ, List.getElem_toArray, List.getElem_cons_succ, List.getElem_cons_zero]
        refine wpAnyH_take (i := 22) (v := .slice (some ⟨dg, 0, none⟩) ds.length dc) rfl (by kernel_rfl) (by kernel_rfl) (by kernel_rfl) (fun _ _ _ h => h) (Or.inl ⟨by rfl, fun w hSw => by subst hSw; go_simp⟩) hH ?_
        try simp only [Act.put, List.setIfInBounds_toArray, List.set_cons_zero, List.set_cons_succ, List.getElem_toArray, List.getElem_cons_succ, List.getElem_cons_zero]
        refine wpAnyH_take (i := 23) (v := .int .i64 (ds.length : Int)) rfl (by kernel_rfl) (by kernel_rfl) (by kernel_rfl) (fun _ _ _ h => h) (Or.inl ⟨by rfl, fun w hSw => by subst hSw; go_simp⟩) hH ?_
        try simp only [Act.put, List.setIfInBounds_toArray, List.set_cons_zero, List.set_cons_succ, List.getElem_toArray, List.getElem_cons_succ, List.getElem_cons_zero]
        refine wpAnyH_take (i := 24) (v := .bool false) rfl (by kernel_rfl) (by kernel_rfl) (by kernel_rfl) (fun _ _ _ h => h) (Or.inl ⟨by rfl, fun w hSw => by subst hSw; go_simp⟩) hH ?_
        try simp only [Act.put, List.setIfInBounds_toArray, List.set_cons_zero, List.set_cons_succ, List.getElem_toArray, List.getElem_cons_succ, List.getElem_cons_zero]
        refine wpAnyH_take (i := 25) (v := .bool false) rfl (by kernel_rfl) (by kernel_rfl) (by kernel_rfl) (fun _ _ _ h => h) (Or.inl ⟨by rfl, fun w hSw => by subst hSw; go_simp⟩) hH ?_
        try simp only [Act.put, List.setIfInBounds_toArray, List.set_cons_zero, List.set_cons_succ, List.getElem_toArray, List.getElem_cons_succ, List.getElem_cons_zero]
        refine wpAnyH_done (by kernel_rfl) ?_ _
        clear hH
        go_wp2_with fail
        go_loopw [15] (fun c wk => ∃ k : Nat, k ≤ on.length ∧ c = .int .i64 (k : Int) ∧ Below Wu.heap.size Wu wk) (fun c _ => on.length - (intOf c).toNat)
        case atStart => exact ⟨0, Nat.zero_le _, rfl, by first | exact below_drew _ | exact Below.refl _ _⟩
        case round =>
          clear v0 v1 y8 yd yk
          obtain ⟨k, hk, rfl, hbk⟩ := hrel
          have v0 : wr.cell? ⟨ub, 0, none⟩ = some (.int .i64 (dn : Int)) := (hbk.cell (p := ⟨ub, 0, none⟩) (blkLt HBx.out)).trans (blkCell HBx.out 0 _ rfl)
          have HBk : Hid (Below Wu.heap.size Wu wr) := hbk
          clear hbk
          by_cases hkl : k < on.length
          · have hkl' : (k : Int) < (on.length : Int) := by omega
            obtain ⟨og, ocp, eo⟩ := row_some (HRw.out _ HBk.out).1 (by omega)
            simp only [Value.slice.injEq] at eo
            obtain ⟨rfl, _, _⟩ := eo
            have ec : wr.cell? ⟨og, k, none⟩ = some (.int .i64 (on.getD k 0)) := by rw [(HRw.out _ HBk.out).1.cellAt k (by omega)]; simp [List.getD_eq_getElem?_getD, hkl]
            have hne := HNo3.out (by first | rfl | trivial) (on.getD k 0) (by simp [List.getD_eq_getElem?_getD, hkl])
            generalize on.getD k 0 = z at *
            have hnb : (z == (dn : Int)) = false := by simpa using hne
            clear hne
            go_wp2_with fail
            go_quiet (fail)
            go_wp2_with fail
            go_roundw
            case rel => exact ⟨k + 1, by omega, by go_num, by first | exact chain HBk.out (drewBelow _ _) | exact chain HBk.out (below_drew _) | exact chain HBk.out (chain (drewBelow _ _) (drewBelow _ _))⟩
            case measure => simp [intOf]; omega
          · have hkl' : ¬ (k : Int) < (on.length : Int) := by omega
            have HR9 : Hid ((wr.alloc (Obj.cells #[.int .i64 (dn : Int)] 3)).ownsRow w5.heap.size 3 1 (.slice oa on.length oc) on.length (on.map (.int .i64))) := (HRw.out _ HBk.out).1.alloc _
            have HBk5 : Hid (Below w5.heap.size w5 wr) := (HRw.out _ HBk.out).2
            have HB9 : Hid (w5.heap.size ≤ (wr.alloc (Obj.cells #[.int .i64 (dn : Int)] 3)).heap.size) := le_alloc HBk5.out.size _
            have HNw9 : Hid (∀ j u, [.int .i64 (dn : Int)][j]? = some u → (wr.alloc (Obj.cells #[.int .i64 (dn : Int)] 3)).cell? ((⟨wr.heap.size, 0, none⟩ : Addr).add j) = some u) := newsZ wr wr.heap.size rfl #[.int .i64 (dn : Int)] _
            have hon8 : on.length ≤ 8 := by omega
            go_wp2_with (at_builtin; refine wpList_append_lies _ rfl _ _ 34 rfl w5.heap.size 3 i0 (.int .i64 0) 1 8 Try.underlying34 hti hi0 hi1 hi2 rfl (by decide) _ _ _ rfl HR9.out ⟨wr.heap.size, 0, none⟩ 1 1 [.int .i64 (dn : Int)] rfl rfl HNw9.out (by simp [Value.oneCell']) (by omega) (by unfold maxLen; omega) (by omega) HB9.out _ rfl ?_; intro g9 c9 w9 hown9 hgrow9 hat9 hglt9; have H9 : Hid (w9.ownsRow w5.heap.size 3 1 (.slice (some ⟨g9, 0, none⟩) (on ++ [(dn : Int)]).length c9) (on ++ [(dn : Int)]).length ((on ++ [(dn : Int)]).map (.int .i64)) ∧ Below w5.heap.size w5 w9) := (on_grown HBk5.out (HRw.out _ HBk.out).1 hown9 hgrow9); clear hown9 hgrow9 hat9 hglt9)
            go_roundw
            case rel => exact ⟨i + 1, on ++ [(dn : Int)], some ⟨g9, 0, none⟩, c9, by omega, by go_num, by simp, by simp; omega, HLi.out _ rfl, H9.out.1, H9.out.2⟩
            case measure => simp [intOf]; omega
    · skip
      have hid : ¬ (i : Int) < (L.length : Int) := by omega
      have HZ : Hid (DSt us ds tb sb xt xs (some ⟨ug, 0, none⟩) (some ⟨dg, 0, none⟩) b6 b8 b10 q q2 q3 cq cq2 n3 cq3 L wr) := HD5.out.later HBr.out
      have hz6 := blkCell HZ.out.h6 2 _ rfl
      have HFin : Hid (∀ W, Below wr.heap.size wr W → Below w.heap.size w W) := fun W hb => HBw5.out.trans ((HBr.out.mono HBw5.out.size).trans (hb.mono (Nat.le_trans HBw5.out.size HBr.out.size)))
      simp only [List.getElem_toArray, List.getElem_cons_zero, List.getElem_cons_succ] at hz6
      clear HRow HOn HBr HD5
      by_cases hdn : ds.length = 0
      · have hdn' : ¬ (0 : Int) < (ds.length : Int) := by omega
        clear hdn
        obtain ⟨wz, hwz⟩ : ∃ wz, wz = wr := ⟨_, rfl⟩
        rw [← hwz] at HZ HFin hz6 ⊢
        clear hwz
        have HF : Hid (∀ W, Below wz.heap.size wz W → ReadsUn W.heap.size W (some ⟨ug, 0, none⟩) us) := fun W hb => (HZ.out.later hb).un
        go_wp2_with fail
        clear hz6
        go_loop [18, 19] (fun s c => ∃ k : Nat, k ≤ us.length ∧ c = .int .i64 (k : Int) ∧ s = .int .i64 ((us.take k).map (·.pr)).sum) (fun _ c => us.length - (intOf c).toNat)
        case atStart => exact ⟨0, Nat.zero_le _, rfl, rfl⟩
        case round =>
          obtain ⟨k, hk, rfl, rfl⟩ := hrel
          by_cases hlt : k < us.length
          · have hlt' : (k : Int) < (us.length : Int) := by omega
            rcases HF.out _ (by first | exact Below.refl _ _ | exact below_drew _) with h | ⟨b0, o0, ha, hB0, ia⟩
            · rw [h] at hlt; simp at hlt
            obtain ⟨c0, c1⟩ := ia k hlt
            cases ha
            rw [Nat.zero_add] at c0 c1
            have hb1 := sumN_bound HUp.out k
            have hb2 := getUn HUp.out hlt
            have HNx : Hid (((us.take (k + 1)).map (·.pr)).sum = ((us.take k).map (·.pr)).sum + (us.getD k zUn).pr) := sumN_next us k hlt
            clear ia
            generalize ((us.take k).map (·.pr)).sum = s at *
            generalize us.getD k zUn = qq at *
            obtain ⟨qa, qp⟩ := qq
            dsimp only at *
            have hwr : IntKind.i64.wrap (s + qp) = s + qp := wrap_id _ (by omega) (by omega)
            go_wp2
            go_round
            case rel => exact ⟨k + 1, by omega, by go_num, by rw [HNx.out]⟩
            case measure => simp [intOf]; omega
          · obtain rfl : k = us.length := by omega
            have HE : Hid (((us.take us.length).map (·.pr)).sum = tb + sb) := by show _ = _; rw [List.take_length]; exact HSm.out
            rw [HE.out]
            have z0 := blkCell (HZ.out.later (by first | exact Below.refl _ _ | exact below_drew _)).h6 0 _ rfl
            have z1 := blkCell (HZ.out.later (by first | exact Below.refl _ _ | exact below_drew _)).h6 1 _ rfl
            simp only [List.getElem_toArray, List.getElem_cons_zero, List.getElem_cons_succ] at z0 z1
            go_wp2
            go_ret
            exact ⟨rfl, HFin.out _ (by first | exact Below.refl _ _ | exact below_drew _)⟩
      · have hdn' : (0 : Int) < (ds.length : Int) := by omega
        obtain ⟨m, hm⟩ : ∃ m, ds.length = m + 1 := ⟨ds.length - 1, by omega⟩
        have hmc : (m : Int) ≤ (dc : Int) := by omega
        obtain ⟨tl, htl⟩ : ∃ tl, tl = sumU us - savS us (ds.take m) (bsU us (ds.take m)) := ⟨_, rfl⟩
        obtain ⟨sl, hsl⟩ : ∃ sl, sl = savS us (ds.take m) (bsU us (ds.take m)) := ⟨_, rfl⟩
        obtain ⟨L9, hL9⟩ : ∃ L9, L9 = bsT us (ds.take m) := ⟨_, rfl⟩
        have hle2 : ¬ tl < tb := by
          have := bs_less HFt.out.1 (fault_take m HFt.out.1)
          rw [htl, HTb.out]
          omega
        have HBs2 : Hid (∀ W, Below wr.heap.size wr W → Calls Try.prog 5 #[.slice (some ⟨ug, 0, none⟩) us.length uc, .slice (some ⟨dg, 0, none⟩) m dc] W (AnsQ tl sl L9 W)) := fun W hb => by
          have h1 := HZ.out.later hb
          have hm1 : (ds.take m).length = m := by rw [List.length_take]; omega
          have h2 : pcode us (ds.take m) (bsU us (ds.take m)) = 0 := bsU_code.trans (fault_take m HFt.out.1)
          have h3 := implBest_any (some ⟨ug, 0, none⟩) uc us (by omega) HFt.out.2.1 (some ⟨dg, 0, none⟩) dc (ds.take m) (by omega) (fun r hr => HFt.out.2.2 r (List.mem_of_mem_take hr)) W h1.un (h1.dl.take m)
          rw [hm1] at h3
          rw [htl, hsl, hL9]
          exact h3.mono (fun e w' h => AnsQ.of h2 h)
        have hdl5 : (ds.length : Int) = (m : Int) + 1 := by omega
        clear htl hsl hL9 hm hdn
        have hwm : IntKind.i64.wrap ((ds.length : Int) - 1) = (m : Int) := by rw [wrap_id _ (by omega) (by omega)]; omega
        have hwm2 : (ds.length : Int) - 1 = (m : Int) := by omega
        have hmd : (m : Int) ≤ (ds.length : Int) := by omega
        clear hdl5
        go_wp2_with fail
        (first | go_at_call 5 | skip)
        refine (HBs2.out wr (Below.refl _ _)).mono ?_
        rintro e w9 ⟨q9, cq9, rfl, _, hb9⟩
        obtain ⟨wz, hwz⟩ : ∃ wz, wz = w9.alloc (Obj.cells #[.int .i64 tl, .int .i64 sl, .slice q9 L9.length cq9] 29) := ⟨_, rfl⟩
        have HWz : Hid (wz = w9.alloc (Obj.cells #[.int .i64 tl, .int .i64 sl, .slice q9 L9.length cq9] 29)) := hwz
        have hb10z : Below wr.heap.size wr wz := by rw [hwz]; exact chain hb9 (below_alloc _ _)
        have HZ2 : Hid (DSt us ds tb sb xt xs (some ⟨ug, 0, none⟩) (some ⟨dg, 0, none⟩) b6 b8 b10 q q2 q3 cq cq2 n3 cq3 L wz) := HZ.out.later hb10z
        have HFin2 : Hid (∀ W, Below wz.heap.size wz W → Below w.heap.size w W) := fun W hb => HFin.out W (chain hb10z hb)
        have t0 : wz.cell? ⟨w9.heap.size, 0, none⟩ = some (.int .i64 tl) := by rw [hwz]; exact blkCell (heapNew w9 _) 0 _ rfl
        clear hwz hb9 hb10z HZ HFin hz6
        have HZ : Hid (DSt us ds tb sb xt xs (some ⟨ug, 0, none⟩) (some ⟨dg, 0, none⟩) b6 b8 b10 q q2 q3 cq cq2 n3 cq3 L wz) := HZ2.out
        have HFin : Hid (∀ W, Below wz.heap.size wz W → Below w.heap.size w W) := HFin2.out
        have hz6 := blkCell HZ.out.h6 0 _ rfl
        simp only [List.getElem_toArray, List.getElem_cons_zero] at hz6
        clear HZ2 HFin2
        go_upto_region 25 with fail
        rw [← HWz.out]
        clear HWz
        have HF : Hid (∀ W, Below wz.heap.size wz W → ReadsUn W.heap.size W (some ⟨ug, 0, none⟩) us) := fun W hb => (HZ.out.later hb).un
        go_wp2_with fail
        clear hz6
        go_loop [18, 19] (fun s c => ∃ k : Nat, k ≤ us.length ∧ c = .int .i64 (k : Int) ∧ s = .int .i64 ((us.take k).map (·.pr)).sum) (fun _ c => us.length - (intOf c).toNat)
        case atStart => exact ⟨0, Nat.zero_le _, rfl, rfl⟩
        case round =>
          obtain ⟨k, hk, rfl, rfl⟩ := hrel
          by_cases hlt : k < us.length
          · have hlt' : (k : Int) < (us.length : Int) := by omega
            rcases HF.out _ (by first | exact Below.refl _ _ | exact below_drew _) with h | ⟨b0, o0, ha, hB0, ia⟩
            · rw [h] at hlt; simp at hlt
            obtain ⟨c0, c1⟩ := ia k hlt
            cases ha
            rw [Nat.zero_add] at c0 c1
            have hb1 := sumN_bound HUp.out k
            have hb2 := getUn HUp.out hlt
            have HNx : Hid (((us.take (k + 1)).map (·.pr)).sum = ((us.take k).map (·.pr)).sum + (us.getD k zUn).pr) := sumN_next us k hlt
            clear ia
            generalize ((us.take k).map (·.pr)).sum = s at *
            generalize us.getD k zUn = qq at *
            obtain ⟨qa, qp⟩ := qq
            dsimp only at *
            have hwr : IntKind.i64.wrap (s + qp) = s + qp := wrap_id _ (by omega) (by omega)
            go_wp2
            go_round
            case rel => exact ⟨k + 1, by omega, by go_num, by rw [HNx.out]⟩
            case measure => simp [intOf]; omega
          · obtain rfl : k = us.length := by omega
            have HE : Hid (((us.take us.length).map (·.pr)).sum = tb + sb) := by show _ = _; rw [List.take_length]; exact HSm.out
            rw [HE.out]
            have z0 := blkCell (HZ.out.later (by first | exact Below.refl _ _ | exact below_drew _)).h6 0 _ rfl
            have z1 := blkCell (HZ.out.later (by first | exact Below.refl _ _ | exact below_drew _)).h6 1 _ rfl
            simp only [List.getElem_toArray, List.getElem_cons_zero, List.getElem_cons_succ] at z0 z1
            go_wp2
            go_ret
            exact ⟨rfl, HFin.out _ (by first | exact Below.refl _ _ | exact below_drew _)⟩

theorem own : ownKnob Try.prog.godebug = none := by kernel_rfl
theorem laidOut : laidOutB Try.prog = true := by kernel_rfl

set_option maxRecDepth 100000 in
theorem lifted (os : Os) (started : os.Started) (H : Type) (enc : TypeId × Value → H) :
    ReturnsInHanded {} Try.checked os 3 .any (Rows.fnDealsSpec.pre6 enc Try.prog Try.f3 Rows.fnDealsRow.domain false) (Rows.fnDealsSpec.post enc Try.prog Try.f3 false true false false) := by
  refine returnsInHanded_of_change (C := Try.checked) own started (by kernel_rfl) Try.func3
    (ChangeSpec.witness6 (enc := enc) (C := Try.checked) false ⟨#[], #[.slice none 0 0], []⟩ 8 (by kernel_rfl) (by kernel_rfl) (by kernel_rfl) (by kernel_rfl)) ?_
  intro W base args ds gs before hval0 hW hcnd _
  have hval : ∀ (j : Nat) t v, Try.f3.params[j]? = some t → args[j]? = some v → Value.okWide Try.prog W .any base t v := hval0
  have hW' := hW
  obtain ⟨p, q, hA0, hV, rfl, hfz, hnd⟩ := hW
  have hA : DataW.TrodAll enc Try.prog W 0 (fun _ => true) true Try.f3.params.toList args.toList ds p := hA0
  rw [Try.params3] at hA hval
  obtain ⟨v0, vs0, d0, ds0, p0, q0, hargs, rfl, rfl, h0, r0⟩ := trodAll_cons hA
  obtain ⟨rfl, rfl, rfl⟩ := trodAll_nil r0
  obtain rfl : args = #[v0] := by cases args; simp_all
  obtain ⟨rfl, rfl⟩ := trodVars_none hV
  have k0 := h0
  have lt0 : ∀ x ∈ p0, x.block < W.heap.size := by obtain ⟨m, hm⟩ := k0; exact DataW.trod_lt m _ _ _ hm
  obtain ⟨a0, len0, cap0, rfl⟩ := okWide_slice Try.underlying22 (hval 0 22 v0 rfl rfl)
  obtain ⟨z0, w0⟩ : ∃ zs, IsRow .u8 W a0 len0 cap0 zs := by
    obtain ⟨fuel, hf⟩ := h0
    rcases open_ints Try.underlying22 Try.underlying5 (by kernel_rfl) hf with ⟨hcs, _⟩ | ⟨x, l, c, zs, hcs, _, hl, hm, hz, _, hcell, hwz⟩
    · simp [Value.cells] at hcs
      obtain ⟨rfl, rfl, rfl⟩ := hcs
      exact ⟨[], .inl ⟨rfl, rfl, rfl, rfl⟩⟩
    · simp [Value.cells] at hcs
      obtain ⟨rfl, rfl, rfl⟩ := hcs
      exact ⟨zs, .inr ⟨_, rfl, hl, hm, by simpa using hz, hcell, hwz⟩⟩
  clear hA0 hval0
  refine (walk a0 len0 cap0 z0 W (rowB_of _ _ _ _ _ w0)).mono fun e W' ⟨he, bel⟩ => ?_
  subst he
  exact ⟨_, rfl, _, _, _, [], _, [], hW', trodAll_mk1 (shut_bool Try.underlying4 _), (trodAll_cons_mk (Below.trod laidOut (by kernel_rfl) (of_decide_eq_true (by kernel_rfl)) k0 bel lt0) trodAll_mk0), rfl, bel.frame _, fun h => by cases h⟩

theorem over : Rows.fnDealsRow.holds Try.pinned (OpenSpec.ofChange Rows.fnDealsSpec) :=
  OpenClaim.holds_of_wide 3 Try.f3 rfl rfl rfl rfl rfl rfl rfl ⟨rfl, rfl, rfl, rfl, rfl⟩ rfl rfl rfl rfl rfl (by kernel_rfl) Try.func3 (by kernel_rfl)
    (of_decide_eq_true (by kernel_rfl)) (by unfold Func.isWrapper; first | (rw [if_pos (by decide +kernel)]; kernel_rfl) | (rw [if_neg (by decide +kernel)]; exact ⟨rfl, rfl⟩))
    (fun os started H enc _ => lifted os started H enc)
end FnDeals

theorem fnDeals_holds : Rows.FnDealsSaid := FnDeals.over
end Go.Proofs.Ytkfmifbffgbiiaa
