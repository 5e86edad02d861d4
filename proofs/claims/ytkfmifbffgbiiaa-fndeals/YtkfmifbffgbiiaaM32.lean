/-
  Texts of this claim laid together: BkW.
-/
import Derived.Test.YtkfmifbffgbiiaaM20
import Derived.Test.YtkfmifbffgbiiaaM31
import Derived.Test.YtkfmifbffgbiiaaM18
import Derived.Deep.DeepCutAuto
import Derived.Deep.CutRange
/-
  The specification's BasketOf: drawn units and deals that are right, and drawn uses that can be priced.
-/
namespace Go.Proofs.Ytkfmifbffgbiiaa
open Go.ChangeShapes Go.WideShapes Go.ChangeAt Go.RowKit Go.Deep
set_option linter.unusedVariables false

def BkPost (w : World) (e : Ending) (w' : World) : Prop := ∃ (us : List RUn) (ds : List CDl) (cs : List CUs) (ug uc dg dc g cp : Nat), e = .returned (.tuple #[.slice (some ⟨ug, 0, none⟩) us.length uc, .slice (some ⟨dg, 0, none⟩) ds.length dc, .slice (some ⟨g, 0, none⟩) cs.length cp]) ∧ us.length ≤ 7 ∧ ds.length ≤ 5 ∧ ds.length ≤ dc ∧ (∀ r ∈ us, DrU r) ∧ (∀ i, i < ds.length → DrD i (ds.getD i zDl)) ∧ cs.length ≤ 3 ∧ (∀ r ∈ cs, UsOK r) ∧ pcode us ds cs = 0 ∧ ReadsUn w'.heap.size w' (some ⟨ug, 0, none⟩) us ∧ ReadsDl w'.heap.size w' (some ⟨dg, 0, none⟩) ds ∧ ReadsUs w'.heap.size w' (some ⟨g, 0, none⟩) cs ∧ Below w.heap.size w w'
theorem drawn_right {us : List RUn} {ds : List CDl} (h1 : us.length ≤ 7) (h2 : ds.length ≤ 5) (h3 : ∀ r ∈ us, DrU r) (h4 : ∀ i, i < ds.length → DrD i (ds.getD i zDl)) : faultOf us ds = 0 ∧ (∀ r ∈ us, UnOK r) ∧ ∀ r ∈ ds, DlOK r := by
  have h5 := drD_all (by omega : ds.length ≤ 6) h4
  refine ⟨?_, fun r hr => (h3 r hr).ok, h5.2⟩
  unfold faultOf
  rw [if_neg (by omega), drU_all h3 (by omega), h5.1]
  rfl
theorem pcode_nil {us : List RUn} {ds : List CDl} (h : faultOf us ds = 0) : pcode us ds [] = 0 := by
  unfold pcode
  rw [if_neg (by simp), if_pos h, if_pos (by rfl)]
def PrP (pc : Int) (W : World) (e : Ending) (w' : World) : Prop := ∃ (x y : Int) (q : Option Addr) (m cq : Nat), e = .returned (.tuple #[.agg #[.int .i64 x, .int .i64 y, .slice q m cq], .int .i64 pc]) ∧ Below W.heap.size W w'
theorem PrP.of {us : List RUn} {ds : List CDl} {cs : List CUs} {W : World} {e : Ending} {w' : World} (h : AnsP us ds cs W e w') : PrP (pcode us ds cs) W e w' := by
  obtain ⟨q, cq, h1, _, h2⟩ := h
  exact ⟨_, _, _, _, _, h1, h2⟩
theorem priced_more (us : List RUn) (ds : List CDl) (hul : us.length ≤ 7) (hdl : ds.length ≤ 5) (h1 : ∀ r ∈ us, UnOK r) (h2 : ∀ r ∈ ds, DlOK r) (ug uc dg dc : Nat) {w4 wr : World} {g0 g cp : Nat} {U : List CUs} {Cu : List Value} (hK : BkSt w4 g0 g cp U Cu wr)
    (hRd : ∀ W, Apart g0 w4 W → Below g0 w4 W → ReadsUn W.heap.size W (some ⟨ug, 0, none⟩) us ∧ ReadsDl W.heap.size W (some ⟨dg, 0, none⟩) ds) (r : CUs) (h : Option Addr) (c : Nat) (hc : r.us.length ≤ c) (hri : RIz (g0 + 1) w4.heap.size w4 h r.us) (hU : U.length ≤ 3) (hok : ∀ x ∈ U ++ [r], UsOK x) (pc : Int) (hpc : pc = pcode us ds (U ++ [r]))
    (W : World) (va : Option Addr) (vc : Nat) (hb : Below wr.heap.size wr W) (ho : W.ownsRow wr.heap.size 36 3 (.slice va (U.length + 1) vc) (U.length + 1) (Cu ++ [.int .i64 r.dl, .int .i64 r.sv, .slice h r.us.length c])) :
    Calls Try.prog 12 #[.slice (some ⟨ug, 0, none⟩) us.length uc, .slice (some ⟨dg, 0, none⟩) ds.length dc, .slice va (U.length + 1) vc] W (PrP pc W) := by
  have hK2 := hK.later hb
  obtain ⟨r1, r2⟩ := hRd W hK2.ap hK2.lw
  have hf := hK.fit.snoc hK.row.1 r h c hc hri
  have e1 : U.length + 1 = (U ++ [r]).length := by simp
  rw [e1] at ho
  have r3 := hf.reads hK2.ap ho
  have hl : (U ++ [r]).length ≤ 1048576 := by rw [← e1]; omega
  have hp := specPriced_any (some ⟨ug, 0, none⟩) uc us (by omega) h1 (some ⟨dg, 0, none⟩) dc ds (by omega) h2 va vc (U ++ [r]) hl hok W r1 r2 r3
  rw [← e1] at hp
  rw [hpc]
  exact hp.mono (fun e w' h => PrP.of h)
set_option maxHeartbeats 16000000 in
set_option maxRecDepth 8000 in
theorem basketOf_any (a : Option Addr) (len cap : Nat) (zs : List Int) (w : World) (hr : RowB w.heap.size w a len zs) :
    Calls Try.prog 4 #[.slice a len cap] w (BkPost w) := by
  have hsrc := source_any a len cap w hr.1
  obtain ⟨b, hb⟩ : ∃ b, b = w.heap.size := ⟨_, rfl⟩
  rw [← hb] at hsrc hr
  have HRB : Hid (RowB b w a len zs) := hr
  have HBw : Hid (b = w.heap.size) := hb
  obtain ⟨i0, hti, hzz⟩ := Option.map_eq_some_iff.1 usInfo'
  simp only [Prod.mk.injEq] at hzz
  obtain ⟨hi0, hi1, hi2⟩ := hzz
  clear hr hb
  go_enter Try.func4, Try.ntmps4
  go_wp2_with fail
  (first | go_at_call 8 | skip)
  refine hsrc.mono ?_
  rintro e w1 ⟨s1, rfl, hs1, hb1⟩
  clear hsrc
  go_wp2_with fail
  (first | go_at_call 9 | skip)
  refine (units_any b a len cap zs 0 s1 w1 hs1 (HRB.out.below hb1) (by omega)).mono ?_
  rintro e w2 ⟨us, ug, uc, at2, sd2, rfl, hul, hat2, hdr, hun⟩
  have HDr : Hid (∀ r ∈ us, DrU r) := hdr
  have HUn2 : Hid (UnSt w1 b a len cap (.slice (some ⟨ug, 0, none⟩) us.length uc) us at2 sd2 w2) := hun
  have HB1 : Hid (Below b w w1) := hb1
  clear hdr hun hb1 hs1
  go_wp2_with fail
  (first | go_at_call 10 | skip)
  refine (deals_any b a len cap zs at2 sd2 w2 HUn2.out.2.1 (HRB.out.below (HB1.out.trans HUn2.out.2.2.2)) (by omega)).mono ?_
  rintro e w3 ⟨ds, Cd, dg, dc, at3, sd3, rfl, hdl, hat3, hdd, hD⟩
  have HDd : Hid (∀ i, i < ds.length → DrD i (ds.getD i zDl)) := hdd
  have HD3 : Hid (DdSt w2 b a len cap (.slice (some ⟨dg, 0, none⟩) ds.length dc) ds Cd at3 sd3 w3) := hD
  have HUn3 : Hid (UnSt w1 b a len cap (.slice (some ⟨ug, 0, none⟩) us.length uc) us at3 sd3 w3) := by
    obtain ⟨h1, h2, h3, h4⟩ := HUn2.out
    refine ⟨ownsRow_sameP h1 (fun k hk => ?_), hD.src, hD.top, h4.trans hD.low⟩
    obtain ⟨cur, hc⟩ := row_type h1 hk
    exact hD.un k cur (by have := (h1.lt k hk).1; omega) hc
  have HB3 : Hid (Below b w w3) := (HB1.out.trans HUn2.out.2.2.2).trans hD.low
  have hdc : ds.length ≤ dc := row_cap' hD.own
  clear hdd hD HUn2 HB1
  obtain ⟨W3, hW3⟩ : ∃ W3, W3 = w3.alloc (Obj.cells #[] 36) := ⟨_, rfl⟩
  obtain ⟨g0, hg0⟩ : ∃ g0, g0 = w3.heap.size := ⟨_, rfl⟩
  have HG0 : Hid (g0 = w3.heap.size) := hg0
  have HbA : Hid (Below w3.heap.size w3 W3) := by show Below _ _ _; rw [hW3]; exact below_alloc _ _
  have HzA : Hid (W3.heap.size = g0 + 1) := by show _ = _; rw [hW3, hg0]; simp
  have HhA : Hid (W3.heap[g0]? = some (.cells #[] 36 (0, 0))) := by show _ = _; rw [hW3, hg0]; exact heapNew _ _
  have HW3 : Hid (W3 = w3.alloc (Obj.cells #[] 36)) := hW3
  clear hW3 hg0
  go_wp2_with fail
  rw [← HW3.out, ← HG0.out]
  (first | go_at_call 11 | skip)
  refine (someUses_any b a len cap zs at3 sd3 W3 w1 w2 (HRB.out.below (HB3.out.trans (HbA.out.mono (by have := HD3.out.top; omega)))) (by omega) us ug uc hul (HUn3.out.later HbA.out) ds Cd dg dc hdl HDd.out (HD3.out.later HbA.out)).mono ?_
  rintro e w4 ⟨L, C, sg, scp, tb, T, Z, at4, sd4, rfl, hL3, hL7, hat4, hU⟩
  have HU : Hid (UuSt W3 b a len cap us.length sg scp L C tb T Z at4 sd4 w4) := hU
  have HL7 : Hid (∀ r ∈ L, r.us.length ≤ 7) := hL7
  clear hU hL7
  have hgb : b < g0 := by have := HD3.out.top; rw [← HG0.out] at this; omega
  have hg4 : g0 < w4.heap.size := by have h1 := HU.out.ap.1; rw [HzA.out] at h1; omega
  have HRd : Hid (∀ W, Apart g0 w4 W → Below g0 w4 W → ReadsUn W.heap.size W (some ⟨ug, 0, none⟩) us ∧ ReadsDl W.heap.size W (some ⟨dg, 0, none⟩) ds) := fun W hA hB => by
    have hz3 : w3.heap.size = g0 := HG0.out.symm
    have hA3 : Apart b w3 W := ⟨by have := hA.1; omega, fun k h1 h2 => ((hA.2 k (by omega) (by omega)).trans (HU.out.ap.2 k h1 (by rw [HzA.out]; omega))).trans (HbA.out.block k h2)⟩
    have hB3 : Below b w3 W := ((HbA.out.mono (by omega)).trans HU.out.lo).trans (hB.mono (by omega))
    have hS : Src W b a len cap at4 sd4 := src_sameD HU.out.src (hA.2 b (by omega) HU.out.src.2.2.2.2.2.1) hA.1
    exact ⟨un_reads (HUn3.out.step hA3 hB3 hS).1, (HD3.out.step hA3 hB3 hS).reads⟩
  have HSm : Hid (∀ k, k < L.length → ∃ h c, (∀ W, Apart g0 w4 W → W.cell? ⟨sg, k * 3, none⟩ = some (.int .i64 (L.getD k zUs).dl) ∧ W.cell? ⟨sg, k * 3 + 1, none⟩ = some (.int .i64 (L.getD k zUs).sv) ∧ W.cell? ⟨sg, k * 3 + 2, none⟩ = some (.slice h (L.getD k zUs).us.length c)) ∧ (L.getD k zUs).us.length ≤ c ∧ RIz (g0 + 1) w4.heap.size w4 h (L.getD k zUs).us) := fun k hk => by
    obtain ⟨h, c, k0, k1, k2, k3, k4⟩ := HU.out.fit k hk
    have hsg := HU.out.row.lt sg rfl
    rw [HzA.out] at k4 hsg
    refine ⟨h, c, fun W hA => ?_, k3, k4.up (Nat.le_refl _)⟩
    have hc : ∀ o, W.cell? ⟨sg, o, none⟩ = w4.cell? ⟨sg, o, none⟩ := fun o => World.cell?_of_block (w := w4) (a := ⟨sg, o, none⟩) (hA.2 sg (by omega) hsg.2)
    refine ⟨?_, ?_, ?_⟩
    · rw [hc, HU.out.row.cellAt _ (by omega)]; exact k0
    · rw [hc, HU.out.row.cellAt _ (by omega)]; exact k1
    · rw [hc, HU.out.row.cellAt _ (by omega)]; exact k2
  have HK0 : Hid (BkSt w4 g0 g0 0 [] [] w4) := by
    have hh := (HU.out.ap.2 g0 (by omega) (by rw [HzA.out]; omega)).trans HhA.out
    exact ⟨⟨Nat.le_refl _, fun _ _ _ => rfl⟩, Below.refl _ _, hg4, .inl rfl, ⟨rfl, .inr ⟨g0, 0, #[], rfl, Nat.le_refl _, hh, Nat.le_refl _, by unfold maxLen; omega, rfl, rfl⟩⟩, fun i hi => by simp at hi, fun u hu => by simp at hu⟩
  have HFt : Hid (faultOf us ds = 0 ∧ (∀ r ∈ us, UnOK r) ∧ ∀ r ∈ ds, DlOK r) := drawn_right hul hdl HDr.out HDd.out
  have HB4 : Hid (Below b w w4) := (HB3.out.trans (HbA.out.mono (by rw [← HG0.out]; omega))).trans HU.out.lo
  clear HRB HW3 HbA HhA HzA HUn3 HD3 HU HB3 HG0
  go_wp2_with fail
  go_loopw [8, 10, 11, 12] (fun v c _ _ wr => ∃ (k : Nat) (U : List CUs) (Cu : List Value) (g cp : Nat), k ≤ L.length ∧ c = .int .i64 (k : Int) ∧ v = .slice (some ⟨g, 0, none⟩) U.length cp ∧ U.length ≤ k ∧ (∀ r ∈ U, UsOK r) ∧ pcode us ds U = 0 ∧ BkSt w4 g0 g cp U Cu wr) (fun _ c _ _ _ => L.length - (intOf c).toNat)
  case atStart => exact ⟨0, [], [], g0, 0, Nat.zero_le _, rfl, rfl, Nat.le_refl _, fun r hr => by simp at hr, pcode_nil HFt.out.1, HK0.out⟩
  case round =>
    clear HK0
    obtain ⟨k, U, Cu, g, cp, hk, rfl, rfl, hUk, hOK, hP0, hK⟩ := hrel
    have HOK : Hid (∀ r ∈ U, UsOK r) := hOK
    have HP0 : Hid (pcode us ds U = 0) := hP0
    have HK : Hid (BkSt w4 g0 g cp U Cu wr) := hK
    clear hOK hP0 hK
    by_cases hlt : k < L.length
    · have hlt' : (k : Int) < (L.length : Int) := by omega
      obtain ⟨h, c, hS3, hc, hri⟩ := HSm.out k hlt
      have h7 := HL7.out (L.getD k zUs) (by simp [List.getD_eq_getElem?_getD, hlt])
      have HS4 : Hid (∀ W, Below wr.heap.size wr W → W.cell? ⟨sg, k * 3, none⟩ = some (.int .i64 (L.getD k zUs).dl) ∧ W.cell? ⟨sg, k * 3 + 1, none⟩ = some (.int .i64 (L.getD k zUs).sv) ∧ W.cell? ⟨sg, k * 3 + 2, none⟩ = some (.slice h (L.getD k zUs).us.length c)) := fun W hb => hS3 W (apart_trans HK.out.ap (apart_of hb))
      clear hS3
      generalize L.getD k zUs = r at *
      obtain ⟨dl, sv, us5⟩ := r
      dsimp only at *
      have HRi : Hid (RIz (g0 + 1) w4.heap.size w4 h us5) := hri
      have HOK1 : Hid (∀ r ∈ U ++ [(⟨dl, sv, us5⟩ : CUs)], UsOK r) := fun r hr => by
        rcases List.mem_append.1 hr with h1 | h1
        · exact HOK.out r h1
        · rw [List.mem_singleton.1 h1]; show us5.length ≤ 1048576; omega
      obtain ⟨pc, hpc⟩ : ∃ pc, pc = pcode us ds (U ++ [⟨dl, sv, us5⟩]) := ⟨_, rfl⟩
      have HPr : Hid (∀ W va vc, Below wr.heap.size wr W → W.ownsRow wr.heap.size 36 3 (.slice va (U.length + 1) vc) (U.length + 1) (Cu ++ [.int .i64 dl, .int .i64 sv, .slice h us5.length c]) → Calls Try.prog 12 #[.slice (some ⟨ug, 0, none⟩) us.length uc, .slice (some ⟨dg, 0, none⟩) ds.length dc, .slice va (U.length + 1) vc] W (PrP pc W)) := fun W va vc hb ho => priced_more us ds hul hdl HFt.out.2.1 HFt.out.2.2 ug uc dg dc HK.out HRd.out ⟨dl, sv, us5⟩ h c hc HRi.out (by omega) HOK1.out pc hpc W va vc hb ho
      have HCl : Hid (Cu.length = U.length * 3) := HK.out.row.1
      have HNw : Hid (∀ W, Below wr.heap.size wr W → 0 < U.length → ∃ ad, (some (⟨g, 0, none⟩ : Addr)) = some ad ∧ ∀ j u, Cu[j]? = some u → W.cell? (ad.add j) = some u) := fun W hb => row_news (HK.out.later hb).row
      have HOn : Hid (∀ u ∈ Cu, u.oneCell' = true) := HK.out.one
      have HPc : Hid (pcode us ds (U ++ [⟨dl, sv, us5⟩]) = pc) := hpc.symm
      have hU3 : U.length ≤ 3 := by omega
      clear hpc hri
      go_upto_region 9 with fail
      go_cut [11, 12] from 24 to 53 (fun _ s12 wx => s12 = .int .i64 pc ∧ Below wr.heap.size wr wx)
      case first =>
        refine wp_region_held_drew (S := fun W' => Below wr.heap.size wr W') (by kernel_rfl) (below_drew _) (fun hH => ?_)
        refine wpAnyH_take (i := 0) (v := .slice (some ⟨ug, 0, none⟩) us.length uc) rfl (by kernel_rfl) (by kernel_rfl) (by kernel_rfl) (fun _ _ _ h => h) (Or.inl ⟨by rfl, fun w hSw => by go_simp⟩) hH ?_
        refine wpAnyH_take (i := 1) (v := .slice (some ⟨dg, 0, none⟩) ds.length dc) rfl (by kernel_rfl) (by kernel_rfl) (by kernel_rfl) (fun _ _ _ h => h) (Or.inl ⟨by rfl, fun w hSw => by go_simp⟩) hH ?_
        try simp only [Act.put, List.setIfInBounds_toArray, List.set_cons_zero, List.set_cons_succ, List.getElem_toArray, List.getElem_cons_succ, List.getElem_cons_zero]
        refine wpAnyH_take (i := 3) (v := .slice (some ⟨g, 0, none⟩) U.length cp) rfl (by kernel_rfl) (by kernel_rfl) (by kernel_rfl) (fun _ _ _ h => h) (Or.inl ⟨by rfl, fun w hSw => by go_simp⟩) hH ?_
        try simp only [Act.put, List.setIfInBounds_toArray, List.set_cons_zero, List.set_cons_succ, List.getElem_toArray, List.getElem_cons_succ, List.getElem_cons_zero]
        refine wpAnyH_take (i := 5) (v := .slice (some ⟨sg, 0, none⟩) L.length scp) rfl (by kernel_rfl) (by kernel_rfl) (by kernel_rfl) (fun _ _ _ h => h) (Or.inl ⟨by rfl, fun w hSw => by go_simp⟩) hH ?_
        try simp only [Act.put, List.setIfInBounds_toArray, List.set_cons_zero, List.set_cons_succ, List.getElem_toArray, List.getElem_cons_succ, List.getElem_cons_zero]
        refine wpAnyH_take (i := 6) (v := .int .i64 (k : Int)) rfl (by kernel_rfl) (by kernel_rfl) (by kernel_rfl) (fun _ _ _ h => h) (Or.inl ⟨by rfl, fun w hSw => by go_simp⟩) hH ?_
        try simp only [Act.put, List.setIfInBounds_toArray, List.set_cons_zero, List.set_cons_succ, List.getElem_toArray, List.getElem_cons_succ, List.getElem_cons_zero]
        refine wpAnyH_take (i := 7) (v := .pointer (some ⟨sg, k * 3, none⟩)) rfl (by kernel_rfl) (by kernel_rfl) (by kernel_rfl) (fun _ _ _ h => h) (Or.inl ⟨by rfl, fun w hSw => by go_simp⟩) hH ?_
        try simp only [Act.put, List.setIfInBounds_toArray, List.set_cons_zero, List.set_cons_succ, List.getElem_toArray, List.getElem_cons_succ, List.getElem_cons_zero]
        refine wpAnyH_take (i := 8) (v := .agg #[.int .i64 dl, .int .i64 sv, .slice h us5.length c]) rfl (by kernel_rfl) (by kernel_rfl) (by kernel_rfl) (fun _ _ _ h => h) (Or.inl ⟨by rfl, fun w hSw => by obtain ⟨f0, f1, f2⟩ := HS4.out w hSw; clear hSw; go_simp⟩) hH ?_
        try simp only [Act.put, List.setIfInBounds_toArray, List.set_cons_zero, List.set_cons_succ, List.getElem_toArray, List.getElem_cons_succ, List.getElem_cons_zero]
        have R5 : Hid (RSt wr none 0 [] #[.int .i64 dl, .int .i64 sv, .slice h us5.length c] none none wr.drew) := RSt.start _ _
        generalize wr.drew = W5 at *
        refine wpAnyH_ready (rs := [2, 9, 15]) (by kernel_rfl) (by simp) ?_
        refine AllReadyH.cons rfl (fun K hK => ?_) (AllReadyH.cons rfl (fun K hK => ?_) (AllReadyH.cons rfl (fun K hK => ?_) AllReadyH.nil))
        · skip
          go_simp
          obtain ⟨W6, hW6⟩ : ∃ W6, W6 = W5.alloc (Obj.cells #[] 36) := ⟨_, rfl⟩
          rw [← hW6]
          have R6 : Hid (RSt wr (some (.slice (some ⟨W5.heap.size, 0, none⟩) 0 0)) 0 [] #[.int .i64 dl, .int .i64 sv, .slice h us5.length c] none none W6) := by rw [hW6]; exact R5.out.mkA
          clear hW6
          refine hK.out _ _ R6.out.1 (fun _ => ?_)
          clear hK K
          try simp only [Act.put, List.setIfInBounds_toArray, List.set_cons_zero, List.set_cons_succ, List.getElem_toArray, List.getElem_cons_succ, List.getElem_cons_zero]
          refine wpAnyH_ready (rs := [4, 9, 15]) (by kernel_rfl) (by simp) ?_
          refine AllReadyH.cons rfl (fun K hK => ?_) (AllReadyH.cons rfl (fun K hK => ?_) (AllReadyH.cons rfl (fun K hK => ?_) AllReadyH.nil))
          · skip
            refine step_append_any rfl (.tmp 33) (.tmp 34) 25 rfl wr.heap.size 36 i0 (.agg #[.int .i64 0, .int .i64 0, .slice none 0 0]) 3 40 Try.underlying25 hti hi0 hi1 hi2 rfl (by decide) (.slice (some ⟨W5.heap.size, 0, none⟩) 0 0) _ _ (by simp [Act.eval]) (R6.out.2.1 _ rfl) (some ⟨g, 0, none⟩) U.length cp Cu (by simp [Act.eval]) HCl.out (HNw.out _ R6.out.1) HOn.out (by unfold maxLen; omega) (by omega) R6.out.1.size (fun va7 vc7 W7 hown hgrow hat => ?_)
            simp only [Nat.zero_add, List.nil_append] at hown hat ⊢
            have R7 : Hid (RSt wr (some (.slice va7 U.length vc7)) U.length Cu #[.int .i64 dl, .int .i64 sv, .slice h us5.length c] none none W7) := R6.out.app hown hgrow hat
            clear hown hgrow hat
            refine hK.out _ _ R7.out.1 (fun _ => ?_)
            clear hK K
            try simp only [Act.put, List.setIfInBounds_toArray, List.set_cons_zero, List.set_cons_succ, List.getElem_toArray, List.getElem_cons_succ, List.getElem_cons_zero]
            refine wpAnyH_ready (rs := [9, 15]) (by kernel_rfl) (by simp) ?_
            refine AllReadyH.cons rfl (fun K hK => ?_) (AllReadyH.cons rfl (fun K hK => ?_) AllReadyH.nil)
            · skip
              go_simp
              obtain ⟨W8, hW8⟩ : ∃ W8, W8 = W7.alloc (Obj.cells #[.int .i64 dl, .int .i64 sv, .slice h us5.length c] 36) := ⟨_, rfl⟩
              rw [← hW8]
              have R8 : Hid (RSt wr (some (.slice va7 U.length vc7)) U.length Cu #[.int .i64 dl, .int .i64 sv, .slice h us5.length c] (some W7.heap.size) none W8) := by rw [hW8]; exact R7.out.mkB
              clear hW8
              refine hK.out _ _ R8.out.1 (fun _ => ?_)
              clear hK K
              try simp only [Act.put, List.setIfInBounds_toArray, List.set_cons_zero, List.set_cons_succ, List.getElem_toArray, List.getElem_cons_succ, List.getElem_cons_zero]
              refine wpAnyH_ready (rs := [10, 15]) (by kernel_rfl) (by simp) ?_
              refine AllReadyH.cons rfl (fun K hK => ?_) (AllReadyH.cons rfl (fun K hK => ?_) AllReadyH.nil)
              · skip
                refine step_append_any rfl (.tmp 35) (.tmp 40) 25 rfl wr.heap.size 36 i0 (.agg #[.int .i64 0, .int .i64 0, .slice none 0 0]) 3 40 Try.underlying25 hti hi0 hi1 hi2 rfl (by decide) (.slice va7 U.length vc7) _ _ (by simp [Act.eval]) (R8.out.2.1 _ rfl) (some ⟨W7.heap.size, 0, none⟩) 1 1 [.int .i64 dl, .int .i64 sv, .slice h us5.length c] (by simp [Act.eval]) rfl R8.out.news (by simp [Value.oneCell']) (by unfold maxLen; omega) (by omega) R8.out.1.size (fun va9 vc9 W9 hown hgrow hat => ?_)
                have R9 : Hid (RSt wr (some (.slice va9 (U.length + 1) vc9)) (U.length + 1) (Cu ++ [.int .i64 dl, .int .i64 sv, .slice h us5.length c]) #[.int .i64 dl, .int .i64 sv, .slice h us5.length c] (some W7.heap.size) none W9) := R8.out.app hown hgrow hat
                clear hown hgrow hat
                refine hK.out _ _ R9.out.1 (fun _ => ?_)
                clear hK K
                try simp only [Act.put, List.setIfInBounds_toArray, List.set_cons_zero, List.set_cons_succ, List.getElem_toArray, List.getElem_cons_succ, List.getElem_cons_zero]
                refine wpAnyH_ready (rs := [11, 15]) (by kernel_rfl) (by simp) ?_
                refine AllReadyH.cons rfl (fun K hK => ?_) (AllReadyH.cons rfl (fun K hK => ?_) AllReadyH.nil)
                · skip
                  go_simp
                  go_at_call 12
                  refine (HPr.out _ _ _ R9.out.1 (R9.out.2.1 _ rfl)).mono ?_
                  rintro e W10 ⟨x, y, q, m, cq, rfl, hb⟩
                  have R10 : Hid (RSt wr (some (.slice va9 (U.length + 1) vc9)) (U.length + 1) (Cu ++ [.int .i64 dl, .int .i64 sv, .slice h us5.length c]) #[.int .i64 dl, .int .i64 sv, .slice h us5.length c] (some W7.heap.size) none W10) := R9.out.later hb
                  clear hb
                  refine hK.out _ _ R10.out.1 (fun _ => ?_)
                  clear hK K
                  try simp only [Act.put, List.setIfInBounds_toArray, List.set_cons_zero, List.set_cons_succ, List.getElem_toArray, List.getElem_cons_succ, List.getElem_cons_zero]
                  refine wpAnyH_take (i := 12) (v := .tuple #[.agg #[.int .i64 x, .int .i64 y, .slice q m cq], .int .i64 pc]) rfl (by kernel_rfl) (by kernel_rfl) (by kernel_rfl) (fun _ _ _ h => h) (Or.inl ⟨by rfl, fun w hSw => by go_simp⟩) R10.out.1 ?_
                  try simp only [Act.put, List.setIfInBounds_toArray, List.set_cons_zero, List.set_cons_succ, List.getElem_toArray, List.getElem_cons_succ, List.getElem_cons_zero]
                  refine wpAnyH_take (i := 13) (v := .agg #[.int .i64 x, .int .i64 y, .slice q m cq]) rfl (by kernel_rfl) (by kernel_rfl) (by kernel_rfl) (fun _ _ _ h => h) (Or.inl ⟨by rfl, fun w hSw => by go_simp⟩) R10.out.1 ?_
                  try simp only [Act.put, List.setIfInBounds_toArray, List.set_cons_zero, List.set_cons_succ, List.getElem_toArray, List.getElem_cons_succ, List.getElem_cons_zero]
                  refine wpAnyH_take (i := 14) (v := .int .i64 pc) rfl (by kernel_rfl) (by kernel_rfl) (by kernel_rfl) (fun _ _ _ h => h) (Or.inl ⟨by rfl, fun w hSw => by go_simp⟩) R10.out.1 ?_
                  try simp only [Act.put, List.setIfInBounds_toArray, List.set_cons_zero, List.set_cons_succ, List.getElem_toArray, List.getElem_cons_succ, List.getElem_cons_zero]
                  refine wpAnyH_ready (rs := [15]) (by kernel_rfl) (by simp) ?_
                  refine AllReadyH.cons rfl (fun K hK => ?_) AllReadyH.nil
                  go_simp
                  obtain ⟨W11, hW11⟩ : ∃ W11, W11 = W10.alloc (Obj.cells #[.int .i64 0, .int .i64 0, .slice none 0 0] 29) := ⟨_, rfl⟩
                  rw [← hW11]
                  have R11 : Hid (RSt wr (some (.slice va9 (U.length + 1) vc9)) (U.length + 1) (Cu ++ [.int .i64 dl, .int .i64 sv, .slice h us5.length c]) #[.int .i64 dl, .int .i64 sv, .slice h us5.length c] (some W7.heap.size) (some W10.heap.size) W11) := by rw [hW11]; exact R10.out.mkL
                  clear hW11
                  refine hK.out _ _ R11.out.1 (fun _ => ?_)
                  clear hK K
                  try simp only [Act.put, List.setIfInBounds_toArray, List.set_cons_zero, List.set_cons_succ, List.getElem_toArray, List.getElem_cons_succ, List.getElem_cons_zero]
                  refine wpAnyH_ready (rs := [16]) (by kernel_rfl) (by simp) ?_
                  refine AllReadyH.cons rfl (fun K hK => ?_) AllReadyH.nil
                  have bL := R11.out.2.2.2 _ rfl
                  have r0 := blkCell bL.2 0 _ rfl
                  have r1 := blkCell bL.2 1 _ rfl
                  have r2 := blkCell bL.2 2 _ rfl
                  have f0 := blkFree bL.2 0
                  have f1 := blkFree bL.2 1
                  have f2 := blkFree bL.2 2
                  have hB : Hid (Below wr.heap.size wr (((W11.setCell ⟨W10.heap.size, 0, none⟩ (.int .i64 x)).setCell ⟨W10.heap.size, 1, none⟩ (.int .i64 y)).setCell ⟨W10.heap.size, 2, none⟩ (.slice q m cq))) := ((R11.out.1.setCell bL.1 _).setCell bL.1 _).setCell bL.1 _
                  simp only [List.getElem_toArray, List.getElem_cons_zero, List.getElem_cons_succ] at r0 r1 r2
                  clear bL
                  go_simp
                  clear r0 r1 r2 f0 f1 f2
                  refine hK.out _ _ hB.out (fun _ => ?_)
                  clear hK K
                  try simp only [Act.put, List.setIfInBounds_toArray, List.set_cons_zero, List.set_cons_succ, List.getElem_toArray, List.getElem_cons_succ, List.getElem_cons_zero]
                  refine wpAnyH_take (i := 17) (v := .int .i64 pc) rfl (by kernel_rfl) (by kernel_rfl) (by kernel_rfl) (fun _ _ _ h => h) (Or.inl ⟨by rfl, fun w hSw => by go_simp⟩) hB.out ?_
                  try simp only [Act.put, List.setIfInBounds_toArray, List.set_cons_zero, List.set_cons_succ, List.getElem_toArray, List.getElem_cons_succ, List.getElem_cons_zero]
                  refine wpAnyH_done (by kernel_rfl) ?_ _
                  go_wp2_with fail
                  go_meet
                  exact ⟨rfl, hB.out⟩
                · skip
                  go_simp
                  obtain ⟨W13, hW13⟩ : ∃ W13, W13 = W9.alloc (Obj.cells #[.int .i64 0, .int .i64 0, .slice none 0 0] 29) := ⟨_, rfl⟩
                  rw [← hW13]
                  have R13 : Hid (RSt wr (some (.slice va9 (U.length + 1) vc9)) (U.length + 1) (Cu ++ [.int .i64 dl, .int .i64 sv, .slice h us5.length c]) #[.int .i64 dl, .int .i64 sv, .slice h us5.length c] (some W7.heap.size) (some W9.heap.size) W13) := by rw [hW13]; exact R9.out.mkL
                  clear hW13
                  refine hK.out _ _ R13.out.1 (fun _ => ?_)
                  clear hK K
                  try simp only [Act.put, List.setIfInBounds_toArray, List.set_cons_zero, List.set_cons_succ, List.getElem_toArray, List.getElem_cons_succ, List.getElem_cons_zero]
                  refine wpAnyH_ready (rs := [11]) (by kernel_rfl) (by simp) ?_
                  refine AllReadyH.cons rfl (fun K hK => ?_) AllReadyH.nil
                  go_simp
                  go_at_call 12
                  refine (HPr.out _ _ _ R13.out.1 (R13.out.2.1 _ rfl)).mono ?_
                  rintro e W14 ⟨x, y, q, m, cq, rfl, hb⟩
                  have R14 : Hid (RSt wr (some (.slice va9 (U.length + 1) vc9)) (U.length + 1) (Cu ++ [.int .i64 dl, .int .i64 sv, .slice h us5.length c]) #[.int .i64 dl, .int .i64 sv, .slice h us5.length c] (some W7.heap.size) (some W9.heap.size) W14) := R13.out.later hb
                  clear hb
                  refine hK.out _ _ R14.out.1 (fun _ => ?_)
                  clear hK K
                  try simp only [Act.put, List.setIfInBounds_toArray, List.set_cons_zero, List.set_cons_succ, List.getElem_toArray, List.getElem_cons_succ, List.getElem_cons_zero]
                  refine wpAnyH_take (i := 12) (v := .tuple #[.agg #[.int .i64 x, .int .i64 y, .slice q m cq], .int .i64 pc]) rfl (by kernel_rfl) (by kernel_rfl) (by kernel_rfl) (fun _ _ _ h => h) (Or.inl ⟨by rfl, fun w hSw => by go_simp⟩) R14.out.1 ?_
                  try simp only [Act.put, List.setIfInBounds_toArray, List.set_cons_zero, List.set_cons_succ, List.getElem_toArray, List.getElem_cons_succ, List.getElem_cons_zero]
                  refine wpAnyH_take (i := 13) (v := .agg #[.int .i64 x, .int .i64 y, .slice q m cq]) rfl (by kernel_rfl) (by kernel_rfl) (by kernel_rfl) (fun _ _ _ h => h) (Or.inl ⟨by rfl, fun w hSw => by go_simp⟩) R14.out.1 ?_
                  try simp only [Act.put, List.setIfInBounds_toArray, List.set_cons_zero, List.set_cons_succ, List.getElem_toArray, List.getElem_cons_succ, List.getElem_cons_zero]
                  refine wpAnyH_take (i := 14) (v := .int .i64 pc) rfl (by kernel_rfl) (by kernel_rfl) (by kernel_rfl) (fun _ _ _ h => h) (Or.inl ⟨by rfl, fun w hSw => by go_simp⟩) R14.out.1 ?_
                  try simp only [Act.put, List.setIfInBounds_toArray, List.set_cons_zero, List.set_cons_succ, List.getElem_toArray, List.getElem_cons_succ, List.getElem_cons_zero]
                  refine wpAnyH_ready (rs := [16]) (by kernel_rfl) (by simp) ?_
                  refine AllReadyH.cons rfl (fun K hK => ?_) AllReadyH.nil
                  have bL := R14.out.2.2.2 _ rfl
                  have r0 := blkCell bL.2 0 _ rfl
                  have r1 := blkCell bL.2 1 _ rfl
                  have r2 := blkCell bL.2 2 _ rfl
                  have f0 := blkFree bL.2 0
                  have f1 := blkFree bL.2 1
                  have f2 := blkFree bL.2 2
                  have hB : Hid (Below wr.heap.size wr (((W14.setCell ⟨W9.heap.size, 0, none⟩ (.int .i64 x)).setCell ⟨W9.heap.size, 1, none⟩ (.int .i64 y)).setCell ⟨W9.heap.size, 2, none⟩ (.slice q m cq))) := ((R14.out.1.setCell bL.1 _).setCell bL.1 _).setCell bL.1 _
                  simp only [List.getElem_toArray, List.getElem_cons_zero, List.getElem_cons_succ] at r0 r1 r2
                  clear bL
                  go_simp
                  clear r0 r1 r2 f0 f1 f2
                  refine hK.out _ _ hB.out (fun _ => ?_)
                  clear hK K
                  try simp only [Act.put, List.setIfInBounds_toArray, List.set_cons_zero, List.set_cons_succ, List.getElem_toArray, List.getElem_cons_succ, List.getElem_cons_zero]
                  refine wpAnyH_take (i := 17) (v := .int .i64 pc) rfl (by kernel_rfl) (by kernel_rfl) (by kernel_rfl) (fun _ _ _ h => h) (Or.inl ⟨by rfl, fun w hSw => by go_simp⟩) hB.out ?_
                  try simp only [Act.put, List.setIfInBounds_toArray, List.set_cons_zero, List.set_cons_succ, List.getElem_toArray, List.getElem_cons_succ, List.getElem_cons_zero]
                  refine wpAnyH_done (by kernel_rfl) ?_ _
                  go_wp2_with fail
                  go_meet
                  exact ⟨rfl, hB.out⟩
              · skip
                go_simp
                obtain ⟨W16, hW16⟩ : ∃ W16, W16 = W8.alloc (Obj.cells #[.int .i64 0, .int .i64 0, .slice none 0 0] 29) := ⟨_, rfl⟩
                rw [← hW16]
                have R16 : Hid (RSt wr (some (.slice va7 U.length vc7)) U.length Cu #[.int .i64 dl, .int .i64 sv, .slice h us5.length c] (some W7.heap.size) (some W8.heap.size) W16) := by rw [hW16]; exact R8.out.mkL
                clear hW16
                refine hK.out _ _ R16.out.1 (fun _ => ?_)
                clear hK K
                try simp only [Act.put, List.setIfInBounds_toArray, List.set_cons_zero, List.set_cons_succ, List.getElem_toArray, List.getElem_cons_succ, List.getElem_cons_zero]
                refine wpAnyH_ready (rs := [10]) (by kernel_rfl) (by simp) ?_
                refine AllReadyH.cons rfl (fun K hK => ?_) AllReadyH.nil
                refine step_append_any rfl (.tmp 35) (.tmp 40) 25 rfl wr.heap.size 36 i0 (.agg #[.int .i64 0, .int .i64 0, .slice none 0 0]) 3 40 Try.underlying25 hti hi0 hi1 hi2 rfl (by decide) (.slice va7 U.length vc7) _ _ (by simp [Act.eval]) (R16.out.2.1 _ rfl) (some ⟨W7.heap.size, 0, none⟩) 1 1 [.int .i64 dl, .int .i64 sv, .slice h us5.length c] (by simp [Act.eval]) rfl R16.out.news (by simp [Value.oneCell']) (by unfold maxLen; omega) (by omega) R16.out.1.size (fun va17 vc17 W17 hown hgrow hat => ?_)
                have R17 : Hid (RSt wr (some (.slice va17 (U.length + 1) vc17)) (U.length + 1) (Cu ++ [.int .i64 dl, .int .i64 sv, .slice h us5.length c]) #[.int .i64 dl, .int .i64 sv, .slice h us5.length c] (some W7.heap.size) (some W8.heap.size) W17) := R16.out.app hown hgrow hat
                clear hown hgrow hat
                refine hK.out _ _ R17.out.1 (fun _ => ?_)
                clear hK K
                try simp only [Act.put, List.setIfInBounds_toArray, List.set_cons_zero, List.set_cons_succ, List.getElem_toArray, List.getElem_cons_succ, List.getElem_cons_zero]
                refine wpAnyH_ready (rs := [11]) (by kernel_rfl) (by simp) ?_
                refine AllReadyH.cons rfl (fun K hK => ?_) AllReadyH.nil
                go_simp
                go_at_call 12
                refine (HPr.out _ _ _ R17.out.1 (R17.out.2.1 _ rfl)).mono ?_
                rintro e W18 ⟨x, y, q, m, cq, rfl, hb⟩
                have R18 : Hid (RSt wr (some (.slice va17 (U.length + 1) vc17)) (U.length + 1) (Cu ++ [.int .i64 dl, .int .i64 sv, .slice h us5.length c]) #[.int .i64 dl, .int .i64 sv, .slice h us5.length c] (some W7.heap.size) (some W8.heap.size) W18) := R17.out.later hb
                clear hb
                refine hK.out _ _ R18.out.1 (fun _ => ?_)
                clear hK K
                try simp only [Act.put, List.setIfInBounds_toArray, List.set_cons_zero, List.set_cons_succ, List.getElem_toArray, List.getElem_cons_succ, List.getElem_cons_zero]
                refine wpAnyH_take (i := 12) (v := .tuple #[.agg #[.int .i64 x, .int .i64 y, .slice q m cq], .int .i64 pc]) rfl (by kernel_rfl) (by kernel_rfl) (by kernel_rfl) (fun _ _ _ h => h) (Or.inl ⟨by rfl, fun w hSw => by go_simp⟩) R18.out.1 ?_
                try simp only [Act.put, List.setIfInBounds_toArray, List.set_cons_zero, List.set_cons_succ, List.getElem_toArray, List.getElem_cons_succ, List.getElem_cons_zero]
                refine wpAnyH_take (i := 13) (v := .agg #[.int .i64 x, .int .i64 y, .slice q m cq]) rfl (by kernel_rfl) (by kernel_rfl) (by kernel_rfl) (fun _ _ _ h => h) (Or.inl ⟨by rfl, fun w hSw => by go_simp⟩) R18.out.1 ?_
                try simp only [Act.put, List.setIfInBounds_toArray, List.set_cons_zero, List.set_cons_succ, List.getElem_toArray, List.getElem_cons_succ, List.getElem_cons_zero]
                refine wpAnyH_take (i := 14) (v := .int .i64 pc) rfl (by kernel_rfl) (by kernel_rfl) (by kernel_rfl) (fun _ _ _ h => h) (Or.inl ⟨by rfl, fun w hSw => by go_simp⟩) R18.out.1 ?_
                try simp only [Act.put, List.setIfInBounds_toArray, List.set_cons_zero, List.set_cons_succ, List.getElem_toArray, List.getElem_cons_succ, List.getElem_cons_zero]
                refine wpAnyH_ready (rs := [16]) (by kernel_rfl) (by simp) ?_
                refine AllReadyH.cons rfl (fun K hK => ?_) AllReadyH.nil
                have bL := R18.out.2.2.2 _ rfl
                have r0 := blkCell bL.2 0 _ rfl
                have r1 := blkCell bL.2 1 _ rfl
                have r2 := blkCell bL.2 2 _ rfl
                have f0 := blkFree bL.2 0
                have f1 := blkFree bL.2 1
                have f2 := blkFree bL.2 2
                have hB : Hid (Below wr.heap.size wr (((W18.setCell ⟨W8.heap.size, 0, none⟩ (.int .i64 x)).setCell ⟨W8.heap.size, 1, none⟩ (.int .i64 y)).setCell ⟨W8.heap.size, 2, none⟩ (.slice q m cq))) := ((R18.out.1.setCell bL.1 _).setCell bL.1 _).setCell bL.1 _
                simp only [List.getElem_toArray, List.getElem_cons_zero, List.getElem_cons_succ] at r0 r1 r2
                clear bL
                go_simp
                clear r0 r1 r2 f0 f1 f2
                refine hK.out _ _ hB.out (fun _ => ?_)
                clear hK K
                try simp only [Act.put, List.setIfInBounds_toArray, List.set_cons_zero, List.set_cons_succ, List.getElem_toArray, List.getElem_cons_succ, List.getElem_cons_zero]
                refine wpAnyH_take (i := 17) (v := .int .i64 pc) rfl (by kernel_rfl) (by kernel_rfl) (by kernel_rfl) (fun _ _ _ h => h) (Or.inl ⟨by rfl, fun w hSw => by go_simp⟩) hB.out ?_
                try simp only [Act.put, List.setIfInBounds_toArray, List.set_cons_zero, List.set_cons_succ, List.getElem_toArray, List.getElem_cons_succ, List.getElem_cons_zero]
                refine wpAnyH_done (by kernel_rfl) ?_ _
                go_wp2_with fail
                go_meet
                exact ⟨rfl, hB.out⟩
            · skip
              go_simp
              obtain ⟨W20, hW20⟩ : ∃ W20, W20 = W7.alloc (Obj.cells #[.int .i64 0, .int .i64 0, .slice none 0 0] 29) := ⟨_, rfl⟩
              rw [← hW20]
              have R20 : Hid (RSt wr (some (.slice va7 U.length vc7)) U.length Cu #[.int .i64 dl, .int .i64 sv, .slice h us5.length c] none (some W7.heap.size) W20) := by rw [hW20]; exact R7.out.mkL
              clear hW20
              refine hK.out _ _ R20.out.1 (fun _ => ?_)
              clear hK K
              try simp only [Act.put, List.setIfInBounds_toArray, List.set_cons_zero, List.set_cons_succ, List.getElem_toArray, List.getElem_cons_succ, List.getElem_cons_zero]
              refine wpAnyH_ready (rs := [9]) (by kernel_rfl) (by simp) ?_
              refine AllReadyH.cons rfl (fun K hK => ?_) AllReadyH.nil
              go_simp
              obtain ⟨W21, hW21⟩ : ∃ W21, W21 = W20.alloc (Obj.cells #[.int .i64 dl, .int .i64 sv, .slice h us5.length c] 36) := ⟨_, rfl⟩
              rw [← hW21]
              have R21 : Hid (RSt wr (some (.slice va7 U.length vc7)) U.length Cu #[.int .i64 dl, .int .i64 sv, .slice h us5.length c] (some W20.heap.size) (some W7.heap.size) W21) := by rw [hW21]; exact R20.out.mkB
              clear hW21
              refine hK.out _ _ R21.out.1 (fun _ => ?_)
              clear hK K
              try simp only [Act.put, List.setIfInBounds_toArray, List.set_cons_zero, List.set_cons_succ, List.getElem_toArray, List.getElem_cons_succ, List.getElem_cons_zero]
              refine wpAnyH_ready (rs := [10]) (by kernel_rfl) (by simp) ?_
              refine AllReadyH.cons rfl (fun K hK => ?_) AllReadyH.nil
              refine step_append_any rfl (.tmp 35) (.tmp 40) 25 rfl wr.heap.size 36 i0 (.agg #[.int .i64 0, .int .i64 0, .slice none 0 0]) 3 40 Try.underlying25 hti hi0 hi1 hi2 rfl (by decide) (.slice va7 U.length vc7) _ _ (by simp [Act.eval]) (R21.out.2.1 _ rfl) (some ⟨W20.heap.size, 0, none⟩) 1 1 [.int .i64 dl, .int .i64 sv, .slice h us5.length c] (by simp [Act.eval]) rfl R21.out.news (by simp [Value.oneCell']) (by unfold maxLen; omega) (by omega) R21.out.1.size (fun va22 vc22 W22 hown hgrow hat => ?_)
              have R22 : Hid (RSt wr (some (.slice va22 (U.length + 1) vc22)) (U.length + 1) (Cu ++ [.int .i64 dl, .int .i64 sv, .slice h us5.length c]) #[.int .i64 dl, .int .i64 sv, .slice h us5.length c] (some W20.heap.size) (some W7.heap.size) W22) := R21.out.app hown hgrow hat
              clear hown hgrow hat
              refine hK.out _ _ R22.out.1 (fun _ => ?_)
              clear hK K
              try simp only [Act.put, List.setIfInBounds_toArray, List.set_cons_zero, List.set_cons_succ, List.getElem_toArray, List.getElem_cons_succ, List.getElem_cons_zero]
              refine wpAnyH_ready (rs := [11]) (by kernel_rfl) (by simp) ?_
              refine AllReadyH.cons rfl (fun K hK => ?_) AllReadyH.nil
              go_simp
              go_at_call 12
              refine (HPr.out _ _ _ R22.out.1 (R22.out.2.1 _ rfl)).mono ?_
              rintro e W23 ⟨x, y, q, m, cq, rfl, hb⟩
              have R23 : Hid (RSt wr (some (.slice va22 (U.length + 1) vc22)) (U.length + 1) (Cu ++ [.int .i64 dl, .int .i64 sv, .slice h us5.length c]) #[.int .i64 dl, .int .i64 sv, .slice h us5.length c] (some W20.heap.size) (some W7.heap.size) W23) := R22.out.later hb
              clear hb
              refine hK.out _ _ R23.out.1 (fun _ => ?_)
              clear hK K
              try simp only [Act.put, List.setIfInBounds_toArray, List.set_cons_zero, List.set_cons_succ, List.getElem_toArray, List.getElem_cons_succ, List.getElem_cons_zero]
              refine wpAnyH_take (i := 12) (v := .tuple #[.agg #[.int .i64 x, .int .i64 y, .slice q m cq], .int .i64 pc]) rfl (by kernel_rfl) (by kernel_rfl) (by kernel_rfl) (fun _ _ _ h => h) (Or.inl ⟨by rfl, fun w hSw => by go_simp⟩) R23.out.1 ?_
              try simp only [Act.put, List.setIfInBounds_toArray, List.set_cons_zero, List.set_cons_succ, List.getElem_toArray, List.getElem_cons_succ, List.getElem_cons_zero]
              refine wpAnyH_take (i := 13) (v := .agg #[.int .i64 x, .int .i64 y, .slice q m cq]) rfl (by kernel_rfl) (by kernel_rfl) (by kernel_rfl) (fun _ _ _ h => h) (Or.inl ⟨by rfl, fun w hSw => by go_simp⟩) R23.out.1 ?_
              try simp only [Act.put, List.setIfInBounds_toArray, List.set_cons_zero, List.set_cons_succ, List.getElem_toArray, List.getElem_cons_succ, List.getElem_cons_zero]
              refine wpAnyH_take (i := 14) (v := .int .i64 pc) rfl (by kernel_rfl) (by kernel_rfl) (by kernel_rfl) (fun _ _ _ h => h) (Or.inl ⟨by rfl, fun w hSw => by go_simp⟩) R23.out.1 ?_
              try simp only [Act.put, List.setIfInBounds_toArray, List.set_cons_zero, List.set_cons_succ, List.getElem_toArray, List.getElem_cons_succ, List.getElem_cons_zero]
              refine wpAnyH_ready (rs := [16]) (by kernel_rfl) (by simp) ?_
              refine AllReadyH.cons rfl (fun K hK => ?_) AllReadyH.nil
              have bL := R23.out.2.2.2 _ rfl
              have r0 := blkCell bL.2 0 _ rfl
              have r1 := blkCell bL.2 1 _ rfl
              have r2 := blkCell bL.2 2 _ rfl
              have f0 := blkFree bL.2 0
              have f1 := blkFree bL.2 1
              have f2 := blkFree bL.2 2
              have hB : Hid (Below wr.heap.size wr (((W23.setCell ⟨W7.heap.size, 0, none⟩ (.int .i64 x)).setCell ⟨W7.heap.size, 1, none⟩ (.int .i64 y)).setCell ⟨W7.heap.size, 2, none⟩ (.slice q m cq))) := ((R23.out.1.setCell bL.1 _).setCell bL.1 _).setCell bL.1 _
              simp only [List.getElem_toArray, List.getElem_cons_zero, List.getElem_cons_succ] at r0 r1 r2
              clear bL
              go_simp
              clear r0 r1 r2 f0 f1 f2
              refine hK.out _ _ hB.out (fun _ => ?_)
              clear hK K
              try simp only [Act.put, List.setIfInBounds_toArray, List.set_cons_zero, List.set_cons_succ, List.getElem_toArray, List.getElem_cons_succ, List.getElem_cons_zero]
              refine wpAnyH_take (i := 17) (v := .int .i64 pc) rfl (by kernel_rfl) (by kernel_rfl) (by kernel_rfl) (fun _ _ _ h => h) (Or.inl ⟨by rfl, fun w hSw => by go_simp⟩) hB.out ?_
              try simp only [Act.put, List.setIfInBounds_toArray, List.set_cons_zero, List.set_cons_succ, List.getElem_toArray, List.getElem_cons_succ, List.getElem_cons_zero]
              refine wpAnyH_done (by kernel_rfl) ?_ _
              go_wp2_with fail
              go_meet
              exact ⟨rfl, hB.out⟩
          · skip
            go_simp
            obtain ⟨W25, hW25⟩ : ∃ W25, W25 = W6.alloc (Obj.cells #[.int .i64 dl, .int .i64 sv, .slice h us5.length c] 36) := ⟨_, rfl⟩
            rw [← hW25]
            have R25 : Hid (RSt wr (some (.slice (some ⟨W5.heap.size, 0, none⟩) 0 0)) 0 [] #[.int .i64 dl, .int .i64 sv, .slice h us5.length c] (some W6.heap.size) none W25) := by rw [hW25]; exact R6.out.mkB
            clear hW25
            refine hK.out _ _ R25.out.1 (fun _ => ?_)
            clear hK K
            try simp only [Act.put, List.setIfInBounds_toArray, List.set_cons_zero, List.set_cons_succ, List.getElem_toArray, List.getElem_cons_succ, List.getElem_cons_zero]
            refine wpAnyH_ready (rs := [4, 15]) (by kernel_rfl) (by simp) ?_
            refine AllReadyH.cons rfl (fun K hK => ?_) (AllReadyH.cons rfl (fun K hK => ?_) AllReadyH.nil)
            · skip
              refine step_append_any rfl (.tmp 33) (.tmp 34) 25 rfl wr.heap.size 36 i0 (.agg #[.int .i64 0, .int .i64 0, .slice none 0 0]) 3 40 Try.underlying25 hti hi0 hi1 hi2 rfl (by decide) (.slice (some ⟨W5.heap.size, 0, none⟩) 0 0) _ _ (by simp [Act.eval]) (R25.out.2.1 _ rfl) (some ⟨g, 0, none⟩) U.length cp Cu (by simp [Act.eval]) HCl.out (HNw.out _ R25.out.1) HOn.out (by unfold maxLen; omega) (by omega) R25.out.1.size (fun va26 vc26 W26 hown hgrow hat => ?_)
              simp only [Nat.zero_add, List.nil_append] at hown hat ⊢
              have R26 : Hid (RSt wr (some (.slice va26 U.length vc26)) U.length Cu #[.int .i64 dl, .int .i64 sv, .slice h us5.length c] (some W6.heap.size) none W26) := R25.out.app hown hgrow hat
              clear hown hgrow hat
              refine hK.out _ _ R26.out.1 (fun _ => ?_)
              clear hK K
              try simp only [Act.put, List.setIfInBounds_toArray, List.set_cons_zero, List.set_cons_succ, List.getElem_toArray, List.getElem_cons_succ, List.getElem_cons_zero]
              refine wpAnyH_ready (rs := [10, 15]) (by kernel_rfl) (by simp) ?_
              refine AllReadyH.cons rfl (fun K hK => ?_) (AllReadyH.cons rfl (fun K hK => ?_) AllReadyH.nil)
              · skip
                refine step_append_any rfl (.tmp 35) (.tmp 40) 25 rfl wr.heap.size 36 i0 (.agg #[.int .i64 0, .int .i64 0, .slice none 0 0]) 3 40 Try.underlying25 hti hi0 hi1 hi2 rfl (by decide) (.slice va26 U.length vc26) _ _ (by simp [Act.eval]) (R26.out.2.1 _ rfl) (some ⟨W6.heap.size, 0, none⟩) 1 1 [.int .i64 dl, .int .i64 sv, .slice h us5.length c] (by simp [Act.eval]) rfl R26.out.news (by simp [Value.oneCell']) (by unfold maxLen; omega) (by omega) R26.out.1.size (fun va27 vc27 W27 hown hgrow hat => ?_)
                have R27 : Hid (RSt wr (some (.slice va27 (U.length + 1) vc27)) (U.length + 1) (Cu ++ [.int .i64 dl, .int .i64 sv, .slice h us5.length c]) #[.int .i64 dl, .int .i64 sv, .slice h us5.length c] (some W6.heap.size) none W27) := R26.out.app hown hgrow hat
                clear hown hgrow hat
                refine hK.out _ _ R27.out.1 (fun _ => ?_)
                clear hK K
                try simp only [Act.put, List.setIfInBounds_toArray, List.set_cons_zero, List.set_cons_succ, List.getElem_toArray, List.getElem_cons_succ, List.getElem_cons_zero]
                refine wpAnyH_ready (rs := [11, 15]) (by kernel_rfl) (by simp) ?_
                refine AllReadyH.cons rfl (fun K hK => ?_) (AllReadyH.cons rfl (fun K hK => ?_) AllReadyH.nil)
                · skip
                  go_simp
                  go_at_call 12
                  refine (HPr.out _ _ _ R27.out.1 (R27.out.2.1 _ rfl)).mono ?_
                  rintro e W28 ⟨x, y, q, m, cq, rfl, hb⟩
                  have R28 : Hid (RSt wr (some (.slice va27 (U.length + 1) vc27)) (U.length + 1) (Cu ++ [.int .i64 dl, .int .i64 sv, .slice h us5.length c]) #[.int .i64 dl, .int .i64 sv, .slice h us5.length c] (some W6.heap.size) none W28) := R27.out.later hb
                  clear hb
                  refine hK.out _ _ R28.out.1 (fun _ => ?_)
                  clear hK K
                  try simp only [Act.put, List.setIfInBounds_toArray, List.set_cons_zero, List.set_cons_succ, List.getElem_toArray, List.getElem_cons_succ, List.getElem_cons_zero]
                  refine wpAnyH_take (i := 12) (v := .tuple #[.agg #[.int .i64 x, .int .i64 y, .slice q m cq], .int .i64 pc]) rfl (by kernel_rfl) (by kernel_rfl) (by kernel_rfl) (fun _ _ _ h => h) (Or.inl ⟨by rfl, fun w hSw => by go_simp⟩) R28.out.1 ?_
                  try simp only [Act.put, List.setIfInBounds_toArray, List.set_cons_zero, List.set_cons_succ, List.getElem_toArray, List.getElem_cons_succ, List.getElem_cons_zero]
                  refine wpAnyH_take (i := 13) (v := .agg #[.int .i64 x, .int .i64 y, .slice q m cq]) rfl (by kernel_rfl) (by kernel_rfl) (by kernel_rfl) (fun _ _ _ h => h) (Or.inl ⟨by rfl, fun w hSw => by go_simp⟩) R28.out.1 ?_
                  try simp only [Act.put, List.setIfInBounds_toArray, List.set_cons_zero, List.set_cons_succ, List.getElem_toArray, List.getElem_cons_succ, List.getElem_cons_zero]
                  refine wpAnyH_take (i := 14) (v := .int .i64 pc) rfl (by kernel_rfl) (by kernel_rfl) (by kernel_rfl) (fun _ _ _ h => h) (Or.inl ⟨by rfl, fun w hSw => by go_simp⟩) R28.out.1 ?_
                  try simp only [Act.put, List.setIfInBounds_toArray, List.set_cons_zero, List.set_cons_succ, List.getElem_toArray, List.getElem_cons_succ, List.getElem_cons_zero]
                  refine wpAnyH_ready (rs := [15]) (by kernel_rfl) (by simp) ?_
                  refine AllReadyH.cons rfl (fun K hK => ?_) AllReadyH.nil
                  go_simp
                  obtain ⟨W29, hW29⟩ : ∃ W29, W29 = W28.alloc (Obj.cells #[.int .i64 0, .int .i64 0, .slice none 0 0] 29) := ⟨_, rfl⟩
                  rw [← hW29]
                  have R29 : Hid (RSt wr (some (.slice va27 (U.length + 1) vc27)) (U.length + 1) (Cu ++ [.int .i64 dl, .int .i64 sv, .slice h us5.length c]) #[.int .i64 dl, .int .i64 sv, .slice h us5.length c] (some W6.heap.size) (some W28.heap.size) W29) := by rw [hW29]; exact R28.out.mkL
                  clear hW29
                  refine hK.out _ _ R29.out.1 (fun _ => ?_)
                  clear hK K
                  try simp only [Act.put, List.setIfInBounds_toArray, List.set_cons_zero, List.set_cons_succ, List.getElem_toArray, List.getElem_cons_succ, List.getElem_cons_zero]
                  refine wpAnyH_ready (rs := [16]) (by kernel_rfl) (by simp) ?_
                  refine AllReadyH.cons rfl (fun K hK => ?_) AllReadyH.nil
                  have bL := R29.out.2.2.2 _ rfl
                  have r0 := blkCell bL.2 0 _ rfl
                  have r1 := blkCell bL.2 1 _ rfl
                  have r2 := blkCell bL.2 2 _ rfl
                  have f0 := blkFree bL.2 0
                  have f1 := blkFree bL.2 1
                  have f2 := blkFree bL.2 2
                  have hB : Hid (Below wr.heap.size wr (((W29.setCell ⟨W28.heap.size, 0, none⟩ (.int .i64 x)).setCell ⟨W28.heap.size, 1, none⟩ (.int .i64 y)).setCell ⟨W28.heap.size, 2, none⟩ (.slice q m cq))) := ((R29.out.1.setCell bL.1 _).setCell bL.1 _).setCell bL.1 _
                  simp only [List.getElem_toArray, List.getElem_cons_zero, List.getElem_cons_succ] at r0 r1 r2
                  clear bL
                  go_simp
                  clear r0 r1 r2 f0 f1 f2
                  refine hK.out _ _ hB.out (fun _ => ?_)
                  clear hK K
                  try simp only [Act.put, List.setIfInBounds_toArray, List.set_cons_zero, List.set_cons_succ, List.getElem_toArray, List.getElem_cons_succ, List.getElem_cons_zero]
                  refine wpAnyH_take (i := 17) (v := .int .i64 pc) rfl (by kernel_rfl) (by kernel_rfl) (by kernel_rfl) (fun _ _ _ h => h) (Or.inl ⟨by rfl, fun w hSw => by go_simp⟩) hB.out ?_
                  try simp only [Act.put, List.setIfInBounds_toArray, List.set_cons_zero, List.set_cons_succ, List.getElem_toArray, List.getElem_cons_succ, List.getElem_cons_zero]
                  refine wpAnyH_done (by kernel_rfl) ?_ _
                  go_wp2_with fail
                  go_meet
                  exact ⟨rfl, hB.out⟩
                · skip
                  go_simp
                  obtain ⟨W31, hW31⟩ : ∃ W31, W31 = W27.alloc (Obj.cells #[.int .i64 0, .int .i64 0, .slice none 0 0] 29) := ⟨_, rfl⟩
                  rw [← hW31]
                  have R31 : Hid (RSt wr (some (.slice va27 (U.length + 1) vc27)) (U.length + 1) (Cu ++ [.int .i64 dl, .int .i64 sv, .slice h us5.length c]) #[.int .i64 dl, .int .i64 sv, .slice h us5.length c] (some W6.heap.size) (some W27.heap.size) W31) := by rw [hW31]; exact R27.out.mkL
                  clear hW31
                  refine hK.out _ _ R31.out.1 (fun _ => ?_)
                  clear hK K
                  try simp only [Act.put, List.setIfInBounds_toArray, List.set_cons_zero, List.set_cons_succ, List.getElem_toArray, List.getElem_cons_succ, List.getElem_cons_zero]
                  refine wpAnyH_ready (rs := [11]) (by kernel_rfl) (by simp) ?_
                  refine AllReadyH.cons rfl (fun K hK => ?_) AllReadyH.nil
                  go_simp
                  go_at_call 12
                  refine (HPr.out _ _ _ R31.out.1 (R31.out.2.1 _ rfl)).mono ?_
                  rintro e W32 ⟨x, y, q, m, cq, rfl, hb⟩
                  have R32 : Hid (RSt wr (some (.slice va27 (U.length + 1) vc27)) (U.length + 1) (Cu ++ [.int .i64 dl, .int .i64 sv, .slice h us5.length c]) #[.int .i64 dl, .int .i64 sv, .slice h us5.length c] (some W6.heap.size) (some W27.heap.size) W32) := R31.out.later hb
                  clear hb
                  refine hK.out _ _ R32.out.1 (fun _ => ?_)
                  clear hK K
                  try simp only [Act.put, List.setIfInBounds_toArray, List.set_cons_zero, List.set_cons_succ, List.getElem_toArray, List.getElem_cons_succ, List.getElem_cons_zero]
                  refine wpAnyH_take (i := 12) (v := .tuple #[.agg #[.int .i64 x, .int .i64 y, .slice q m cq], .int .i64 pc]) rfl (by kernel_rfl) (by kernel_rfl) (by kernel_rfl) (fun _ _ _ h => h) (Or.inl ⟨by rfl, fun w hSw => by go_simp⟩) R32.out.1 ?_
                  try simp only [Act.put, List.setIfInBounds_toArray, List.set_cons_zero, List.set_cons_succ, List.getElem_toArray, List.getElem_cons_succ, List.getElem_cons_zero]
                  refine wpAnyH_take (i := 13) (v := .agg #[.int .i64 x, .int .i64 y, .slice q m cq]) rfl (by kernel_rfl) (by kernel_rfl) (by kernel_rfl) (fun _ _ _ h => h) (Or.inl ⟨by rfl, fun w hSw => by go_simp⟩) R32.out.1 ?_
                  try simp only [Act.put, List.setIfInBounds_toArray, List.set_cons_zero, List.set_cons_succ, List.getElem_toArray, List.getElem_cons_succ, List.getElem_cons_zero]
                  refine wpAnyH_take (i := 14) (v := .int .i64 pc) rfl (by kernel_rfl) (by kernel_rfl) (by kernel_rfl) (fun _ _ _ h => h) (Or.inl ⟨by rfl, fun w hSw => by go_simp⟩) R32.out.1 ?_
                  try simp only [Act.put, List.setIfInBounds_toArray, List.set_cons_zero, List.set_cons_succ, List.getElem_toArray, List.getElem_cons_succ, List.getElem_cons_zero]
                  refine wpAnyH_ready (rs := [16]) (by kernel_rfl) (by simp) ?_
                  refine AllReadyH.cons rfl (fun K hK => ?_) AllReadyH.nil
                  have bL := R32.out.2.2.2 _ rfl
                  have r0 := blkCell bL.2 0 _ rfl
                  have r1 := blkCell bL.2 1 _ rfl
                  have r2 := blkCell bL.2 2 _ rfl
                  have f0 := blkFree bL.2 0
                  have f1 := blkFree bL.2 1
                  have f2 := blkFree bL.2 2
                  have hB : Hid (Below wr.heap.size wr (((W32.setCell ⟨W27.heap.size, 0, none⟩ (.int .i64 x)).setCell ⟨W27.heap.size, 1, none⟩ (.int .i64 y)).setCell ⟨W27.heap.size, 2, none⟩ (.slice q m cq))) := ((R32.out.1.setCell bL.1 _).setCell bL.1 _).setCell bL.1 _
                  simp only [List.getElem_toArray, List.getElem_cons_zero, List.getElem_cons_succ] at r0 r1 r2
                  clear bL
                  go_simp
                  clear r0 r1 r2 f0 f1 f2
                  refine hK.out _ _ hB.out (fun _ => ?_)
                  clear hK K
                  try simp only [Act.put, List.setIfInBounds_toArray, List.set_cons_zero, List.set_cons_succ, List.getElem_toArray, List.getElem_cons_succ, List.getElem_cons_zero]
                  refine wpAnyH_take (i := 17) (v := .int .i64 pc) rfl (by kernel_rfl) (by kernel_rfl) (by kernel_rfl) (fun _ _ _ h => h) (Or.inl ⟨by rfl, fun w hSw => by go_simp⟩) hB.out ?_
                  try simp only [Act.put, List.setIfInBounds_toArray, List.set_cons_zero, List.set_cons_succ, List.getElem_toArray, List.getElem_cons_succ, List.getElem_cons_zero]
                  refine wpAnyH_done (by kernel_rfl) ?_ _
                  go_wp2_with fail
                  go_meet
                  exact ⟨rfl, hB.out⟩
              · skip
                go_simp
                obtain ⟨W34, hW34⟩ : ∃ W34, W34 = W26.alloc (Obj.cells #[.int .i64 0, .int .i64 0, .slice none 0 0] 29) := ⟨_, rfl⟩
                rw [← hW34]
                have R34 : Hid (RSt wr (some (.slice va26 U.length vc26)) U.length Cu #[.int .i64 dl, .int .i64 sv, .slice h us5.length c] (some W6.heap.size) (some W26.heap.size) W34) := by rw [hW34]; exact R26.out.mkL
                clear hW34
                refine hK.out _ _ R34.out.1 (fun _ => ?_)
                clear hK K
                try simp only [Act.put, List.setIfInBounds_toArray, List.set_cons_zero, List.set_cons_succ, List.getElem_toArray, List.getElem_cons_succ, List.getElem_cons_zero]
                refine wpAnyH_ready (rs := [10]) (by kernel_rfl) (by simp) ?_
                refine AllReadyH.cons rfl (fun K hK => ?_) AllReadyH.nil
                refine step_append_any rfl (.tmp 35) (.tmp 40) 25 rfl wr.heap.size 36 i0 (.agg #[.int .i64 0, .int .i64 0, .slice none 0 0]) 3 40 Try.underlying25 hti hi0 hi1 hi2 rfl (by decide) (.slice va26 U.length vc26) _ _ (by simp [Act.eval]) (R34.out.2.1 _ rfl) (some ⟨W6.heap.size, 0, none⟩) 1 1 [.int .i64 dl, .int .i64 sv, .slice h us5.length c] (by simp [Act.eval]) rfl R34.out.news (by simp [Value.oneCell']) (by unfold maxLen; omega) (by omega) R34.out.1.size (fun va35 vc35 W35 hown hgrow hat => ?_)
                have R35 : Hid (RSt wr (some (.slice va35 (U.length + 1) vc35)) (U.length + 1) (Cu ++ [.int .i64 dl, .int .i64 sv, .slice h us5.length c]) #[.int .i64 dl, .int .i64 sv, .slice h us5.length c] (some W6.heap.size) (some W26.heap.size) W35) := R34.out.app hown hgrow hat
                clear hown hgrow hat
                refine hK.out _ _ R35.out.1 (fun _ => ?_)
                clear hK K
                try simp only [Act.put, List.setIfInBounds_toArray, List.set_cons_zero, List.set_cons_succ, List.getElem_toArray, List.getElem_cons_succ, List.getElem_cons_zero]
                refine wpAnyH_ready (rs := [11]) (by kernel_rfl) (by simp) ?_
                refine AllReadyH.cons rfl (fun K hK => ?_) AllReadyH.nil
                go_simp
                go_at_call 12
                refine (HPr.out _ _ _ R35.out.1 (R35.out.2.1 _ rfl)).mono ?_
                rintro e W36 ⟨x, y, q, m, cq, rfl, hb⟩
                have R36 : Hid (RSt wr (some (.slice va35 (U.length + 1) vc35)) (U.length + 1) (Cu ++ [.int .i64 dl, .int .i64 sv, .slice h us5.length c]) #[.int .i64 dl, .int .i64 sv, .slice h us5.length c] (some W6.heap.size) (some W26.heap.size) W36) := R35.out.later hb
                clear hb
                refine hK.out _ _ R36.out.1 (fun _ => ?_)
                clear hK K
                try simp only [Act.put, List.setIfInBounds_toArray, List.set_cons_zero, List.set_cons_succ, List.getElem_toArray, List.getElem_cons_succ, List.getElem_cons_zero]
                refine wpAnyH_take (i := 12) (v := .tuple #[.agg #[.int .i64 x, .int .i64 y, .slice q m cq], .int .i64 pc]) rfl (by kernel_rfl) (by kernel_rfl) (by kernel_rfl) (fun _ _ _ h => h) (Or.inl ⟨by rfl, fun w hSw => by go_simp⟩) R36.out.1 ?_
                try simp only [Act.put, List.setIfInBounds_toArray, List.set_cons_zero, List.set_cons_succ, List.getElem_toArray, List.getElem_cons_succ, List.getElem_cons_zero]
                refine wpAnyH_take (i := 13) (v := .agg #[.int .i64 x, .int .i64 y, .slice q m cq]) rfl (by kernel_rfl) (by kernel_rfl) (by kernel_rfl) (fun _ _ _ h => h) (Or.inl ⟨by rfl, fun w hSw => by go_simp⟩) R36.out.1 ?_
                try simp only [Act.put, List.setIfInBounds_toArray, List.set_cons_zero, List.set_cons_succ, List.getElem_toArray, List.getElem_cons_succ, List.getElem_cons_zero]
                refine wpAnyH_take (i := 14) (v := .int .i64 pc) rfl (by kernel_rfl) (by kernel_rfl) (by kernel_rfl) (fun _ _ _ h => h) (Or.inl ⟨by rfl, fun w hSw => by go_simp⟩) R36.out.1 ?_
                try simp only [Act.put, List.setIfInBounds_toArray, List.set_cons_zero, List.set_cons_succ, List.getElem_toArray, List.getElem_cons_succ, List.getElem_cons_zero]
                refine wpAnyH_ready (rs := [16]) (by kernel_rfl) (by simp) ?_
                refine AllReadyH.cons rfl (fun K hK => ?_) AllReadyH.nil
                have bL := R36.out.2.2.2 _ rfl
                have r0 := blkCell bL.2 0 _ rfl
                have r1 := blkCell bL.2 1 _ rfl
                have r2 := blkCell bL.2 2 _ rfl
                have f0 := blkFree bL.2 0
                have f1 := blkFree bL.2 1
                have f2 := blkFree bL.2 2
                have hB : Hid (Below wr.heap.size wr (((W36.setCell ⟨W26.heap.size, 0, none⟩ (.int .i64 x)).setCell ⟨W26.heap.size, 1, none⟩ (.int .i64 y)).setCell ⟨W26.heap.size, 2, none⟩ (.slice q m cq))) := ((R36.out.1.setCell bL.1 _).setCell bL.1 _).setCell bL.1 _
                simp only [List.getElem_toArray, List.getElem_cons_zero, List.getElem_cons_succ] at r0 r1 r2
                clear bL
                go_simp
                clear r0 r1 r2 f0 f1 f2
                refine hK.out _ _ hB.out (fun _ => ?_)
                clear hK K
                try simp only [Act.put, List.setIfInBounds_toArray, List.set_cons_zero, List.set_cons_succ, List.getElem_toArray, List.getElem_cons_succ, List.getElem_cons_zero]
                refine wpAnyH_take (i := 17) (v := .int .i64 pc) rfl (by kernel_rfl) (by kernel_rfl) (by kernel_rfl) (fun _ _ _ h => h) (Or.inl ⟨by rfl, fun w hSw => by go_simp⟩) hB.out ?_
                try simp only [Act.put, List.setIfInBounds_toArray, List.set_cons_zero, List.set_cons_succ, List.getElem_toArray, List.getElem_cons_succ, List.getElem_cons_zero]
                refine wpAnyH_done (by kernel_rfl) ?_ _
                go_wp2_with fail
                go_meet
                exact ⟨rfl, hB.out⟩
            · skip
              go_simp
              obtain ⟨W38, hW38⟩ : ∃ W38, W38 = W25.alloc (Obj.cells #[.int .i64 0, .int .i64 0, .slice none 0 0] 29) := ⟨_, rfl⟩
              rw [← hW38]
              have R38 : Hid (RSt wr (some (.slice (some ⟨W5.heap.size, 0, none⟩) 0 0)) 0 [] #[.int .i64 dl, .int .i64 sv, .slice h us5.length c] (some W6.heap.size) (some W25.heap.size) W38) := by rw [hW38]; exact R25.out.mkL
              clear hW38
              refine hK.out _ _ R38.out.1 (fun _ => ?_)
              clear hK K
              try simp only [Act.put, List.setIfInBounds_toArray, List.set_cons_zero, List.set_cons_succ, List.getElem_toArray, List.getElem_cons_succ, List.getElem_cons_zero]
              refine wpAnyH_ready (rs := [4]) (by kernel_rfl) (by simp) ?_
              refine AllReadyH.cons rfl (fun K hK => ?_) AllReadyH.nil
              refine step_append_any rfl (.tmp 33) (.tmp 34) 25 rfl wr.heap.size 36 i0 (.agg #[.int .i64 0, .int .i64 0, .slice none 0 0]) 3 40 Try.underlying25 hti hi0 hi1 hi2 rfl (by decide) (.slice (some ⟨W5.heap.size, 0, none⟩) 0 0) _ _ (by simp [Act.eval]) (R38.out.2.1 _ rfl) (some ⟨g, 0, none⟩) U.length cp Cu (by simp [Act.eval]) HCl.out (HNw.out _ R38.out.1) HOn.out (by unfold maxLen; omega) (by omega) R38.out.1.size (fun va39 vc39 W39 hown hgrow hat => ?_)
              simp only [Nat.zero_add, List.nil_append] at hown hat ⊢
              have R39 : Hid (RSt wr (some (.slice va39 U.length vc39)) U.length Cu #[.int .i64 dl, .int .i64 sv, .slice h us5.length c] (some W6.heap.size) (some W25.heap.size) W39) := R38.out.app hown hgrow hat
              clear hown hgrow hat
              refine hK.out _ _ R39.out.1 (fun _ => ?_)
              clear hK K
              try simp only [Act.put, List.setIfInBounds_toArray, List.set_cons_zero, List.set_cons_succ, List.getElem_toArray, List.getElem_cons_succ, List.getElem_cons_zero]
              refine wpAnyH_ready (rs := [10]) (by kernel_rfl) (by simp) ?_
              refine AllReadyH.cons rfl (fun K hK => ?_) AllReadyH.nil
              refine step_append_any rfl (.tmp 35) (.tmp 40) 25 rfl wr.heap.size 36 i0 (.agg #[.int .i64 0, .int .i64 0, .slice none 0 0]) 3 40 Try.underlying25 hti hi0 hi1 hi2 rfl (by decide) (.slice va39 U.length vc39) _ _ (by simp [Act.eval]) (R39.out.2.1 _ rfl) (some ⟨W6.heap.size, 0, none⟩) 1 1 [.int .i64 dl, .int .i64 sv, .slice h us5.length c] (by simp [Act.eval]) rfl R39.out.news (by simp [Value.oneCell']) (by unfold maxLen; omega) (by omega) R39.out.1.size (fun va40 vc40 W40 hown hgrow hat => ?_)
              have R40 : Hid (RSt wr (some (.slice va40 (U.length + 1) vc40)) (U.length + 1) (Cu ++ [.int .i64 dl, .int .i64 sv, .slice h us5.length c]) #[.int .i64 dl, .int .i64 sv, .slice h us5.length c] (some W6.heap.size) (some W25.heap.size) W40) := R39.out.app hown hgrow hat
              clear hown hgrow hat
              refine hK.out _ _ R40.out.1 (fun _ => ?_)
              clear hK K
              try simp only [Act.put, List.setIfInBounds_toArray, List.set_cons_zero, List.set_cons_succ, List.getElem_toArray, List.getElem_cons_succ, List.getElem_cons_zero]
              refine wpAnyH_ready (rs := [11]) (by kernel_rfl) (by simp) ?_
              refine AllReadyH.cons rfl (fun K hK => ?_) AllReadyH.nil
              go_simp
              go_at_call 12
              refine (HPr.out _ _ _ R40.out.1 (R40.out.2.1 _ rfl)).mono ?_
              rintro e W41 ⟨x, y, q, m, cq, rfl, hb⟩
              have R41 : Hid (RSt wr (some (.slice va40 (U.length + 1) vc40)) (U.length + 1) (Cu ++ [.int .i64 dl, .int .i64 sv, .slice h us5.length c]) #[.int .i64 dl, .int .i64 sv, .slice h us5.length c] (some W6.heap.size) (some W25.heap.size) W41) := R40.out.later hb
              clear hb
              refine hK.out _ _ R41.out.1 (fun _ => ?_)
              clear hK K
              try simp only [Act.put, List.setIfInBounds_toArray, List.set_cons_zero, List.set_cons_succ, List.getElem_toArray, List.getElem_cons_succ, List.getElem_cons_zero]
              refine wpAnyH_take (i := 12) (v := .tuple #[.agg #[.int .i64 x, .int .i64 y, .slice q m cq], .int .i64 pc]) rfl (by kernel_rfl) (by kernel_rfl) (by kernel_rfl) (fun _ _ _ h => h) (Or.inl ⟨by rfl, fun w hSw => by go_simp⟩) R41.out.1 ?_
              try simp only [Act.put, List.setIfInBounds_toArray, List.set_cons_zero, List.set_cons_succ, List.getElem_toArray, List.getElem_cons_succ, List.getElem_cons_zero]
              refine wpAnyH_take (i := 13) (v := .agg #[.int .i64 x, .int .i64 y, .slice q m cq]) rfl (by kernel_rfl) (by kernel_rfl) (by kernel_rfl) (fun _ _ _ h => h) (Or.inl ⟨by rfl, fun w hSw => by go_simp⟩) R41.out.1 ?_
              try simp only [Act.put, List.setIfInBounds_toArray, List.set_cons_zero, List.set_cons_succ, List.getElem_toArray, List.getElem_cons_succ, List.getElem_cons_zero]
              refine wpAnyH_take (i := 14) (v := .int .i64 pc) rfl (by kernel_rfl) (by kernel_rfl) (by kernel_rfl) (fun _ _ _ h => h) (Or.inl ⟨by rfl, fun w hSw => by go_simp⟩) R41.out.1 ?_
              try simp only [Act.put, List.setIfInBounds_toArray, List.set_cons_zero, List.set_cons_succ, List.getElem_toArray, List.getElem_cons_succ, List.getElem_cons_zero]
              refine wpAnyH_ready (rs := [16]) (by kernel_rfl) (by simp) ?_
              refine AllReadyH.cons rfl (fun K hK => ?_) AllReadyH.nil
              have bL := R41.out.2.2.2 _ rfl
              have r0 := blkCell bL.2 0 _ rfl
              have r1 := blkCell bL.2 1 _ rfl
              have r2 := blkCell bL.2 2 _ rfl
              have f0 := blkFree bL.2 0
              have f1 := blkFree bL.2 1
              have f2 := blkFree bL.2 2
              have hB : Hid (Below wr.heap.size wr (((W41.setCell ⟨W25.heap.size, 0, none⟩ (.int .i64 x)).setCell ⟨W25.heap.size, 1, none⟩ (.int .i64 y)).setCell ⟨W25.heap.size, 2, none⟩ (.slice q m cq))) := ((R41.out.1.setCell bL.1 _).setCell bL.1 _).setCell bL.1 _
              simp only [List.getElem_toArray, List.getElem_cons_zero, List.getElem_cons_succ] at r0 r1 r2
              clear bL
              go_simp
              clear r0 r1 r2 f0 f1 f2
              refine hK.out _ _ hB.out (fun _ => ?_)
              clear hK K
              try simp only [Act.put, List.setIfInBounds_toArray, List.set_cons_zero, List.set_cons_succ, List.getElem_toArray, List.getElem_cons_succ, List.getElem_cons_zero]
              refine wpAnyH_take (i := 17) (v := .int .i64 pc) rfl (by kernel_rfl) (by kernel_rfl) (by kernel_rfl) (fun _ _ _ h => h) (Or.inl ⟨by rfl, fun w hSw => by go_simp⟩) hB.out ?_
              try simp only [Act.put, List.setIfInBounds_toArray, List.set_cons_zero, List.set_cons_succ, List.getElem_toArray, List.getElem_cons_succ, List.getElem_cons_zero]
              refine wpAnyH_done (by kernel_rfl) ?_ _
              go_wp2_with fail
              go_meet
              exact ⟨rfl, hB.out⟩
          · skip
            go_simp
            obtain ⟨W43, hW43⟩ : ∃ W43, W43 = W6.alloc (Obj.cells #[.int .i64 0, .int .i64 0, .slice none 0 0] 29) := ⟨_, rfl⟩
            rw [← hW43]
            have R43 : Hid (RSt wr (some (.slice (some ⟨W5.heap.size, 0, none⟩) 0 0)) 0 [] #[.int .i64 dl, .int .i64 sv, .slice h us5.length c] none (some W6.heap.size) W43) := by rw [hW43]; exact R6.out.mkL
            clear hW43
            refine hK.out _ _ R43.out.1 (fun _ => ?_)
            clear hK K
            try simp only [Act.put, List.setIfInBounds_toArray, List.set_cons_zero, List.set_cons_succ, List.getElem_toArray, List.getElem_cons_succ, List.getElem_cons_zero]
            refine wpAnyH_ready (rs := [4, 9]) (by kernel_rfl) (by simp) ?_
            refine AllReadyH.cons rfl (fun K hK => ?_) (AllReadyH.cons rfl (fun K hK => ?_) AllReadyH.nil)
            · skip
              refine step_append_any rfl (.tmp 33) (.tmp 34) 25 rfl wr.heap.size 36 i0 (.agg #[.int .i64 0, .int .i64 0, .slice none 0 0]) 3 40 Try.underlying25 hti hi0 hi1 hi2 rfl (by decide) (.slice (some ⟨W5.heap.size, 0, none⟩) 0 0) _ _ (by simp [Act.eval]) (R43.out.2.1 _ rfl) (some ⟨g, 0, none⟩) U.length cp Cu (by simp [Act.eval]) HCl.out (HNw.out _ R43.out.1) HOn.out (by unfold maxLen; omega) (by omega) R43.out.1.size (fun va44 vc44 W44 hown hgrow hat => ?_)
              simp only [Nat.zero_add, List.nil_append] at hown hat ⊢
              have R44 : Hid (RSt wr (some (.slice va44 U.length vc44)) U.length Cu #[.int .i64 dl, .int .i64 sv, .slice h us5.length c] none (some W6.heap.size) W44) := R43.out.app hown hgrow hat
              clear hown hgrow hat
              refine hK.out _ _ R44.out.1 (fun _ => ?_)
              clear hK K
              try simp only [Act.put, List.setIfInBounds_toArray, List.set_cons_zero, List.set_cons_succ, List.getElem_toArray, List.getElem_cons_succ, List.getElem_cons_zero]
              refine wpAnyH_ready (rs := [9]) (by kernel_rfl) (by simp) ?_
              refine AllReadyH.cons rfl (fun K hK => ?_) AllReadyH.nil
              go_simp
              obtain ⟨W45, hW45⟩ : ∃ W45, W45 = W44.alloc (Obj.cells #[.int .i64 dl, .int .i64 sv, .slice h us5.length c] 36) := ⟨_, rfl⟩
              rw [← hW45]
              have R45 : Hid (RSt wr (some (.slice va44 U.length vc44)) U.length Cu #[.int .i64 dl, .int .i64 sv, .slice h us5.length c] (some W44.heap.size) (some W6.heap.size) W45) := by rw [hW45]; exact R44.out.mkB
              clear hW45
              refine hK.out _ _ R45.out.1 (fun _ => ?_)
              clear hK K
              try simp only [Act.put, List.setIfInBounds_toArray, List.set_cons_zero, List.set_cons_succ, List.getElem_toArray, List.getElem_cons_succ, List.getElem_cons_zero]
              refine wpAnyH_ready (rs := [10]) (by kernel_rfl) (by simp) ?_
              refine AllReadyH.cons rfl (fun K hK => ?_) AllReadyH.nil
              refine step_append_any rfl (.tmp 35) (.tmp 40) 25 rfl wr.heap.size 36 i0 (.agg #[.int .i64 0, .int .i64 0, .slice none 0 0]) 3 40 Try.underlying25 hti hi0 hi1 hi2 rfl (by decide) (.slice va44 U.length vc44) _ _ (by simp [Act.eval]) (R45.out.2.1 _ rfl) (some ⟨W44.heap.size, 0, none⟩) 1 1 [.int .i64 dl, .int .i64 sv, .slice h us5.length c] (by simp [Act.eval]) rfl R45.out.news (by simp [Value.oneCell']) (by unfold maxLen; omega) (by omega) R45.out.1.size (fun va46 vc46 W46 hown hgrow hat => ?_)
              have R46 : Hid (RSt wr (some (.slice va46 (U.length + 1) vc46)) (U.length + 1) (Cu ++ [.int .i64 dl, .int .i64 sv, .slice h us5.length c]) #[.int .i64 dl, .int .i64 sv, .slice h us5.length c] (some W44.heap.size) (some W6.heap.size) W46) := R45.out.app hown hgrow hat
              clear hown hgrow hat
              refine hK.out _ _ R46.out.1 (fun _ => ?_)
              clear hK K
              try simp only [Act.put, List.setIfInBounds_toArray, List.set_cons_zero, List.set_cons_succ, List.getElem_toArray, List.getElem_cons_succ, List.getElem_cons_zero]
              refine wpAnyH_ready (rs := [11]) (by kernel_rfl) (by simp) ?_
              refine AllReadyH.cons rfl (fun K hK => ?_) AllReadyH.nil
              go_simp
              go_at_call 12
              refine (HPr.out _ _ _ R46.out.1 (R46.out.2.1 _ rfl)).mono ?_
              rintro e W47 ⟨x, y, q, m, cq, rfl, hb⟩
              have R47 : Hid (RSt wr (some (.slice va46 (U.length + 1) vc46)) (U.length + 1) (Cu ++ [.int .i64 dl, .int .i64 sv, .slice h us5.length c]) #[.int .i64 dl, .int .i64 sv, .slice h us5.length c] (some W44.heap.size) (some W6.heap.size) W47) := R46.out.later hb
              clear hb
              refine hK.out _ _ R47.out.1 (fun _ => ?_)
              clear hK K
              try simp only [Act.put, List.setIfInBounds_toArray, List.set_cons_zero, List.set_cons_succ, List.getElem_toArray, List.getElem_cons_succ, List.getElem_cons_zero]
              refine wpAnyH_take (i := 12) (v := .tuple #[.agg #[.int .i64 x, .int .i64 y, .slice q m cq], .int .i64 pc]) rfl (by kernel_rfl) (by kernel_rfl) (by kernel_rfl) (fun _ _ _ h => h) (Or.inl ⟨by rfl, fun w hSw => by go_simp⟩) R47.out.1 ?_
              try simp only [Act.put, List.setIfInBounds_toArray, List.set_cons_zero, List.set_cons_succ, List.getElem_toArray, List.getElem_cons_succ, List.getElem_cons_zero]
              refine wpAnyH_take (i := 13) (v := .agg #[.int .i64 x, .int .i64 y, .slice q m cq]) rfl (by kernel_rfl) (by kernel_rfl) (by kernel_rfl) (fun _ _ _ h => h) (Or.inl ⟨by rfl, fun w hSw => by go_simp⟩) R47.out.1 ?_
              try simp only [Act.put, List.setIfInBounds_toArray, List.set_cons_zero, List.set_cons_succ, List.getElem_toArray, List.getElem_cons_succ, List.getElem_cons_zero]
              refine wpAnyH_take (i := 14) (v := .int .i64 pc) rfl (by kernel_rfl) (by kernel_rfl) (by kernel_rfl) (fun _ _ _ h => h) (Or.inl ⟨by rfl, fun w hSw => by go_simp⟩) R47.out.1 ?_
              try simp only [Act.put, List.setIfInBounds_toArray, List.set_cons_zero, List.set_cons_succ, List.getElem_toArray, List.getElem_cons_succ, List.getElem_cons_zero]
              refine wpAnyH_ready (rs := [16]) (by kernel_rfl) (by simp) ?_
              refine AllReadyH.cons rfl (fun K hK => ?_) AllReadyH.nil
              have bL := R47.out.2.2.2 _ rfl
              have r0 := blkCell bL.2 0 _ rfl
              have r1 := blkCell bL.2 1 _ rfl
              have r2 := blkCell bL.2 2 _ rfl
              have f0 := blkFree bL.2 0
              have f1 := blkFree bL.2 1
              have f2 := blkFree bL.2 2
              have hB : Hid (Below wr.heap.size wr (((W47.setCell ⟨W6.heap.size, 0, none⟩ (.int .i64 x)).setCell ⟨W6.heap.size, 1, none⟩ (.int .i64 y)).setCell ⟨W6.heap.size, 2, none⟩ (.slice q m cq))) := ((R47.out.1.setCell bL.1 _).setCell bL.1 _).setCell bL.1 _
              simp only [List.getElem_toArray, List.getElem_cons_zero, List.getElem_cons_succ] at r0 r1 r2
              clear bL
              go_simp
              clear r0 r1 r2 f0 f1 f2
              refine hK.out _ _ hB.out (fun _ => ?_)
              clear hK K
              try simp only [Act.put, List.setIfInBounds_toArray, List.set_cons_zero, List.set_cons_succ, List.getElem_toArray, List.getElem_cons_succ, List.getElem_cons_zero]
              refine wpAnyH_take (i := 17) (v := .int .i64 pc) rfl (by kernel_rfl) (by kernel_rfl) (by kernel_rfl) (fun _ _ _ h => h) (Or.inl ⟨by rfl, fun w hSw => by go_simp⟩) hB.out ?_
              try simp only [Act.put, List.setIfInBounds_toArray, List.set_cons_zero, List.set_cons_succ, List.getElem_toArray, List.getElem_cons_succ, List.getElem_cons_zero]
              refine wpAnyH_done (by kernel_rfl) ?_ _
              go_wp2_with fail
              go_meet
              exact ⟨rfl, hB.out⟩
            · skip
              go_simp
              obtain ⟨W49, hW49⟩ : ∃ W49, W49 = W43.alloc (Obj.cells #[.int .i64 dl, .int .i64 sv, .slice h us5.length c] 36) := ⟨_, rfl⟩
              rw [← hW49]
              have R49 : Hid (RSt wr (some (.slice (some ⟨W5.heap.size, 0, none⟩) 0 0)) 0 [] #[.int .i64 dl, .int .i64 sv, .slice h us5.length c] (some W43.heap.size) (some W6.heap.size) W49) := by rw [hW49]; exact R43.out.mkB
              clear hW49
              refine hK.out _ _ R49.out.1 (fun _ => ?_)
              clear hK K
              try simp only [Act.put, List.setIfInBounds_toArray, List.set_cons_zero, List.set_cons_succ, List.getElem_toArray, List.getElem_cons_succ, List.getElem_cons_zero]
              refine wpAnyH_ready (rs := [4]) (by kernel_rfl) (by simp) ?_
              refine AllReadyH.cons rfl (fun K hK => ?_) AllReadyH.nil
              refine step_append_any rfl (.tmp 33) (.tmp 34) 25 rfl wr.heap.size 36 i0 (.agg #[.int .i64 0, .int .i64 0, .slice none 0 0]) 3 40 Try.underlying25 hti hi0 hi1 hi2 rfl (by decide) (.slice (some ⟨W5.heap.size, 0, none⟩) 0 0) _ _ (by simp [Act.eval]) (R49.out.2.1 _ rfl) (some ⟨g, 0, none⟩) U.length cp Cu (by simp [Act.eval]) HCl.out (HNw.out _ R49.out.1) HOn.out (by unfold maxLen; omega) (by omega) R49.out.1.size (fun va50 vc50 W50 hown hgrow hat => ?_)
              simp only [Nat.zero_add, List.nil_append] at hown hat ⊢
              have R50 : Hid (RSt wr (some (.slice va50 U.length vc50)) U.length Cu #[.int .i64 dl, .int .i64 sv, .slice h us5.length c] (some W43.heap.size) (some W6.heap.size) W50) := R49.out.app hown hgrow hat
              clear hown hgrow hat
              refine hK.out _ _ R50.out.1 (fun _ => ?_)
              clear hK K
              try simp only [Act.put, List.setIfInBounds_toArray, List.set_cons_zero, List.set_cons_succ, List.getElem_toArray, List.getElem_cons_succ, List.getElem_cons_zero]
              refine wpAnyH_ready (rs := [10]) (by kernel_rfl) (by simp) ?_
              refine AllReadyH.cons rfl (fun K hK => ?_) AllReadyH.nil
              refine step_append_any rfl (.tmp 35) (.tmp 40) 25 rfl wr.heap.size 36 i0 (.agg #[.int .i64 0, .int .i64 0, .slice none 0 0]) 3 40 Try.underlying25 hti hi0 hi1 hi2 rfl (by decide) (.slice va50 U.length vc50) _ _ (by simp [Act.eval]) (R50.out.2.1 _ rfl) (some ⟨W43.heap.size, 0, none⟩) 1 1 [.int .i64 dl, .int .i64 sv, .slice h us5.length c] (by simp [Act.eval]) rfl R50.out.news (by simp [Value.oneCell']) (by unfold maxLen; omega) (by omega) R50.out.1.size (fun va51 vc51 W51 hown hgrow hat => ?_)
              have R51 : Hid (RSt wr (some (.slice va51 (U.length + 1) vc51)) (U.length + 1) (Cu ++ [.int .i64 dl, .int .i64 sv, .slice h us5.length c]) #[.int .i64 dl, .int .i64 sv, .slice h us5.length c] (some W43.heap.size) (some W6.heap.size) W51) := R50.out.app hown hgrow hat
              clear hown hgrow hat
              refine hK.out _ _ R51.out.1 (fun _ => ?_)
              clear hK K
              try simp only [Act.put, List.setIfInBounds_toArray, List.set_cons_zero, List.set_cons_succ, List.getElem_toArray, List.getElem_cons_succ, List.getElem_cons_zero]
              refine wpAnyH_ready (rs := [11]) (by kernel_rfl) (by simp) ?_
              refine AllReadyH.cons rfl (fun K hK => ?_) AllReadyH.nil
              go_simp
              go_at_call 12
              refine (HPr.out _ _ _ R51.out.1 (R51.out.2.1 _ rfl)).mono ?_
              rintro e W52 ⟨x, y, q, m, cq, rfl, hb⟩
              have R52 : Hid (RSt wr (some (.slice va51 (U.length + 1) vc51)) (U.length + 1) (Cu ++ [.int .i64 dl, .int .i64 sv, .slice h us5.length c]) #[.int .i64 dl, .int .i64 sv, .slice h us5.length c] (some W43.heap.size) (some W6.heap.size) W52) := R51.out.later hb
              clear hb
              refine hK.out _ _ R52.out.1 (fun _ => ?_)
              clear hK K
              try simp only [Act.put, List.setIfInBounds_toArray, List.set_cons_zero, List.set_cons_succ, List.getElem_toArray, List.getElem_cons_succ, List.getElem_cons_zero]
              refine wpAnyH_take (i := 12) (v := .tuple #[.agg #[.int .i64 x, .int .i64 y, .slice q m cq], .int .i64 pc]) rfl (by kernel_rfl) (by kernel_rfl) (by kernel_rfl) (fun _ _ _ h => h) (Or.inl ⟨by rfl, fun w hSw => by go_simp⟩) R52.out.1 ?_
              try simp only [Act.put, List.setIfInBounds_toArray, List.set_cons_zero, List.set_cons_succ, List.getElem_toArray, List.getElem_cons_succ, List.getElem_cons_zero]
              refine wpAnyH_take (i := 13) (v := .agg #[.int .i64 x, .int .i64 y, .slice q m cq]) rfl (by kernel_rfl) (by kernel_rfl) (by kernel_rfl) (fun _ _ _ h => h) (Or.inl ⟨by rfl, fun w hSw => by go_simp⟩) R52.out.1 ?_
              try simp only [Act.put, List.setIfInBounds_toArray, List.set_cons_zero, List.set_cons_succ, List.getElem_toArray, List.getElem_cons_succ, List.getElem_cons_zero]
              refine wpAnyH_take (i := 14) (v := .int .i64 pc) rfl (by kernel_rfl) (by kernel_rfl) (by kernel_rfl) (fun _ _ _ h => h) (Or.inl ⟨by rfl, fun w hSw => by go_simp⟩) R52.out.1 ?_
              try simp only [Act.put, List.setIfInBounds_toArray, List.set_cons_zero, List.set_cons_succ, List.getElem_toArray, List.getElem_cons_succ, List.getElem_cons_zero]
              refine wpAnyH_ready (rs := [16]) (by kernel_rfl) (by simp) ?_
              refine AllReadyH.cons rfl (fun K hK => ?_) AllReadyH.nil
              have bL := R52.out.2.2.2 _ rfl
              have r0 := blkCell bL.2 0 _ rfl
              have r1 := blkCell bL.2 1 _ rfl
              have r2 := blkCell bL.2 2 _ rfl
              have f0 := blkFree bL.2 0
              have f1 := blkFree bL.2 1
              have f2 := blkFree bL.2 2
              have hB : Hid (Below wr.heap.size wr (((W52.setCell ⟨W6.heap.size, 0, none⟩ (.int .i64 x)).setCell ⟨W6.heap.size, 1, none⟩ (.int .i64 y)).setCell ⟨W6.heap.size, 2, none⟩ (.slice q m cq))) := ((R52.out.1.setCell bL.1 _).setCell bL.1 _).setCell bL.1 _
              simp only [List.getElem_toArray, List.getElem_cons_zero, List.getElem_cons_succ] at r0 r1 r2
              clear bL
              go_simp
              clear r0 r1 r2 f0 f1 f2
              refine hK.out _ _ hB.out (fun _ => ?_)
              clear hK K
              try simp only [Act.put, List.setIfInBounds_toArray, List.set_cons_zero, List.set_cons_succ, List.getElem_toArray, List.getElem_cons_succ, List.getElem_cons_zero]
              refine wpAnyH_take (i := 17) (v := .int .i64 pc) rfl (by kernel_rfl) (by kernel_rfl) (by kernel_rfl) (fun _ _ _ h => h) (Or.inl ⟨by rfl, fun w hSw => by go_simp⟩) hB.out ?_
              try simp only [Act.put, List.setIfInBounds_toArray, List.set_cons_zero, List.set_cons_succ, List.getElem_toArray, List.getElem_cons_succ, List.getElem_cons_zero]
              refine wpAnyH_done (by kernel_rfl) ?_ _
              go_wp2_with fail
              go_meet
              exact ⟨rfl, hB.out⟩
        · skip
          go_simp
          obtain ⟨W54, hW54⟩ : ∃ W54, W54 = W5.alloc (Obj.cells #[.int .i64 dl, .int .i64 sv, .slice h us5.length c] 36) := ⟨_, rfl⟩
          rw [← hW54]
          have R54 : Hid (RSt wr none 0 [] #[.int .i64 dl, .int .i64 sv, .slice h us5.length c] (some W5.heap.size) none W54) := by rw [hW54]; exact R5.out.mkB
          clear hW54
          refine hK.out _ _ R54.out.1 (fun _ => ?_)
          clear hK K
          try simp only [Act.put, List.setIfInBounds_toArray, List.set_cons_zero, List.set_cons_succ, List.getElem_toArray, List.getElem_cons_succ, List.getElem_cons_zero]
          refine wpAnyH_ready (rs := [2, 15]) (by kernel_rfl) (by simp) ?_
          refine AllReadyH.cons rfl (fun K hK => ?_) (AllReadyH.cons rfl (fun K hK => ?_) AllReadyH.nil)
          · skip
            go_simp
            obtain ⟨W55, hW55⟩ : ∃ W55, W55 = W54.alloc (Obj.cells #[] 36) := ⟨_, rfl⟩
            rw [← hW55]
            have R55 : Hid (RSt wr (some (.slice (some ⟨W54.heap.size, 0, none⟩) 0 0)) 0 [] #[.int .i64 dl, .int .i64 sv, .slice h us5.length c] (some W5.heap.size) none W55) := by rw [hW55]; exact R54.out.mkA
            clear hW55
            refine hK.out _ _ R55.out.1 (fun _ => ?_)
            clear hK K
            try simp only [Act.put, List.setIfInBounds_toArray, List.set_cons_zero, List.set_cons_succ, List.getElem_toArray, List.getElem_cons_succ, List.getElem_cons_zero]
            refine wpAnyH_ready (rs := [4, 15]) (by kernel_rfl) (by simp) ?_
            refine AllReadyH.cons rfl (fun K hK => ?_) (AllReadyH.cons rfl (fun K hK => ?_) AllReadyH.nil)
            · skip
              refine step_append_any rfl (.tmp 33) (.tmp 34) 25 rfl wr.heap.size 36 i0 (.agg #[.int .i64 0, .int .i64 0, .slice none 0 0]) 3 40 Try.underlying25 hti hi0 hi1 hi2 rfl (by decide) (.slice (some ⟨W54.heap.size, 0, none⟩) 0 0) _ _ (by simp [Act.eval]) (R55.out.2.1 _ rfl) (some ⟨g, 0, none⟩) U.length cp Cu (by simp [Act.eval]) HCl.out (HNw.out _ R55.out.1) HOn.out (by unfold maxLen; omega) (by omega) R55.out.1.size (fun va56 vc56 W56 hown hgrow hat => ?_)
              simp only [Nat.zero_add, List.nil_append] at hown hat ⊢
              have R56 : Hid (RSt wr (some (.slice va56 U.length vc56)) U.length Cu #[.int .i64 dl, .int .i64 sv, .slice h us5.length c] (some W5.heap.size) none W56) := R55.out.app hown hgrow hat
              clear hown hgrow hat
              refine hK.out _ _ R56.out.1 (fun _ => ?_)
              clear hK K
              try simp only [Act.put, List.setIfInBounds_toArray, List.set_cons_zero, List.set_cons_succ, List.getElem_toArray, List.getElem_cons_succ, List.getElem_cons_zero]
              refine wpAnyH_ready (rs := [10, 15]) (by kernel_rfl) (by simp) ?_
              refine AllReadyH.cons rfl (fun K hK => ?_) (AllReadyH.cons rfl (fun K hK => ?_) AllReadyH.nil)
              · skip
                refine step_append_any rfl (.tmp 35) (.tmp 40) 25 rfl wr.heap.size 36 i0 (.agg #[.int .i64 0, .int .i64 0, .slice none 0 0]) 3 40 Try.underlying25 hti hi0 hi1 hi2 rfl (by decide) (.slice va56 U.length vc56) _ _ (by simp [Act.eval]) (R56.out.2.1 _ rfl) (some ⟨W5.heap.size, 0, none⟩) 1 1 [.int .i64 dl, .int .i64 sv, .slice h us5.length c] (by simp [Act.eval]) rfl R56.out.news (by simp [Value.oneCell']) (by unfold maxLen; omega) (by omega) R56.out.1.size (fun va57 vc57 W57 hown hgrow hat => ?_)
                have R57 : Hid (RSt wr (some (.slice va57 (U.length + 1) vc57)) (U.length + 1) (Cu ++ [.int .i64 dl, .int .i64 sv, .slice h us5.length c]) #[.int .i64 dl, .int .i64 sv, .slice h us5.length c] (some W5.heap.size) none W57) := R56.out.app hown hgrow hat
                clear hown hgrow hat
                refine hK.out _ _ R57.out.1 (fun _ => ?_)
                clear hK K
                try simp only [Act.put, List.setIfInBounds_toArray, List.set_cons_zero, List.set_cons_succ, List.getElem_toArray, List.getElem_cons_succ, List.getElem_cons_zero]
                refine wpAnyH_ready (rs := [11, 15]) (by kernel_rfl) (by simp) ?_
                refine AllReadyH.cons rfl (fun K hK => ?_) (AllReadyH.cons rfl (fun K hK => ?_) AllReadyH.nil)
                · skip
                  go_simp
                  go_at_call 12
                  refine (HPr.out _ _ _ R57.out.1 (R57.out.2.1 _ rfl)).mono ?_
                  rintro e W58 ⟨x, y, q, m, cq, rfl, hb⟩
                  have R58 : Hid (RSt wr (some (.slice va57 (U.length + 1) vc57)) (U.length + 1) (Cu ++ [.int .i64 dl, .int .i64 sv, .slice h us5.length c]) #[.int .i64 dl, .int .i64 sv, .slice h us5.length c] (some W5.heap.size) none W58) := R57.out.later hb
                  clear hb
                  refine hK.out _ _ R58.out.1 (fun _ => ?_)
                  clear hK K
                  try simp only [Act.put, List.setIfInBounds_toArray, List.set_cons_zero, List.set_cons_succ, List.getElem_toArray, List.getElem_cons_succ, List.getElem_cons_zero]
                  refine wpAnyH_take (i := 12) (v := .tuple #[.agg #[.int .i64 x, .int .i64 y, .slice q m cq], .int .i64 pc]) rfl (by kernel_rfl) (by kernel_rfl) (by kernel_rfl) (fun _ _ _ h => h) (Or.inl ⟨by rfl, fun w hSw => by go_simp⟩) R58.out.1 ?_
                  try simp only [Act.put, List.setIfInBounds_toArray, List.set_cons_zero, List.set_cons_succ, List.getElem_toArray, List.getElem_cons_succ, List.getElem_cons_zero]
                  refine wpAnyH_take (i := 13) (v := .agg #[.int .i64 x, .int .i64 y, .slice q m cq]) rfl (by kernel_rfl) (by kernel_rfl) (by kernel_rfl) (fun _ _ _ h => h) (Or.inl ⟨by rfl, fun w hSw => by go_simp⟩) R58.out.1 ?_
                  try simp only [Act.put, List.setIfInBounds_toArray, List.set_cons_zero, List.set_cons_succ, List.getElem_toArray, List.getElem_cons_succ, List.getElem_cons_zero]
                  refine wpAnyH_take (i := 14) (v := .int .i64 pc) rfl (by kernel_rfl) (by kernel_rfl) (by kernel_rfl) (fun _ _ _ h => h) (Or.inl ⟨by rfl, fun w hSw => by go_simp⟩) R58.out.1 ?_
                  try simp only [Act.put, List.setIfInBounds_toArray, List.set_cons_zero, List.set_cons_succ, List.getElem_toArray, List.getElem_cons_succ, List.getElem_cons_zero]
                  refine wpAnyH_ready (rs := [15]) (by kernel_rfl) (by simp) ?_
                  refine AllReadyH.cons rfl (fun K hK => ?_) AllReadyH.nil
                  go_simp
                  obtain ⟨W59, hW59⟩ : ∃ W59, W59 = W58.alloc (Obj.cells #[.int .i64 0, .int .i64 0, .slice none 0 0] 29) := ⟨_, rfl⟩
                  rw [← hW59]
                  have R59 : Hid (RSt wr (some (.slice va57 (U.length + 1) vc57)) (U.length + 1) (Cu ++ [.int .i64 dl, .int .i64 sv, .slice h us5.length c]) #[.int .i64 dl, .int .i64 sv, .slice h us5.length c] (some W5.heap.size) (some W58.heap.size) W59) := by rw [hW59]; exact R58.out.mkL
                  clear hW59
                  refine hK.out _ _ R59.out.1 (fun _ => ?_)
                  clear hK K
                  try simp only [Act.put, List.setIfInBounds_toArray, List.set_cons_zero, List.set_cons_succ, List.getElem_toArray, List.getElem_cons_succ, List.getElem_cons_zero]
                  refine wpAnyH_ready (rs := [16]) (by kernel_rfl) (by simp) ?_
                  refine AllReadyH.cons rfl (fun K hK => ?_) AllReadyH.nil
                  have bL := R59.out.2.2.2 _ rfl
                  have r0 := blkCell bL.2 0 _ rfl
                  have r1 := blkCell bL.2 1 _ rfl
                  have r2 := blkCell bL.2 2 _ rfl
                  have f0 := blkFree bL.2 0
                  have f1 := blkFree bL.2 1
                  have f2 := blkFree bL.2 2
                  have hB : Hid (Below wr.heap.size wr (((W59.setCell ⟨W58.heap.size, 0, none⟩ (.int .i64 x)).setCell ⟨W58.heap.size, 1, none⟩ (.int .i64 y)).setCell ⟨W58.heap.size, 2, none⟩ (.slice q m cq))) := ((R59.out.1.setCell bL.1 _).setCell bL.1 _).setCell bL.1 _
                  simp only [List.getElem_toArray, List.getElem_cons_zero, List.getElem_cons_succ] at r0 r1 r2
                  clear bL
                  go_simp
                  clear r0 r1 r2 f0 f1 f2
                  refine hK.out _ _ hB.out (fun _ => ?_)
                  clear hK K
                  try simp only [Act.put, List.setIfInBounds_toArray, List.set_cons_zero, List.set_cons_succ, List.getElem_toArray, List.getElem_cons_succ, List.getElem_cons_zero]
                  refine wpAnyH_take (i := 17) (v := .int .i64 pc) rfl (by kernel_rfl) (by kernel_rfl) (by kernel_rfl) (fun _ _ _ h => h) (Or.inl ⟨by rfl, fun w hSw => by go_simp⟩) hB.out ?_
                  try simp only [Act.put, List.setIfInBounds_toArray, List.set_cons_zero, List.set_cons_succ, List.getElem_toArray, List.getElem_cons_succ, List.getElem_cons_zero]
                  refine wpAnyH_done (by kernel_rfl) ?_ _
                  go_wp2_with fail
                  go_meet
                  exact ⟨rfl, hB.out⟩
                · skip
                  go_simp
                  obtain ⟨W61, hW61⟩ : ∃ W61, W61 = W57.alloc (Obj.cells #[.int .i64 0, .int .i64 0, .slice none 0 0] 29) := ⟨_, rfl⟩
                  rw [← hW61]
                  have R61 : Hid (RSt wr (some (.slice va57 (U.length + 1) vc57)) (U.length + 1) (Cu ++ [.int .i64 dl, .int .i64 sv, .slice h us5.length c]) #[.int .i64 dl, .int .i64 sv, .slice h us5.length c] (some W5.heap.size) (some W57.heap.size) W61) := by rw [hW61]; exact R57.out.mkL
                  clear hW61
                  refine hK.out _ _ R61.out.1 (fun _ => ?_)
                  clear hK K
                  try simp only [Act.put, List.setIfInBounds_toArray, List.set_cons_zero, List.set_cons_succ, List.getElem_toArray, List.getElem_cons_succ, List.getElem_cons_zero]
                  refine wpAnyH_ready (rs := [11]) (by kernel_rfl) (by simp) ?_
                  refine AllReadyH.cons rfl (fun K hK => ?_) AllReadyH.nil
                  go_simp
                  go_at_call 12
                  refine (HPr.out _ _ _ R61.out.1 (R61.out.2.1 _ rfl)).mono ?_
                  rintro e W62 ⟨x, y, q, m, cq, rfl, hb⟩
                  have R62 : Hid (RSt wr (some (.slice va57 (U.length + 1) vc57)) (U.length + 1) (Cu ++ [.int .i64 dl, .int .i64 sv, .slice h us5.length c]) #[.int .i64 dl, .int .i64 sv, .slice h us5.length c] (some W5.heap.size) (some W57.heap.size) W62) := R61.out.later hb
                  clear hb
                  refine hK.out _ _ R62.out.1 (fun _ => ?_)
                  clear hK K
                  try simp only [Act.put, List.setIfInBounds_toArray, List.set_cons_zero, List.set_cons_succ, List.getElem_toArray, List.getElem_cons_succ, List.getElem_cons_zero]
                  refine wpAnyH_take (i := 12) (v := .tuple #[.agg #[.int .i64 x, .int .i64 y, .slice q m cq], .int .i64 pc]) rfl (by kernel_rfl) (by kernel_rfl) (by kernel_rfl) (fun _ _ _ h => h) (Or.inl ⟨by rfl, fun w hSw => by go_simp⟩) R62.out.1 ?_
                  try simp only [Act.put, List.setIfInBounds_toArray, List.set_cons_zero, List.set_cons_succ, List.getElem_toArray, List.getElem_cons_succ, List.getElem_cons_zero]
                  refine wpAnyH_take (i := 13) (v := .agg #[.int .i64 x, .int .i64 y, .slice q m cq]) rfl (by kernel_rfl) (by kernel_rfl) (by kernel_rfl) (fun _ _ _ h => h) (Or.inl ⟨by rfl, fun w hSw => by go_simp⟩) R62.out.1 ?_
                  try simp only [Act.put, List.setIfInBounds_toArray, List.set_cons_zero, List.set_cons_succ, List.getElem_toArray, List.getElem_cons_succ, List.getElem_cons_zero]
                  refine wpAnyH_take (i := 14) (v := .int .i64 pc) rfl (by kernel_rfl) (by kernel_rfl) (by kernel_rfl) (fun _ _ _ h => h) (Or.inl ⟨by rfl, fun w hSw => by go_simp⟩) R62.out.1 ?_
                  try simp only [Act.put, List.setIfInBounds_toArray, List.set_cons_zero, List.set_cons_succ, List.getElem_toArray, List.getElem_cons_succ, List.getElem_cons_zero]
                  refine wpAnyH_ready (rs := [16]) (by kernel_rfl) (by simp) ?_
                  refine AllReadyH.cons rfl (fun K hK => ?_) AllReadyH.nil
                  have bL := R62.out.2.2.2 _ rfl
                  have r0 := blkCell bL.2 0 _ rfl
                  have r1 := blkCell bL.2 1 _ rfl
                  have r2 := blkCell bL.2 2 _ rfl
                  have f0 := blkFree bL.2 0
                  have f1 := blkFree bL.2 1
                  have f2 := blkFree bL.2 2
                  have hB : Hid (Below wr.heap.size wr (((W62.setCell ⟨W57.heap.size, 0, none⟩ (.int .i64 x)).setCell ⟨W57.heap.size, 1, none⟩ (.int .i64 y)).setCell ⟨W57.heap.size, 2, none⟩ (.slice q m cq))) := ((R62.out.1.setCell bL.1 _).setCell bL.1 _).setCell bL.1 _
                  simp only [List.getElem_toArray, List.getElem_cons_zero, List.getElem_cons_succ] at r0 r1 r2
                  clear bL
                  go_simp
                  clear r0 r1 r2 f0 f1 f2
                  refine hK.out _ _ hB.out (fun _ => ?_)
                  clear hK K
                  try simp only [Act.put, List.setIfInBounds_toArray, List.set_cons_zero, List.set_cons_succ, List.getElem_toArray, List.getElem_cons_succ, List.getElem_cons_zero]
                  refine wpAnyH_take (i := 17) (v := .int .i64 pc) rfl (by kernel_rfl) (by kernel_rfl) (by kernel_rfl) (fun _ _ _ h => h) (Or.inl ⟨by rfl, fun w hSw => by go_simp⟩) hB.out ?_
                  try simp only [Act.put, List.setIfInBounds_toArray, List.set_cons_zero, List.set_cons_succ, List.getElem_toArray, List.getElem_cons_succ, List.getElem_cons_zero]
                  refine wpAnyH_done (by kernel_rfl) ?_ _
                  go_wp2_with fail
                  go_meet
                  exact ⟨rfl, hB.out⟩
              · skip
                go_simp
                obtain ⟨W64, hW64⟩ : ∃ W64, W64 = W56.alloc (Obj.cells #[.int .i64 0, .int .i64 0, .slice none 0 0] 29) := ⟨_, rfl⟩
                rw [← hW64]
                have R64 : Hid (RSt wr (some (.slice va56 U.length vc56)) U.length Cu #[.int .i64 dl, .int .i64 sv, .slice h us5.length c] (some W5.heap.size) (some W56.heap.size) W64) := by rw [hW64]; exact R56.out.mkL
                clear hW64
                refine hK.out _ _ R64.out.1 (fun _ => ?_)
                clear hK K
                try simp only [Act.put, List.setIfInBounds_toArray, List.set_cons_zero, List.set_cons_succ, List.getElem_toArray, List.getElem_cons_succ, List.getElem_cons_zero]
                refine wpAnyH_ready (rs := [10]) (by kernel_rfl) (by simp) ?_
                refine AllReadyH.cons rfl (fun K hK => ?_) AllReadyH.nil
                refine step_append_any rfl (.tmp 35) (.tmp 40) 25 rfl wr.heap.size 36 i0 (.agg #[.int .i64 0, .int .i64 0, .slice none 0 0]) 3 40 Try.underlying25 hti hi0 hi1 hi2 rfl (by decide) (.slice va56 U.length vc56) _ _ (by simp [Act.eval]) (R64.out.2.1 _ rfl) (some ⟨W5.heap.size, 0, none⟩) 1 1 [.int .i64 dl, .int .i64 sv, .slice h us5.length c] (by simp [Act.eval]) rfl R64.out.news (by simp [Value.oneCell']) (by unfold maxLen; omega) (by omega) R64.out.1.size (fun va65 vc65 W65 hown hgrow hat => ?_)
                have R65 : Hid (RSt wr (some (.slice va65 (U.length + 1) vc65)) (U.length + 1) (Cu ++ [.int .i64 dl, .int .i64 sv, .slice h us5.length c]) #[.int .i64 dl, .int .i64 sv, .slice h us5.length c] (some W5.heap.size) (some W56.heap.size) W65) := R64.out.app hown hgrow hat
                clear hown hgrow hat
                refine hK.out _ _ R65.out.1 (fun _ => ?_)
                clear hK K
                try simp only [Act.put, List.setIfInBounds_toArray, List.set_cons_zero, List.set_cons_succ, List.getElem_toArray, List.getElem_cons_succ, List.getElem_cons_zero]
                refine wpAnyH_ready (rs := [11]) (by kernel_rfl) (by simp) ?_
                refine AllReadyH.cons rfl (fun K hK => ?_) AllReadyH.nil
                go_simp
                go_at_call 12
                refine (HPr.out _ _ _ R65.out.1 (R65.out.2.1 _ rfl)).mono ?_
                rintro e W66 ⟨x, y, q, m, cq, rfl, hb⟩
                have R66 : Hid (RSt wr (some (.slice va65 (U.length + 1) vc65)) (U.length + 1) (Cu ++ [.int .i64 dl, .int .i64 sv, .slice h us5.length c]) #[.int .i64 dl, .int .i64 sv, .slice h us5.length c] (some W5.heap.size) (some W56.heap.size) W66) := R65.out.later hb
                clear hb
                refine hK.out _ _ R66.out.1 (fun _ => ?_)
                clear hK K
                try simp only [Act.put, List.setIfInBounds_toArray, List.set_cons_zero, List.set_cons_succ, List.getElem_toArray, List.getElem_cons_succ, List.getElem_cons_zero]
                refine wpAnyH_take (i := 12) (v := .tuple #[.agg #[.int .i64 x, .int .i64 y, .slice q m cq], .int .i64 pc]) rfl (by kernel_rfl) (by kernel_rfl) (by kernel_rfl) (fun _ _ _ h => h) (Or.inl ⟨by rfl, fun w hSw => by go_simp⟩) R66.out.1 ?_
                try simp only [Act.put, List.setIfInBounds_toArray, List.set_cons_zero, List.set_cons_succ, List.getElem_toArray, List.getElem_cons_succ, List.getElem_cons_zero]
                refine wpAnyH_take (i := 13) (v := .agg #[.int .i64 x, .int .i64 y, .slice q m cq]) rfl (by kernel_rfl) (by kernel_rfl) (by kernel_rfl) (fun _ _ _ h => h) (Or.inl ⟨by rfl, fun w hSw => by go_simp⟩) R66.out.1 ?_
                try simp only [Act.put, List.setIfInBounds_toArray, List.set_cons_zero, List.set_cons_succ, List.getElem_toArray, List.getElem_cons_succ, List.getElem_cons_zero]
                refine wpAnyH_take (i := 14) (v := .int .i64 pc) rfl (by kernel_rfl) (by kernel_rfl) (by kernel_rfl) (fun _ _ _ h => h) (Or.inl ⟨by rfl, fun w hSw => by go_simp⟩) R66.out.1 ?_
                try simp only [Act.put, List.setIfInBounds_toArray, List.set_cons_zero, List.set_cons_succ, List.getElem_toArray, List.getElem_cons_succ, List.getElem_cons_zero]
                refine wpAnyH_ready (rs := [16]) (by kernel_rfl) (by simp) ?_
                refine AllReadyH.cons rfl (fun K hK => ?_) AllReadyH.nil
                have bL := R66.out.2.2.2 _ rfl
                have r0 := blkCell bL.2 0 _ rfl
                have r1 := blkCell bL.2 1 _ rfl
                have r2 := blkCell bL.2 2 _ rfl
                have f0 := blkFree bL.2 0
                have f1 := blkFree bL.2 1
                have f2 := blkFree bL.2 2
                have hB : Hid (Below wr.heap.size wr (((W66.setCell ⟨W56.heap.size, 0, none⟩ (.int .i64 x)).setCell ⟨W56.heap.size, 1, none⟩ (.int .i64 y)).setCell ⟨W56.heap.size, 2, none⟩ (.slice q m cq))) := ((R66.out.1.setCell bL.1 _).setCell bL.1 _).setCell bL.1 _
                simp only [List.getElem_toArray, List.getElem_cons_zero, List.getElem_cons_succ] at r0 r1 r2
                clear bL
                go_simp
                clear r0 r1 r2 f0 f1 f2
                refine hK.out _ _ hB.out (fun _ => ?_)
                clear hK K
                try simp only [Act.put, List.setIfInBounds_toArray, List.set_cons_zero, List.set_cons_succ, List.getElem_toArray, List.getElem_cons_succ, List.getElem_cons_zero]
                refine wpAnyH_take (i := 17) (v := .int .i64 pc) rfl (by kernel_rfl) (by kernel_rfl) (by kernel_rfl) (fun _ _ _ h => h) (Or.inl ⟨by rfl, fun w hSw => by go_simp⟩) hB.out ?_
                try simp only [Act.put, List.setIfInBounds_toArray, List.set_cons_zero, List.set_cons_succ, List.getElem_toArray, List.getElem_cons_succ, List.getElem_cons_zero]
                refine wpAnyH_done (by kernel_rfl) ?_ _
                go_wp2_with fail
                go_meet
                exact ⟨rfl, hB.out⟩
            · skip
              go_simp
              obtain ⟨W68, hW68⟩ : ∃ W68, W68 = W55.alloc (Obj.cells #[.int .i64 0, .int .i64 0, .slice none 0 0] 29) := ⟨_, rfl⟩
              rw [← hW68]
              have R68 : Hid (RSt wr (some (.slice (some ⟨W54.heap.size, 0, none⟩) 0 0)) 0 [] #[.int .i64 dl, .int .i64 sv, .slice h us5.length c] (some W5.heap.size) (some W55.heap.size) W68) := by rw [hW68]; exact R55.out.mkL
              clear hW68
              refine hK.out _ _ R68.out.1 (fun _ => ?_)
              clear hK K
              try simp only [Act.put, List.setIfInBounds_toArray, List.set_cons_zero, List.set_cons_succ, List.getElem_toArray, List.getElem_cons_succ, List.getElem_cons_zero]
              refine wpAnyH_ready (rs := [4]) (by kernel_rfl) (by simp) ?_
              refine AllReadyH.cons rfl (fun K hK => ?_) AllReadyH.nil
              refine step_append_any rfl (.tmp 33) (.tmp 34) 25 rfl wr.heap.size 36 i0 (.agg #[.int .i64 0, .int .i64 0, .slice none 0 0]) 3 40 Try.underlying25 hti hi0 hi1 hi2 rfl (by decide) (.slice (some ⟨W54.heap.size, 0, none⟩) 0 0) _ _ (by simp [Act.eval]) (R68.out.2.1 _ rfl) (some ⟨g, 0, none⟩) U.length cp Cu (by simp [Act.eval]) HCl.out (HNw.out _ R68.out.1) HOn.out (by unfold maxLen; omega) (by omega) R68.out.1.size (fun va69 vc69 W69 hown hgrow hat => ?_)
              simp only [Nat.zero_add, List.nil_append] at hown hat ⊢
              have R69 : Hid (RSt wr (some (.slice va69 U.length vc69)) U.length Cu #[.int .i64 dl, .int .i64 sv, .slice h us5.length c] (some W5.heap.size) (some W55.heap.size) W69) := R68.out.app hown hgrow hat
              clear hown hgrow hat
              refine hK.out _ _ R69.out.1 (fun _ => ?_)
              clear hK K
              try simp only [Act.put, List.setIfInBounds_toArray, List.set_cons_zero, List.set_cons_succ, List.getElem_toArray, List.getElem_cons_succ, List.getElem_cons_zero]
              refine wpAnyH_ready (rs := [10]) (by kernel_rfl) (by simp) ?_
              refine AllReadyH.cons rfl (fun K hK => ?_) AllReadyH.nil
              refine step_append_any rfl (.tmp 35) (.tmp 40) 25 rfl wr.heap.size 36 i0 (.agg #[.int .i64 0, .int .i64 0, .slice none 0 0]) 3 40 Try.underlying25 hti hi0 hi1 hi2 rfl (by decide) (.slice va69 U.length vc69) _ _ (by simp [Act.eval]) (R69.out.2.1 _ rfl) (some ⟨W5.heap.size, 0, none⟩) 1 1 [.int .i64 dl, .int .i64 sv, .slice h us5.length c] (by simp [Act.eval]) rfl R69.out.news (by simp [Value.oneCell']) (by unfold maxLen; omega) (by omega) R69.out.1.size (fun va70 vc70 W70 hown hgrow hat => ?_)
              have R70 : Hid (RSt wr (some (.slice va70 (U.length + 1) vc70)) (U.length + 1) (Cu ++ [.int .i64 dl, .int .i64 sv, .slice h us5.length c]) #[.int .i64 dl, .int .i64 sv, .slice h us5.length c] (some W5.heap.size) (some W55.heap.size) W70) := R69.out.app hown hgrow hat
              clear hown hgrow hat
              refine hK.out _ _ R70.out.1 (fun _ => ?_)
              clear hK K
              try simp only [Act.put, List.setIfInBounds_toArray, List.set_cons_zero, List.set_cons_succ, List.getElem_toArray, List.getElem_cons_succ, List.getElem_cons_zero]
              refine wpAnyH_ready (rs := [11]) (by kernel_rfl) (by simp) ?_
              refine AllReadyH.cons rfl (fun K hK => ?_) AllReadyH.nil
              go_simp
              go_at_call 12
              refine (HPr.out _ _ _ R70.out.1 (R70.out.2.1 _ rfl)).mono ?_
              rintro e W71 ⟨x, y, q, m, cq, rfl, hb⟩
              have R71 : Hid (RSt wr (some (.slice va70 (U.length + 1) vc70)) (U.length + 1) (Cu ++ [.int .i64 dl, .int .i64 sv, .slice h us5.length c]) #[.int .i64 dl, .int .i64 sv, .slice h us5.length c] (some W5.heap.size) (some W55.heap.size) W71) := R70.out.later hb
              clear hb
              refine hK.out _ _ R71.out.1 (fun _ => ?_)
              clear hK K
              try simp only [Act.put, List.setIfInBounds_toArray, List.set_cons_zero, List.set_cons_succ, List.getElem_toArray, List.getElem_cons_succ, List.getElem_cons_zero]
              refine wpAnyH_take (i := 12) (v := .tuple #[.agg #[.int .i64 x, .int .i64 y, .slice q m cq], .int .i64 pc]) rfl (by kernel_rfl) (by kernel_rfl) (by kernel_rfl) (fun _ _ _ h => h) (Or.inl ⟨by rfl, fun w hSw => by go_simp⟩) R71.out.1 ?_
              try simp only [Act.put, List.setIfInBounds_toArray, List.set_cons_zero, List.set_cons_succ, List.getElem_toArray, List.getElem_cons_succ, List.getElem_cons_zero]
              refine wpAnyH_take (i := 13) (v := .agg #[.int .i64 x, .int .i64 y, .slice q m cq]) rfl (by kernel_rfl) (by kernel_rfl) (by kernel_rfl) (fun _ _ _ h => h) (Or.inl ⟨by rfl, fun w hSw => by go_simp⟩) R71.out.1 ?_
              try simp only [Act.put, List.setIfInBounds_toArray, List.set_cons_zero, List.set_cons_succ, List.getElem_toArray, List.getElem_cons_succ, List.getElem_cons_zero]
              refine wpAnyH_take (i := 14) (v := .int .i64 pc) rfl (by kernel_rfl) (by kernel_rfl) (by kernel_rfl) (fun _ _ _ h => h) (Or.inl ⟨by rfl, fun w hSw => by go_simp⟩) R71.out.1 ?_
              try simp only [Act.put, List.setIfInBounds_toArray, List.set_cons_zero, List.set_cons_succ, List.getElem_toArray, List.getElem_cons_succ, List.getElem_cons_zero]
              refine wpAnyH_ready (rs := [16]) (by kernel_rfl) (by simp) ?_
              refine AllReadyH.cons rfl (fun K hK => ?_) AllReadyH.nil
              have bL := R71.out.2.2.2 _ rfl
              have r0 := blkCell bL.2 0 _ rfl
              have r1 := blkCell bL.2 1 _ rfl
              have r2 := blkCell bL.2 2 _ rfl
              have f0 := blkFree bL.2 0
              have f1 := blkFree bL.2 1
              have f2 := blkFree bL.2 2
              have hB : Hid (Below wr.heap.size wr (((W71.setCell ⟨W55.heap.size, 0, none⟩ (.int .i64 x)).setCell ⟨W55.heap.size, 1, none⟩ (.int .i64 y)).setCell ⟨W55.heap.size, 2, none⟩ (.slice q m cq))) := ((R71.out.1.setCell bL.1 _).setCell bL.1 _).setCell bL.1 _
              simp only [List.getElem_toArray, List.getElem_cons_zero, List.getElem_cons_succ] at r0 r1 r2
              clear bL
              go_simp
              clear r0 r1 r2 f0 f1 f2
              refine hK.out _ _ hB.out (fun _ => ?_)
              clear hK K
              try simp only [Act.put, List.setIfInBounds_toArray, List.set_cons_zero, List.set_cons_succ, List.getElem_toArray, List.getElem_cons_succ, List.getElem_cons_zero]
              refine wpAnyH_take (i := 17) (v := .int .i64 pc) rfl (by kernel_rfl) (by kernel_rfl) (by kernel_rfl) (fun _ _ _ h => h) (Or.inl ⟨by rfl, fun w hSw => by go_simp⟩) hB.out ?_
              try simp only [Act.put, List.setIfInBounds_toArray, List.set_cons_zero, List.set_cons_succ, List.getElem_toArray, List.getElem_cons_succ, List.getElem_cons_zero]
              refine wpAnyH_done (by kernel_rfl) ?_ _
              go_wp2_with fail
              go_meet
              exact ⟨rfl, hB.out⟩
          · skip
            go_simp
            obtain ⟨W73, hW73⟩ : ∃ W73, W73 = W54.alloc (Obj.cells #[.int .i64 0, .int .i64 0, .slice none 0 0] 29) := ⟨_, rfl⟩
            rw [← hW73]
            have R73 : Hid (RSt wr none 0 [] #[.int .i64 dl, .int .i64 sv, .slice h us5.length c] (some W5.heap.size) (some W54.heap.size) W73) := by rw [hW73]; exact R54.out.mkL
            clear hW73
            refine hK.out _ _ R73.out.1 (fun _ => ?_)
            clear hK K
            try simp only [Act.put, List.setIfInBounds_toArray, List.set_cons_zero, List.set_cons_succ, List.getElem_toArray, List.getElem_cons_succ, List.getElem_cons_zero]
            refine wpAnyH_ready (rs := [2]) (by kernel_rfl) (by simp) ?_
            refine AllReadyH.cons rfl (fun K hK => ?_) AllReadyH.nil
            go_simp
            obtain ⟨W74, hW74⟩ : ∃ W74, W74 = W73.alloc (Obj.cells #[] 36) := ⟨_, rfl⟩
            rw [← hW74]
            have R74 : Hid (RSt wr (some (.slice (some ⟨W73.heap.size, 0, none⟩) 0 0)) 0 [] #[.int .i64 dl, .int .i64 sv, .slice h us5.length c] (some W5.heap.size) (some W54.heap.size) W74) := by rw [hW74]; exact R73.out.mkA
            clear hW74
            refine hK.out _ _ R74.out.1 (fun _ => ?_)
            clear hK K
            try simp only [Act.put, List.setIfInBounds_toArray, List.set_cons_zero, List.set_cons_succ, List.getElem_toArray, List.getElem_cons_succ, List.getElem_cons_zero]
            refine wpAnyH_ready (rs := [4]) (by kernel_rfl) (by simp) ?_
            refine AllReadyH.cons rfl (fun K hK => ?_) AllReadyH.nil
            refine step_append_any rfl (.tmp 33) (.tmp 34) 25 rfl wr.heap.size 36 i0 (.agg #[.int .i64 0, .int .i64 0, .slice none 0 0]) 3 40 Try.underlying25 hti hi0 hi1 hi2 rfl (by decide) (.slice (some ⟨W73.heap.size, 0, none⟩) 0 0) _ _ (by simp [Act.eval]) (R74.out.2.1 _ rfl) (some ⟨g, 0, none⟩) U.length cp Cu (by simp [Act.eval]) HCl.out (HNw.out _ R74.out.1) HOn.out (by unfold maxLen; omega) (by omega) R74.out.1.size (fun va75 vc75 W75 hown hgrow hat => ?_)
            simp only [Nat.zero_add, List.nil_append] at hown hat ⊢
            have R75 : Hid (RSt wr (some (.slice va75 U.length vc75)) U.length Cu #[.int .i64 dl, .int .i64 sv, .slice h us5.length c] (some W5.heap.size) (some W54.heap.size) W75) := R74.out.app hown hgrow hat
            clear hown hgrow hat
            refine hK.out _ _ R75.out.1 (fun _ => ?_)
            clear hK K
            try simp only [Act.put, List.setIfInBounds_toArray, List.set_cons_zero, List.set_cons_succ, List.getElem_toArray, List.getElem_cons_succ, List.getElem_cons_zero]
            refine wpAnyH_ready (rs := [10]) (by kernel_rfl) (by simp) ?_
            refine AllReadyH.cons rfl (fun K hK => ?_) AllReadyH.nil
            refine step_append_any rfl (.tmp 35) (.tmp 40) 25 rfl wr.heap.size 36 i0 (.agg #[.int .i64 0, .int .i64 0, .slice none 0 0]) 3 40 Try.underlying25 hti hi0 hi1 hi2 rfl (by decide) (.slice va75 U.length vc75) _ _ (by simp [Act.eval]) (R75.out.2.1 _ rfl) (some ⟨W5.heap.size, 0, none⟩) 1 1 [.int .i64 dl, .int .i64 sv, .slice h us5.length c] (by simp [Act.eval]) rfl R75.out.news (by simp [Value.oneCell']) (by unfold maxLen; omega) (by omega) R75.out.1.size (fun va76 vc76 W76 hown hgrow hat => ?_)
            have R76 : Hid (RSt wr (some (.slice va76 (U.length + 1) vc76)) (U.length + 1) (Cu ++ [.int .i64 dl, .int .i64 sv, .slice h us5.length c]) #[.int .i64 dl, .int .i64 sv, .slice h us5.length c] (some W5.heap.size) (some W54.heap.size) W76) := R75.out.app hown hgrow hat
            clear hown hgrow hat
            refine hK.out _ _ R76.out.1 (fun _ => ?_)
            clear hK K
            try simp only [Act.put, List.setIfInBounds_toArray, List.set_cons_zero, List.set_cons_succ, List.getElem_toArray, List.getElem_cons_succ, List.getElem_cons_zero]
            refine wpAnyH_ready (rs := [11]) (by kernel_rfl) (by simp) ?_
            refine AllReadyH.cons rfl (fun K hK => ?_) AllReadyH.nil
            go_simp
            go_at_call 12
            refine (HPr.out _ _ _ R76.out.1 (R76.out.2.1 _ rfl)).mono ?_
            rintro e W77 ⟨x, y, q, m, cq, rfl, hb⟩
            have R77 : Hid (RSt wr (some (.slice va76 (U.length + 1) vc76)) (U.length + 1) (Cu ++ [.int .i64 dl, .int .i64 sv, .slice h us5.length c]) #[.int .i64 dl, .int .i64 sv, .slice h us5.length c] (some W5.heap.size) (some W54.heap.size) W77) := R76.out.later hb
            clear hb
            refine hK.out _ _ R77.out.1 (fun _ => ?_)
            clear hK K
            try simp only [Act.put, List.setIfInBounds_toArray, List.set_cons_zero, List.set_cons_succ, List.getElem_toArray, List.getElem_cons_succ, List.getElem_cons_zero]
            refine wpAnyH_take (i := 12) (v := .tuple #[.agg #[.int .i64 x, .int .i64 y, .slice q m cq], .int .i64 pc]) rfl (by kernel_rfl) (by kernel_rfl) (by kernel_rfl) (fun _ _ _ h => h) (Or.inl ⟨by rfl, fun w hSw => by go_simp⟩) R77.out.1 ?_
            try simp only [Act.put, List.setIfInBounds_toArray, List.set_cons_zero, List.set_cons_succ, List.getElem_toArray, List.getElem_cons_succ, List.getElem_cons_zero]
            refine wpAnyH_take (i := 13) (v := .agg #[.int .i64 x, .int .i64 y, .slice q m cq]) rfl (by kernel_rfl) (by kernel_rfl) (by kernel_rfl) (fun _ _ _ h => h) (Or.inl ⟨by rfl, fun w hSw => by go_simp⟩) R77.out.1 ?_
            try simp only [Act.put, List.setIfInBounds_toArray, List.set_cons_zero, List.set_cons_succ, List.getElem_toArray, List.getElem_cons_succ, List.getElem_cons_zero]
            refine wpAnyH_take (i := 14) (v := .int .i64 pc) rfl (by kernel_rfl) (by kernel_rfl) (by kernel_rfl) (fun _ _ _ h => h) (Or.inl ⟨by rfl, fun w hSw => by go_simp⟩) R77.out.1 ?_
            try simp only [Act.put, List.setIfInBounds_toArray, List.set_cons_zero, List.set_cons_succ, List.getElem_toArray, List.getElem_cons_succ, List.getElem_cons_zero]
            refine wpAnyH_ready (rs := [16]) (by kernel_rfl) (by simp) ?_
            refine AllReadyH.cons rfl (fun K hK => ?_) AllReadyH.nil
            have bL := R77.out.2.2.2 _ rfl
            have r0 := blkCell bL.2 0 _ rfl
            have r1 := blkCell bL.2 1 _ rfl
            have r2 := blkCell bL.2 2 _ rfl
            have f0 := blkFree bL.2 0
            have f1 := blkFree bL.2 1
            have f2 := blkFree bL.2 2
            have hB : Hid (Below wr.heap.size wr (((W77.setCell ⟨W54.heap.size, 0, none⟩ (.int .i64 x)).setCell ⟨W54.heap.size, 1, none⟩ (.int .i64 y)).setCell ⟨W54.heap.size, 2, none⟩ (.slice q m cq))) := ((R77.out.1.setCell bL.1 _).setCell bL.1 _).setCell bL.1 _
            simp only [List.getElem_toArray, List.getElem_cons_zero, List.getElem_cons_succ] at r0 r1 r2
            clear bL
            go_simp
            clear r0 r1 r2 f0 f1 f2
            refine hK.out _ _ hB.out (fun _ => ?_)
            clear hK K
            try simp only [Act.put, List.setIfInBounds_toArray, List.set_cons_zero, List.set_cons_succ, List.getElem_toArray, List.getElem_cons_succ, List.getElem_cons_zero]
            refine wpAnyH_take (i := 17) (v := .int .i64 pc) rfl (by kernel_rfl) (by kernel_rfl) (by kernel_rfl) (fun _ _ _ h => h) (Or.inl ⟨by rfl, fun w hSw => by go_simp⟩) hB.out ?_
            try simp only [Act.put, List.setIfInBounds_toArray, List.set_cons_zero, List.set_cons_succ, List.getElem_toArray, List.getElem_cons_succ, List.getElem_cons_zero]
            refine wpAnyH_done (by kernel_rfl) ?_ _
            go_wp2_with fail
            go_meet
            exact ⟨rfl, hB.out⟩
        · skip
          go_simp
          obtain ⟨W79, hW79⟩ : ∃ W79, W79 = W5.alloc (Obj.cells #[.int .i64 0, .int .i64 0, .slice none 0 0] 29) := ⟨_, rfl⟩
          rw [← hW79]
          have R79 : Hid (RSt wr none 0 [] #[.int .i64 dl, .int .i64 sv, .slice h us5.length c] none (some W5.heap.size) W79) := by rw [hW79]; exact R5.out.mkL
          clear hW79
          refine hK.out _ _ R79.out.1 (fun _ => ?_)
          clear hK K
          try simp only [Act.put, List.setIfInBounds_toArray, List.set_cons_zero, List.set_cons_succ, List.getElem_toArray, List.getElem_cons_succ, List.getElem_cons_zero]
          refine wpAnyH_ready (rs := [2, 9]) (by kernel_rfl) (by simp) ?_
          refine AllReadyH.cons rfl (fun K hK => ?_) (AllReadyH.cons rfl (fun K hK => ?_) AllReadyH.nil)
          · skip
            go_simp
            obtain ⟨W80, hW80⟩ : ∃ W80, W80 = W79.alloc (Obj.cells #[] 36) := ⟨_, rfl⟩
            rw [← hW80]
            have R80 : Hid (RSt wr (some (.slice (some ⟨W79.heap.size, 0, none⟩) 0 0)) 0 [] #[.int .i64 dl, .int .i64 sv, .slice h us5.length c] none (some W5.heap.size) W80) := by rw [hW80]; exact R79.out.mkA
            clear hW80
            refine hK.out _ _ R80.out.1 (fun _ => ?_)
            clear hK K
            try simp only [Act.put, List.setIfInBounds_toArray, List.set_cons_zero, List.set_cons_succ, List.getElem_toArray, List.getElem_cons_succ, List.getElem_cons_zero]
            refine wpAnyH_ready (rs := [4, 9]) (by kernel_rfl) (by simp) ?_
            refine AllReadyH.cons rfl (fun K hK => ?_) (AllReadyH.cons rfl (fun K hK => ?_) AllReadyH.nil)
            · skip
              refine step_append_any rfl (.tmp 33) (.tmp 34) 25 rfl wr.heap.size 36 i0 (.agg #[.int .i64 0, .int .i64 0, .slice none 0 0]) 3 40 Try.underlying25 hti hi0 hi1 hi2 rfl (by decide) (.slice (some ⟨W79.heap.size, 0, none⟩) 0 0) _ _ (by simp [Act.eval]) (R80.out.2.1 _ rfl) (some ⟨g, 0, none⟩) U.length cp Cu (by simp [Act.eval]) HCl.out (HNw.out _ R80.out.1) HOn.out (by unfold maxLen; omega) (by omega) R80.out.1.size (fun va81 vc81 W81 hown hgrow hat => ?_)
              simp only [Nat.zero_add, List.nil_append] at hown hat ⊢
              have R81 : Hid (RSt wr (some (.slice va81 U.length vc81)) U.length Cu #[.int .i64 dl, .int .i64 sv, .slice h us5.length c] none (some W5.heap.size) W81) := R80.out.app hown hgrow hat
              clear hown hgrow hat
              refine hK.out _ _ R81.out.1 (fun _ => ?_)
              clear hK K
              try simp only [Act.put, List.setIfInBounds_toArray, List.set_cons_zero, List.set_cons_succ, List.getElem_toArray, List.getElem_cons_succ, List.getElem_cons_zero]
              refine wpAnyH_ready (rs := [9]) (by kernel_rfl) (by simp) ?_
              refine AllReadyH.cons rfl (fun K hK => ?_) AllReadyH.nil
              go_simp
              obtain ⟨W82, hW82⟩ : ∃ W82, W82 = W81.alloc (Obj.cells #[.int .i64 dl, .int .i64 sv, .slice h us5.length c] 36) := ⟨_, rfl⟩
              rw [← hW82]
              have R82 : Hid (RSt wr (some (.slice va81 U.length vc81)) U.length Cu #[.int .i64 dl, .int .i64 sv, .slice h us5.length c] (some W81.heap.size) (some W5.heap.size) W82) := by rw [hW82]; exact R81.out.mkB
              clear hW82
              refine hK.out _ _ R82.out.1 (fun _ => ?_)
              clear hK K
              try simp only [Act.put, List.setIfInBounds_toArray, List.set_cons_zero, List.set_cons_succ, List.getElem_toArray, List.getElem_cons_succ, List.getElem_cons_zero]
              refine wpAnyH_ready (rs := [10]) (by kernel_rfl) (by simp) ?_
              refine AllReadyH.cons rfl (fun K hK => ?_) AllReadyH.nil
              refine step_append_any rfl (.tmp 35) (.tmp 40) 25 rfl wr.heap.size 36 i0 (.agg #[.int .i64 0, .int .i64 0, .slice none 0 0]) 3 40 Try.underlying25 hti hi0 hi1 hi2 rfl (by decide) (.slice va81 U.length vc81) _ _ (by simp [Act.eval]) (R82.out.2.1 _ rfl) (some ⟨W81.heap.size, 0, none⟩) 1 1 [.int .i64 dl, .int .i64 sv, .slice h us5.length c] (by simp [Act.eval]) rfl R82.out.news (by simp [Value.oneCell']) (by unfold maxLen; omega) (by omega) R82.out.1.size (fun va83 vc83 W83 hown hgrow hat => ?_)
              have R83 : Hid (RSt wr (some (.slice va83 (U.length + 1) vc83)) (U.length + 1) (Cu ++ [.int .i64 dl, .int .i64 sv, .slice h us5.length c]) #[.int .i64 dl, .int .i64 sv, .slice h us5.length c] (some W81.heap.size) (some W5.heap.size) W83) := R82.out.app hown hgrow hat
              clear hown hgrow hat
              refine hK.out _ _ R83.out.1 (fun _ => ?_)
              clear hK K
              try simp only [Act.put, List.setIfInBounds_toArray, List.set_cons_zero, List.set_cons_succ, List.getElem_toArray, List.getElem_cons_succ, List.getElem_cons_zero]
              refine wpAnyH_ready (rs := [11]) (by kernel_rfl) (by simp) ?_
              refine AllReadyH.cons rfl (fun K hK => ?_) AllReadyH.nil
              go_simp
              go_at_call 12
              refine (HPr.out _ _ _ R83.out.1 (R83.out.2.1 _ rfl)).mono ?_
              rintro e W84 ⟨x, y, q, m, cq, rfl, hb⟩
              have R84 : Hid (RSt wr (some (.slice va83 (U.length + 1) vc83)) (U.length + 1) (Cu ++ [.int .i64 dl, .int .i64 sv, .slice h us5.length c]) #[.int .i64 dl, .int .i64 sv, .slice h us5.length c] (some W81.heap.size) (some W5.heap.size) W84) := R83.out.later hb
              clear hb
              refine hK.out _ _ R84.out.1 (fun _ => ?_)
              clear hK K
              try simp only [Act.put, List.setIfInBounds_toArray, List.set_cons_zero, List.set_cons_succ, List.getElem_toArray, List.getElem_cons_succ, List.getElem_cons_zero]
              refine wpAnyH_take (i := 12) (v := .tuple #[.agg #[.int .i64 x, .int .i64 y, .slice q m cq], .int .i64 pc]) rfl (by kernel_rfl) (by kernel_rfl) (by kernel_rfl) (fun _ _ _ h => h) (Or.inl ⟨by rfl, fun w hSw => by go_simp⟩) R84.out.1 ?_
              try simp only [Act.put, List.setIfInBounds_toArray, List.set_cons_zero, List.set_cons_succ, List.getElem_toArray, List.getElem_cons_succ, List.getElem_cons_zero]
              refine wpAnyH_take (i := 13) (v := .agg #[.int .i64 x, .int .i64 y, .slice q m cq]) rfl (by kernel_rfl) (by kernel_rfl) (by kernel_rfl) (fun _ _ _ h => h) (Or.inl ⟨by rfl, fun w hSw => by go_simp⟩) R84.out.1 ?_
              try simp only [Act.put, List.setIfInBounds_toArray, List.set_cons_zero, List.set_cons_succ, List.getElem_toArray, List.getElem_cons_succ, List.getElem_cons_zero]
              refine wpAnyH_take (i := 14) (v := .int .i64 pc) rfl (by kernel_rfl) (by kernel_rfl) (by kernel_rfl) (fun _ _ _ h => h) (Or.inl ⟨by rfl, fun w hSw => by go_simp⟩) R84.out.1 ?_
              try simp only [Act.put, List.setIfInBounds_toArray, List.set_cons_zero, List.set_cons_succ, List.getElem_toArray, List.getElem_cons_succ, List.getElem_cons_zero]
              refine wpAnyH_ready (rs := [16]) (by kernel_rfl) (by simp) ?_
              refine AllReadyH.cons rfl (fun K hK => ?_) AllReadyH.nil
              have bL := R84.out.2.2.2 _ rfl
              have r0 := blkCell bL.2 0 _ rfl
              have r1 := blkCell bL.2 1 _ rfl
              have r2 := blkCell bL.2 2 _ rfl
              have f0 := blkFree bL.2 0
              have f1 := blkFree bL.2 1
              have f2 := blkFree bL.2 2
              have hB : Hid (Below wr.heap.size wr (((W84.setCell ⟨W5.heap.size, 0, none⟩ (.int .i64 x)).setCell ⟨W5.heap.size, 1, none⟩ (.int .i64 y)).setCell ⟨W5.heap.size, 2, none⟩ (.slice q m cq))) := ((R84.out.1.setCell bL.1 _).setCell bL.1 _).setCell bL.1 _
              simp only [List.getElem_toArray, List.getElem_cons_zero, List.getElem_cons_succ] at r0 r1 r2
              clear bL
              go_simp
              clear r0 r1 r2 f0 f1 f2
              refine hK.out _ _ hB.out (fun _ => ?_)
              clear hK K
              try simp only [Act.put, List.setIfInBounds_toArray, List.set_cons_zero, List.set_cons_succ, List.getElem_toArray, List.getElem_cons_succ, List.getElem_cons_zero]
              refine wpAnyH_take (i := 17) (v := .int .i64 pc) rfl (by kernel_rfl) (by kernel_rfl) (by kernel_rfl) (fun _ _ _ h => h) (Or.inl ⟨by rfl, fun w hSw => by go_simp⟩) hB.out ?_
              try simp only [Act.put, List.setIfInBounds_toArray, List.set_cons_zero, List.set_cons_succ, List.getElem_toArray, List.getElem_cons_succ, List.getElem_cons_zero]
              refine wpAnyH_done (by kernel_rfl) ?_ _
              go_wp2_with fail
              go_meet
              exact ⟨rfl, hB.out⟩
            · skip
              go_simp
              obtain ⟨W86, hW86⟩ : ∃ W86, W86 = W80.alloc (Obj.cells #[.int .i64 dl, .int .i64 sv, .slice h us5.length c] 36) := ⟨_, rfl⟩
              rw [← hW86]
              have R86 : Hid (RSt wr (some (.slice (some ⟨W79.heap.size, 0, none⟩) 0 0)) 0 [] #[.int .i64 dl, .int .i64 sv, .slice h us5.length c] (some W80.heap.size) (some W5.heap.size) W86) := by rw [hW86]; exact R80.out.mkB
              clear hW86
              refine hK.out _ _ R86.out.1 (fun _ => ?_)
              clear hK K
              try simp only [Act.put, List.setIfInBounds_toArray, List.set_cons_zero, List.set_cons_succ, List.getElem_toArray, List.getElem_cons_succ, List.getElem_cons_zero]
              refine wpAnyH_ready (rs := [4]) (by kernel_rfl) (by simp) ?_
              refine AllReadyH.cons rfl (fun K hK => ?_) AllReadyH.nil
              refine step_append_any rfl (.tmp 33) (.tmp 34) 25 rfl wr.heap.size 36 i0 (.agg #[.int .i64 0, .int .i64 0, .slice none 0 0]) 3 40 Try.underlying25 hti hi0 hi1 hi2 rfl (by decide) (.slice (some ⟨W79.heap.size, 0, none⟩) 0 0) _ _ (by simp [Act.eval]) (R86.out.2.1 _ rfl) (some ⟨g, 0, none⟩) U.length cp Cu (by simp [Act.eval]) HCl.out (HNw.out _ R86.out.1) HOn.out (by unfold maxLen; omega) (by omega) R86.out.1.size (fun va87 vc87 W87 hown hgrow hat => ?_)
              simp only [Nat.zero_add, List.nil_append] at hown hat ⊢
              have R87 : Hid (RSt wr (some (.slice va87 U.length vc87)) U.length Cu #[.int .i64 dl, .int .i64 sv, .slice h us5.length c] (some W80.heap.size) (some W5.heap.size) W87) := R86.out.app hown hgrow hat
              clear hown hgrow hat
              refine hK.out _ _ R87.out.1 (fun _ => ?_)
              clear hK K
              try simp only [Act.put, List.setIfInBounds_toArray, List.set_cons_zero, List.set_cons_succ, List.getElem_toArray, List.getElem_cons_succ, List.getElem_cons_zero]
              refine wpAnyH_ready (rs := [10]) (by kernel_rfl) (by simp) ?_
              refine AllReadyH.cons rfl (fun K hK => ?_) AllReadyH.nil
              refine step_append_any rfl (.tmp 35) (.tmp 40) 25 rfl wr.heap.size 36 i0 (.agg #[.int .i64 0, .int .i64 0, .slice none 0 0]) 3 40 Try.underlying25 hti hi0 hi1 hi2 rfl (by decide) (.slice va87 U.length vc87) _ _ (by simp [Act.eval]) (R87.out.2.1 _ rfl) (some ⟨W80.heap.size, 0, none⟩) 1 1 [.int .i64 dl, .int .i64 sv, .slice h us5.length c] (by simp [Act.eval]) rfl R87.out.news (by simp [Value.oneCell']) (by unfold maxLen; omega) (by omega) R87.out.1.size (fun va88 vc88 W88 hown hgrow hat => ?_)
              have R88 : Hid (RSt wr (some (.slice va88 (U.length + 1) vc88)) (U.length + 1) (Cu ++ [.int .i64 dl, .int .i64 sv, .slice h us5.length c]) #[.int .i64 dl, .int .i64 sv, .slice h us5.length c] (some W80.heap.size) (some W5.heap.size) W88) := R87.out.app hown hgrow hat
              clear hown hgrow hat
              refine hK.out _ _ R88.out.1 (fun _ => ?_)
              clear hK K
              try simp only [Act.put, List.setIfInBounds_toArray, List.set_cons_zero, List.set_cons_succ, List.getElem_toArray, List.getElem_cons_succ, List.getElem_cons_zero]
              refine wpAnyH_ready (rs := [11]) (by kernel_rfl) (by simp) ?_
              refine AllReadyH.cons rfl (fun K hK => ?_) AllReadyH.nil
              go_simp
              go_at_call 12
              refine (HPr.out _ _ _ R88.out.1 (R88.out.2.1 _ rfl)).mono ?_
              rintro e W89 ⟨x, y, q, m, cq, rfl, hb⟩
              have R89 : Hid (RSt wr (some (.slice va88 (U.length + 1) vc88)) (U.length + 1) (Cu ++ [.int .i64 dl, .int .i64 sv, .slice h us5.length c]) #[.int .i64 dl, .int .i64 sv, .slice h us5.length c] (some W80.heap.size) (some W5.heap.size) W89) := R88.out.later hb
              clear hb
              refine hK.out _ _ R89.out.1 (fun _ => ?_)
              clear hK K
              try simp only [Act.put, List.setIfInBounds_toArray, List.set_cons_zero, List.set_cons_succ, List.getElem_toArray, List.getElem_cons_succ, List.getElem_cons_zero]
              refine wpAnyH_take (i := 12) (v := .tuple #[.agg #[.int .i64 x, .int .i64 y, .slice q m cq], .int .i64 pc]) rfl (by kernel_rfl) (by kernel_rfl) (by kernel_rfl) (fun _ _ _ h => h) (Or.inl ⟨by rfl, fun w hSw => by go_simp⟩) R89.out.1 ?_
              try simp only [Act.put, List.setIfInBounds_toArray, List.set_cons_zero, List.set_cons_succ, List.getElem_toArray, List.getElem_cons_succ, List.getElem_cons_zero]
              refine wpAnyH_take (i := 13) (v := .agg #[.int .i64 x, .int .i64 y, .slice q m cq]) rfl (by kernel_rfl) (by kernel_rfl) (by kernel_rfl) (fun _ _ _ h => h) (Or.inl ⟨by rfl, fun w hSw => by go_simp⟩) R89.out.1 ?_
              try simp only [Act.put, List.setIfInBounds_toArray, List.set_cons_zero, List.set_cons_succ, List.getElem_toArray, List.getElem_cons_succ, List.getElem_cons_zero]
              refine wpAnyH_take (i := 14) (v := .int .i64 pc) rfl (by kernel_rfl) (by kernel_rfl) (by kernel_rfl) (fun _ _ _ h => h) (Or.inl ⟨by rfl, fun w hSw => by go_simp⟩) R89.out.1 ?_
              try simp only [Act.put, List.setIfInBounds_toArray, List.set_cons_zero, List.set_cons_succ, List.getElem_toArray, List.getElem_cons_succ, List.getElem_cons_zero]
              refine wpAnyH_ready (rs := [16]) (by kernel_rfl) (by simp) ?_
              refine AllReadyH.cons rfl (fun K hK => ?_) AllReadyH.nil
              have bL := R89.out.2.2.2 _ rfl
              have r0 := blkCell bL.2 0 _ rfl
              have r1 := blkCell bL.2 1 _ rfl
              have r2 := blkCell bL.2 2 _ rfl
              have f0 := blkFree bL.2 0
              have f1 := blkFree bL.2 1
              have f2 := blkFree bL.2 2
              have hB : Hid (Below wr.heap.size wr (((W89.setCell ⟨W5.heap.size, 0, none⟩ (.int .i64 x)).setCell ⟨W5.heap.size, 1, none⟩ (.int .i64 y)).setCell ⟨W5.heap.size, 2, none⟩ (.slice q m cq))) := ((R89.out.1.setCell bL.1 _).setCell bL.1 _).setCell bL.1 _
              simp only [List.getElem_toArray, List.getElem_cons_zero, List.getElem_cons_succ] at r0 r1 r2
              clear bL
              go_simp
              clear r0 r1 r2 f0 f1 f2
              refine hK.out _ _ hB.out (fun _ => ?_)
              clear hK K
              try simp only [Act.put, List.setIfInBounds_toArray, List.set_cons_zero, List.set_cons_succ, List.getElem_toArray, List.getElem_cons_succ, List.getElem_cons_zero]
              refine wpAnyH_take (i := 17) (v := .int .i64 pc) rfl (by kernel_rfl) (by kernel_rfl) (by kernel_rfl) (fun _ _ _ h => h) (Or.inl ⟨by rfl, fun w hSw => by go_simp⟩) hB.out ?_
              try simp only [Act.put, List.setIfInBounds_toArray, List.set_cons_zero, List.set_cons_succ, List.getElem_toArray, List.getElem_cons_succ, List.getElem_cons_zero]
              refine wpAnyH_done (by kernel_rfl) ?_ _
              go_wp2_with fail
              go_meet
              exact ⟨rfl, hB.out⟩
          · skip
            go_simp
            obtain ⟨W91, hW91⟩ : ∃ W91, W91 = W79.alloc (Obj.cells #[.int .i64 dl, .int .i64 sv, .slice h us5.length c] 36) := ⟨_, rfl⟩
            rw [← hW91]
            have R91 : Hid (RSt wr none 0 [] #[.int .i64 dl, .int .i64 sv, .slice h us5.length c] (some W79.heap.size) (some W5.heap.size) W91) := by rw [hW91]; exact R79.out.mkB
            clear hW91
            refine hK.out _ _ R91.out.1 (fun _ => ?_)
            clear hK K
            try simp only [Act.put, List.setIfInBounds_toArray, List.set_cons_zero, List.set_cons_succ, List.getElem_toArray, List.getElem_cons_succ, List.getElem_cons_zero]
            refine wpAnyH_ready (rs := [2]) (by kernel_rfl) (by simp) ?_
            refine AllReadyH.cons rfl (fun K hK => ?_) AllReadyH.nil
            go_simp
            obtain ⟨W92, hW92⟩ : ∃ W92, W92 = W91.alloc (Obj.cells #[] 36) := ⟨_, rfl⟩
            rw [← hW92]
            have R92 : Hid (RSt wr (some (.slice (some ⟨W91.heap.size, 0, none⟩) 0 0)) 0 [] #[.int .i64 dl, .int .i64 sv, .slice h us5.length c] (some W79.heap.size) (some W5.heap.size) W92) := by rw [hW92]; exact R91.out.mkA
            clear hW92
            refine hK.out _ _ R92.out.1 (fun _ => ?_)
            clear hK K
            try simp only [Act.put, List.setIfInBounds_toArray, List.set_cons_zero, List.set_cons_succ, List.getElem_toArray, List.getElem_cons_succ, List.getElem_cons_zero]
            refine wpAnyH_ready (rs := [4]) (by kernel_rfl) (by simp) ?_
            refine AllReadyH.cons rfl (fun K hK => ?_) AllReadyH.nil
            refine step_append_any rfl (.tmp 33) (.tmp 34) 25 rfl wr.heap.size 36 i0 (.agg #[.int .i64 0, .int .i64 0, .slice none 0 0]) 3 40 Try.underlying25 hti hi0 hi1 hi2 rfl (by decide) (.slice (some ⟨W91.heap.size, 0, none⟩) 0 0) _ _ (by simp [Act.eval]) (R92.out.2.1 _ rfl) (some ⟨g, 0, none⟩) U.length cp Cu (by simp [Act.eval]) HCl.out (HNw.out _ R92.out.1) HOn.out (by unfold maxLen; omega) (by omega) R92.out.1.size (fun va93 vc93 W93 hown hgrow hat => ?_)
            simp only [Nat.zero_add, List.nil_append] at hown hat ⊢
            have R93 : Hid (RSt wr (some (.slice va93 U.length vc93)) U.length Cu #[.int .i64 dl, .int .i64 sv, .slice h us5.length c] (some W79.heap.size) (some W5.heap.size) W93) := R92.out.app hown hgrow hat
            clear hown hgrow hat
            refine hK.out _ _ R93.out.1 (fun _ => ?_)
            clear hK K
            try simp only [Act.put, List.setIfInBounds_toArray, List.set_cons_zero, List.set_cons_succ, List.getElem_toArray, List.getElem_cons_succ, List.getElem_cons_zero]
            refine wpAnyH_ready (rs := [10]) (by kernel_rfl) (by simp) ?_
            refine AllReadyH.cons rfl (fun K hK => ?_) AllReadyH.nil
            refine step_append_any rfl (.tmp 35) (.tmp 40) 25 rfl wr.heap.size 36 i0 (.agg #[.int .i64 0, .int .i64 0, .slice none 0 0]) 3 40 Try.underlying25 hti hi0 hi1 hi2 rfl (by decide) (.slice va93 U.length vc93) _ _ (by simp [Act.eval]) (R93.out.2.1 _ rfl) (some ⟨W79.heap.size, 0, none⟩) 1 1 [.int .i64 dl, .int .i64 sv, .slice h us5.length c] (by simp [Act.eval]) rfl R93.out.news (by simp [Value.oneCell']) (by unfold maxLen; omega) (by omega) R93.out.1.size (fun va94 vc94 W94 hown hgrow hat => ?_)
            have R94 : Hid (RSt wr (some (.slice va94 (U.length + 1) vc94)) (U.length + 1) (Cu ++ [.int .i64 dl, .int .i64 sv, .slice h us5.length c]) #[.int .i64 dl, .int .i64 sv, .slice h us5.length c] (some W79.heap.size) (some W5.heap.size) W94) := R93.out.app hown hgrow hat
            clear hown hgrow hat
            refine hK.out _ _ R94.out.1 (fun _ => ?_)
            clear hK K
            try simp only [Act.put, List.setIfInBounds_toArray, List.set_cons_zero, List.set_cons_succ, List.getElem_toArray, List.getElem_cons_succ, List.getElem_cons_zero]
            refine wpAnyH_ready (rs := [11]) (by kernel_rfl) (by simp) ?_
            refine AllReadyH.cons rfl (fun K hK => ?_) AllReadyH.nil
            go_simp
            go_at_call 12
            refine (HPr.out _ _ _ R94.out.1 (R94.out.2.1 _ rfl)).mono ?_
            rintro e W95 ⟨x, y, q, m, cq, rfl, hb⟩
            have R95 : Hid (RSt wr (some (.slice va94 (U.length + 1) vc94)) (U.length + 1) (Cu ++ [.int .i64 dl, .int .i64 sv, .slice h us5.length c]) #[.int .i64 dl, .int .i64 sv, .slice h us5.length c] (some W79.heap.size) (some W5.heap.size) W95) := R94.out.later hb
            clear hb
            refine hK.out _ _ R95.out.1 (fun _ => ?_)
            clear hK K
            try simp only [Act.put, List.setIfInBounds_toArray, List.set_cons_zero, List.set_cons_succ, List.getElem_toArray, List.getElem_cons_succ, List.getElem_cons_zero]
            refine wpAnyH_take (i := 12) (v := .tuple #[.agg #[.int .i64 x, .int .i64 y, .slice q m cq], .int .i64 pc]) rfl (by kernel_rfl) (by kernel_rfl) (by kernel_rfl) (fun _ _ _ h => h) (Or.inl ⟨by rfl, fun w hSw => by go_simp⟩) R95.out.1 ?_
            try simp only [Act.put, List.setIfInBounds_toArray, List.set_cons_zero, List.set_cons_succ, List.getElem_toArray, List.getElem_cons_succ, List.getElem_cons_zero]
            refine wpAnyH_take (i := 13) (v := .agg #[.int .i64 x, .int .i64 y, .slice q m cq]) rfl (by kernel_rfl) (by kernel_rfl) (by kernel_rfl) (fun _ _ _ h => h) (Or.inl ⟨by rfl, fun w hSw => by go_simp⟩) R95.out.1 ?_
            try simp only [Act.put, List.setIfInBounds_toArray, List.set_cons_zero, List.set_cons_succ, List.getElem_toArray, List.getElem_cons_succ, List.getElem_cons_zero]
            refine wpAnyH_take (i := 14) (v := .int .i64 pc) rfl (by kernel_rfl) (by kernel_rfl) (by kernel_rfl) (fun _ _ _ h => h) (Or.inl ⟨by rfl, fun w hSw => by go_simp⟩) R95.out.1 ?_
            try simp only [Act.put, List.setIfInBounds_toArray, List.set_cons_zero, List.set_cons_succ, List.getElem_toArray, List.getElem_cons_succ, List.getElem_cons_zero]
            refine wpAnyH_ready (rs := [16]) (by kernel_rfl) (by simp) ?_
            refine AllReadyH.cons rfl (fun K hK => ?_) AllReadyH.nil
            have bL := R95.out.2.2.2 _ rfl
            have r0 := blkCell bL.2 0 _ rfl
            have r1 := blkCell bL.2 1 _ rfl
            have r2 := blkCell bL.2 2 _ rfl
            have f0 := blkFree bL.2 0
            have f1 := blkFree bL.2 1
            have f2 := blkFree bL.2 2
            have hB : Hid (Below wr.heap.size wr (((W95.setCell ⟨W5.heap.size, 0, none⟩ (.int .i64 x)).setCell ⟨W5.heap.size, 1, none⟩ (.int .i64 y)).setCell ⟨W5.heap.size, 2, none⟩ (.slice q m cq))) := ((R95.out.1.setCell bL.1 _).setCell bL.1 _).setCell bL.1 _
            simp only [List.getElem_toArray, List.getElem_cons_zero, List.getElem_cons_succ] at r0 r1 r2
            clear bL
            go_simp
            clear r0 r1 r2 f0 f1 f2
            refine hK.out _ _ hB.out (fun _ => ?_)
            clear hK K
            try simp only [Act.put, List.setIfInBounds_toArray, List.set_cons_zero, List.set_cons_succ, List.getElem_toArray, List.getElem_cons_succ, List.getElem_cons_zero]
            refine wpAnyH_take (i := 17) (v := .int .i64 pc) rfl (by kernel_rfl) (by kernel_rfl) (by kernel_rfl) (fun _ _ _ h => h) (Or.inl ⟨by rfl, fun w hSw => by go_simp⟩) hB.out ?_
            try simp only [Act.put, List.setIfInBounds_toArray, List.set_cons_zero, List.set_cons_succ, List.getElem_toArray, List.getElem_cons_succ, List.getElem_cons_zero]
            refine wpAnyH_done (by kernel_rfl) ?_ _
            go_wp2_with fail
            go_meet
            exact ⟨rfl, hB.out⟩
      case rest =>
        obtain ⟨rfl, hbx⟩ := hcut
        have HB : Hid (BkSt w4 g0 g cp U Cu wc) := HK.out.later hbx
        obtain ⟨f0, f1, f2⟩ := HS4.out wc hbx
        clear hbx
        by_cases hp : pc = 0
        · have hpb : (pc == 0) = true := by simpa using hp
          have HOK2 : Hid ((∀ r ∈ U ++ [(⟨dl, sv, us5⟩ : CUs)], UsOK r) ∧ pcode us ds (U ++ [⟨dl, sv, us5⟩]) = 0) := ⟨HOK1.out, by rw [HPc.out]; exact hp⟩
          clear hp
          have HR9 : Hid ((wc.alloc (Obj.cells #[.int .i64 dl, .int .i64 sv, .slice h us5.length c] 36)).ownsRow g0 36 3 (.slice (some ⟨g, 0, none⟩) U.length cp) U.length Cu) := HB.out.row.alloc _
          have HB9 : Hid (g0 ≤ (wc.alloc (Obj.cells #[.int .i64 dl, .int .i64 sv, .slice h us5.length c] 36)).heap.size) := le_alloc (Nat.le_trans (Nat.le_of_lt HB.out.g0l) HB.out.ap.1) _
          have HNw9 : Hid (∀ j u, [.int .i64 dl, .int .i64 sv, .slice h us5.length c][j]? = some u → (wc.alloc (Obj.cells #[.int .i64 dl, .int .i64 sv, .slice h us5.length c] 36)).cell? ((⟨wc.heap.size, 0, none⟩ : Addr).add j) = some u) := newsZ wc wc.heap.size rfl #[.int .i64 dl, .int .i64 sv, .slice h us5.length c] _
          go_wp2_with (at_builtin; refine wpList_append_lies _ rfl _ _ 25 rfl g0 36 i0 (.agg #[.int .i64 0, .int .i64 0, .slice none 0 0]) 3 40 Try.underlying25 hti hi0 hi1 hi2 rfl (by decide) _ _ _ rfl HR9.out ⟨wc.heap.size, 0, none⟩ 1 1 [.int .i64 dl, .int .i64 sv, .slice h us5.length c] rfl rfl HNw9.out (by simp [Value.oneCell']) (by omega) (by unfold maxLen; omega) (by omega) HB9.out _ rfl ?_; intro g9 c9 w9 hown9 hgrow9 hat9 hglt9; have H9 : Hid (BkSt w4 g0 g9 c9 (U ++ [⟨dl, sv, us5⟩]) (Cu ++ [.int .i64 dl, .int .i64 sv, .slice h us5.length c]) w9) := HB.out.push (r := ⟨dl, sv, us5⟩) hc HRi.out hown9 hgrow9 (hat9.imp id (fun e => Nat.le_of_eq e.symm)); clear hown9 hgrow9 hat9 hglt9)
          go_roundw
          case rel =>
            exact ⟨k + 1, U ++ [⟨dl, sv, us5⟩], _, g9, c9, by omega, by go_num, by simp, by simp; omega, HOK2.out.1, HOK2.out.2, H9.out⟩
          case measure => simp [intOf]; omega
        · have hpb : (pc == 0) = false := by simpa using hp
          clear hp
          go_wp2
          go_roundw
          case rel =>
            exact ⟨k + 1, U, Cu, g, cp, by omega, by go_num, rfl, by omega, HOK.out, HP0.out, HB.out⟩
          case measure => simp [intOf]; omega
    · have hlt' : ¬ (k : Int) < (L.length : Int) := by omega
      go_wp2
      refine bodyPost_ret (v := .tuple #[.slice (some ⟨ug, 0, none⟩) us.length uc, .slice (some ⟨dg, 0, none⟩) ds.length dc, .slice (some ⟨g, 0, none⟩) U.length cp]) (by simp [results, Try.results4, go_sem]) rfl ?_
      refine ⟨us, ds, U, ug, uc, dg, dc, g, cp, rfl, hul, hdl, hdc, HDr.out, HDd.out, by omega, HOK.out, HP0.out, (HRd.out _ HK.out.ap HK.out.lw).1, (HRd.out _ HK.out.ap HK.out.lw).2, HK.out.fit.reads HK.out.ap HK.out.row, ?_⟩
      rw [← HBw.out]
      exact HB4.out.trans (HK.out.lw.mono (by omega))
end Go.Proofs.Ytkfmifbffgbiiaa
