/-
  For every list of bytes the law FnLedger answers true: along a drawn history the program's ledger refuses what it says, uses each coupon once, and its cards' numbers are those of the events that were not refused; with no condition.
-/
import Derived.Test.YtabghjlmmpckdaaShD
import Derived.Test.YtabghjlmmpckdaaLgD
import Derived.Test.YtabghjlmmpckdaaFlM
import Derived.Test.YtabghjlmmpckdaaLgF
namespace Go.Proofs.Ytabghjlmmpckdaa
open Go.ChangeShapes Go.WideShapes Go.ChangeAt Go.RowKit Go.Joins Go.Deep
set_option linter.unusedVariables false

theorem cv_bound {k : Nat} {g : Lg} (h : LgOK k g) (nm : ByteArray) : 0 ≤ (cdVal g.cs nm).1 ∧ (cdVal g.cs nm).1 ≤ (k : Int) * 1000000 ∧ 0 ≤ (cdVal g.cs nm).2 ∧ (cdVal g.cs nm).2 ≤ (k : Int) * 1000000 := by
  unfold cdVal
  cases hx : cdIx g.cs nm with
  | none => dsimp only; omega
  | some j => have := getCd' h.cd (cdIx_lt hx); dsimp only; omega
theorem cvAt_congr (rs : List REv) {a b : ByteArray} (h : a.toList = b.toList) (i : Nat) : cvAt rs a i = cvAt rs b i := by
  unfold cvAt cdVal cdIx
  rw [h]
theorem evR_ok {L : List REv} (h : EvR L) : ∀ r ∈ L, EvOK r := fun r hr => by
  have h1 := h.one r hr
  unfold evOne at h1
  simp only [Bool.and_eq_true] at h1
  obtain ⟨_, _, _, h4, _⟩ := h1
  unfold nameB at h4
  rw [Bool.and_eq_true] at h4
  have := of_decide_eq_true h4.1
  show r.cd.size ≤ 2000000
  omega
theorem ev_kinds {r : REv} (h : evOne r = true) : r.kd = 3 ∨ ((r.kd = 1 ∨ r.kd = 2) ∧ 1 ≤ r.am ∧ r.am ≤ 1000000) := by
  unfold evOne at h
  simp only [Bool.and_eq_true] at h
  obtain ⟨_, _, _, _, h5⟩ := h
  unfold evAmt at h5
  by_cases h3 : r.kd = 3
  · exact .inl h3
  · rw [if_neg h3, Bool.and_eq_true] at h5
    exact .inr ⟨of_decide_eq_true h5.1, of_decide_eq_true h5.2⟩
theorem sRow_empty (w : World) (B : Nat) (hB : B ≤ w.heap.size) : (w.alloc (Obj.cells #[] 9)).ownsRow B 9 1 (.slice (some ⟨w.heap.size, 0, none⟩) 0 0) 0 [] :=
  ⟨rfl, .inr ⟨w.heap.size, 0, #[], rfl, hB, heapNew _ _, Nat.le_refl _, by unfold maxLen; omega, rfl, rfl⟩⟩
/-- What the law reads: the history, the ledger's struct and its rows. -/
structure LwH (lx g : Nat) (L : List REv) (t : Lg) (ca ua fa : Option Addr) (cc uc fc : Nat) (W : World) : Prop where
  evs : EvsAt W g 0 L
  glt : g < W.heap.size
  box : W.heap[lx]? = some (.cells #[.slice ca t.cs.length cc, .slice ua t.us.length uc, .slice fa t.fs.length fc] 31 (0, 0))
  crd : ReadsCd W.heap.size W ca t.cs
  cus : ReadsS W.heap.size W ua t.us
  ref : Reads W.heap.size W fa (iLg t.fs)
theorem LwH.later {lx g : Nat} {L : List REv} {t : Lg} {ca ua fa : Option Addr} {cc uc fc : Nat} {W W' : World} (h : LwH lx g L t ca ua fa cc uc fc W) (hb : Below W.heap.size W W') : LwH lx g L t ca ua fa cc uc fc W' :=
  ⟨h.evs.below hb h.glt, Nat.lt_of_lt_of_le h.glt hb.size, (hb.block lx (blkLt h.box)).trans h.box, (h.crd.below hb).mono hb.size, (h.cus.below hb).mono hb.size, (h.ref.below hb).mono hb.size⟩
namespace FnLedger
set_option maxHeartbeats 16000000 in
set_option maxRecDepth 4000 in
theorem walk (a0 : Option Addr) (len0 cap0 : Nat) (z0 : List Int) (w : World) (r0 : RowB w.heap.size w a0 len0 z0) :
    Calls Try.prog 3 #[.slice a0 len0 cap0] w fun e w' => e = .returned (.bool true) ∧ Below w.heap.size w w' := by
  by_cases hbig : (1048576 : Int) < (len0 : Int)
  · clear r0
    go_enter Try.func3, Try.ntmps3
    go_wp2
    go_ret
    exact ⟨rfl, Below.refl _ _⟩
  have hbig' : (len0 : Int) ≤ 1048576 := by omega
  have hT := history_any a0 len0 cap0 z0 w r0 (by unfold maxLen; omega)
  clear r0 hbig
  obtain ⟨i0, hi, hzz⟩ := Option.map_eq_some_iff.1 strInfo
  simp only [Prod.mk.injEq] at hzz
  obtain ⟨hi0, hi1, hi2⟩ := hzz
  go_enter Try.func3, Try.ntmps3
  go_wp2_with fail
  (first | go_at_call 7 | skip)
  refine hT.mono ?_
  rintro e w1 ⟨pb, g, cp, L, rfl, hR, hl21, hg1, hev1, _, hb1⟩
  have HR : Hid (EvR L) := hR
  have hLg := implLedger_any (some ⟨g, 0, none⟩) cp L (by omega) (evR_ok hR) w1 (.inr ⟨g, 0, rfl, hg1, hev1⟩)
  have hall : evAll L = true := hR.all (by omega)
  have hc0 : lgC L = 0 := by unfold lgC; rw [if_neg (by omega), if_pos hall]
  have hr0 : lgR L = lgAt L L.length := by unfold lgR; rw [if_pos hc0]
  rw [hc0, hr0] at hLg
  have HOk : Hid (∀ i, i ≤ L.length → LgOK i (lgAt L i)) := fun i hi => lgAt_ok i (evGo_le hR.go hi)
  have HBw : Hid (Below w.heap.size w w1) := hb1
  have HE1 : Hid (EvsAt w1 g 0 L ∧ g < w1.heap.size) := ⟨hev1, hg1⟩
  clear hT hR hg1 hev1 hb1 hall hc0 hr0
  go_wp2_with fail
  (first | go_at_call 8 | skip)
  refine hLg.mono ?_
  rintro e w2 ⟨ca, ua, fa, cc, uc, fc, rfl, hcr, hur, hfr, hb2⟩
  have hcl := (HOk.out L.length (Nat.le_refl _)).cl
  have hul := (HOk.out L.length (Nat.le_refl _)).ul
  have hfl := (HOk.out L.length (Nat.le_refl _)).fl
  obtain ⟨t, ht⟩ : ∃ t, t = lgAt L L.length := ⟨_, rfl⟩
  have HTt : Hid (t = lgAt L L.length) := ht
  rw [← ht] at hcr hur hfr hcl hul hfl
  obtain ⟨W3, hW3⟩ : ∃ W3, W3 = w2.alloc (Obj.cells #[.slice ca t.cs.length cc, .slice ua t.us.length uc, .slice fa t.fs.length fc] 31) := ⟨_, rfl⟩
  have HW3 : Hid (W3 = w2.alloc (Obj.cells #[.slice ca t.cs.length cc, .slice ua t.us.length uc, .slice fa t.fs.length fc] 31)) := hW3
  have H3 : Hid (LwH w2.heap.size g L t ca ua fa cc uc fc W3 ∧ Below w.heap.size w W3) := by
    have hb3 : Below w2.heap.size w2 W3 := by rw [hW3]; exact below_alloc _ _
    have hn3 : W3.heap[w2.heap.size]? = some (.cells #[.slice ca t.cs.length cc, .slice ua t.us.length uc, .slice fa t.fs.length fc] 31 (0, 0)) := by rw [hW3]; exact heapNew _ _
    have hb13 := chain hb2 hb3
    exact ⟨⟨HE1.out.1.below hb13 HE1.out.2, Nat.lt_of_lt_of_le HE1.out.2 hb13.size, hn3, ((row_cds hcr).below hb3).mono hb3.size, ((row_strs hur).below hb3).mono hb3.size, ((row_ints hfr).below hb3).mono hb3.size⟩, chain HBw.out hb13⟩
  rw [← ht]
  clear hcr hur hfr hb2 hW3 ht HE1 HBw hLg
  obtain ⟨lx, hlx⟩ : ∃ lx, lx = w2.heap.size := ⟨_, rfl⟩
  obtain ⟨W4, hW4⟩ : ∃ W4, W4 = W3.alloc (Obj.cells #[] 9) := ⟨_, rfl⟩
  have HU0 : Hid (W4.ownsRow W3.heap.size 9 1 (.slice (some ⟨W3.heap.size, 0, none⟩) 0 0) 0 [] ∧ Below W3.heap.size W3 W4) := by rw [hW4]; exact ⟨sRow_empty W3 _ (Nat.le_refl _), below_alloc _ _⟩
  have hz3 : W3.heap.size = lx + 1 := by rw [HW3.out, hlx]; simp
  go_wp2
  rw [← HW3.out, ← hW4, ← hlx]
  rw [← hlx] at H3
  rw [show lx + 1 = W3.heap.size from hz3.symm]
  have HRd : Hid (∀ W, Below W3.heap.size W3 W → LwH lx g L t ca ua fa cc uc fc W) := fun W hW => H3.out.1.later hW
  have HBd : Hid (Below w.heap.size w W3) := H3.out.2
  clear hlx HW3 hW4 H3 hz3
  generalize hug : W3.heap.size = u0 at HU0 ⊢
  have HUg : Hid (W3.heap.size = u0) := hug
  clear hug
  go_loopw [7, 8, 9, 10] (fun v c d _ wr => ∃ (i ug uc2 : Nat), i ≤ L.length ∧ d = .int .i64 (i : Int) ∧ v = .slice (some ⟨ug, 0, none⟩) (lgAt L i).us.length uc2 ∧ c = .int .i64 ((lgAt L i).fs.length : Int) ∧ wr.ownsRow W3.heap.size 9 1 (.slice (some ⟨ug, 0, none⟩) (lgAt L i).us.length uc2) (lgAt L i).us.length ((lgAt L i).us.map .string) ∧ Below W3.heap.size W3 wr) (fun _ _ d _ _ => L.length - (intOf d).toNat)
  case atStart => exact ⟨0, u0, 0, Nat.zero_le _, rfl, rfl, rfl, by rw [HUg.out]; exact HU0.out.1, by rw [HUg.out]; exact HU0.out.2⟩
  case round =>
    clear HU0
    obtain ⟨i, ug, uc2, hil, rfl, rfl, rfl, hrow, hB⟩ := hrel
    have HU : Hid (wr.ownsRow W3.heap.size 9 1 (.slice (some ⟨ug, 0, none⟩) (lgAt L i).us.length uc2) (lgAt L i).us.length ((lgAt L i).us.map .string)) := hrow
    have HB : Hid (Below W3.heap.size W3 wr) := hB
    have HWr : Hid (LwH lx g L t ca ua fa cc uc fc wr) := HRd.out wr hB
    have hfi := (HOk.out i hil).fl
    have hui := (HOk.out i hil).ul
    clear hrow hB
    by_cases hlt : i < L.length
    · have hlt' : (i : Int) < (L.length : Int) := by omega
      obtain ⟨ev, hev⟩ : ∃ ev, L.getD i zEv = ev := ⟨_, rfl⟩
      have hcell := HWr.out.evs i hlt
      rw [hev] at hcell
      have hkd := ev_kinds (show evOne ev = true by rw [← hev, getD_in hlt]; exact HR.out.one _ (List.getElem_mem _))
      obtain ⟨e0, e1, e2, e3, e4, e5⟩ := ev
      have HEV : Hid (L.getD i zEv = ⟨e0, e1, e2, e3, e4, e5⟩) := hev
      obtain ⟨c0, c1, c2, c3, c4, c5⟩ := hcell
      simp only [Nat.zero_add] at c0 c1 c2 c3 c4 c5
      dsimp only at hkd
      have hgw : g < wr.heap.size := HWr.out.glt
      clear hev
      obtain ⟨x0, x1, x2, x3⟩ : wr.cell? ⟨lx, 0, none⟩ = some (.slice ca t.cs.length cc) ∧ wr.cell? ⟨lx, 1, none⟩ = some (.slice ua t.us.length uc) ∧ wr.cell? ⟨lx, 2, none⟩ = some (.slice fa t.fs.length fc) ∧ lx < wr.heap.size := ⟨blkCell HWr.out.box 0 _ rfl, blkCell HWr.out.box 1 _ rfl, blkCell HWr.out.box 2 _ rfl, blkLt HWr.out.box⟩
      cases hrf : rfB L i
      · have HNo : Hid (rfB L i = false) := hrf
        clear hrf
        by_cases hin : (lgAt L i).fs.length < t.fs.length
        · have hne0 : i < t.fs.getD (lgAt L i).fs.length 0 := by rw [HTt.out] at hin ⊢; exact ref_no hlt HNo.out hin
          rcases HWr.out.ref with h | ⟨fb, fo, hfa, hfB, fi⟩
          · have h9 : t.fs.length = 0 := by rw [← iLg_len, h]; rfl
            omega
          have hfv := fi (lgAt L i).fs.length (by rw [iLg_len]; exact hin)
          have hfe : (iLg t.fs).getD (lgAt L i).fs.length 0 = ((t.fs.getD (lgAt L i).fs.length 0 : Nat) : Int) := by simp [iLg, List.getD_eq_getElem?_getD, hin]
          rw [hfe] at hfv
          clear fi hfe
          subst hfa
          generalize t.fs.getD (lgAt L i).fs.length 0 = fv at *
          generalize hrr : (lgAt L i).fs.length = rr at *
          have HRr : Hid ((lgAt L i).fs.length = rr) := hrr
          clear hrr
          have hfn : ((fv : Int) == (i : Int)) = false := by rw [beq_eq_false_iff_ne]; omega
          have hin' : (rr : Int) < (t.fs.length : Int) := by omega
          clear hne0
          rcases hkd with hk3 | ⟨hk12, ham1, ham2⟩
          · have hkb : (e3 == 3) = true := by rw [hk3]; rfl
            obtain ⟨hu1, hu2⟩ := us_coupon (rs := L) (i := i) (HEV.out ▸ hk3)
            rw [HNo.out] at hu1
            have hhb : hasB (lgAt L i).us e4 = false := by have := hu1; rw [HEV.out] at this; exact this.symm
            have HUn : Hid ((lgAt L (i + 1)).us = (lgAt L i).us ++ [e4]) := by rw [hu2]; rw [HEV.out]; show (if hasB (lgAt L i).us e4 = true then _ else _) = _; rw [hhb]; rfl
            have HFn : Hid ((lgAt L (i + 1)).fs.length = rr) := by rw [fs_len, HNo.out, HRr.out]; rfl
            have hHas := lawHas_any (some ⟨ug, 0, none⟩) uc2 (lgAt L i).us (by omega) e4 wr (row_strs HU.out)
            rw [hhb] at hHas
            clear hu1 hu2 hhb hk3 HNo
            generalize (lgAt L i).us = us at *
            go_wp2_with fail
            (first | go_at_call 9 | skip)
            refine hHas.mono ?_
            rintro e wx ⟨rfl, hx⟩
            rw [hx]
            clear hx wx hHas
            have HM4 : Hid ((wr.alloc (Obj.cells #[.string e4] 9)).ownsRow W3.heap.size 9 1 (.slice (some ⟨ug, 0, none⟩) us.length uc2) us.length (us.map .string)) := HU.out.alloc _
            have hB4 : W3.heap.size ≤ (wr.alloc (Obj.cells #[.string e4] 9)).heap.size := by have := HB.out.size; simp; omega
            have HBa : Hid (Below W3.heap.size W3 (wr.alloc (Obj.cells #[.string e4] 9))) := chain HB.out (below_alloc _ _)
            go_wp2_with (at_builtin; refine wpList_append_any rfl _ _ 28 rfl W3.heap.size 9 i0 (.string ⟨#[]⟩) 1 16 Try.underlying28 hi hi0 hi1 hi2 rfl (by decide) _ _ _ rfl HM4.out (some ⟨wr.heap.size, 0, none⟩) 1 1 [.string e4] rfl rfl (fun _ => ⟨_, rfl, newsOne wr _ _⟩) (by intro u hu; simp at hu; subst hu; rfl) (by unfold maxLen; omega) (by omega) hB4 ?_; intro va vc w5 hown hgr hat; have HT5 : Hid (w5.ownsRow W3.heap.size 9 1 (.slice va (us.length + 1) vc) (us.length + 1) (us.map .string ++ [.string e4]) ∧ Below W3.heap.size W3 w5) := ⟨hown, HBa.out.grown hgr hB4 (fun q hq => (row_lt HM4.out q hq).1)⟩; clear hown hgr hat)
            have HFin : Hid (∃ ug2, (.slice va (us.length + 1) vc : Value) = .slice (some ⟨ug2, 0, none⟩) (lgAt L (i + 1)).us.length vc ∧ w5.ownsRow W3.heap.size 9 1 (.slice (some ⟨ug2, 0, none⟩) (lgAt L (i + 1)).us.length vc) (lgAt L (i + 1)).us.length ((lgAt L (i + 1)).us.map .string)) := by
              obtain ⟨g2, c2, hq2⟩ := row_some HT5.out.1 (by omega)
              have hc2 : c2 = vc := by simp only [Value.slice.injEq, true_and] at hq2; exact hq2.2.symm
              subst hc2
              have hn : us.length + 1 = (lgAt L (i + 1)).us.length := by rw [HUn.out]; simp
              refine ⟨g2, by rw [hq2, hn], ?_⟩
              have h := HT5.out.1
              rw [hq2, hn] at h
              rw [HUn.out] at h ⊢
              rw [List.map_append]
              exact h
            obtain ⟨ug2, hv2, hro2⟩ := HFin.out
            first
            | exact ⟨⟨i + 1, ug2, vc, by omega, by go_num, hv2, by rw [HFn.out], hro2, HT5.out.2⟩, by simp [intOf]; omega⟩
            | (go_roundw
               case rel => exact ⟨i + 1, ug2, vc, by omega, by go_num, hv2, by rw [HFn.out], hro2, HT5.out.2⟩
               case measure => simp [intOf]; omega)
          · have hkb : (e3 == 3) = false := by rcases hk12 with h | h <;> rw [h] <;> rfl
            have HUn : Hid ((lgAt L (i + 1)).us = (lgAt L i).us) := us_card (by rw [HEV.out]; show ¬ e3 = 3; omega)
            have HFn : Hid ((lgAt L (i + 1)).fs.length = rr) := by rw [fs_len, HNo.out, HRr.out]; rfl
            clear hk12 HNo
            have HRow : Hid (wr.ownsRow W3.heap.size 9 1 (.slice (some ⟨ug, 0, none⟩) (lgAt L (i + 1)).us.length uc2) (lgAt L (i + 1)).us.length ((lgAt L (i + 1)).us.map .string)) := by rw [HUn.out]; exact HU.out
            have hul2 : (lgAt L i).us.length = (lgAt L (i + 1)).us.length := by rw [HUn.out]
            rw [hul2]
            clear hul2 HU HUn
            go_wp2
            first
            | exact ⟨⟨i + 1, ug, uc2, by omega, by go_num, rfl, by rw [HFn.out], HRow.out, HB.out⟩, by simp [intOf]; omega⟩
            | (go_roundw
               case rel => exact ⟨i + 1, ug, uc2, by omega, by go_num, rfl, by rw [HFn.out], HRow.out, HB.out⟩
               case measure => simp [intOf]; omega)
        · generalize hrr : (lgAt L i).fs.length = rr at *
          have HRr : Hid ((lgAt L i).fs.length = rr) := hrr
          clear hrr
          have hin' : ¬ ((rr : Int) < (t.fs.length : Int)) := by omega
          rcases hkd with hk3 | ⟨hk12, ham1, ham2⟩
          · have hkb : (e3 == 3) = true := by rw [hk3]; rfl
            obtain ⟨hu1, hu2⟩ := us_coupon (rs := L) (i := i) (HEV.out ▸ hk3)
            rw [HNo.out] at hu1
            have hhb : hasB (lgAt L i).us e4 = false := by have := hu1; rw [HEV.out] at this; exact this.symm
            have HUn : Hid ((lgAt L (i + 1)).us = (lgAt L i).us ++ [e4]) := by rw [hu2]; rw [HEV.out]; show (if hasB (lgAt L i).us e4 = true then _ else _) = _; rw [hhb]; rfl
            have HFn : Hid ((lgAt L (i + 1)).fs.length = rr) := by rw [fs_len, HNo.out, HRr.out]; rfl
            have hHas := lawHas_any (some ⟨ug, 0, none⟩) uc2 (lgAt L i).us (by omega) e4 wr (row_strs HU.out)
            rw [hhb] at hHas
            clear hu1 hu2 hhb hk3 HNo
            generalize (lgAt L i).us = us at *
            go_wp2_with fail
            (first | go_at_call 9 | skip)
            refine hHas.mono ?_
            rintro e wx ⟨rfl, hx⟩
            rw [hx]
            clear hx wx hHas
            have HM4 : Hid ((wr.alloc (Obj.cells #[.string e4] 9)).ownsRow W3.heap.size 9 1 (.slice (some ⟨ug, 0, none⟩) us.length uc2) us.length (us.map .string)) := HU.out.alloc _
            have hB4 : W3.heap.size ≤ (wr.alloc (Obj.cells #[.string e4] 9)).heap.size := by have := HB.out.size; simp; omega
            have HBa : Hid (Below W3.heap.size W3 (wr.alloc (Obj.cells #[.string e4] 9))) := chain HB.out (below_alloc _ _)
            go_wp2_with (at_builtin; refine wpList_append_any rfl _ _ 28 rfl W3.heap.size 9 i0 (.string ⟨#[]⟩) 1 16 Try.underlying28 hi hi0 hi1 hi2 rfl (by decide) _ _ _ rfl HM4.out (some ⟨wr.heap.size, 0, none⟩) 1 1 [.string e4] rfl rfl (fun _ => ⟨_, rfl, newsOne wr _ _⟩) (by intro u hu; simp at hu; subst hu; rfl) (by unfold maxLen; omega) (by omega) hB4 ?_; intro va vc w5 hown hgr hat; have HT5 : Hid (w5.ownsRow W3.heap.size 9 1 (.slice va (us.length + 1) vc) (us.length + 1) (us.map .string ++ [.string e4]) ∧ Below W3.heap.size W3 w5) := ⟨hown, HBa.out.grown hgr hB4 (fun q hq => (row_lt HM4.out q hq).1)⟩; clear hown hgr hat)
            have HFin : Hid (∃ ug2, (.slice va (us.length + 1) vc : Value) = .slice (some ⟨ug2, 0, none⟩) (lgAt L (i + 1)).us.length vc ∧ w5.ownsRow W3.heap.size 9 1 (.slice (some ⟨ug2, 0, none⟩) (lgAt L (i + 1)).us.length vc) (lgAt L (i + 1)).us.length ((lgAt L (i + 1)).us.map .string)) := by
              obtain ⟨g2, c2, hq2⟩ := row_some HT5.out.1 (by omega)
              have hc2 : c2 = vc := by simp only [Value.slice.injEq, true_and] at hq2; exact hq2.2.symm
              subst hc2
              have hn : us.length + 1 = (lgAt L (i + 1)).us.length := by rw [HUn.out]; simp
              refine ⟨g2, by rw [hq2, hn], ?_⟩
              have h := HT5.out.1
              rw [hq2, hn] at h
              rw [HUn.out] at h ⊢
              rw [List.map_append]
              exact h
            obtain ⟨ug2, hv2, hro2⟩ := HFin.out
            first
            | exact ⟨⟨i + 1, ug2, vc, by omega, by go_num, hv2, by rw [HFn.out], hro2, HT5.out.2⟩, by simp [intOf]; omega⟩
            | (go_roundw
               case rel => exact ⟨i + 1, ug2, vc, by omega, by go_num, hv2, by rw [HFn.out], hro2, HT5.out.2⟩
               case measure => simp [intOf]; omega)
          · have hkb : (e3 == 3) = false := by rcases hk12 with h | h <;> rw [h] <;> rfl
            have HUn : Hid ((lgAt L (i + 1)).us = (lgAt L i).us) := us_card (by rw [HEV.out]; show ¬ e3 = 3; omega)
            have HFn : Hid ((lgAt L (i + 1)).fs.length = rr) := by rw [fs_len, HNo.out, HRr.out]; rfl
            clear hk12 HNo
            have HRow : Hid (wr.ownsRow W3.heap.size 9 1 (.slice (some ⟨ug, 0, none⟩) (lgAt L (i + 1)).us.length uc2) (lgAt L (i + 1)).us.length ((lgAt L (i + 1)).us.map .string)) := by rw [HUn.out]; exact HU.out
            have hul2 : (lgAt L i).us.length = (lgAt L (i + 1)).us.length := by rw [HUn.out]
            rw [hul2]
            clear hul2 HU HUn
            go_wp2
            first
            | exact ⟨⟨i + 1, ug, uc2, by omega, by go_num, rfl, by rw [HFn.out], HRow.out, HB.out⟩, by simp [intOf]; omega⟩
            | (go_roundw
               case rel => exact ⟨i + 1, ug, uc2, by omega, by go_num, rfl, by rw [HFn.out], HRow.out, HB.out⟩
               case measure => simp [intOf]; omega)
      · have HYes : Hid (rfB L i = true) := hrf
        clear hrf
        obtain ⟨hin, hfv0⟩ : (lgAt L i).fs.length < t.fs.length ∧ t.fs.getD (lgAt L i).fs.length 0 = i := by rw [HTt.out]; exact ref_yes hlt HYes.out
        rcases HWr.out.ref with h | ⟨fb, fo, hfa, hfB, fi⟩
        · have h9 : t.fs.length = 0 := by rw [← iLg_len, h]; rfl
          omega
        have hfv := fi (lgAt L i).fs.length (by rw [iLg_len]; exact hin)
        have hfe : (iLg t.fs).getD (lgAt L i).fs.length 0 = ((t.fs.getD (lgAt L i).fs.length 0 : Nat) : Int) := by simp [iLg, List.getD_eq_getElem?_getD, hin]
        rw [hfe, hfv0] at hfv
        clear fi hfe hfv0
        subst hfa
        generalize hrr : (lgAt L i).fs.length = rr at *
        have HRr : Hid ((lgAt L i).fs.length = rr) := hrr
        clear hrr
        have hin' : (rr : Int) < (t.fs.length : Int) := by omega
        have hwr : IntKind.i64.wrap ((rr : Int) + 1) = (rr : Int) + 1 := wrap_id _ (by omega) (by omega)
        have HFn : Hid ((lgAt L (i + 1)).fs.length = rr + 1) := by rw [fs_len, HYes.out, HRr.out]; rfl
        rcases hkd with hk3 | ⟨hk12, ham1, ham2⟩
        · have hkb : (e3 == 3) = true := by rw [hk3]; rfl
          obtain ⟨hu1, hu2⟩ := us_coupon (rs := L) (i := i) (HEV.out ▸ hk3)
          rw [HYes.out] at hu1
          have hhb : hasB (lgAt L i).us e4 = true := by have := hu1; rw [HEV.out] at this; exact this.symm
          have HUn : Hid ((lgAt L (i + 1)).us = (lgAt L i).us) := by rw [hu2]; rw [HEV.out]; show (if hasB (lgAt L i).us e4 = true then _ else _) = _; rw [hhb]; rfl
          have hHas := lawHas_any (some ⟨ug, 0, none⟩) uc2 (lgAt L i).us (by omega) e4 wr (row_strs HU.out)
          rw [hhb] at hHas
          have HRow : Hid (wr.ownsRow W3.heap.size 9 1 (.slice (some ⟨ug, 0, none⟩) (lgAt L (i + 1)).us.length uc2) (lgAt L (i + 1)).us.length ((lgAt L (i + 1)).us.map .string)) := by rw [HUn.out]; exact HU.out
          have hul2 : (lgAt L i).us.length = (lgAt L (i + 1)).us.length := by rw [HUn.out]
          rw [hul2] at hHas ⊢
          clear hu1 hu2 hhb hk3 HYes HU HUn hul2
          go_wp2_with fail
          (first | go_at_call 9 | skip)
          refine hHas.mono ?_
          rintro e wx ⟨rfl, hx⟩
          rw [hx]
          clear hx wx hHas
          go_wp2
          first
          | exact ⟨⟨i + 1, ug, uc2, by omega, by go_num, rfl, by rw [HFn.out]; go_num, HRow.out, HB.out⟩, by simp [intOf]; omega⟩
          | (go_roundw
             case rel => exact ⟨i + 1, ug, uc2, by omega, by go_num, rfl, by rw [HFn.out]; go_num, HRow.out, HB.out⟩
             case measure => simp [intOf]; omega)
        · have hkb : (e3 == 3) = false := by rcases hk12 with h | h <;> rw [h] <;> rfl
          have HUn : Hid ((lgAt L (i + 1)).us = (lgAt L i).us) := us_card (by rw [HEV.out]; show ¬ e3 = 3; omega)
          have HRow : Hid (wr.ownsRow W3.heap.size 9 1 (.slice (some ⟨ug, 0, none⟩) (lgAt L (i + 1)).us.length uc2) (lgAt L (i + 1)).us.length ((lgAt L (i + 1)).us.map .string)) := by rw [HUn.out]; exact HU.out
          have hul2 : (lgAt L i).us.length = (lgAt L (i + 1)).us.length := by rw [HUn.out]
          rw [hul2]
          clear hul2 HU HUn hk12 HYes
          go_wp2
          first
          | exact ⟨⟨i + 1, ug, uc2, by omega, by go_num, rfl, by rw [HFn.out]; go_num, HRow.out, HB.out⟩, by simp [intOf]; omega⟩
          | (go_roundw
             case rel => exact ⟨i + 1, ug, uc2, by omega, by go_num, rfl, by rw [HFn.out]; go_num, HRow.out, HB.out⟩
             case measure => simp [intOf]; omega)
    · obtain rfl : i = L.length := by omega
      rw [← HTt.out] at HU ⊢
      clear hfi hui
      obtain ⟨x0, x1, x2, x3⟩ : wr.cell? ⟨lx, 0, none⟩ = some (.slice ca t.cs.length cc) ∧ wr.cell? ⟨lx, 1, none⟩ = some (.slice ua t.us.length uc) ∧ wr.cell? ⟨lx, 2, none⟩ = some (.slice fa t.fs.length fc) ∧ lx < wr.heap.size := ⟨blkCell HWr.out.box 0 _ rfl, blkCell HWr.out.box 1 _ rfl, blkCell HWr.out.box 2 _ rfl, blkLt HWr.out.box⟩
      have hSm := sameTexts_any (some ⟨ug, 0, none⟩) ua uc2 uc t.us (by omega) wr (row_strs HU.out) HWr.out.cus
      have hff : ((t.fs.length : Int) != (t.fs.length : Int)) = false := by simp
      go_wp2_with fail
      (first | go_at_call 10 | skip)
      refine hSm.mono ?_
      rintro e w5 ⟨rfl, hb5⟩
      have HB5 : Hid (Below W3.heap.size W3 w5) := chain HB.out hb5
      have HW5 : Hid (LwH lx g L t ca ua fa cc uc fc w5) := HRd.out w5 HB5.out
      clear hSm hb5 HB HWr x0 x1 x2 x3 HU
      go_wp2
      go_loopw [8, 11, 12, 13, 14, 15, 16] (fun _ d _ _ _ _ _ wr => ∃ k : Nat, k ≤ t.cs.length ∧ d = .int .i64 (k : Int) ∧ Below W3.heap.size W3 wr) (fun _ d _ _ _ _ _ _ => t.cs.length - (intOf d).toNat)
      case atStart => exact ⟨0, Nat.zero_le _, rfl, HB5.out⟩
      case round =>
        clear HB5 HW5
        obtain ⟨k, hkl, rfl, hB⟩ := hrel
        have HB : Hid (Below W3.heap.size W3 wr) := hB
        have HWr : Hid (LwH lx g L t ca ua fa cc uc fc wr) := HRd.out wr hB
        have x0 : wr.cell? ⟨lx, 0, none⟩ = some (.slice ca t.cs.length cc) := blkCell HWr.out.box 0 _ rfl
        have x3 : lx < wr.heap.size := blkLt HWr.out.box
        clear hB
        by_cases hkt : k < t.cs.length
        · have hkt' : (k : Int) < (t.cs.length : Int) := by omega
          rcases HWr.out.crd with h | ⟨cb, co, hca, hcB, ci⟩
          · rw [h] at hkt; simp at hkt
          obtain ⟨q0, q1, q2, q3⟩ := ci k hkt
          have HEnd : Hid (cvAt L (t.cs.getD k zCd).nm L.length = ((t.cs.getD k zCd).ld, (t.cs.getD k zCd).sp)) := by rw [HTt.out]; exact cv_end (by rw [← HTt.out]; exact hkt)
          have hok := (HOk.out L.length (Nat.le_refl _)).cd
          rw [← HTt.out] at hok
          have hck := getCd' hok hkt
          subst hca
          clear ci hok
          generalize t.cs.getD k zCd = cd at q0 q1 q2 q3 HEnd hck
          obtain ⟨nm, lf, ld, sp⟩ := cd
          dsimp only at q0 q1 q2 q3 HEnd hck
          obtain ⟨z1, z2, z3, z4, z5, z6, z7⟩ := hck
          have HZ : Hid (lf = ld - sp) := z7
          clear z7
          obtain ⟨Wx, hWx⟩ : ∃ Wx, Wx = wr.alloc (Obj.cells #[.string nm, .int .i64 lf, .int .i64 ld, .int .i64 sp] 39) := ⟨_, rfl⟩
          have HWx : Hid (Wx.heap[wr.heap.size]? = some (.cells #[.string nm, .int .i64 lf, .int .i64 ld, .int .i64 sp] 39 (0, 0)) ∧ Below W3.heap.size W3 Wx) := by rw [hWx]; exact ⟨heapNew _ _, chain HB.out (below_alloc _ _)⟩
          go_wp2
          rw [← hWx]
          clear hWx x0 q0 q1 q2 q3 HWr HB
          generalize wr.heap.size = bx at *
          go_loopw [8, 13, 14, 15, 16] (fun c dl ds d _ wr => ∃ i : Nat, i ≤ L.length ∧ d = .int .i64 (i : Int) ∧ c = .int .i64 ((lgAt L i).fs.length : Int) ∧ dl = .int .i64 (cvAt L nm i).1 ∧ ds = .int .i64 (cvAt L nm i).2 ∧ wr.heap[bx]? = some (.cells #[.string nm, .int .i64 lf, .int .i64 ld, .int .i64 sp] 39 (0, 0)) ∧ Below W3.heap.size W3 wr) (fun _ _ _ d _ _ => L.length - (intOf d).toNat)
          case atStart => exact ⟨0, Nat.zero_le _, rfl, rfl, rfl, rfl, HWx.out.1, HWx.out.2⟩
          case round =>
            clear HWx
            obtain ⟨i, hil, rfl, rfl, rfl, rfl, hbx, hB⟩ := hrel
            have HBX : Hid (wr.heap[bx]? = some (.cells #[.string nm, .int .i64 lf, .int .i64 ld, .int .i64 sp] 39 (0, 0))) := hbx
            have HB : Hid (Below W3.heap.size W3 wr) := hB
            have HWr : Hid (LwH lx g L t (some ⟨cb, co, none⟩) ua fa cc uc fc wr) := HRd.out wr hB
            have hfi := (HOk.out i hil).fl
            have hcb := cv_bound (HOk.out i hil) nm
            have hcv : cvAt L nm i = cdVal (lgAt L i).cs nm := rfl
            rw [← hcv] at hcb
            obtain ⟨b1, b2, b3, b4⟩ := hcb
            clear hbx hB hcv
            by_cases hlt : i < L.length
            · have hlt' : (i : Int) < (L.length : Int) := by omega
              obtain ⟨ev, hev⟩ : ∃ ev, L.getD i zEv = ev := ⟨_, rfl⟩
              have hcell := HWr.out.evs i hlt
              rw [hev] at hcell
              have hkd := ev_kinds (show evOne ev = true by rw [← hev, getD_in hlt]; exact HR.out.one _ (List.getElem_mem _))
              obtain ⟨e0, e1, e2, e3, e4, e5⟩ := ev
              have HEV : Hid (L.getD i zEv = ⟨e0, e1, e2, e3, e4, e5⟩) := hev
              obtain ⟨c0, c1, c2, c3, c4, c5⟩ := hcell
              simp only [Nat.zero_add] at c0 c1 c2 c3 c4 c5
              dsimp only at hkd
              have hgw : g < wr.heap.size := HWr.out.glt
              clear hev
              have HOi : Hid (LgOK i (lgAt L i)) := HOk.out i hil
              obtain ⟨x0, x1, x2, x3⟩ : wr.cell? ⟨lx, 0, none⟩ = some (.slice (some ⟨cb, co, none⟩) t.cs.length cc) ∧ wr.cell? ⟨lx, 1, none⟩ = some (.slice ua t.us.length uc) ∧ wr.cell? ⟨lx, 2, none⟩ = some (.slice fa t.fs.length fc) ∧ lx < wr.heap.size := ⟨blkCell HWr.out.box 0 _ rfl, blkCell HWr.out.box 1 _ rfl, blkCell HWr.out.box 2 _ rfl, blkLt HWr.out.box⟩
              cases hrf : rfB L i
              · have HNo : Hid (rfB L i = false) := hrf
                clear hrf
                by_cases hin : (lgAt L i).fs.length < t.fs.length
                · have hne0 : i < t.fs.getD (lgAt L i).fs.length 0 := by rw [HTt.out] at hin ⊢; exact ref_no hlt HNo.out hin
                  rcases HWr.out.ref with h | ⟨fb, fo, hfa, hfB, fi⟩
                  · have h9 : t.fs.length = 0 := by rw [← iLg_len, h]; rfl
                    omega
                  have hfv := fi (lgAt L i).fs.length (by rw [iLg_len]; exact hin)
                  have hfe : (iLg t.fs).getD (lgAt L i).fs.length 0 = ((t.fs.getD (lgAt L i).fs.length 0 : Nat) : Int) := by simp [iLg, List.getD_eq_getElem?_getD, hin]
                  rw [hfe] at hfv
                  clear fi hfe
                  subst hfa
                  generalize t.fs.getD (lgAt L i).fs.length 0 = fv at *
                  generalize hrr : (lgAt L i).fs.length = rr at *
                  have HRr : Hid ((lgAt L i).fs.length = rr) := hrr
                  clear hrr
                  have hfn : ((fv : Int) == (i : Int)) = false := by rw [beq_eq_false_iff_ne]; omega
                  have hin' : (rr : Int) < (t.fs.length : Int) := by omega
                  clear hne0
                  have HFn : Hid ((lgAt L (i + 1)).fs.length = rr) := by rw [fs_len, HNo.out, HRr.out]; rfl
                  have HQ : Hid (∀ W, Below wr.heap.size wr W → W.cell? ⟨g, i * 6 + 4, none⟩ = some (.string e4) ∧ W.cell? ⟨g, i * 6 + 3, none⟩ = some (.int .i64 e3) ∧ W.cell? ⟨bx, 0, none⟩ = some (.string nm)) := fun W hW => ⟨(hW.cell (p := ⟨g, i * 6 + 4, none⟩) hgw).trans c4, (hW.cell (p := ⟨g, i * 6 + 3, none⟩) hgw).trans c3, (hW.cell (p := ⟨bx, 0, none⟩) (blkLt HBX.out)).trans (blkCell HBX.out 0 _ rfl)⟩
                  by_cases hnm : e4.toList = nm.toList
                  · have HNm : Hid (e4.toList = nm.toList) := hnm
                    rcases hkd with hk3 | ⟨hk12, ham1, ham2⟩
                    · have HCv : Hid (cvAt L nm (i + 1) = cvAt L nm i) := cv_coupon nm (by rw [HEV.out]; exact hk3)
                      have hkb : (e3 == 3) = true := by rw [hk3]; rfl
                      clear HNo hk3 hnm
                      go_wp2_with fail
                      refine wp_region_held_drew (S := fun W' => Below wr.heap.size wr W') (by kernel_rfl) (below_drew _) (fun hH => ?_)
                      refine wpAnyH_take (i := 0) (v := .slice (some ⟨g, 0, none⟩) L.length cp) rfl (by kernel_rfl) (by kernel_rfl) (by kernel_rfl) (fun _ _ _ h => h) (Or.inl ⟨by rfl, fun w hSw => by go_simp⟩) hH ?_
                      refine wpAnyH_take (i := 1) (v := .int .i64 (i : Int)) rfl (by kernel_rfl) (by kernel_rfl) (by kernel_rfl) (fun _ _ _ h => h) (Or.inl ⟨by rfl, fun w hSw => by go_simp⟩) hH ?_
                      try simp only [Act.put, List.setIfInBounds_toArray, List.set_cons_zero, List.set_cons_succ, List.getElem_toArray, List.getElem_cons_succ, List.getElem_cons_zero]
                      refine wpAnyH_take (i := 2) (v := .pointer (some ⟨g, i * 6, none⟩)) rfl (by kernel_rfl) (by kernel_rfl) (by kernel_rfl) (fun _ _ _ h => h) (Or.inl ⟨by rfl, fun w hSw => by have f := hlt; go_simp⟩) hH ?_
                      try simp only [Act.put, List.setIfInBounds_toArray, List.set_cons_zero, List.set_cons_succ, List.getElem_toArray, List.getElem_cons_succ, List.getElem_cons_zero]
                      refine wpAnyH_take (i := 3) (v := .pointer (some ⟨g, i * 6 + 4, none⟩)) rfl (by kernel_rfl) (by kernel_rfl) (by kernel_rfl) (fun _ _ _ h => h) (Or.inl ⟨by rfl, fun w hSw => by go_simp⟩) hH ?_
                      try simp only [Act.put, List.setIfInBounds_toArray, List.set_cons_zero, List.set_cons_succ, List.getElem_toArray, List.getElem_cons_succ, List.getElem_cons_zero]
                      refine wpAnyH_take (i := 4) (v := .string e4) rfl (by kernel_rfl) (by kernel_rfl) (by kernel_rfl) (fun _ _ _ h => h) (Or.inl ⟨by rfl, fun w hSw => by have f := (HQ.out w hSw).1; go_simp⟩) hH ?_
                      try simp only [Act.put, List.setIfInBounds_toArray, List.set_cons_zero, List.set_cons_succ, List.getElem_toArray, List.getElem_cons_succ, List.getElem_cons_zero]
                      refine wpAnyH_take (i := 5) (v := .pointer (some ⟨bx, 0, none⟩)) rfl (by kernel_rfl) (by kernel_rfl) (by kernel_rfl) (fun _ _ _ h => h) (Or.inl ⟨by rfl, fun w hSw => by go_simp⟩) hH ?_
                      try simp only [Act.put, List.setIfInBounds_toArray, List.set_cons_zero, List.set_cons_succ, List.getElem_toArray, List.getElem_cons_succ, List.getElem_cons_zero]
                      refine wpAnyH_take (i := 6) (v := .string nm) rfl (by kernel_rfl) (by kernel_rfl) (by kernel_rfl) (fun _ _ _ h => h) (Or.inl ⟨by rfl, fun w hSw => by have f := (HQ.out w hSw).2.2; go_simp⟩) hH ?_
                      try simp only [Act.put, List.setIfInBounds_toArray, List.set_cons_zero, List.set_cons_succ, List.getElem_toArray, List.getElem_cons_succ, List.getElem_cons_zero]
                      refine wpAnyH_take (i := 7) (v := .bool false) rfl (by kernel_rfl) (by kernel_rfl) (by kernel_rfl) (fun _ _ _ h => h) (Or.inl ⟨by rfl, fun w hSw => by have f := HNm.out; go_simp⟩) hH ?_
                      try simp only [Act.put, List.setIfInBounds_toArray, List.set_cons_zero, List.set_cons_succ, List.getElem_toArray, List.getElem_cons_succ, List.getElem_cons_zero]
                      refine wpAnyH_take (i := 8) (v := .bool false) rfl (by kernel_rfl) (by kernel_rfl) (by kernel_rfl) (fun _ _ _ h => h) (Or.inl ⟨by rfl, fun w hSw => by go_simp⟩) hH ?_
                      try simp only [Act.put, List.setIfInBounds_toArray, List.set_cons_zero, List.set_cons_succ, List.getElem_toArray, List.getElem_cons_succ, List.getElem_cons_zero]
                      refine wpAnyH_take (i := 9) (v := .slice (some ⟨g, 0, none⟩) L.length cp) rfl (by kernel_rfl) (by kernel_rfl) (by kernel_rfl) (fun _ _ _ h => h) (Or.inl ⟨by rfl, fun w hSw => by go_simp⟩) hH ?_
                      try simp only [Act.put, List.setIfInBounds_toArray, List.set_cons_zero, List.set_cons_succ, List.getElem_toArray, List.getElem_cons_succ, List.getElem_cons_zero]
                      refine wpAnyH_take (i := 10) (v := .int .i64 (i : Int)) rfl (by kernel_rfl) (by kernel_rfl) (by kernel_rfl) (fun _ _ _ h => h) (Or.inl ⟨by rfl, fun w hSw => by go_simp⟩) hH ?_
                      try simp only [Act.put, List.setIfInBounds_toArray, List.set_cons_zero, List.set_cons_succ, List.getElem_toArray, List.getElem_cons_succ, List.getElem_cons_zero]
                      refine wpAnyH_take (i := 11) (v := .pointer (some ⟨g, i * 6, none⟩)) rfl (by kernel_rfl) (by kernel_rfl) (by kernel_rfl) (fun _ _ _ h => h) (Or.inl ⟨by rfl, fun w hSw => by have f := hlt; go_simp⟩) hH ?_
                      try simp only [Act.put, List.setIfInBounds_toArray, List.set_cons_zero, List.set_cons_succ, List.getElem_toArray, List.getElem_cons_succ, List.getElem_cons_zero]
                      refine wpAnyH_take (i := 12) (v := .pointer (some ⟨g, i * 6 + 3, none⟩)) rfl (by kernel_rfl) (by kernel_rfl) (by kernel_rfl) (fun _ _ _ h => h) (Or.inl ⟨by rfl, fun w hSw => by go_simp⟩) hH ?_
                      try simp only [Act.put, List.setIfInBounds_toArray, List.set_cons_zero, List.set_cons_succ, List.getElem_toArray, List.getElem_cons_succ, List.getElem_cons_zero]
                      refine wpAnyH_take (i := 13) (v := .int .i64 e3) rfl (by kernel_rfl) (by kernel_rfl) (by kernel_rfl) (fun _ _ _ h => h) (Or.inl ⟨by rfl, fun w hSw => by have f := (HQ.out w hSw).2.1; go_simp⟩) hH ?_
                      try simp only [Act.put, List.setIfInBounds_toArray, List.set_cons_zero, List.set_cons_succ, List.getElem_toArray, List.getElem_cons_succ, List.getElem_cons_zero]
                      refine wpAnyH_take (i := 14) (v := .bool true) rfl (by kernel_rfl) (by kernel_rfl) (by kernel_rfl) (fun _ _ _ h => h) (Or.inl ⟨by rfl, fun w hSw => by have f := hkb; go_simp⟩) hH ?_
                      try simp only [Act.put, List.setIfInBounds_toArray, List.set_cons_zero, List.set_cons_succ, List.getElem_toArray, List.getElem_cons_succ, List.getElem_cons_zero]
                      refine wpAnyH_take (i := 15) (v := .bool true) rfl (by kernel_rfl) (by kernel_rfl) (by kernel_rfl) (fun _ _ _ h => h) (Or.inl ⟨by rfl, fun w hSw => by go_simp⟩) hH ?_
                      try simp only [Act.put, List.setIfInBounds_toArray, List.set_cons_zero, List.set_cons_succ, List.getElem_toArray, List.getElem_cons_succ, List.getElem_cons_zero]
                      refine wpAnyH_done (by kernel_rfl) ?_ _
                      have HBX2 : Hid (wr.drew.heap[bx]? = some (.cells #[.string nm, .int .i64 lf, .int .i64 ld, .int .i64 sp] 39 (0, 0))) := HBX.out
                      have HB2 : Hid (Below W3.heap.size W3 wr.drew) := chain HB.out (below_drew _)
                      have m5 : wr.drew.cell? ⟨g, i * 6 + 5, none⟩ = some (.int .i64 e5) := c5
                      have m3 : wr.drew.cell? ⟨g, i * 6 + 3, none⟩ = some (.int .i64 e3) := c3
                      have hgd : g < wr.drew.heap.size := hgw
                      clear hH HQ HBX HB HWr c0 c1 c2 c3 c4 c5
                      generalize wr.drew = wd at *
                      go_wp2
                      first
                      | exact ⟨⟨i + 1, by omega, by go_num, by rw [HFn.out], by rw [HCv.out], by rw [HCv.out], HBX2.out, HB2.out⟩, by simp [intOf]; omega⟩
                      | (go_roundw
                         case rel => exact ⟨i + 1, by omega, by go_num, by rw [HFn.out], by rw [HCv.out], by rw [HCv.out], HBX2.out, HB2.out⟩
                         case measure => simp [intOf]; omega)
                    · rcases hk12 with hk1 | hk2
                      · obtain ⟨_, hs2⟩ := cv_load (rs := L) (i := i) nm (by rw [HEV.out]; exact hk1)
                        rw [HEV.out] at hs2
                        dsimp only at hs2
                        have HCv : Hid (cvAt L nm (i + 1) = ((cvAt L nm i).1 + e5, (cvAt L nm i).2)) := by rw [hs2]; exact if_pos hnm
                        have hkb : (e3 == 3) = false := by rw [hk1]; rfl
                        have hk1b : (e3 == 1) = true := by rw [hk1]; rfl
                        clear hs2 HNo hk1 hnm
                        generalize hcvg : cvAt L nm i = cv at *
                        clear hcvg
                        obtain ⟨l1, l2⟩ := cv
                        dsimp only at HCv b1 b2 b3 b4 ⊢
                        have hw2 : IntKind.i64.wrap (l1 + e5) = l1 + e5 := wrap_id _ (by omega) (by omega)
                        go_wp2_with fail
                        refine wp_region_held_drew (S := fun W' => Below wr.heap.size wr W') (by kernel_rfl) (below_drew _) (fun hH => ?_)
                        refine wpAnyH_take (i := 0) (v := .slice (some ⟨g, 0, none⟩) L.length cp) rfl (by kernel_rfl) (by kernel_rfl) (by kernel_rfl) (fun _ _ _ h => h) (Or.inl ⟨by rfl, fun w hSw => by go_simp⟩) hH ?_
                        refine wpAnyH_take (i := 1) (v := .int .i64 (i : Int)) rfl (by kernel_rfl) (by kernel_rfl) (by kernel_rfl) (fun _ _ _ h => h) (Or.inl ⟨by rfl, fun w hSw => by go_simp⟩) hH ?_
                        try simp only [Act.put, List.setIfInBounds_toArray, List.set_cons_zero, List.set_cons_succ, List.getElem_toArray, List.getElem_cons_succ, List.getElem_cons_zero]
                        refine wpAnyH_take (i := 2) (v := .pointer (some ⟨g, i * 6, none⟩)) rfl (by kernel_rfl) (by kernel_rfl) (by kernel_rfl) (fun _ _ _ h => h) (Or.inl ⟨by rfl, fun w hSw => by have f := hlt; go_simp⟩) hH ?_
                        try simp only [Act.put, List.setIfInBounds_toArray, List.set_cons_zero, List.set_cons_succ, List.getElem_toArray, List.getElem_cons_succ, List.getElem_cons_zero]
                        refine wpAnyH_take (i := 3) (v := .pointer (some ⟨g, i * 6 + 4, none⟩)) rfl (by kernel_rfl) (by kernel_rfl) (by kernel_rfl) (fun _ _ _ h => h) (Or.inl ⟨by rfl, fun w hSw => by go_simp⟩) hH ?_
                        try simp only [Act.put, List.setIfInBounds_toArray, List.set_cons_zero, List.set_cons_succ, List.getElem_toArray, List.getElem_cons_succ, List.getElem_cons_zero]
                        refine wpAnyH_take (i := 4) (v := .string e4) rfl (by kernel_rfl) (by kernel_rfl) (by kernel_rfl) (fun _ _ _ h => h) (Or.inl ⟨by rfl, fun w hSw => by have f := (HQ.out w hSw).1; go_simp⟩) hH ?_
                        try simp only [Act.put, List.setIfInBounds_toArray, List.set_cons_zero, List.set_cons_succ, List.getElem_toArray, List.getElem_cons_succ, List.getElem_cons_zero]
                        refine wpAnyH_take (i := 5) (v := .pointer (some ⟨bx, 0, none⟩)) rfl (by kernel_rfl) (by kernel_rfl) (by kernel_rfl) (fun _ _ _ h => h) (Or.inl ⟨by rfl, fun w hSw => by go_simp⟩) hH ?_
                        try simp only [Act.put, List.setIfInBounds_toArray, List.set_cons_zero, List.set_cons_succ, List.getElem_toArray, List.getElem_cons_succ, List.getElem_cons_zero]
                        refine wpAnyH_take (i := 6) (v := .string nm) rfl (by kernel_rfl) (by kernel_rfl) (by kernel_rfl) (fun _ _ _ h => h) (Or.inl ⟨by rfl, fun w hSw => by have f := (HQ.out w hSw).2.2; go_simp⟩) hH ?_
                        try simp only [Act.put, List.setIfInBounds_toArray, List.set_cons_zero, List.set_cons_succ, List.getElem_toArray, List.getElem_cons_succ, List.getElem_cons_zero]
                        refine wpAnyH_take (i := 7) (v := .bool false) rfl (by kernel_rfl) (by kernel_rfl) (by kernel_rfl) (fun _ _ _ h => h) (Or.inl ⟨by rfl, fun w hSw => by have f := HNm.out; go_simp⟩) hH ?_
                        try simp only [Act.put, List.setIfInBounds_toArray, List.set_cons_zero, List.set_cons_succ, List.getElem_toArray, List.getElem_cons_succ, List.getElem_cons_zero]
                        refine wpAnyH_take (i := 8) (v := .bool false) rfl (by kernel_rfl) (by kernel_rfl) (by kernel_rfl) (fun _ _ _ h => h) (Or.inl ⟨by rfl, fun w hSw => by go_simp⟩) hH ?_
                        try simp only [Act.put, List.setIfInBounds_toArray, List.set_cons_zero, List.set_cons_succ, List.getElem_toArray, List.getElem_cons_succ, List.getElem_cons_zero]
                        refine wpAnyH_take (i := 9) (v := .slice (some ⟨g, 0, none⟩) L.length cp) rfl (by kernel_rfl) (by kernel_rfl) (by kernel_rfl) (fun _ _ _ h => h) (Or.inl ⟨by rfl, fun w hSw => by go_simp⟩) hH ?_
                        try simp only [Act.put, List.setIfInBounds_toArray, List.set_cons_zero, List.set_cons_succ, List.getElem_toArray, List.getElem_cons_succ, List.getElem_cons_zero]
                        refine wpAnyH_take (i := 10) (v := .int .i64 (i : Int)) rfl (by kernel_rfl) (by kernel_rfl) (by kernel_rfl) (fun _ _ _ h => h) (Or.inl ⟨by rfl, fun w hSw => by go_simp⟩) hH ?_
                        try simp only [Act.put, List.setIfInBounds_toArray, List.set_cons_zero, List.set_cons_succ, List.getElem_toArray, List.getElem_cons_succ, List.getElem_cons_zero]
                        refine wpAnyH_take (i := 11) (v := .pointer (some ⟨g, i * 6, none⟩)) rfl (by kernel_rfl) (by kernel_rfl) (by kernel_rfl) (fun _ _ _ h => h) (Or.inl ⟨by rfl, fun w hSw => by have f := hlt; go_simp⟩) hH ?_
                        try simp only [Act.put, List.setIfInBounds_toArray, List.set_cons_zero, List.set_cons_succ, List.getElem_toArray, List.getElem_cons_succ, List.getElem_cons_zero]
                        refine wpAnyH_take (i := 12) (v := .pointer (some ⟨g, i * 6 + 3, none⟩)) rfl (by kernel_rfl) (by kernel_rfl) (by kernel_rfl) (fun _ _ _ h => h) (Or.inl ⟨by rfl, fun w hSw => by go_simp⟩) hH ?_
                        try simp only [Act.put, List.setIfInBounds_toArray, List.set_cons_zero, List.set_cons_succ, List.getElem_toArray, List.getElem_cons_succ, List.getElem_cons_zero]
                        refine wpAnyH_take (i := 13) (v := .int .i64 e3) rfl (by kernel_rfl) (by kernel_rfl) (by kernel_rfl) (fun _ _ _ h => h) (Or.inl ⟨by rfl, fun w hSw => by have f := (HQ.out w hSw).2.1; go_simp⟩) hH ?_
                        try simp only [Act.put, List.setIfInBounds_toArray, List.set_cons_zero, List.set_cons_succ, List.getElem_toArray, List.getElem_cons_succ, List.getElem_cons_zero]
                        refine wpAnyH_take (i := 14) (v := .bool false) rfl (by kernel_rfl) (by kernel_rfl) (by kernel_rfl) (fun _ _ _ h => h) (Or.inl ⟨by rfl, fun w hSw => by have f := hkb; go_simp⟩) hH ?_
                        try simp only [Act.put, List.setIfInBounds_toArray, List.set_cons_zero, List.set_cons_succ, List.getElem_toArray, List.getElem_cons_succ, List.getElem_cons_zero]
                        refine wpAnyH_take (i := 15) (v := .bool false) rfl (by kernel_rfl) (by kernel_rfl) (by kernel_rfl) (fun _ _ _ h => h) (Or.inl ⟨by rfl, fun w hSw => by go_simp⟩) hH ?_
                        try simp only [Act.put, List.setIfInBounds_toArray, List.set_cons_zero, List.set_cons_succ, List.getElem_toArray, List.getElem_cons_succ, List.getElem_cons_zero]
                        refine wpAnyH_done (by kernel_rfl) ?_ _
                        have HBX2 : Hid (wr.drew.heap[bx]? = some (.cells #[.string nm, .int .i64 lf, .int .i64 ld, .int .i64 sp] 39 (0, 0))) := HBX.out
                        have HB2 : Hid (Below W3.heap.size W3 wr.drew) := chain HB.out (below_drew _)
                        have m5 : wr.drew.cell? ⟨g, i * 6 + 5, none⟩ = some (.int .i64 e5) := c5
                        have m3 : wr.drew.cell? ⟨g, i * 6 + 3, none⟩ = some (.int .i64 e3) := c3
                        have hgd : g < wr.drew.heap.size := hgw
                        clear hH HQ HBX HB HWr c0 c1 c2 c3 c4 c5
                        generalize wr.drew = wd at *
                        go_wp2
                        first
                        | exact ⟨⟨i + 1, by omega, by go_num, by rw [HFn.out], by rw [HCv.out], by rw [HCv.out], HBX2.out, HB2.out⟩, by simp [intOf]; omega⟩
                        | (go_roundw
                           case rel => exact ⟨i + 1, by omega, by go_num, by rw [HFn.out], by rw [HCv.out], by rw [HCv.out], HBX2.out, HB2.out⟩
                           case measure => simp [intOf]; omega)
                      · obtain ⟨hs1, hs2⟩ := cv_spend (rs := L) (i := i) nm (by rw [HEV.out]; exact hk2) HOi.out
                        rw [HEV.out] at hs1 hs2
                        dsimp only at hs1 hs2
                        rw [cvAt_congr L hnm i, HNo.out] at hs1
                        rw [HNo.out] at hs2
                        have HCv : Hid (cvAt L nm (i + 1) = ((cvAt L nm i).1, (cvAt L nm i).2 + e5)) := by rw [hs2]; exact if_pos ⟨hnm, rfl⟩
                        have hkb : (e3 == 3) = false := by rw [hk2]; rfl
                        have hk1 : (e3 == 1) = false := by rw [hk2]; rfl
                        have hgt : decide ((cvAt L nm i).1 - (cvAt L nm i).2 < e5) = false := hs1.symm
                        clear hs1 hs2 HNo hk2 hnm
                        generalize hcvg : cvAt L nm i = cv at *
                        clear hcvg
                        obtain ⟨l1, l2⟩ := cv
                        dsimp only at HCv hgt b1 b2 b3 b4 ⊢
                        have hw1 : IntKind.i64.wrap (l1 - l2) = l1 - l2 := wrap_id _ (by omega) (by omega)
                        have hw2 : IntKind.i64.wrap (l2 + e5) = l2 + e5 := wrap_id _ (by omega) (by omega)
                        have hlt5 : ¬ (l1 - l2 < e5) := of_decide_eq_false hgt
                        go_wp2_with fail
                        refine wp_region_held_drew (S := fun W' => Below wr.heap.size wr W') (by kernel_rfl) (below_drew _) (fun hH => ?_)
                        refine wpAnyH_take (i := 0) (v := .slice (some ⟨g, 0, none⟩) L.length cp) rfl (by kernel_rfl) (by kernel_rfl) (by kernel_rfl) (fun _ _ _ h => h) (Or.inl ⟨by rfl, fun w hSw => by go_simp⟩) hH ?_
                        refine wpAnyH_take (i := 1) (v := .int .i64 (i : Int)) rfl (by kernel_rfl) (by kernel_rfl) (by kernel_rfl) (fun _ _ _ h => h) (Or.inl ⟨by rfl, fun w hSw => by go_simp⟩) hH ?_
                        try simp only [Act.put, List.setIfInBounds_toArray, List.set_cons_zero, List.set_cons_succ, List.getElem_toArray, List.getElem_cons_succ, List.getElem_cons_zero]
                        refine wpAnyH_take (i := 2) (v := .pointer (some ⟨g, i * 6, none⟩)) rfl (by kernel_rfl) (by kernel_rfl) (by kernel_rfl) (fun _ _ _ h => h) (Or.inl ⟨by rfl, fun w hSw => by have f := hlt; go_simp⟩) hH ?_
                        try simp only [Act.put, List.setIfInBounds_toArray, List.set_cons_zero, List.set_cons_succ, List.getElem_toArray, List.getElem_cons_succ, List.getElem_cons_zero]
                        refine wpAnyH_take (i := 3) (v := .pointer (some ⟨g, i * 6 + 4, none⟩)) rfl (by kernel_rfl) (by kernel_rfl) (by kernel_rfl) (fun _ _ _ h => h) (Or.inl ⟨by rfl, fun w hSw => by go_simp⟩) hH ?_
                        try simp only [Act.put, List.setIfInBounds_toArray, List.set_cons_zero, List.set_cons_succ, List.getElem_toArray, List.getElem_cons_succ, List.getElem_cons_zero]
                        refine wpAnyH_take (i := 4) (v := .string e4) rfl (by kernel_rfl) (by kernel_rfl) (by kernel_rfl) (fun _ _ _ h => h) (Or.inl ⟨by rfl, fun w hSw => by have f := (HQ.out w hSw).1; go_simp⟩) hH ?_
                        try simp only [Act.put, List.setIfInBounds_toArray, List.set_cons_zero, List.set_cons_succ, List.getElem_toArray, List.getElem_cons_succ, List.getElem_cons_zero]
                        refine wpAnyH_take (i := 5) (v := .pointer (some ⟨bx, 0, none⟩)) rfl (by kernel_rfl) (by kernel_rfl) (by kernel_rfl) (fun _ _ _ h => h) (Or.inl ⟨by rfl, fun w hSw => by go_simp⟩) hH ?_
                        try simp only [Act.put, List.setIfInBounds_toArray, List.set_cons_zero, List.set_cons_succ, List.getElem_toArray, List.getElem_cons_succ, List.getElem_cons_zero]
                        refine wpAnyH_take (i := 6) (v := .string nm) rfl (by kernel_rfl) (by kernel_rfl) (by kernel_rfl) (fun _ _ _ h => h) (Or.inl ⟨by rfl, fun w hSw => by have f := (HQ.out w hSw).2.2; go_simp⟩) hH ?_
                        try simp only [Act.put, List.setIfInBounds_toArray, List.set_cons_zero, List.set_cons_succ, List.getElem_toArray, List.getElem_cons_succ, List.getElem_cons_zero]
                        refine wpAnyH_take (i := 7) (v := .bool false) rfl (by kernel_rfl) (by kernel_rfl) (by kernel_rfl) (fun _ _ _ h => h) (Or.inl ⟨by rfl, fun w hSw => by have f := HNm.out; go_simp⟩) hH ?_
                        try simp only [Act.put, List.setIfInBounds_toArray, List.set_cons_zero, List.set_cons_succ, List.getElem_toArray, List.getElem_cons_succ, List.getElem_cons_zero]
                        refine wpAnyH_take (i := 8) (v := .bool false) rfl (by kernel_rfl) (by kernel_rfl) (by kernel_rfl) (fun _ _ _ h => h) (Or.inl ⟨by rfl, fun w hSw => by go_simp⟩) hH ?_
                        try simp only [Act.put, List.setIfInBounds_toArray, List.set_cons_zero, List.set_cons_succ, List.getElem_toArray, List.getElem_cons_succ, List.getElem_cons_zero]
                        refine wpAnyH_take (i := 9) (v := .slice (some ⟨g, 0, none⟩) L.length cp) rfl (by kernel_rfl) (by kernel_rfl) (by kernel_rfl) (fun _ _ _ h => h) (Or.inl ⟨by rfl, fun w hSw => by go_simp⟩) hH ?_
                        try simp only [Act.put, List.setIfInBounds_toArray, List.set_cons_zero, List.set_cons_succ, List.getElem_toArray, List.getElem_cons_succ, List.getElem_cons_zero]
                        refine wpAnyH_take (i := 10) (v := .int .i64 (i : Int)) rfl (by kernel_rfl) (by kernel_rfl) (by kernel_rfl) (fun _ _ _ h => h) (Or.inl ⟨by rfl, fun w hSw => by go_simp⟩) hH ?_
                        try simp only [Act.put, List.setIfInBounds_toArray, List.set_cons_zero, List.set_cons_succ, List.getElem_toArray, List.getElem_cons_succ, List.getElem_cons_zero]
                        refine wpAnyH_take (i := 11) (v := .pointer (some ⟨g, i * 6, none⟩)) rfl (by kernel_rfl) (by kernel_rfl) (by kernel_rfl) (fun _ _ _ h => h) (Or.inl ⟨by rfl, fun w hSw => by have f := hlt; go_simp⟩) hH ?_
                        try simp only [Act.put, List.setIfInBounds_toArray, List.set_cons_zero, List.set_cons_succ, List.getElem_toArray, List.getElem_cons_succ, List.getElem_cons_zero]
                        refine wpAnyH_take (i := 12) (v := .pointer (some ⟨g, i * 6 + 3, none⟩)) rfl (by kernel_rfl) (by kernel_rfl) (by kernel_rfl) (fun _ _ _ h => h) (Or.inl ⟨by rfl, fun w hSw => by go_simp⟩) hH ?_
                        try simp only [Act.put, List.setIfInBounds_toArray, List.set_cons_zero, List.set_cons_succ, List.getElem_toArray, List.getElem_cons_succ, List.getElem_cons_zero]
                        refine wpAnyH_take (i := 13) (v := .int .i64 e3) rfl (by kernel_rfl) (by kernel_rfl) (by kernel_rfl) (fun _ _ _ h => h) (Or.inl ⟨by rfl, fun w hSw => by have f := (HQ.out w hSw).2.1; go_simp⟩) hH ?_
                        try simp only [Act.put, List.setIfInBounds_toArray, List.set_cons_zero, List.set_cons_succ, List.getElem_toArray, List.getElem_cons_succ, List.getElem_cons_zero]
                        refine wpAnyH_take (i := 14) (v := .bool false) rfl (by kernel_rfl) (by kernel_rfl) (by kernel_rfl) (fun _ _ _ h => h) (Or.inl ⟨by rfl, fun w hSw => by have f := hkb; go_simp⟩) hH ?_
                        try simp only [Act.put, List.setIfInBounds_toArray, List.set_cons_zero, List.set_cons_succ, List.getElem_toArray, List.getElem_cons_succ, List.getElem_cons_zero]
                        refine wpAnyH_take (i := 15) (v := .bool false) rfl (by kernel_rfl) (by kernel_rfl) (by kernel_rfl) (fun _ _ _ h => h) (Or.inl ⟨by rfl, fun w hSw => by go_simp⟩) hH ?_
                        try simp only [Act.put, List.setIfInBounds_toArray, List.set_cons_zero, List.set_cons_succ, List.getElem_toArray, List.getElem_cons_succ, List.getElem_cons_zero]
                        refine wpAnyH_done (by kernel_rfl) ?_ _
                        have HBX2 : Hid (wr.drew.heap[bx]? = some (.cells #[.string nm, .int .i64 lf, .int .i64 ld, .int .i64 sp] 39 (0, 0))) := HBX.out
                        have HB2 : Hid (Below W3.heap.size W3 wr.drew) := chain HB.out (below_drew _)
                        have m5 : wr.drew.cell? ⟨g, i * 6 + 5, none⟩ = some (.int .i64 e5) := c5
                        have m3 : wr.drew.cell? ⟨g, i * 6 + 3, none⟩ = some (.int .i64 e3) := c3
                        have hgd : g < wr.drew.heap.size := hgw
                        clear hH HQ HBX HB HWr c0 c1 c2 c3 c4 c5
                        generalize wr.drew = wd at *
                        go_wp2
                        first
                        | exact ⟨⟨i + 1, by omega, by go_num, by rw [HFn.out], by rw [HCv.out], by rw [HCv.out], HBX2.out, HB2.out⟩, by simp [intOf]; omega⟩
                        | (go_roundw
                           case rel => exact ⟨i + 1, by omega, by go_num, by rw [HFn.out], by rw [HCv.out], by rw [HCv.out], HBX2.out, HB2.out⟩
                           case measure => simp [intOf]; omega)
                  · have HNm : Hid (¬ e4.toList = nm.toList) := hnm
                    have HCv : Hid (cvAt L nm (i + 1) = cvAt L nm i) := by
                      rcases hkd with hk3 | ⟨hk1 | hk2, _, _⟩
                      · exact cv_coupon nm (by rw [HEV.out]; exact hk3)
                      · have h := (cv_load (rs := L) (i := i) nm (by rw [HEV.out]; exact hk1)).2
                        rw [HEV.out] at h
                        rw [h]; exact if_neg hnm
                      · have h := (cv_spend (rs := L) (i := i) nm (by rw [HEV.out]; exact hk2) HOi.out).2
                        rw [HEV.out] at h
                        rw [h]; exact if_neg (fun q => hnm q.1)
                    clear HNo hnm hkd
                    go_wp2_with fail
                    refine wp_region_held_drew (S := fun W' => Below wr.heap.size wr W') (by kernel_rfl) (below_drew _) (fun hH => ?_)
                    refine wpAnyH_take (i := 0) (v := .slice (some ⟨g, 0, none⟩) L.length cp) rfl (by kernel_rfl) (by kernel_rfl) (by kernel_rfl) (fun _ _ _ h => h) (Or.inl ⟨by rfl, fun w hSw => by go_simp⟩) hH ?_
                    refine wpAnyH_take (i := 1) (v := .int .i64 (i : Int)) rfl (by kernel_rfl) (by kernel_rfl) (by kernel_rfl) (fun _ _ _ h => h) (Or.inl ⟨by rfl, fun w hSw => by go_simp⟩) hH ?_
                    try simp only [Act.put, List.setIfInBounds_toArray, List.set_cons_zero, List.set_cons_succ, List.getElem_toArray, List.getElem_cons_succ, List.getElem_cons_zero]
                    refine wpAnyH_take (i := 2) (v := .pointer (some ⟨g, i * 6, none⟩)) rfl (by kernel_rfl) (by kernel_rfl) (by kernel_rfl) (fun _ _ _ h => h) (Or.inl ⟨by rfl, fun w hSw => by have f := hlt; go_simp⟩) hH ?_
                    try simp only [Act.put, List.setIfInBounds_toArray, List.set_cons_zero, List.set_cons_succ, List.getElem_toArray, List.getElem_cons_succ, List.getElem_cons_zero]
                    refine wpAnyH_take (i := 3) (v := .pointer (some ⟨g, i * 6 + 4, none⟩)) rfl (by kernel_rfl) (by kernel_rfl) (by kernel_rfl) (fun _ _ _ h => h) (Or.inl ⟨by rfl, fun w hSw => by go_simp⟩) hH ?_
                    try simp only [Act.put, List.setIfInBounds_toArray, List.set_cons_zero, List.set_cons_succ, List.getElem_toArray, List.getElem_cons_succ, List.getElem_cons_zero]
                    refine wpAnyH_take (i := 4) (v := .string e4) rfl (by kernel_rfl) (by kernel_rfl) (by kernel_rfl) (fun _ _ _ h => h) (Or.inl ⟨by rfl, fun w hSw => by have f := (HQ.out w hSw).1; go_simp⟩) hH ?_
                    try simp only [Act.put, List.setIfInBounds_toArray, List.set_cons_zero, List.set_cons_succ, List.getElem_toArray, List.getElem_cons_succ, List.getElem_cons_zero]
                    refine wpAnyH_take (i := 5) (v := .pointer (some ⟨bx, 0, none⟩)) rfl (by kernel_rfl) (by kernel_rfl) (by kernel_rfl) (fun _ _ _ h => h) (Or.inl ⟨by rfl, fun w hSw => by go_simp⟩) hH ?_
                    try simp only [Act.put, List.setIfInBounds_toArray, List.set_cons_zero, List.set_cons_succ, List.getElem_toArray, List.getElem_cons_succ, List.getElem_cons_zero]
                    refine wpAnyH_take (i := 6) (v := .string nm) rfl (by kernel_rfl) (by kernel_rfl) (by kernel_rfl) (fun _ _ _ h => h) (Or.inl ⟨by rfl, fun w hSw => by have f := (HQ.out w hSw).2.2; go_simp⟩) hH ?_
                    try simp only [Act.put, List.setIfInBounds_toArray, List.set_cons_zero, List.set_cons_succ, List.getElem_toArray, List.getElem_cons_succ, List.getElem_cons_zero]
                    refine wpAnyH_take (i := 7) (v := .bool true) rfl (by kernel_rfl) (by kernel_rfl) (by kernel_rfl) (fun _ _ _ h => h) (Or.inl ⟨by rfl, fun w hSw => by have f := HNm.out; go_simp⟩) hH ?_
                    try simp only [Act.put, List.setIfInBounds_toArray, List.set_cons_zero, List.set_cons_succ, List.getElem_toArray, List.getElem_cons_succ, List.getElem_cons_zero]
                    refine wpAnyH_take (i := 8) (v := .bool true) rfl (by kernel_rfl) (by kernel_rfl) (by kernel_rfl) (fun _ _ _ h => h) (Or.inl ⟨by rfl, fun w hSw => by go_simp⟩) hH ?_
                    try simp only [Act.put, List.setIfInBounds_toArray, List.set_cons_zero, List.set_cons_succ, List.getElem_toArray, List.getElem_cons_succ, List.getElem_cons_zero]
                    refine wpAnyH_take (i := 9) (v := undef) rfl (by kernel_rfl) (by kernel_rfl) (by kernel_rfl) (fun _ _ _ h => h) (Or.inr ⟨by rfl, rfl⟩) hH ?_
                    try simp only [Act.put, List.setIfInBounds_toArray, List.set_cons_zero, List.set_cons_succ, List.getElem_toArray, List.getElem_cons_succ, List.getElem_cons_zero]
                    refine wpAnyH_take (i := 10) (v := undef) rfl (by kernel_rfl) (by kernel_rfl) (by kernel_rfl) (fun _ _ _ h => h) (Or.inr ⟨by rfl, rfl⟩) hH ?_
                    try simp only [Act.put, List.setIfInBounds_toArray, List.set_cons_zero, List.set_cons_succ, List.getElem_toArray, List.getElem_cons_succ, List.getElem_cons_zero]
                    refine wpAnyH_take (i := 11) (v := undef) rfl (by kernel_rfl) (by kernel_rfl) (by kernel_rfl) (fun _ _ _ h => h) (Or.inr ⟨by rfl, rfl⟩) hH ?_
                    try simp only [Act.put, List.setIfInBounds_toArray, List.set_cons_zero, List.set_cons_succ, List.getElem_toArray, List.getElem_cons_succ, List.getElem_cons_zero]
                    refine wpAnyH_take (i := 12) (v := undef) rfl (by kernel_rfl) (by kernel_rfl) (by kernel_rfl) (fun _ _ _ h => h) (Or.inr ⟨by rfl, rfl⟩) hH ?_
                    try simp only [Act.put, List.setIfInBounds_toArray, List.set_cons_zero, List.set_cons_succ, List.getElem_toArray, List.getElem_cons_succ, List.getElem_cons_zero]
                    refine wpAnyH_take (i := 13) (v := undef) rfl (by kernel_rfl) (by kernel_rfl) (by kernel_rfl) (fun _ _ _ h => h) (Or.inr ⟨by rfl, rfl⟩) hH ?_
                    try simp only [Act.put, List.setIfInBounds_toArray, List.set_cons_zero, List.set_cons_succ, List.getElem_toArray, List.getElem_cons_succ, List.getElem_cons_zero]
                    refine wpAnyH_take (i := 14) (v := undef) rfl (by kernel_rfl) (by kernel_rfl) (by kernel_rfl) (fun _ _ _ h => h) (Or.inr ⟨by rfl, rfl⟩) hH ?_
                    try simp only [Act.put, List.setIfInBounds_toArray, List.set_cons_zero, List.set_cons_succ, List.getElem_toArray, List.getElem_cons_succ, List.getElem_cons_zero]
                    refine wpAnyH_take (i := 15) (v := .bool true) rfl (by kernel_rfl) (by kernel_rfl) (by kernel_rfl) (fun _ _ _ h => h) (Or.inl ⟨by rfl, fun w hSw => by go_simp⟩) hH ?_
                    try simp only [Act.put, List.setIfInBounds_toArray, List.set_cons_zero, List.set_cons_succ, List.getElem_toArray, List.getElem_cons_succ, List.getElem_cons_zero]
                    refine wpAnyH_done (by kernel_rfl) ?_ _
                    have HBX2 : Hid (wr.drew.heap[bx]? = some (.cells #[.string nm, .int .i64 lf, .int .i64 ld, .int .i64 sp] 39 (0, 0))) := HBX.out
                    have HB2 : Hid (Below W3.heap.size W3 wr.drew) := chain HB.out (below_drew _)
                    have m5 : wr.drew.cell? ⟨g, i * 6 + 5, none⟩ = some (.int .i64 e5) := c5
                    have m3 : wr.drew.cell? ⟨g, i * 6 + 3, none⟩ = some (.int .i64 e3) := c3
                    have hgd : g < wr.drew.heap.size := hgw
                    clear hH HQ HBX HB HWr c0 c1 c2 c3 c4 c5
                    generalize wr.drew = wd at *
                    go_wp2
                    first
                    | exact ⟨⟨i + 1, by omega, by go_num, by rw [HFn.out], by rw [HCv.out], by rw [HCv.out], HBX2.out, HB2.out⟩, by simp [intOf]; omega⟩
                    | (go_roundw
                       case rel => exact ⟨i + 1, by omega, by go_num, by rw [HFn.out], by rw [HCv.out], by rw [HCv.out], HBX2.out, HB2.out⟩
                       case measure => simp [intOf]; omega)
                · generalize hrr : (lgAt L i).fs.length = rr at *
                  have HRr : Hid ((lgAt L i).fs.length = rr) := hrr
                  clear hrr
                  have hin' : ¬ ((rr : Int) < (t.fs.length : Int)) := by omega
                  have HFn : Hid ((lgAt L (i + 1)).fs.length = rr) := by rw [fs_len, HNo.out, HRr.out]; rfl
                  have HQ : Hid (∀ W, Below wr.heap.size wr W → W.cell? ⟨g, i * 6 + 4, none⟩ = some (.string e4) ∧ W.cell? ⟨g, i * 6 + 3, none⟩ = some (.int .i64 e3) ∧ W.cell? ⟨bx, 0, none⟩ = some (.string nm)) := fun W hW => ⟨(hW.cell (p := ⟨g, i * 6 + 4, none⟩) hgw).trans c4, (hW.cell (p := ⟨g, i * 6 + 3, none⟩) hgw).trans c3, (hW.cell (p := ⟨bx, 0, none⟩) (blkLt HBX.out)).trans (blkCell HBX.out 0 _ rfl)⟩
                  by_cases hnm : e4.toList = nm.toList
                  · have HNm : Hid (e4.toList = nm.toList) := hnm
                    rcases hkd with hk3 | ⟨hk12, ham1, ham2⟩
                    · have HCv : Hid (cvAt L nm (i + 1) = cvAt L nm i) := cv_coupon nm (by rw [HEV.out]; exact hk3)
                      have hkb : (e3 == 3) = true := by rw [hk3]; rfl
                      clear HNo hk3 hnm
                      go_wp2_with fail
                      refine wp_region_held_drew (S := fun W' => Below wr.heap.size wr W') (by kernel_rfl) (below_drew _) (fun hH => ?_)
                      refine wpAnyH_take (i := 0) (v := .slice (some ⟨g, 0, none⟩) L.length cp) rfl (by kernel_rfl) (by kernel_rfl) (by kernel_rfl) (fun _ _ _ h => h) (Or.inl ⟨by rfl, fun w hSw => by go_simp⟩) hH ?_
                      refine wpAnyH_take (i := 1) (v := .int .i64 (i : Int)) rfl (by kernel_rfl) (by kernel_rfl) (by kernel_rfl) (fun _ _ _ h => h) (Or.inl ⟨by rfl, fun w hSw => by go_simp⟩) hH ?_
                      try simp only [Act.put, List.setIfInBounds_toArray, List.set_cons_zero, List.set_cons_succ, List.getElem_toArray, List.getElem_cons_succ, List.getElem_cons_zero]
                      refine wpAnyH_take (i := 2) (v := .pointer (some ⟨g, i * 6, none⟩)) rfl (by kernel_rfl) (by kernel_rfl) (by kernel_rfl) (fun _ _ _ h => h) (Or.inl ⟨by rfl, fun w hSw => by have f := hlt; go_simp⟩) hH ?_
                      try simp only [Act.put, List.setIfInBounds_toArray, List.set_cons_zero, List.set_cons_succ, List.getElem_toArray, List.getElem_cons_succ, List.getElem_cons_zero]
                      refine wpAnyH_take (i := 3) (v := .pointer (some ⟨g, i * 6 + 4, none⟩)) rfl (by kernel_rfl) (by kernel_rfl) (by kernel_rfl) (fun _ _ _ h => h) (Or.inl ⟨by rfl, fun w hSw => by go_simp⟩) hH ?_
                      try simp only [Act.put, List.setIfInBounds_toArray, List.set_cons_zero, List.set_cons_succ, List.getElem_toArray, List.getElem_cons_succ, List.getElem_cons_zero]
                      refine wpAnyH_take (i := 4) (v := .string e4) rfl (by kernel_rfl) (by kernel_rfl) (by kernel_rfl) (fun _ _ _ h => h) (Or.inl ⟨by rfl, fun w hSw => by have f := (HQ.out w hSw).1; go_simp⟩) hH ?_
                      try simp only [Act.put, List.setIfInBounds_toArray, List.set_cons_zero, List.set_cons_succ, List.getElem_toArray, List.getElem_cons_succ, List.getElem_cons_zero]
                      refine wpAnyH_take (i := 5) (v := .pointer (some ⟨bx, 0, none⟩)) rfl (by kernel_rfl) (by kernel_rfl) (by kernel_rfl) (fun _ _ _ h => h) (Or.inl ⟨by rfl, fun w hSw => by go_simp⟩) hH ?_
                      try simp only [Act.put, List.setIfInBounds_toArray, List.set_cons_zero, List.set_cons_succ, List.getElem_toArray, List.getElem_cons_succ, List.getElem_cons_zero]
                      refine wpAnyH_take (i := 6) (v := .string nm) rfl (by kernel_rfl) (by kernel_rfl) (by kernel_rfl) (fun _ _ _ h => h) (Or.inl ⟨by rfl, fun w hSw => by have f := (HQ.out w hSw).2.2; go_simp⟩) hH ?_
                      try simp only [Act.put, List.setIfInBounds_toArray, List.set_cons_zero, List.set_cons_succ, List.getElem_toArray, List.getElem_cons_succ, List.getElem_cons_zero]
                      refine wpAnyH_take (i := 7) (v := .bool false) rfl (by kernel_rfl) (by kernel_rfl) (by kernel_rfl) (fun _ _ _ h => h) (Or.inl ⟨by rfl, fun w hSw => by have f := HNm.out; go_simp⟩) hH ?_
                      try simp only [Act.put, List.setIfInBounds_toArray, List.set_cons_zero, List.set_cons_succ, List.getElem_toArray, List.getElem_cons_succ, List.getElem_cons_zero]
                      refine wpAnyH_take (i := 8) (v := .bool false) rfl (by kernel_rfl) (by kernel_rfl) (by kernel_rfl) (fun _ _ _ h => h) (Or.inl ⟨by rfl, fun w hSw => by go_simp⟩) hH ?_
                      try simp only [Act.put, List.setIfInBounds_toArray, List.set_cons_zero, List.set_cons_succ, List.getElem_toArray, List.getElem_cons_succ, List.getElem_cons_zero]
                      refine wpAnyH_take (i := 9) (v := .slice (some ⟨g, 0, none⟩) L.length cp) rfl (by kernel_rfl) (by kernel_rfl) (by kernel_rfl) (fun _ _ _ h => h) (Or.inl ⟨by rfl, fun w hSw => by go_simp⟩) hH ?_
                      try simp only [Act.put, List.setIfInBounds_toArray, List.set_cons_zero, List.set_cons_succ, List.getElem_toArray, List.getElem_cons_succ, List.getElem_cons_zero]
                      refine wpAnyH_take (i := 10) (v := .int .i64 (i : Int)) rfl (by kernel_rfl) (by kernel_rfl) (by kernel_rfl) (fun _ _ _ h => h) (Or.inl ⟨by rfl, fun w hSw => by go_simp⟩) hH ?_
                      try simp only [Act.put, List.setIfInBounds_toArray, List.set_cons_zero, List.set_cons_succ, List.getElem_toArray, List.getElem_cons_succ, List.getElem_cons_zero]
                      refine wpAnyH_take (i := 11) (v := .pointer (some ⟨g, i * 6, none⟩)) rfl (by kernel_rfl) (by kernel_rfl) (by kernel_rfl) (fun _ _ _ h => h) (Or.inl ⟨by rfl, fun w hSw => by have f := hlt; go_simp⟩) hH ?_
                      try simp only [Act.put, List.setIfInBounds_toArray, List.set_cons_zero, List.set_cons_succ, List.getElem_toArray, List.getElem_cons_succ, List.getElem_cons_zero]
                      refine wpAnyH_take (i := 12) (v := .pointer (some ⟨g, i * 6 + 3, none⟩)) rfl (by kernel_rfl) (by kernel_rfl) (by kernel_rfl) (fun _ _ _ h => h) (Or.inl ⟨by rfl, fun w hSw => by go_simp⟩) hH ?_
                      try simp only [Act.put, List.setIfInBounds_toArray, List.set_cons_zero, List.set_cons_succ, List.getElem_toArray, List.getElem_cons_succ, List.getElem_cons_zero]
                      refine wpAnyH_take (i := 13) (v := .int .i64 e3) rfl (by kernel_rfl) (by kernel_rfl) (by kernel_rfl) (fun _ _ _ h => h) (Or.inl ⟨by rfl, fun w hSw => by have f := (HQ.out w hSw).2.1; go_simp⟩) hH ?_
                      try simp only [Act.put, List.setIfInBounds_toArray, List.set_cons_zero, List.set_cons_succ, List.getElem_toArray, List.getElem_cons_succ, List.getElem_cons_zero]
                      refine wpAnyH_take (i := 14) (v := .bool true) rfl (by kernel_rfl) (by kernel_rfl) (by kernel_rfl) (fun _ _ _ h => h) (Or.inl ⟨by rfl, fun w hSw => by have f := hkb; go_simp⟩) hH ?_
                      try simp only [Act.put, List.setIfInBounds_toArray, List.set_cons_zero, List.set_cons_succ, List.getElem_toArray, List.getElem_cons_succ, List.getElem_cons_zero]
                      refine wpAnyH_take (i := 15) (v := .bool true) rfl (by kernel_rfl) (by kernel_rfl) (by kernel_rfl) (fun _ _ _ h => h) (Or.inl ⟨by rfl, fun w hSw => by go_simp⟩) hH ?_
                      try simp only [Act.put, List.setIfInBounds_toArray, List.set_cons_zero, List.set_cons_succ, List.getElem_toArray, List.getElem_cons_succ, List.getElem_cons_zero]
                      refine wpAnyH_done (by kernel_rfl) ?_ _
                      have HBX2 : Hid (wr.drew.heap[bx]? = some (.cells #[.string nm, .int .i64 lf, .int .i64 ld, .int .i64 sp] 39 (0, 0))) := HBX.out
                      have HB2 : Hid (Below W3.heap.size W3 wr.drew) := chain HB.out (below_drew _)
                      have m5 : wr.drew.cell? ⟨g, i * 6 + 5, none⟩ = some (.int .i64 e5) := c5
                      have m3 : wr.drew.cell? ⟨g, i * 6 + 3, none⟩ = some (.int .i64 e3) := c3
                      have hgd : g < wr.drew.heap.size := hgw
                      clear hH HQ HBX HB HWr c0 c1 c2 c3 c4 c5
                      generalize wr.drew = wd at *
                      go_wp2
                      first
                      | exact ⟨⟨i + 1, by omega, by go_num, by rw [HFn.out], by rw [HCv.out], by rw [HCv.out], HBX2.out, HB2.out⟩, by simp [intOf]; omega⟩
                      | (go_roundw
                         case rel => exact ⟨i + 1, by omega, by go_num, by rw [HFn.out], by rw [HCv.out], by rw [HCv.out], HBX2.out, HB2.out⟩
                         case measure => simp [intOf]; omega)
                    · rcases hk12 with hk1 | hk2
                      · obtain ⟨_, hs2⟩ := cv_load (rs := L) (i := i) nm (by rw [HEV.out]; exact hk1)
                        rw [HEV.out] at hs2
                        dsimp only at hs2
                        have HCv : Hid (cvAt L nm (i + 1) = ((cvAt L nm i).1 + e5, (cvAt L nm i).2)) := by rw [hs2]; exact if_pos hnm
                        have hkb : (e3 == 3) = false := by rw [hk1]; rfl
                        have hk1b : (e3 == 1) = true := by rw [hk1]; rfl
                        clear hs2 HNo hk1 hnm
                        generalize hcvg : cvAt L nm i = cv at *
                        clear hcvg
                        obtain ⟨l1, l2⟩ := cv
                        dsimp only at HCv b1 b2 b3 b4 ⊢
                        have hw2 : IntKind.i64.wrap (l1 + e5) = l1 + e5 := wrap_id _ (by omega) (by omega)
                        go_wp2_with fail
                        refine wp_region_held_drew (S := fun W' => Below wr.heap.size wr W') (by kernel_rfl) (below_drew _) (fun hH => ?_)
                        refine wpAnyH_take (i := 0) (v := .slice (some ⟨g, 0, none⟩) L.length cp) rfl (by kernel_rfl) (by kernel_rfl) (by kernel_rfl) (fun _ _ _ h => h) (Or.inl ⟨by rfl, fun w hSw => by go_simp⟩) hH ?_
                        refine wpAnyH_take (i := 1) (v := .int .i64 (i : Int)) rfl (by kernel_rfl) (by kernel_rfl) (by kernel_rfl) (fun _ _ _ h => h) (Or.inl ⟨by rfl, fun w hSw => by go_simp⟩) hH ?_
                        try simp only [Act.put, List.setIfInBounds_toArray, List.set_cons_zero, List.set_cons_succ, List.getElem_toArray, List.getElem_cons_succ, List.getElem_cons_zero]
                        refine wpAnyH_take (i := 2) (v := .pointer (some ⟨g, i * 6, none⟩)) rfl (by kernel_rfl) (by kernel_rfl) (by kernel_rfl) (fun _ _ _ h => h) (Or.inl ⟨by rfl, fun w hSw => by have f := hlt; go_simp⟩) hH ?_
                        try simp only [Act.put, List.setIfInBounds_toArray, List.set_cons_zero, List.set_cons_succ, List.getElem_toArray, List.getElem_cons_succ, List.getElem_cons_zero]
                        refine wpAnyH_take (i := 3) (v := .pointer (some ⟨g, i * 6 + 4, none⟩)) rfl (by kernel_rfl) (by kernel_rfl) (by kernel_rfl) (fun _ _ _ h => h) (Or.inl ⟨by rfl, fun w hSw => by go_simp⟩) hH ?_
                        try simp only [Act.put, List.setIfInBounds_toArray, List.set_cons_zero, List.set_cons_succ, List.getElem_toArray, List.getElem_cons_succ, List.getElem_cons_zero]
                        refine wpAnyH_take (i := 4) (v := .string e4) rfl (by kernel_rfl) (by kernel_rfl) (by kernel_rfl) (fun _ _ _ h => h) (Or.inl ⟨by rfl, fun w hSw => by have f := (HQ.out w hSw).1; go_simp⟩) hH ?_
                        try simp only [Act.put, List.setIfInBounds_toArray, List.set_cons_zero, List.set_cons_succ, List.getElem_toArray, List.getElem_cons_succ, List.getElem_cons_zero]
                        refine wpAnyH_take (i := 5) (v := .pointer (some ⟨bx, 0, none⟩)) rfl (by kernel_rfl) (by kernel_rfl) (by kernel_rfl) (fun _ _ _ h => h) (Or.inl ⟨by rfl, fun w hSw => by go_simp⟩) hH ?_
                        try simp only [Act.put, List.setIfInBounds_toArray, List.set_cons_zero, List.set_cons_succ, List.getElem_toArray, List.getElem_cons_succ, List.getElem_cons_zero]
                        refine wpAnyH_take (i := 6) (v := .string nm) rfl (by kernel_rfl) (by kernel_rfl) (by kernel_rfl) (fun _ _ _ h => h) (Or.inl ⟨by rfl, fun w hSw => by have f := (HQ.out w hSw).2.2; go_simp⟩) hH ?_
                        try simp only [Act.put, List.setIfInBounds_toArray, List.set_cons_zero, List.set_cons_succ, List.getElem_toArray, List.getElem_cons_succ, List.getElem_cons_zero]
                        refine wpAnyH_take (i := 7) (v := .bool false) rfl (by kernel_rfl) (by kernel_rfl) (by kernel_rfl) (fun _ _ _ h => h) (Or.inl ⟨by rfl, fun w hSw => by have f := HNm.out; go_simp⟩) hH ?_
                        try simp only [Act.put, List.setIfInBounds_toArray, List.set_cons_zero, List.set_cons_succ, List.getElem_toArray, List.getElem_cons_succ, List.getElem_cons_zero]
                        refine wpAnyH_take (i := 8) (v := .bool false) rfl (by kernel_rfl) (by kernel_rfl) (by kernel_rfl) (fun _ _ _ h => h) (Or.inl ⟨by rfl, fun w hSw => by go_simp⟩) hH ?_
                        try simp only [Act.put, List.setIfInBounds_toArray, List.set_cons_zero, List.set_cons_succ, List.getElem_toArray, List.getElem_cons_succ, List.getElem_cons_zero]
                        refine wpAnyH_take (i := 9) (v := .slice (some ⟨g, 0, none⟩) L.length cp) rfl (by kernel_rfl) (by kernel_rfl) (by kernel_rfl) (fun _ _ _ h => h) (Or.inl ⟨by rfl, fun w hSw => by go_simp⟩) hH ?_
                        try simp only [Act.put, List.setIfInBounds_toArray, List.set_cons_zero, List.set_cons_succ, List.getElem_toArray, List.getElem_cons_succ, List.getElem_cons_zero]
                        refine wpAnyH_take (i := 10) (v := .int .i64 (i : Int)) rfl (by kernel_rfl) (by kernel_rfl) (by kernel_rfl) (fun _ _ _ h => h) (Or.inl ⟨by rfl, fun w hSw => by go_simp⟩) hH ?_
                        try simp only [Act.put, List.setIfInBounds_toArray, List.set_cons_zero, List.set_cons_succ, List.getElem_toArray, List.getElem_cons_succ, List.getElem_cons_zero]
                        refine wpAnyH_take (i := 11) (v := .pointer (some ⟨g, i * 6, none⟩)) rfl (by kernel_rfl) (by kernel_rfl) (by kernel_rfl) (fun _ _ _ h => h) (Or.inl ⟨by rfl, fun w hSw => by have f := hlt; go_simp⟩) hH ?_
                        try simp only [Act.put, List.setIfInBounds_toArray, List.set_cons_zero, List.set_cons_succ, List.getElem_toArray, List.getElem_cons_succ, List.getElem_cons_zero]
                        refine wpAnyH_take (i := 12) (v := .pointer (some ⟨g, i * 6 + 3, none⟩)) rfl (by kernel_rfl) (by kernel_rfl) (by kernel_rfl) (fun _ _ _ h => h) (Or.inl ⟨by rfl, fun w hSw => by go_simp⟩) hH ?_
                        try simp only [Act.put, List.setIfInBounds_toArray, List.set_cons_zero, List.set_cons_succ, List.getElem_toArray, List.getElem_cons_succ, List.getElem_cons_zero]
                        refine wpAnyH_take (i := 13) (v := .int .i64 e3) rfl (by kernel_rfl) (by kernel_rfl) (by kernel_rfl) (fun _ _ _ h => h) (Or.inl ⟨by rfl, fun w hSw => by have f := (HQ.out w hSw).2.1; go_simp⟩) hH ?_
                        try simp only [Act.put, List.setIfInBounds_toArray, List.set_cons_zero, List.set_cons_succ, List.getElem_toArray, List.getElem_cons_succ, List.getElem_cons_zero]
                        refine wpAnyH_take (i := 14) (v := .bool false) rfl (by kernel_rfl) (by kernel_rfl) (by kernel_rfl) (fun _ _ _ h => h) (Or.inl ⟨by rfl, fun w hSw => by have f := hkb; go_simp⟩) hH ?_
                        try simp only [Act.put, List.setIfInBounds_toArray, List.set_cons_zero, List.set_cons_succ, List.getElem_toArray, List.getElem_cons_succ, List.getElem_cons_zero]
                        refine wpAnyH_take (i := 15) (v := .bool false) rfl (by kernel_rfl) (by kernel_rfl) (by kernel_rfl) (fun _ _ _ h => h) (Or.inl ⟨by rfl, fun w hSw => by go_simp⟩) hH ?_
                        try simp only [Act.put, List.setIfInBounds_toArray, List.set_cons_zero, List.set_cons_succ, List.getElem_toArray, List.getElem_cons_succ, List.getElem_cons_zero]
                        refine wpAnyH_done (by kernel_rfl) ?_ _
                        have HBX2 : Hid (wr.drew.heap[bx]? = some (.cells #[.string nm, .int .i64 lf, .int .i64 ld, .int .i64 sp] 39 (0, 0))) := HBX.out
                        have HB2 : Hid (Below W3.heap.size W3 wr.drew) := chain HB.out (below_drew _)
                        have m5 : wr.drew.cell? ⟨g, i * 6 + 5, none⟩ = some (.int .i64 e5) := c5
                        have m3 : wr.drew.cell? ⟨g, i * 6 + 3, none⟩ = some (.int .i64 e3) := c3
                        have hgd : g < wr.drew.heap.size := hgw
                        clear hH HQ HBX HB HWr c0 c1 c2 c3 c4 c5
                        generalize wr.drew = wd at *
                        go_wp2
                        first
                        | exact ⟨⟨i + 1, by omega, by go_num, by rw [HFn.out], by rw [HCv.out], by rw [HCv.out], HBX2.out, HB2.out⟩, by simp [intOf]; omega⟩
                        | (go_roundw
                           case rel => exact ⟨i + 1, by omega, by go_num, by rw [HFn.out], by rw [HCv.out], by rw [HCv.out], HBX2.out, HB2.out⟩
                           case measure => simp [intOf]; omega)
                      · obtain ⟨hs1, hs2⟩ := cv_spend (rs := L) (i := i) nm (by rw [HEV.out]; exact hk2) HOi.out
                        rw [HEV.out] at hs1 hs2
                        dsimp only at hs1 hs2
                        rw [cvAt_congr L hnm i, HNo.out] at hs1
                        rw [HNo.out] at hs2
                        have HCv : Hid (cvAt L nm (i + 1) = ((cvAt L nm i).1, (cvAt L nm i).2 + e5)) := by rw [hs2]; exact if_pos ⟨hnm, rfl⟩
                        have hkb : (e3 == 3) = false := by rw [hk2]; rfl
                        have hk1 : (e3 == 1) = false := by rw [hk2]; rfl
                        have hgt : decide ((cvAt L nm i).1 - (cvAt L nm i).2 < e5) = false := hs1.symm
                        clear hs1 hs2 HNo hk2 hnm
                        generalize hcvg : cvAt L nm i = cv at *
                        clear hcvg
                        obtain ⟨l1, l2⟩ := cv
                        dsimp only at HCv hgt b1 b2 b3 b4 ⊢
                        have hw1 : IntKind.i64.wrap (l1 - l2) = l1 - l2 := wrap_id _ (by omega) (by omega)
                        have hw2 : IntKind.i64.wrap (l2 + e5) = l2 + e5 := wrap_id _ (by omega) (by omega)
                        have hlt5 : ¬ (l1 - l2 < e5) := of_decide_eq_false hgt
                        go_wp2_with fail
                        refine wp_region_held_drew (S := fun W' => Below wr.heap.size wr W') (by kernel_rfl) (below_drew _) (fun hH => ?_)
                        refine wpAnyH_take (i := 0) (v := .slice (some ⟨g, 0, none⟩) L.length cp) rfl (by kernel_rfl) (by kernel_rfl) (by kernel_rfl) (fun _ _ _ h => h) (Or.inl ⟨by rfl, fun w hSw => by go_simp⟩) hH ?_
                        refine wpAnyH_take (i := 1) (v := .int .i64 (i : Int)) rfl (by kernel_rfl) (by kernel_rfl) (by kernel_rfl) (fun _ _ _ h => h) (Or.inl ⟨by rfl, fun w hSw => by go_simp⟩) hH ?_
                        try simp only [Act.put, List.setIfInBounds_toArray, List.set_cons_zero, List.set_cons_succ, List.getElem_toArray, List.getElem_cons_succ, List.getElem_cons_zero]
                        refine wpAnyH_take (i := 2) (v := .pointer (some ⟨g, i * 6, none⟩)) rfl (by kernel_rfl) (by kernel_rfl) (by kernel_rfl) (fun _ _ _ h => h) (Or.inl ⟨by rfl, fun w hSw => by have f := hlt; go_simp⟩) hH ?_
                        try simp only [Act.put, List.setIfInBounds_toArray, List.set_cons_zero, List.set_cons_succ, List.getElem_toArray, List.getElem_cons_succ, List.getElem_cons_zero]
                        refine wpAnyH_take (i := 3) (v := .pointer (some ⟨g, i * 6 + 4, none⟩)) rfl (by kernel_rfl) (by kernel_rfl) (by kernel_rfl) (fun _ _ _ h => h) (Or.inl ⟨by rfl, fun w hSw => by go_simp⟩) hH ?_
                        try simp only [Act.put, List.setIfInBounds_toArray, List.set_cons_zero, List.set_cons_succ, List.getElem_toArray, List.getElem_cons_succ, List.getElem_cons_zero]
                        refine wpAnyH_take (i := 4) (v := .string e4) rfl (by kernel_rfl) (by kernel_rfl) (by kernel_rfl) (fun _ _ _ h => h) (Or.inl ⟨by rfl, fun w hSw => by have f := (HQ.out w hSw).1; go_simp⟩) hH ?_
                        try simp only [Act.put, List.setIfInBounds_toArray, List.set_cons_zero, List.set_cons_succ, List.getElem_toArray, List.getElem_cons_succ, List.getElem_cons_zero]
                        refine wpAnyH_take (i := 5) (v := .pointer (some ⟨bx, 0, none⟩)) rfl (by kernel_rfl) (by kernel_rfl) (by kernel_rfl) (fun _ _ _ h => h) (Or.inl ⟨by rfl, fun w hSw => by go_simp⟩) hH ?_
                        try simp only [Act.put, List.setIfInBounds_toArray, List.set_cons_zero, List.set_cons_succ, List.getElem_toArray, List.getElem_cons_succ, List.getElem_cons_zero]
                        refine wpAnyH_take (i := 6) (v := .string nm) rfl (by kernel_rfl) (by kernel_rfl) (by kernel_rfl) (fun _ _ _ h => h) (Or.inl ⟨by rfl, fun w hSw => by have f := (HQ.out w hSw).2.2; go_simp⟩) hH ?_
                        try simp only [Act.put, List.setIfInBounds_toArray, List.set_cons_zero, List.set_cons_succ, List.getElem_toArray, List.getElem_cons_succ, List.getElem_cons_zero]
                        refine wpAnyH_take (i := 7) (v := .bool false) rfl (by kernel_rfl) (by kernel_rfl) (by kernel_rfl) (fun _ _ _ h => h) (Or.inl ⟨by rfl, fun w hSw => by have f := HNm.out; go_simp⟩) hH ?_
                        try simp only [Act.put, List.setIfInBounds_toArray, List.set_cons_zero, List.set_cons_succ, List.getElem_toArray, List.getElem_cons_succ, List.getElem_cons_zero]
                        refine wpAnyH_take (i := 8) (v := .bool false) rfl (by kernel_rfl) (by kernel_rfl) (by kernel_rfl) (fun _ _ _ h => h) (Or.inl ⟨by rfl, fun w hSw => by go_simp⟩) hH ?_
                        try simp only [Act.put, List.setIfInBounds_toArray, List.set_cons_zero, List.set_cons_succ, List.getElem_toArray, List.getElem_cons_succ, List.getElem_cons_zero]
                        refine wpAnyH_take (i := 9) (v := .slice (some ⟨g, 0, none⟩) L.length cp) rfl (by kernel_rfl) (by kernel_rfl) (by kernel_rfl) (fun _ _ _ h => h) (Or.inl ⟨by rfl, fun w hSw => by go_simp⟩) hH ?_
                        try simp only [Act.put, List.setIfInBounds_toArray, List.set_cons_zero, List.set_cons_succ, List.getElem_toArray, List.getElem_cons_succ, List.getElem_cons_zero]
                        refine wpAnyH_take (i := 10) (v := .int .i64 (i : Int)) rfl (by kernel_rfl) (by kernel_rfl) (by kernel_rfl) (fun _ _ _ h => h) (Or.inl ⟨by rfl, fun w hSw => by go_simp⟩) hH ?_
                        try simp only [Act.put, List.setIfInBounds_toArray, List.set_cons_zero, List.set_cons_succ, List.getElem_toArray, List.getElem_cons_succ, List.getElem_cons_zero]
                        refine wpAnyH_take (i := 11) (v := .pointer (some ⟨g, i * 6, none⟩)) rfl (by kernel_rfl) (by kernel_rfl) (by kernel_rfl) (fun _ _ _ h => h) (Or.inl ⟨by rfl, fun w hSw => by have f := hlt; go_simp⟩) hH ?_
                        try simp only [Act.put, List.setIfInBounds_toArray, List.set_cons_zero, List.set_cons_succ, List.getElem_toArray, List.getElem_cons_succ, List.getElem_cons_zero]
                        refine wpAnyH_take (i := 12) (v := .pointer (some ⟨g, i * 6 + 3, none⟩)) rfl (by kernel_rfl) (by kernel_rfl) (by kernel_rfl) (fun _ _ _ h => h) (Or.inl ⟨by rfl, fun w hSw => by go_simp⟩) hH ?_
                        try simp only [Act.put, List.setIfInBounds_toArray, List.set_cons_zero, List.set_cons_succ, List.getElem_toArray, List.getElem_cons_succ, List.getElem_cons_zero]
                        refine wpAnyH_take (i := 13) (v := .int .i64 e3) rfl (by kernel_rfl) (by kernel_rfl) (by kernel_rfl) (fun _ _ _ h => h) (Or.inl ⟨by rfl, fun w hSw => by have f := (HQ.out w hSw).2.1; go_simp⟩) hH ?_
                        try simp only [Act.put, List.setIfInBounds_toArray, List.set_cons_zero, List.set_cons_succ, List.getElem_toArray, List.getElem_cons_succ, List.getElem_cons_zero]
                        refine wpAnyH_take (i := 14) (v := .bool false) rfl (by kernel_rfl) (by kernel_rfl) (by kernel_rfl) (fun _ _ _ h => h) (Or.inl ⟨by rfl, fun w hSw => by have f := hkb; go_simp⟩) hH ?_
                        try simp only [Act.put, List.setIfInBounds_toArray, List.set_cons_zero, List.set_cons_succ, List.getElem_toArray, List.getElem_cons_succ, List.getElem_cons_zero]
                        refine wpAnyH_take (i := 15) (v := .bool false) rfl (by kernel_rfl) (by kernel_rfl) (by kernel_rfl) (fun _ _ _ h => h) (Or.inl ⟨by rfl, fun w hSw => by go_simp⟩) hH ?_
                        try simp only [Act.put, List.setIfInBounds_toArray, List.set_cons_zero, List.set_cons_succ, List.getElem_toArray, List.getElem_cons_succ, List.getElem_cons_zero]
                        refine wpAnyH_done (by kernel_rfl) ?_ _
                        have HBX2 : Hid (wr.drew.heap[bx]? = some (.cells #[.string nm, .int .i64 lf, .int .i64 ld, .int .i64 sp] 39 (0, 0))) := HBX.out
                        have HB2 : Hid (Below W3.heap.size W3 wr.drew) := chain HB.out (below_drew _)
                        have m5 : wr.drew.cell? ⟨g, i * 6 + 5, none⟩ = some (.int .i64 e5) := c5
                        have m3 : wr.drew.cell? ⟨g, i * 6 + 3, none⟩ = some (.int .i64 e3) := c3
                        have hgd : g < wr.drew.heap.size := hgw
                        clear hH HQ HBX HB HWr c0 c1 c2 c3 c4 c5
                        generalize wr.drew = wd at *
                        go_wp2
                        first
                        | exact ⟨⟨i + 1, by omega, by go_num, by rw [HFn.out], by rw [HCv.out], by rw [HCv.out], HBX2.out, HB2.out⟩, by simp [intOf]; omega⟩
                        | (go_roundw
                           case rel => exact ⟨i + 1, by omega, by go_num, by rw [HFn.out], by rw [HCv.out], by rw [HCv.out], HBX2.out, HB2.out⟩
                           case measure => simp [intOf]; omega)
                  · have HNm : Hid (¬ e4.toList = nm.toList) := hnm
                    have HCv : Hid (cvAt L nm (i + 1) = cvAt L nm i) := by
                      rcases hkd with hk3 | ⟨hk1 | hk2, _, _⟩
                      · exact cv_coupon nm (by rw [HEV.out]; exact hk3)
                      · have h := (cv_load (rs := L) (i := i) nm (by rw [HEV.out]; exact hk1)).2
                        rw [HEV.out] at h
                        rw [h]; exact if_neg hnm
                      · have h := (cv_spend (rs := L) (i := i) nm (by rw [HEV.out]; exact hk2) HOi.out).2
                        rw [HEV.out] at h
                        rw [h]; exact if_neg (fun q => hnm q.1)
                    clear HNo hnm hkd
                    go_wp2_with fail
                    refine wp_region_held_drew (S := fun W' => Below wr.heap.size wr W') (by kernel_rfl) (below_drew _) (fun hH => ?_)
                    refine wpAnyH_take (i := 0) (v := .slice (some ⟨g, 0, none⟩) L.length cp) rfl (by kernel_rfl) (by kernel_rfl) (by kernel_rfl) (fun _ _ _ h => h) (Or.inl ⟨by rfl, fun w hSw => by go_simp⟩) hH ?_
                    refine wpAnyH_take (i := 1) (v := .int .i64 (i : Int)) rfl (by kernel_rfl) (by kernel_rfl) (by kernel_rfl) (fun _ _ _ h => h) (Or.inl ⟨by rfl, fun w hSw => by go_simp⟩) hH ?_
                    try simp only [Act.put, List.setIfInBounds_toArray, List.set_cons_zero, List.set_cons_succ, List.getElem_toArray, List.getElem_cons_succ, List.getElem_cons_zero]
                    refine wpAnyH_take (i := 2) (v := .pointer (some ⟨g, i * 6, none⟩)) rfl (by kernel_rfl) (by kernel_rfl) (by kernel_rfl) (fun _ _ _ h => h) (Or.inl ⟨by rfl, fun w hSw => by have f := hlt; go_simp⟩) hH ?_
                    try simp only [Act.put, List.setIfInBounds_toArray, List.set_cons_zero, List.set_cons_succ, List.getElem_toArray, List.getElem_cons_succ, List.getElem_cons_zero]
                    refine wpAnyH_take (i := 3) (v := .pointer (some ⟨g, i * 6 + 4, none⟩)) rfl (by kernel_rfl) (by kernel_rfl) (by kernel_rfl) (fun _ _ _ h => h) (Or.inl ⟨by rfl, fun w hSw => by go_simp⟩) hH ?_
                    try simp only [Act.put, List.setIfInBounds_toArray, List.set_cons_zero, List.set_cons_succ, List.getElem_toArray, List.getElem_cons_succ, List.getElem_cons_zero]
                    refine wpAnyH_take (i := 4) (v := .string e4) rfl (by kernel_rfl) (by kernel_rfl) (by kernel_rfl) (fun _ _ _ h => h) (Or.inl ⟨by rfl, fun w hSw => by have f := (HQ.out w hSw).1; go_simp⟩) hH ?_
                    try simp only [Act.put, List.setIfInBounds_toArray, List.set_cons_zero, List.set_cons_succ, List.getElem_toArray, List.getElem_cons_succ, List.getElem_cons_zero]
                    refine wpAnyH_take (i := 5) (v := .pointer (some ⟨bx, 0, none⟩)) rfl (by kernel_rfl) (by kernel_rfl) (by kernel_rfl) (fun _ _ _ h => h) (Or.inl ⟨by rfl, fun w hSw => by go_simp⟩) hH ?_
                    try simp only [Act.put, List.setIfInBounds_toArray, List.set_cons_zero, List.set_cons_succ, List.getElem_toArray, List.getElem_cons_succ, List.getElem_cons_zero]
                    refine wpAnyH_take (i := 6) (v := .string nm) rfl (by kernel_rfl) (by kernel_rfl) (by kernel_rfl) (fun _ _ _ h => h) (Or.inl ⟨by rfl, fun w hSw => by have f := (HQ.out w hSw).2.2; go_simp⟩) hH ?_
                    try simp only [Act.put, List.setIfInBounds_toArray, List.set_cons_zero, List.set_cons_succ, List.getElem_toArray, List.getElem_cons_succ, List.getElem_cons_zero]
                    refine wpAnyH_take (i := 7) (v := .bool true) rfl (by kernel_rfl) (by kernel_rfl) (by kernel_rfl) (fun _ _ _ h => h) (Or.inl ⟨by rfl, fun w hSw => by have f := HNm.out; go_simp⟩) hH ?_
                    try simp only [Act.put, List.setIfInBounds_toArray, List.set_cons_zero, List.set_cons_succ, List.getElem_toArray, List.getElem_cons_succ, List.getElem_cons_zero]
                    refine wpAnyH_take (i := 8) (v := .bool true) rfl (by kernel_rfl) (by kernel_rfl) (by kernel_rfl) (fun _ _ _ h => h) (Or.inl ⟨by rfl, fun w hSw => by go_simp⟩) hH ?_
                    try simp only [Act.put, List.setIfInBounds_toArray, List.set_cons_zero, List.set_cons_succ, List.getElem_toArray, List.getElem_cons_succ, List.getElem_cons_zero]
                    refine wpAnyH_take (i := 9) (v := undef) rfl (by kernel_rfl) (by kernel_rfl) (by kernel_rfl) (fun _ _ _ h => h) (Or.inr ⟨by rfl, rfl⟩) hH ?_
                    try simp only [Act.put, List.setIfInBounds_toArray, List.set_cons_zero, List.set_cons_succ, List.getElem_toArray, List.getElem_cons_succ, List.getElem_cons_zero]
                    refine wpAnyH_take (i := 10) (v := undef) rfl (by kernel_rfl) (by kernel_rfl) (by kernel_rfl) (fun _ _ _ h => h) (Or.inr ⟨by rfl, rfl⟩) hH ?_
                    try simp only [Act.put, List.setIfInBounds_toArray, List.set_cons_zero, List.set_cons_succ, List.getElem_toArray, List.getElem_cons_succ, List.getElem_cons_zero]
                    refine wpAnyH_take (i := 11) (v := undef) rfl (by kernel_rfl) (by kernel_rfl) (by kernel_rfl) (fun _ _ _ h => h) (Or.inr ⟨by rfl, rfl⟩) hH ?_
                    try simp only [Act.put, List.setIfInBounds_toArray, List.set_cons_zero, List.set_cons_succ, List.getElem_toArray, List.getElem_cons_succ, List.getElem_cons_zero]
                    refine wpAnyH_take (i := 12) (v := undef) rfl (by kernel_rfl) (by kernel_rfl) (by kernel_rfl) (fun _ _ _ h => h) (Or.inr ⟨by rfl, rfl⟩) hH ?_
                    try simp only [Act.put, List.setIfInBounds_toArray, List.set_cons_zero, List.set_cons_succ, List.getElem_toArray, List.getElem_cons_succ, List.getElem_cons_zero]
                    refine wpAnyH_take (i := 13) (v := undef) rfl (by kernel_rfl) (by kernel_rfl) (by kernel_rfl) (fun _ _ _ h => h) (Or.inr ⟨by rfl, rfl⟩) hH ?_
                    try simp only [Act.put, List.setIfInBounds_toArray, List.set_cons_zero, List.set_cons_succ, List.getElem_toArray, List.getElem_cons_succ, List.getElem_cons_zero]
                    refine wpAnyH_take (i := 14) (v := undef) rfl (by kernel_rfl) (by kernel_rfl) (by kernel_rfl) (fun _ _ _ h => h) (Or.inr ⟨by rfl, rfl⟩) hH ?_
                    try simp only [Act.put, List.setIfInBounds_toArray, List.set_cons_zero, List.set_cons_succ, List.getElem_toArray, List.getElem_cons_succ, List.getElem_cons_zero]
                    refine wpAnyH_take (i := 15) (v := .bool true) rfl (by kernel_rfl) (by kernel_rfl) (by kernel_rfl) (fun _ _ _ h => h) (Or.inl ⟨by rfl, fun w hSw => by go_simp⟩) hH ?_
                    try simp only [Act.put, List.setIfInBounds_toArray, List.set_cons_zero, List.set_cons_succ, List.getElem_toArray, List.getElem_cons_succ, List.getElem_cons_zero]
                    refine wpAnyH_done (by kernel_rfl) ?_ _
                    have HBX2 : Hid (wr.drew.heap[bx]? = some (.cells #[.string nm, .int .i64 lf, .int .i64 ld, .int .i64 sp] 39 (0, 0))) := HBX.out
                    have HB2 : Hid (Below W3.heap.size W3 wr.drew) := chain HB.out (below_drew _)
                    have m5 : wr.drew.cell? ⟨g, i * 6 + 5, none⟩ = some (.int .i64 e5) := c5
                    have m3 : wr.drew.cell? ⟨g, i * 6 + 3, none⟩ = some (.int .i64 e3) := c3
                    have hgd : g < wr.drew.heap.size := hgw
                    clear hH HQ HBX HB HWr c0 c1 c2 c3 c4 c5
                    generalize wr.drew = wd at *
                    go_wp2
                    first
                    | exact ⟨⟨i + 1, by omega, by go_num, by rw [HFn.out], by rw [HCv.out], by rw [HCv.out], HBX2.out, HB2.out⟩, by simp [intOf]; omega⟩
                    | (go_roundw
                       case rel => exact ⟨i + 1, by omega, by go_num, by rw [HFn.out], by rw [HCv.out], by rw [HCv.out], HBX2.out, HB2.out⟩
                       case measure => simp [intOf]; omega)
              · have HYes : Hid (rfB L i = true) := hrf
                clear hrf
                obtain ⟨hin, hfv0⟩ : (lgAt L i).fs.length < t.fs.length ∧ t.fs.getD (lgAt L i).fs.length 0 = i := by rw [HTt.out]; exact ref_yes hlt HYes.out
                rcases HWr.out.ref with h | ⟨fb, fo, hfa, hfB, fi⟩
                · have h9 : t.fs.length = 0 := by rw [← iLg_len, h]; rfl
                  omega
                have hfv := fi (lgAt L i).fs.length (by rw [iLg_len]; exact hin)
                have hfe : (iLg t.fs).getD (lgAt L i).fs.length 0 = ((t.fs.getD (lgAt L i).fs.length 0 : Nat) : Int) := by simp [iLg, List.getD_eq_getElem?_getD, hin]
                rw [hfe, hfv0] at hfv
                clear fi hfe hfv0
                subst hfa
                generalize hrr : (lgAt L i).fs.length = rr at *
                have HRr : Hid ((lgAt L i).fs.length = rr) := hrr
                clear hrr
                have hin' : (rr : Int) < (t.fs.length : Int) := by omega
                have hwr : IntKind.i64.wrap ((rr : Int) + 1) = (rr : Int) + 1 := wrap_id _ (by omega) (by omega)
                have HFn : Hid ((lgAt L (i + 1)).fs.length = rr + 1) := by rw [fs_len, HYes.out, HRr.out]; rfl
                have HQ : Hid (∀ W, Below wr.heap.size wr W → W.cell? ⟨g, i * 6 + 4, none⟩ = some (.string e4) ∧ W.cell? ⟨g, i * 6 + 3, none⟩ = some (.int .i64 e3) ∧ W.cell? ⟨bx, 0, none⟩ = some (.string nm)) := fun W hW => ⟨(hW.cell (p := ⟨g, i * 6 + 4, none⟩) hgw).trans c4, (hW.cell (p := ⟨g, i * 6 + 3, none⟩) hgw).trans c3, (hW.cell (p := ⟨bx, 0, none⟩) (blkLt HBX.out)).trans (blkCell HBX.out 0 _ rfl)⟩
                by_cases hnm : e4.toList = nm.toList
                · have HNm : Hid (e4.toList = nm.toList) := hnm
                  rcases hkd with hk3 | ⟨hk12, ham1, ham2⟩
                  · have HCv : Hid (cvAt L nm (i + 1) = cvAt L nm i) := cv_coupon nm (by rw [HEV.out]; exact hk3)
                    have hkb : (e3 == 3) = true := by rw [hk3]; rfl
                    clear HYes hk3 hnm
                    go_wp2_with fail
                    refine wp_region_held_drew (S := fun W' => Below wr.heap.size wr W') (by kernel_rfl) (below_drew _) (fun hH => ?_)
                    refine wpAnyH_take (i := 0) (v := .slice (some ⟨g, 0, none⟩) L.length cp) rfl (by kernel_rfl) (by kernel_rfl) (by kernel_rfl) (fun _ _ _ h => h) (Or.inl ⟨by rfl, fun w hSw => by go_simp⟩) hH ?_
                    refine wpAnyH_take (i := 1) (v := .int .i64 (i : Int)) rfl (by kernel_rfl) (by kernel_rfl) (by kernel_rfl) (fun _ _ _ h => h) (Or.inl ⟨by rfl, fun w hSw => by go_simp⟩) hH ?_
                    try simp only [Act.put, List.setIfInBounds_toArray, List.set_cons_zero, List.set_cons_succ, List.getElem_toArray, List.getElem_cons_succ, List.getElem_cons_zero]
                    refine wpAnyH_take (i := 2) (v := .pointer (some ⟨g, i * 6, none⟩)) rfl (by kernel_rfl) (by kernel_rfl) (by kernel_rfl) (fun _ _ _ h => h) (Or.inl ⟨by rfl, fun w hSw => by have f := hlt; go_simp⟩) hH ?_
                    try simp only [Act.put, List.setIfInBounds_toArray, List.set_cons_zero, List.set_cons_succ, List.getElem_toArray, List.getElem_cons_succ, List.getElem_cons_zero]
                    refine wpAnyH_take (i := 3) (v := .pointer (some ⟨g, i * 6 + 4, none⟩)) rfl (by kernel_rfl) (by kernel_rfl) (by kernel_rfl) (fun _ _ _ h => h) (Or.inl ⟨by rfl, fun w hSw => by go_simp⟩) hH ?_
                    try simp only [Act.put, List.setIfInBounds_toArray, List.set_cons_zero, List.set_cons_succ, List.getElem_toArray, List.getElem_cons_succ, List.getElem_cons_zero]
                    refine wpAnyH_take (i := 4) (v := .string e4) rfl (by kernel_rfl) (by kernel_rfl) (by kernel_rfl) (fun _ _ _ h => h) (Or.inl ⟨by rfl, fun w hSw => by have f := (HQ.out w hSw).1; go_simp⟩) hH ?_
                    try simp only [Act.put, List.setIfInBounds_toArray, List.set_cons_zero, List.set_cons_succ, List.getElem_toArray, List.getElem_cons_succ, List.getElem_cons_zero]
                    refine wpAnyH_take (i := 5) (v := .pointer (some ⟨bx, 0, none⟩)) rfl (by kernel_rfl) (by kernel_rfl) (by kernel_rfl) (fun _ _ _ h => h) (Or.inl ⟨by rfl, fun w hSw => by go_simp⟩) hH ?_
                    try simp only [Act.put, List.setIfInBounds_toArray, List.set_cons_zero, List.set_cons_succ, List.getElem_toArray, List.getElem_cons_succ, List.getElem_cons_zero]
                    refine wpAnyH_take (i := 6) (v := .string nm) rfl (by kernel_rfl) (by kernel_rfl) (by kernel_rfl) (fun _ _ _ h => h) (Or.inl ⟨by rfl, fun w hSw => by have f := (HQ.out w hSw).2.2; go_simp⟩) hH ?_
                    try simp only [Act.put, List.setIfInBounds_toArray, List.set_cons_zero, List.set_cons_succ, List.getElem_toArray, List.getElem_cons_succ, List.getElem_cons_zero]
                    refine wpAnyH_take (i := 7) (v := .bool false) rfl (by kernel_rfl) (by kernel_rfl) (by kernel_rfl) (fun _ _ _ h => h) (Or.inl ⟨by rfl, fun w hSw => by have f := HNm.out; go_simp⟩) hH ?_
                    try simp only [Act.put, List.setIfInBounds_toArray, List.set_cons_zero, List.set_cons_succ, List.getElem_toArray, List.getElem_cons_succ, List.getElem_cons_zero]
                    refine wpAnyH_take (i := 8) (v := .bool false) rfl (by kernel_rfl) (by kernel_rfl) (by kernel_rfl) (fun _ _ _ h => h) (Or.inl ⟨by rfl, fun w hSw => by go_simp⟩) hH ?_
                    try simp only [Act.put, List.setIfInBounds_toArray, List.set_cons_zero, List.set_cons_succ, List.getElem_toArray, List.getElem_cons_succ, List.getElem_cons_zero]
                    refine wpAnyH_take (i := 9) (v := .slice (some ⟨g, 0, none⟩) L.length cp) rfl (by kernel_rfl) (by kernel_rfl) (by kernel_rfl) (fun _ _ _ h => h) (Or.inl ⟨by rfl, fun w hSw => by go_simp⟩) hH ?_
                    try simp only [Act.put, List.setIfInBounds_toArray, List.set_cons_zero, List.set_cons_succ, List.getElem_toArray, List.getElem_cons_succ, List.getElem_cons_zero]
                    refine wpAnyH_take (i := 10) (v := .int .i64 (i : Int)) rfl (by kernel_rfl) (by kernel_rfl) (by kernel_rfl) (fun _ _ _ h => h) (Or.inl ⟨by rfl, fun w hSw => by go_simp⟩) hH ?_
                    try simp only [Act.put, List.setIfInBounds_toArray, List.set_cons_zero, List.set_cons_succ, List.getElem_toArray, List.getElem_cons_succ, List.getElem_cons_zero]
                    refine wpAnyH_take (i := 11) (v := .pointer (some ⟨g, i * 6, none⟩)) rfl (by kernel_rfl) (by kernel_rfl) (by kernel_rfl) (fun _ _ _ h => h) (Or.inl ⟨by rfl, fun w hSw => by have f := hlt; go_simp⟩) hH ?_
                    try simp only [Act.put, List.setIfInBounds_toArray, List.set_cons_zero, List.set_cons_succ, List.getElem_toArray, List.getElem_cons_succ, List.getElem_cons_zero]
                    refine wpAnyH_take (i := 12) (v := .pointer (some ⟨g, i * 6 + 3, none⟩)) rfl (by kernel_rfl) (by kernel_rfl) (by kernel_rfl) (fun _ _ _ h => h) (Or.inl ⟨by rfl, fun w hSw => by go_simp⟩) hH ?_
                    try simp only [Act.put, List.setIfInBounds_toArray, List.set_cons_zero, List.set_cons_succ, List.getElem_toArray, List.getElem_cons_succ, List.getElem_cons_zero]
                    refine wpAnyH_take (i := 13) (v := .int .i64 e3) rfl (by kernel_rfl) (by kernel_rfl) (by kernel_rfl) (fun _ _ _ h => h) (Or.inl ⟨by rfl, fun w hSw => by have f := (HQ.out w hSw).2.1; go_simp⟩) hH ?_
                    try simp only [Act.put, List.setIfInBounds_toArray, List.set_cons_zero, List.set_cons_succ, List.getElem_toArray, List.getElem_cons_succ, List.getElem_cons_zero]
                    refine wpAnyH_take (i := 14) (v := .bool true) rfl (by kernel_rfl) (by kernel_rfl) (by kernel_rfl) (fun _ _ _ h => h) (Or.inl ⟨by rfl, fun w hSw => by have f := hkb; go_simp⟩) hH ?_
                    try simp only [Act.put, List.setIfInBounds_toArray, List.set_cons_zero, List.set_cons_succ, List.getElem_toArray, List.getElem_cons_succ, List.getElem_cons_zero]
                    refine wpAnyH_take (i := 15) (v := .bool true) rfl (by kernel_rfl) (by kernel_rfl) (by kernel_rfl) (fun _ _ _ h => h) (Or.inl ⟨by rfl, fun w hSw => by go_simp⟩) hH ?_
                    try simp only [Act.put, List.setIfInBounds_toArray, List.set_cons_zero, List.set_cons_succ, List.getElem_toArray, List.getElem_cons_succ, List.getElem_cons_zero]
                    refine wpAnyH_done (by kernel_rfl) ?_ _
                    have HBX2 : Hid (wr.drew.heap[bx]? = some (.cells #[.string nm, .int .i64 lf, .int .i64 ld, .int .i64 sp] 39 (0, 0))) := HBX.out
                    have HB2 : Hid (Below W3.heap.size W3 wr.drew) := chain HB.out (below_drew _)
                    have m5 : wr.drew.cell? ⟨g, i * 6 + 5, none⟩ = some (.int .i64 e5) := c5
                    have m3 : wr.drew.cell? ⟨g, i * 6 + 3, none⟩ = some (.int .i64 e3) := c3
                    have hgd : g < wr.drew.heap.size := hgw
                    clear hH HQ HBX HB HWr c0 c1 c2 c3 c4 c5
                    generalize wr.drew = wd at *
                    go_wp2
                    first
                    | exact ⟨⟨i + 1, by omega, by go_num, by rw [HFn.out]; go_num, by rw [HCv.out], by rw [HCv.out], HBX2.out, HB2.out⟩, by simp [intOf]; omega⟩
                    | (go_roundw
                       case rel => exact ⟨i + 1, by omega, by go_num, by rw [HFn.out]; go_num, by rw [HCv.out], by rw [HCv.out], HBX2.out, HB2.out⟩
                       case measure => simp [intOf]; omega)
                  · rcases hk12 with hk1 | hk2
                    · exact absurd HYes.out (by rw [(cv_load (rs := L) (i := i) nm (by rw [HEV.out]; exact hk1)).1]; simp)
                    · obtain ⟨hs1, hs2⟩ := cv_spend (rs := L) (i := i) nm (by rw [HEV.out]; exact hk2) HOi.out
                      rw [HEV.out] at hs1 hs2
                      dsimp only at hs1 hs2
                      rw [cvAt_congr L hnm i, HYes.out] at hs1
                      rw [HYes.out] at hs2
                      have HCv : Hid (cvAt L nm (i + 1) = cvAt L nm i) := by rw [hs2]; exact if_neg (by rintro ⟨_, h⟩; simp at h)
                      have hkb : (e3 == 3) = false := by rw [hk2]; rfl
                      have hk1 : (e3 == 1) = false := by rw [hk2]; rfl
                      have hgt : decide ((cvAt L nm i).1 - (cvAt L nm i).2 < e5) = true := hs1.symm
                      clear hs1 hs2 HYes hk2 hnm
                      generalize hcvg : cvAt L nm i = cv at *
                      clear hcvg
                      obtain ⟨l1, l2⟩ := cv
                      dsimp only at HCv hgt b1 b2 b3 b4 ⊢
                      have hw1 : IntKind.i64.wrap (l1 - l2) = l1 - l2 := wrap_id _ (by omega) (by omega)
                      have hw2 : IntKind.i64.wrap (l2 + e5) = l2 + e5 := wrap_id _ (by omega) (by omega)
                      have hlt5 : l1 - l2 < e5 := of_decide_eq_true hgt
                      go_wp2_with fail
                      refine wp_region_held_drew (S := fun W' => Below wr.heap.size wr W') (by kernel_rfl) (below_drew _) (fun hH => ?_)
                      refine wpAnyH_take (i := 0) (v := .slice (some ⟨g, 0, none⟩) L.length cp) rfl (by kernel_rfl) (by kernel_rfl) (by kernel_rfl) (fun _ _ _ h => h) (Or.inl ⟨by rfl, fun w hSw => by go_simp⟩) hH ?_
                      refine wpAnyH_take (i := 1) (v := .int .i64 (i : Int)) rfl (by kernel_rfl) (by kernel_rfl) (by kernel_rfl) (fun _ _ _ h => h) (Or.inl ⟨by rfl, fun w hSw => by go_simp⟩) hH ?_
                      try simp only [Act.put, List.setIfInBounds_toArray, List.set_cons_zero, List.set_cons_succ, List.getElem_toArray, List.getElem_cons_succ, List.getElem_cons_zero]
                      refine wpAnyH_take (i := 2) (v := .pointer (some ⟨g, i * 6, none⟩)) rfl (by kernel_rfl) (by kernel_rfl) (by kernel_rfl) (fun _ _ _ h => h) (Or.inl ⟨by rfl, fun w hSw => by have f := hlt; go_simp⟩) hH ?_
                      try simp only [Act.put, List.setIfInBounds_toArray, List.set_cons_zero, List.set_cons_succ, List.getElem_toArray, List.getElem_cons_succ, List.getElem_cons_zero]
                      refine wpAnyH_take (i := 3) (v := .pointer (some ⟨g, i * 6 + 4, none⟩)) rfl (by kernel_rfl) (by kernel_rfl) (by kernel_rfl) (fun _ _ _ h => h) (Or.inl ⟨by rfl, fun w hSw => by go_simp⟩) hH ?_
                      try simp only [Act.put, List.setIfInBounds_toArray, List.set_cons_zero, List.set_cons_succ, List.getElem_toArray, List.getElem_cons_succ, List.getElem_cons_zero]
                      refine wpAnyH_take (i := 4) (v := .string e4) rfl (by kernel_rfl) (by kernel_rfl) (by kernel_rfl) (fun _ _ _ h => h) (Or.inl ⟨by rfl, fun w hSw => by have f := (HQ.out w hSw).1; go_simp⟩) hH ?_
                      try simp only [Act.put, List.setIfInBounds_toArray, List.set_cons_zero, List.set_cons_succ, List.getElem_toArray, List.getElem_cons_succ, List.getElem_cons_zero]
                      refine wpAnyH_take (i := 5) (v := .pointer (some ⟨bx, 0, none⟩)) rfl (by kernel_rfl) (by kernel_rfl) (by kernel_rfl) (fun _ _ _ h => h) (Or.inl ⟨by rfl, fun w hSw => by go_simp⟩) hH ?_
                      try simp only [Act.put, List.setIfInBounds_toArray, List.set_cons_zero, List.set_cons_succ, List.getElem_toArray, List.getElem_cons_succ, List.getElem_cons_zero]
                      refine wpAnyH_take (i := 6) (v := .string nm) rfl (by kernel_rfl) (by kernel_rfl) (by kernel_rfl) (fun _ _ _ h => h) (Or.inl ⟨by rfl, fun w hSw => by have f := (HQ.out w hSw).2.2; go_simp⟩) hH ?_
                      try simp only [Act.put, List.setIfInBounds_toArray, List.set_cons_zero, List.set_cons_succ, List.getElem_toArray, List.getElem_cons_succ, List.getElem_cons_zero]
                      refine wpAnyH_take (i := 7) (v := .bool false) rfl (by kernel_rfl) (by kernel_rfl) (by kernel_rfl) (fun _ _ _ h => h) (Or.inl ⟨by rfl, fun w hSw => by have f := HNm.out; go_simp⟩) hH ?_
                      try simp only [Act.put, List.setIfInBounds_toArray, List.set_cons_zero, List.set_cons_succ, List.getElem_toArray, List.getElem_cons_succ, List.getElem_cons_zero]
                      refine wpAnyH_take (i := 8) (v := .bool false) rfl (by kernel_rfl) (by kernel_rfl) (by kernel_rfl) (fun _ _ _ h => h) (Or.inl ⟨by rfl, fun w hSw => by go_simp⟩) hH ?_
                      try simp only [Act.put, List.setIfInBounds_toArray, List.set_cons_zero, List.set_cons_succ, List.getElem_toArray, List.getElem_cons_succ, List.getElem_cons_zero]
                      refine wpAnyH_take (i := 9) (v := .slice (some ⟨g, 0, none⟩) L.length cp) rfl (by kernel_rfl) (by kernel_rfl) (by kernel_rfl) (fun _ _ _ h => h) (Or.inl ⟨by rfl, fun w hSw => by go_simp⟩) hH ?_
                      try simp only [Act.put, List.setIfInBounds_toArray, List.set_cons_zero, List.set_cons_succ, List.getElem_toArray, List.getElem_cons_succ, List.getElem_cons_zero]
                      refine wpAnyH_take (i := 10) (v := .int .i64 (i : Int)) rfl (by kernel_rfl) (by kernel_rfl) (by kernel_rfl) (fun _ _ _ h => h) (Or.inl ⟨by rfl, fun w hSw => by go_simp⟩) hH ?_
                      try simp only [Act.put, List.setIfInBounds_toArray, List.set_cons_zero, List.set_cons_succ, List.getElem_toArray, List.getElem_cons_succ, List.getElem_cons_zero]
                      refine wpAnyH_take (i := 11) (v := .pointer (some ⟨g, i * 6, none⟩)) rfl (by kernel_rfl) (by kernel_rfl) (by kernel_rfl) (fun _ _ _ h => h) (Or.inl ⟨by rfl, fun w hSw => by have f := hlt; go_simp⟩) hH ?_
                      try simp only [Act.put, List.setIfInBounds_toArray, List.set_cons_zero, List.set_cons_succ, List.getElem_toArray, List.getElem_cons_succ, List.getElem_cons_zero]
                      refine wpAnyH_take (i := 12) (v := .pointer (some ⟨g, i * 6 + 3, none⟩)) rfl (by kernel_rfl) (by kernel_rfl) (by kernel_rfl) (fun _ _ _ h => h) (Or.inl ⟨by rfl, fun w hSw => by go_simp⟩) hH ?_
                      try simp only [Act.put, List.setIfInBounds_toArray, List.set_cons_zero, List.set_cons_succ, List.getElem_toArray, List.getElem_cons_succ, List.getElem_cons_zero]
                      refine wpAnyH_take (i := 13) (v := .int .i64 e3) rfl (by kernel_rfl) (by kernel_rfl) (by kernel_rfl) (fun _ _ _ h => h) (Or.inl ⟨by rfl, fun w hSw => by have f := (HQ.out w hSw).2.1; go_simp⟩) hH ?_
                      try simp only [Act.put, List.setIfInBounds_toArray, List.set_cons_zero, List.set_cons_succ, List.getElem_toArray, List.getElem_cons_succ, List.getElem_cons_zero]
                      refine wpAnyH_take (i := 14) (v := .bool false) rfl (by kernel_rfl) (by kernel_rfl) (by kernel_rfl) (fun _ _ _ h => h) (Or.inl ⟨by rfl, fun w hSw => by have f := hkb; go_simp⟩) hH ?_
                      try simp only [Act.put, List.setIfInBounds_toArray, List.set_cons_zero, List.set_cons_succ, List.getElem_toArray, List.getElem_cons_succ, List.getElem_cons_zero]
                      refine wpAnyH_take (i := 15) (v := .bool false) rfl (by kernel_rfl) (by kernel_rfl) (by kernel_rfl) (fun _ _ _ h => h) (Or.inl ⟨by rfl, fun w hSw => by go_simp⟩) hH ?_
                      try simp only [Act.put, List.setIfInBounds_toArray, List.set_cons_zero, List.set_cons_succ, List.getElem_toArray, List.getElem_cons_succ, List.getElem_cons_zero]
                      refine wpAnyH_done (by kernel_rfl) ?_ _
                      have HBX2 : Hid (wr.drew.heap[bx]? = some (.cells #[.string nm, .int .i64 lf, .int .i64 ld, .int .i64 sp] 39 (0, 0))) := HBX.out
                      have HB2 : Hid (Below W3.heap.size W3 wr.drew) := chain HB.out (below_drew _)
                      have m5 : wr.drew.cell? ⟨g, i * 6 + 5, none⟩ = some (.int .i64 e5) := c5
                      have m3 : wr.drew.cell? ⟨g, i * 6 + 3, none⟩ = some (.int .i64 e3) := c3
                      have hgd : g < wr.drew.heap.size := hgw
                      clear hH HQ HBX HB HWr c0 c1 c2 c3 c4 c5
                      generalize wr.drew = wd at *
                      go_wp2
                      first
                      | exact ⟨⟨i + 1, by omega, by go_num, by rw [HFn.out]; go_num, by rw [HCv.out], by rw [HCv.out], HBX2.out, HB2.out⟩, by simp [intOf]; omega⟩
                      | (go_roundw
                         case rel => exact ⟨i + 1, by omega, by go_num, by rw [HFn.out]; go_num, by rw [HCv.out], by rw [HCv.out], HBX2.out, HB2.out⟩
                         case measure => simp [intOf]; omega)
                · have HNm : Hid (¬ e4.toList = nm.toList) := hnm
                  have HCv : Hid (cvAt L nm (i + 1) = cvAt L nm i) := by
                    rcases hkd with hk3 | ⟨hk1 | hk2, _, _⟩
                    · exact cv_coupon nm (by rw [HEV.out]; exact hk3)
                    · have h := (cv_load (rs := L) (i := i) nm (by rw [HEV.out]; exact hk1)).2
                      rw [HEV.out] at h
                      rw [h]; exact if_neg hnm
                    · have h := (cv_spend (rs := L) (i := i) nm (by rw [HEV.out]; exact hk2) HOi.out).2
                      rw [HEV.out] at h
                      rw [h]; exact if_neg (fun q => hnm q.1)
                  clear HYes hnm hkd
                  go_wp2_with fail
                  refine wp_region_held_drew (S := fun W' => Below wr.heap.size wr W') (by kernel_rfl) (below_drew _) (fun hH => ?_)
                  refine wpAnyH_take (i := 0) (v := .slice (some ⟨g, 0, none⟩) L.length cp) rfl (by kernel_rfl) (by kernel_rfl) (by kernel_rfl) (fun _ _ _ h => h) (Or.inl ⟨by rfl, fun w hSw => by go_simp⟩) hH ?_
                  refine wpAnyH_take (i := 1) (v := .int .i64 (i : Int)) rfl (by kernel_rfl) (by kernel_rfl) (by kernel_rfl) (fun _ _ _ h => h) (Or.inl ⟨by rfl, fun w hSw => by go_simp⟩) hH ?_
                  try simp only [Act.put, List.setIfInBounds_toArray, List.set_cons_zero, List.set_cons_succ, List.getElem_toArray, List.getElem_cons_succ, List.getElem_cons_zero]
                  refine wpAnyH_take (i := 2) (v := .pointer (some ⟨g, i * 6, none⟩)) rfl (by kernel_rfl) (by kernel_rfl) (by kernel_rfl) (fun _ _ _ h => h) (Or.inl ⟨by rfl, fun w hSw => by have f := hlt; go_simp⟩) hH ?_
                  try simp only [Act.put, List.setIfInBounds_toArray, List.set_cons_zero, List.set_cons_succ, List.getElem_toArray, List.getElem_cons_succ, List.getElem_cons_zero]
                  refine wpAnyH_take (i := 3) (v := .pointer (some ⟨g, i * 6 + 4, none⟩)) rfl (by kernel_rfl) (by kernel_rfl) (by kernel_rfl) (fun _ _ _ h => h) (Or.inl ⟨by rfl, fun w hSw => by go_simp⟩) hH ?_
                  try simp only [Act.put, List.setIfInBounds_toArray, List.set_cons_zero, List.set_cons_succ, List.getElem_toArray, List.getElem_cons_succ, List.getElem_cons_zero]
                  refine wpAnyH_take (i := 4) (v := .string e4) rfl (by kernel_rfl) (by kernel_rfl) (by kernel_rfl) (fun _ _ _ h => h) (Or.inl ⟨by rfl, fun w hSw => by have f := (HQ.out w hSw).1; go_simp⟩) hH ?_
                  try simp only [Act.put, List.setIfInBounds_toArray, List.set_cons_zero, List.set_cons_succ, List.getElem_toArray, List.getElem_cons_succ, List.getElem_cons_zero]
                  refine wpAnyH_take (i := 5) (v := .pointer (some ⟨bx, 0, none⟩)) rfl (by kernel_rfl) (by kernel_rfl) (by kernel_rfl) (fun _ _ _ h => h) (Or.inl ⟨by rfl, fun w hSw => by go_simp⟩) hH ?_
                  try simp only [Act.put, List.setIfInBounds_toArray, List.set_cons_zero, List.set_cons_succ, List.getElem_toArray, List.getElem_cons_succ, List.getElem_cons_zero]
                  refine wpAnyH_take (i := 6) (v := .string nm) rfl (by kernel_rfl) (by kernel_rfl) (by kernel_rfl) (fun _ _ _ h => h) (Or.inl ⟨by rfl, fun w hSw => by have f := (HQ.out w hSw).2.2; go_simp⟩) hH ?_
                  try simp only [Act.put, List.setIfInBounds_toArray, List.set_cons_zero, List.set_cons_succ, List.getElem_toArray, List.getElem_cons_succ, List.getElem_cons_zero]
                  refine wpAnyH_take (i := 7) (v := .bool true) rfl (by kernel_rfl) (by kernel_rfl) (by kernel_rfl) (fun _ _ _ h => h) (Or.inl ⟨by rfl, fun w hSw => by have f := HNm.out; go_simp⟩) hH ?_
                  try simp only [Act.put, List.setIfInBounds_toArray, List.set_cons_zero, List.set_cons_succ, List.getElem_toArray, List.getElem_cons_succ, List.getElem_cons_zero]
                  refine wpAnyH_take (i := 8) (v := .bool true) rfl (by kernel_rfl) (by kernel_rfl) (by kernel_rfl) (fun _ _ _ h => h) (Or.inl ⟨by rfl, fun w hSw => by go_simp⟩) hH ?_
                  try simp only [Act.put, List.setIfInBounds_toArray, List.set_cons_zero, List.set_cons_succ, List.getElem_toArray, List.getElem_cons_succ, List.getElem_cons_zero]
                  refine wpAnyH_take (i := 9) (v := undef) rfl (by kernel_rfl) (by kernel_rfl) (by kernel_rfl) (fun _ _ _ h => h) (Or.inr ⟨by rfl, rfl⟩) hH ?_
                  try simp only [Act.put, List.setIfInBounds_toArray, List.set_cons_zero, List.set_cons_succ, List.getElem_toArray, List.getElem_cons_succ, List.getElem_cons_zero]
                  refine wpAnyH_take (i := 10) (v := undef) rfl (by kernel_rfl) (by kernel_rfl) (by kernel_rfl) (fun _ _ _ h => h) (Or.inr ⟨by rfl, rfl⟩) hH ?_
                  try simp only [Act.put, List.setIfInBounds_toArray, List.set_cons_zero, List.set_cons_succ, List.getElem_toArray, List.getElem_cons_succ, List.getElem_cons_zero]
                  refine wpAnyH_take (i := 11) (v := undef) rfl (by kernel_rfl) (by kernel_rfl) (by kernel_rfl) (fun _ _ _ h => h) (Or.inr ⟨by rfl, rfl⟩) hH ?_
                  try simp only [Act.put, List.setIfInBounds_toArray, List.set_cons_zero, List.set_cons_succ, List.getElem_toArray, List.getElem_cons_succ, List.getElem_cons_zero]
                  refine wpAnyH_take (i := 12) (v := undef) rfl (by kernel_rfl) (by kernel_rfl) (by kernel_rfl) (fun _ _ _ h => h) (Or.inr ⟨by rfl, rfl⟩) hH ?_
                  try simp only [Act.put, List.setIfInBounds_toArray, List.set_cons_zero, List.set_cons_succ, List.getElem_toArray, List.getElem_cons_succ, List.getElem_cons_zero]
                  refine wpAnyH_take (i := 13) (v := undef) rfl (by kernel_rfl) (by kernel_rfl) (by kernel_rfl) (fun _ _ _ h => h) (Or.inr ⟨by rfl, rfl⟩) hH ?_
                  try simp only [Act.put, List.setIfInBounds_toArray, List.set_cons_zero, List.set_cons_succ, List.getElem_toArray, List.getElem_cons_succ, List.getElem_cons_zero]
                  refine wpAnyH_take (i := 14) (v := undef) rfl (by kernel_rfl) (by kernel_rfl) (by kernel_rfl) (fun _ _ _ h => h) (Or.inr ⟨by rfl, rfl⟩) hH ?_
                  try simp only [Act.put, List.setIfInBounds_toArray, List.set_cons_zero, List.set_cons_succ, List.getElem_toArray, List.getElem_cons_succ, List.getElem_cons_zero]
                  refine wpAnyH_take (i := 15) (v := .bool true) rfl (by kernel_rfl) (by kernel_rfl) (by kernel_rfl) (fun _ _ _ h => h) (Or.inl ⟨by rfl, fun w hSw => by go_simp⟩) hH ?_
                  try simp only [Act.put, List.setIfInBounds_toArray, List.set_cons_zero, List.set_cons_succ, List.getElem_toArray, List.getElem_cons_succ, List.getElem_cons_zero]
                  refine wpAnyH_done (by kernel_rfl) ?_ _
                  have HBX2 : Hid (wr.drew.heap[bx]? = some (.cells #[.string nm, .int .i64 lf, .int .i64 ld, .int .i64 sp] 39 (0, 0))) := HBX.out
                  have HB2 : Hid (Below W3.heap.size W3 wr.drew) := chain HB.out (below_drew _)
                  have m5 : wr.drew.cell? ⟨g, i * 6 + 5, none⟩ = some (.int .i64 e5) := c5
                  have m3 : wr.drew.cell? ⟨g, i * 6 + 3, none⟩ = some (.int .i64 e3) := c3
                  have hgd : g < wr.drew.heap.size := hgw
                  clear hH HQ HBX HB HWr c0 c1 c2 c3 c4 c5
                  generalize wr.drew = wd at *
                  go_wp2
                  first
                  | exact ⟨⟨i + 1, by omega, by go_num, by rw [HFn.out]; go_num, by rw [HCv.out], by rw [HCv.out], HBX2.out, HB2.out⟩, by simp [intOf]; omega⟩
                  | (go_roundw
                     case rel => exact ⟨i + 1, by omega, by go_num, by rw [HFn.out]; go_num, by rw [HCv.out], by rw [HCv.out], HBX2.out, HB2.out⟩
                     case measure => simp [intOf]; omega)
            · obtain rfl : i = L.length := by omega
              rw [HEnd.out]
              have y0 := blkCell HBX.out 0 _ rfl
              have y1 := blkCell HBX.out 1 _ rfl
              have y2 := blkCell HBX.out 2 _ rfl
              have y3 := blkCell HBX.out 3 _ rfl
              have hbl : bx < wr.heap.size := blkLt HBX.out
              have n1 : (ld != ld) = false := by simp
              have n2 : (sp != sp) = false := by simp
              have n3 : (lf != lf) = false := by simp
              have hws : IntKind.i64.wrap (ld - sp) = lf := by rw [← HZ.out]; exact wrap_id _ (by omega) (by omega)
              have hws2 : wrap64 (ld - sp) = lf := by rw [← HZ.out]; unfold wrap64; omega
              have n4 : ¬ lf < 0 := by omega
              clear b1 b2 b3 b4 hfi HBX HWr
              go_wp2
              first
              | exact ⟨⟨k + 1, by omega, by go_num, HB.out⟩, by simp [intOf]; omega⟩
              | (go_roundw
                 case rel => exact ⟨k + 1, by omega, by go_num, HB.out⟩
                 case measure => simp [intOf]; omega)
        · have hkt' : ¬ ((k : Int) < (t.cs.length : Int)) := by omega
          have HFin : Hid (Below w.heap.size w wr) := chain HBd.out HB.out
          go_wp2
          go_ret
          exact ⟨rfl, HFin.out⟩

theorem own : ownKnob Try.prog.godebug = none := by kernel_rfl
theorem laidOut : laidOutB Try.prog = true := by kernel_rfl

set_option maxRecDepth 100000 in
theorem lifted (os : Os) (started : os.Started) (H : Type) (enc : TypeId × Value → H) :
    ReturnsInHanded {} Try.checked os 3 .any (Rows.fnLedgerSpec.pre6 enc Try.prog Try.f3 Rows.fnLedgerRow.domain false) (Rows.fnLedgerSpec.post enc Try.prog Try.f3 false true false false) := by
  refine returnsInHanded_of_change (C := Try.checked) own started (by kernel_rfl) Try.func3
    (ChangeSpec.witness6 (enc := enc) (C := Try.checked) false ⟨#[], #[.slice none 0 0], []⟩ 8 (by kernel_rfl) (by kernel_rfl) (by kernel_rfl) (by kernel_rfl)) ?_
  intro W base args ds gs before hval0 hW hcnd _
  have hval : ∀ (j : Nat) t v, Try.f3.params[j]? = some t → args[j]? = some v → Value.okWide Try.prog W .any base t v := hval0
  have hW' := hW
  obtain ⟨p, q, hA0, hV, rfl, hfz, hnd⟩ := hW
  have hA : DataW.TrodAll enc Try.prog W 0 (fun _ => true) true Try.f3.params.toList args.toList ds p := hA0
  rw [Try.params3] at hA hval
  obtain ⟨v0, vs0, d0, ds0, p0, q0, hargs, rfl, rfl, h0, r0⟩ := trodAll_cons hA
  obtain ⟨rfl, rfl, rfl⟩ := trodAll_nil r0
  obtain rfl : args = #[v0] := by cases args; simp_all
  obtain ⟨rfl, rfl⟩ := trodVars_none hV
  have k0 := h0
  have lt0 : ∀ x ∈ p0, x.block < W.heap.size := by obtain ⟨m, hm⟩ := k0; exact DataW.trod_lt m _ _ _ hm
  obtain ⟨a0, len0, cap0, rfl⟩ := okWide_slice Try.underlying22 (hval 0 22 v0 rfl rfl)
  obtain ⟨z0, w0⟩ : ∃ zs, IsRow .u8 W a0 len0 cap0 zs := by
    obtain ⟨fuel, hf⟩ := h0
    rcases open_ints Try.underlying22 Try.underlying5 (by kernel_rfl) hf with ⟨hcs, _⟩ | ⟨x, l, c, zs, hcs, _, hl, hm, hz, _, hcell, hwz⟩
    · simp [Value.cells] at hcs
      obtain ⟨rfl, rfl, rfl⟩ := hcs
      exact ⟨[], .inl ⟨rfl, rfl, rfl, rfl⟩⟩
    · simp [Value.cells] at hcs
      obtain ⟨rfl, rfl, rfl⟩ := hcs
      exact ⟨zs, .inr ⟨_, rfl, hl, hm, by simpa using hz, hcell, hwz⟩⟩
  clear hA0 hval0
  refine (walk a0 len0 cap0 z0 W (rowB_of _ _ _ _ _ w0)).mono fun e W' ⟨he, bel⟩ => ?_
  subst he
  exact ⟨_, rfl, _, _, _, [], _, [], hW', trodAll_mk1 (shut_bool Try.underlying4 _), (trodAll_cons_mk (Below.trod laidOut (by kernel_rfl) (of_decide_eq_true (by kernel_rfl)) k0 bel lt0) trodAll_mk0), rfl, bel.frame _, fun h => by cases h⟩

theorem over : Rows.fnLedgerRow.holds Try.pinned (OpenSpec.ofChange Rows.fnLedgerSpec) :=
  OpenClaim.holds_of_wide 3 Try.f3 rfl rfl rfl rfl rfl rfl rfl ⟨rfl, rfl, rfl, rfl, rfl⟩ rfl rfl rfl rfl rfl (by kernel_rfl) Try.func3 (by kernel_rfl)
    (of_decide_eq_true (by kernel_rfl)) (by unfold Func.isWrapper; first | (rw [if_pos (by decide +kernel)]; kernel_rfl) | (rw [if_neg (by decide +kernel)]; exact ⟨rfl, rfl⟩))
    (fun os started H enc _ => lifted os started H enc)
end FnLedger

theorem fnLedger_holds : Rows.FnLedgerSaid := FnLedger.over
end Go.Proofs.Ytabghjlmmpckdaa
