/-
  For every list of bytes the law FnAlarms answers true: of a drawn trace with drawn limits a longer hold gives no more alarms, as many as the specification's, each begins above the high limit, ends at or below the low one or with the trace, and stays above the low one between; with no condition.
-/
import Derived.Test.YtillkllkekhmfaaAmT
import Derived.Test.YtillkllkekhmfaaAmQ
import Derived.Test.YtillkllkekhmfaaAmR
import Derived.BigQuiet
namespace Go.Proofs.Ytillkllkekhmfaa
open Go.ChangeShapes Go.WideShapes Go.ChangeAt Go.RowKit Go.Joins Go.Deep
set_option linter.unusedVariables false
attribute [local go_sem] run_store_float
namespace FnAlarms
set_option maxHeartbeats 16000000 in
set_option maxRecDepth 8000 in
theorem walk (a0 : Option Addr) (len0 cap0 : Nat) (z0 : List Int) (w : World) (r0 : RowB w.heap.size w a0 len0 z0) :
    Calls Try.prog 4 #[.slice a0 len0 cap0] w fun e w' => e = .returned (.bool true) ∧ Below w.heap.size w w' := by
  by_cases hbig : (1048576 : Int) < (len0 : Int)
  · clear r0
    go_enter Try.func4, Try.ntmps4
    go_wp2
    go_ret
    exact ⟨rfl, Below.refl _ _⟩
  have hT := TraceOf_any a0 len0 cap0 z0 w r0
  clear r0
  unfold PostTraceOf at hT
  go_enter Try.func4, Try.ntmps4
  go_wp2_with fail
  (first | go_at_call 9 | skip)
  refine hT.mono ?_
  rintro e w1 ⟨L, g, cp, hi, lo, hold, rfl, hlL, hdL, hhi, hhold, hcp, hg1, hfl, hb1⟩
  have B1 : Hid (Below w.heap.size w w1) := hb1
  have F1 : Hid (g < w1.heap.size ∧ FltsAt w1 g 0 L) := ⟨hg1, hfl⟩
  have HRd : Hid (∀ W, Below w1.heap.size w1 W → ReadsF W.heap.size W (some ⟨g, 0, none⟩) L) := fun W hb => .inr ⟨g, 0, rfl, Nat.lt_of_lt_of_le hg1 hb.size, hfl.below hb hg1⟩
  have hok : oksF L = true := List.all_eq_true.2 (fun x hx => okDr_ok (hdL x hx))
  obtain ⟨_, _, hnlt⟩ := lim_ok hhi
  obtain ⟨hc1, hl1⟩ := al_facts hlL hdL hhi (hold := hold) (by omega) (by omega)
  obtain ⟨hc2, hl2⟩ := al_facts hlL hdL hhi (hold := hold + 1) (by omega) (by omega)
  have hlong := full_longer hnlt (h := hold) (by omega) (L.length : Int) (thT L L.length)
  rw [← hl1, ← hl2] at hlong
  have hshape := full_shape (hold := hold) hnlt hok (by omega : L.length ≤ 4096)
  rw [← hl1] at hshape
  have hlen := amL_len L hi lo hold
  have HI : Hid (∀ W, Below w1.heap.size w1 W → Calls Try.prog 13 #[.slice (some ⟨g, 0, none⟩) L.length cp, .float .f64 hi, .float .f64 lo, .int .i64 hold] W (AnsAm W (amL L hi lo hold) 0)) := fun W hb => by
    have q := implAlarms_any (some ⟨g, 0, none⟩) cp L hi lo hold (by omega) W (HRd.out W hb)
    rwa [hc1] at q
  have HI2 : Hid (∀ W, Below w1.heap.size w1 W → Calls Try.prog 13 #[.slice (some ⟨g, 0, none⟩) L.length cp, .float .f64 hi, .float .f64 lo, .int .i64 (hold + 1)] W (AnsAm W (amL L hi lo (hold + 1)) 0)) := fun W hb => by
    have q := implAlarms_any (some ⟨g, 0, none⟩) cp L hi lo (hold + 1) (by omega) W (HRd.out W hb)
    rwa [hc2] at q
  have HS : Hid (∀ W, Below w1.heap.size w1 W → Calls Try.prog 14 #[.slice (some ⟨g, 0, none⟩) L.length cp, .float .f64 hi, .float .f64 lo, .int .i64 hold] W (AnsAm W (amL L hi lo hold) 0)) := fun W hb => by
    have q := specAlarms_any (some ⟨g, 0, none⟩) cp L hi lo hold (by omega) W (HRd.out W hb)
    rwa [hc1] at q
  have HSh : Hid ((∀ r ∈ amL L hi lo hold, Al1 L hi lo r) ∧ Ord (amL L hi lo hold)) := hshape
  clear hT hb1 hg1 hfl hdL hhi hok hnlt hc1 hl1 hc2 hl2 hshape HRd
  unfold AnsAm at HI HI2 HS
  generalize amL L hi lo hold = F at *
  generalize (amL L hi lo (hold + 1)) = F2 at *
  have hwh : IntKind.i64.wrap (hold + 1) = hold + 1 := wrap_id _ (by omega) (by omega)
  go_wp2_with fail
  (first | go_at_call 13 | skip)
  refine (HI.out w1 (Below.refl _ _)).mono ?_
  rintro e w2 ⟨ga, gc, rfl, hrow2, hb2⟩
  have B2 : Hid (Below w1.heap.size w1 w2) := hb2
  have R2 : Hid (w2.ownsRow w1.heap.size 39 2 (.slice ga F.length gc) F.length (alCells F)) := hrow2
  clear hb2 hrow2 HI
  go_wp2_with fail
  (first | go_at_call 13 | skip)
  refine (HI2.out w2 B2.out).mono ?_
  rintro e w3 ⟨ga2, gc2, rfl, hrow3, hb3⟩
  have B3 : Hid (Below w1.heap.size w1 w3) := chain B2.out hb3
  have R3 : Hid (w3.ownsRow w1.heap.size 39 2 (.slice ga F.length gc) F.length (alCells F)) := ownsRow_sameW R2.out (fun q hq => hb3.block q (row_lt R2.out q hq).2)
  clear hb3 hrow3 HI2 B2 R2
  go_wp2_with fail
  (first | go_at_call 14 | skip)
  refine (HS.out w3 B3.out).mono ?_
  rintro e w5 ⟨ga3, gc3, rfl, hrow5, hb5⟩
  have B5 : Hid (Below w1.heap.size w1 w5) := chain B3.out hb5
  have R5 : Hid (w5.ownsRow w1.heap.size 39 2 (.slice ga F.length gc) F.length (alCells F)) := ownsRow_sameW R3.out (fun q hq => hb5.block q (row_lt R3.out q hq).2)
  clear hb5 hrow5 HS B3 R3
  have hle2 : decide (F.length < F2.length) = false := decide_eq_false (by omega)
  have hle3 : decide ((F.length : Int) < (F2.length : Int)) = false := decide_eq_false (by omega)
  have hlf : ((F.length : Int) != (F.length : Int)) = false := by simp
  clear hlong
  have HFl : Hid (∀ (W : World) (i : Nat), Below w5.heap.size w5 W → i < L.length → W.cell? ⟨g, i, none⟩ = some (.float .f64 (L.getD i 0))) := fun W i hb hi => by
    have h2 := F1.out.2 i hi
    rw [Nat.zero_add] at h2
    rw [World.cell?_of_block (w := w1) (a := ⟨g, i, none⟩) ((hb.block g (Nat.lt_of_lt_of_le F1.out.1 B5.out.size)).trans (B5.out.block g F1.out.1))]
    exact h2
  have HG : Hid (∀ (W : World) (q : Nat), Below w5.heap.size w5 W → ∀ gg, ga = some ⟨gg, 0, none⟩ → q < F.length → W.cell? ⟨gg, q * 2, none⟩ = some (.int .i64 (F.getD q (0, 0)).1) ∧ W.cell? ⟨gg, q * 2 + 1, none⟩ = some (.int .i64 (F.getD q (0, 0)).2)) := fun W q hb gg hgg hq => by
    have h1 : W.ownsRow w1.heap.size 39 2 (.slice ga F.length gc) F.length (alCells F) := ownsRow_sameW R5.out (fun k hk => hb.block k (row_lt R5.out k hk).2)
    subst hgg
    have h2 := alCells_at F q hq
    rw [h1.cellAt _ (by omega), h1.cellAt _ (by omega)]
    exact h2
  go_upto_region 9 with fail
  clear hle2 hle3
  go_wp2_with fail
  go_loopw [13] (fun iv wr => ∃ i : Nat, iv = .int .i64 (i : Int) ∧ i ≤ F.length ∧ Below w5.heap.size w5 wr) (fun iv _ => F.length - (intOf iv).toNat)
  case atStart => exact ⟨0, rfl, Nat.zero_le _, Below.refl _ _⟩
  case round =>
    obtain ⟨i, rfl, hiF, hBw⟩ := hrel
    have BW : Hid (Below w5.heap.size w5 wr) := hBw
    clear hBw
    by_cases hc : i < F.length
    · have hc' : (i : Int) < (F.length : Int) := by omega
      obtain ⟨gg, gcc, hgq⟩ := row_some R5.out (by omega)
      simp only [Value.slice.injEq, true_and] at hgq
      obtain ⟨rfl, rfl⟩ := hgq
      have hmem : F.getD i (0, 0) ∈ F := by
        have e : F.getD i (0, 0) = F[i] := by simp [List.getD_eq_getElem?_getD, hc]
        rw [e]; exact List.getElem_mem _
      obtain ⟨f, e, hfe, hf1, hf2, hf3, hf4, hf5⟩ := HSh.out.1 _ hmem
      obtain ⟨cf, ce⟩ := HG.out wr i BW.out gg rfl hc
      rw [hfe] at cf ce
      dsimp only at cf ce
      have HPr : Hid (∀ j, i = j + 1 → (F.getD j (0, 0)).2 < (f : Int)) := fun j hj => by
        have := HSh.out.2 j (by omega)
        rw [← hj, hfe] at this
        exact this
      have H5 : Hid (∀ j, f ≤ j → j < e → leF (L.getD j 0) lo = false) := hf5
      have H4 : Hid (e < L.length → leF (L.getD e 0) lo = true) := hf4
      clear hmem hfe hf4 hf5
      go_upto_region 13 with fail
      have n14 := heapNew wr (Obj.cells #[.int .i64 (f : Int), .int .i64 (e : Int)] 39)
      have b14 := below_alloc wr (Obj.cells #[.int .i64 (f : Int), .int .i64 (e : Int)] 39)
      generalize wr.alloc (Obj.cells #[.int .i64 (f : Int), .int .i64 (e : Int)] 39) = w14 at *
      have K14 : Hid (w14.heap[wr.heap.size]? = some (.cells #[.int .i64 (f : Int), .int .i64 (e : Int)] 39 (0, 0)) ∧ Below w5.heap.size w5 w14) := ⟨n14, chain BW.out b14⟩
      have cf0 := blkCell n14 0 _ rfl
      have ce0 := blkCell n14 1 _ rfl
      clear b14 n14 BW cf ce
      generalize wr.heap.size = p14 at *
      have hfL : f < L.length := by omega
      have cx := HFl.out w14 f K14.out.2 hfL
      have o1 : ((FloatKind.format .f64).order (L.getD f 0) hi == some .gt) = true := by rw [o_gt, hf3]
      generalize L.getD f 0 = xf at *
      have d1 : decide ((f : Int) < 0) = false := decide_eq_false (by omega)
      have d2 : decide ((e : Int) ≤ (f : Int)) = false := decide_eq_false (by omega)
      have d3 : decide ((L.length : Int) < (e : Int)) = false := decide_eq_false (by omega)
      have d1' : ¬ (f : Int) < 0 := by omega
      have d2' : ¬ (e : Int) ≤ (f : Int) := by omega
      have d3' : ¬ (L.length : Int) < (e : Int) := by omega
      have hfL' : (f : Int) < (L.length : Int) := by omega
      have hwi : IntKind.i64.wrap ((i : Int) + 1) = (i : Int) + 1 := wrap_id _ (by omega) (by omega)
      have hcase : (decide (0 < i) = false ∧ i = 0) ∨ (∃ (j : Nat) (pe : Int), decide (0 < i) = true ∧ 0 < i ∧ IntKind.i64.wrap ((i : Int) - 1) = (j : Int) ∧ j < F.length ∧ (j : Int) < (F.length : Int) ∧ w14.cell? ⟨gg, j * 2 + 1, none⟩ = some (.int .i64 pe) ∧ decide ((f : Int) ≤ pe) = false ∧ ¬ (f : Int) ≤ pe) := by
        by_cases h0 : i = 0
        · exact .inl ⟨decide_eq_false (by omega), by omega⟩
        · obtain ⟨j, hj⟩ : ∃ j, i = j + 1 := ⟨i - 1, by omega⟩
          have q1 := HPr.out j hj
          have q2 := (HG.out w14 j K14.out.2 gg rfl (by omega)).2
          refine .inr ⟨j, (F.getD j (0, 0)).2, decide_eq_true (by omega), by omega, ?_, by omega, by omega, q2, decide_eq_false (by omega), by omega⟩
          rw [wrap_id _ (by omega) (by omega)]; omega
      rcases hcase with ⟨d4, d4'⟩ | ⟨j, pe, d4, d4', hwj, hjF, hjF', cpe, d5, d5'⟩
      all_goals
        go_quiet (fail)
        go_upto_region 15 with fail
        have K15 : Hid ((w14.drewN nq).heap[p14]? = some (.cells #[.int .i64 (f : Int), .int .i64 (e : Int)] 39 (0, 0)) ∧ Below w5.heap.size w5 (w14.drewN nq)) := ⟨K14.out.1, below_drewN K14.out.2 _⟩
        generalize w14.drewN nq = w15 at *
        clear K14 cx o1 cf0 ce0 d1 d2 d3 d4 d4'
        try clear cpe d5 d5' hwj hjF hjF'
        have cf0 := blkCell K15.out.1 0 _ rfl
        have ce0 := blkCell K15.out.1 1 _ rfl
        have hcase2 : (¬ (e : Int) < (L.length : Int)) ∨ ((e : Int) < (L.length : Int) ∧ ∃ x, w15.cell? ⟨g, e, none⟩ = some (.float .f64 x) ∧ ((FloatKind.format .f64).order x lo == some .lt || (FloatKind.format .f64).order x lo == some .eq) = true) := by
          by_cases h0 : e < L.length
          · exact .inr ⟨by omega, _, HFl.out w15 e K15.out.2 h0, by rw [o_le, H4.out h0]⟩
          · exact .inl (by omega)
        rcases hcase2 with h6 | ⟨h6, x6, c6, o6⟩
        all_goals
          go_upto_region 17 with fail
          try clear c6 o6
          clear cf0 ce0
          have cf0 := blkCell K15.out.1 0 _ rfl
          go_wp2_with fail
          go_loopw [15] (fun kv wq => ∃ k : Nat, kv = .int .i64 (k : Int) ∧ f ≤ k ∧ k ≤ e ∧ wq.heap[p14]? = some (.cells #[.int .i64 (f : Int), .int .i64 (e : Int)] 39 (0, 0)) ∧ Below w5.heap.size w5 wq) (fun kv _ => e - (intOf kv).toNat)
          case atStart => exact ⟨f, rfl, Nat.le_refl _, by omega, K15.out.1, K15.out.2⟩
          case round =>
            clear cf0 K15
            obtain ⟨k, rfl, hk1, hk2, hbx, hBq⟩ := hrel
            have ce0 := blkCell hbx 1 _ rfl
            have K16 : Hid (wr.heap[p14]? = some (.cells #[.int .i64 (f : Int), .int .i64 (e : Int)] 39 (0, 0)) ∧ Below w5.heap.size w5 wr) := ⟨hbx, hBq⟩
            clear hbx hBq
            by_cases hke : k < e
            · have hkL : k < L.length := by omega
              have hkL' : (k : Int) < (L.length : Int) := by omega
              have hke' : (k : Int) < (e : Int) := by omega
              have ck := HFl.out wr k K16.out.2 hkL
              have o7 : ((FloatKind.format .f64).order (L.getD k 0) lo == some .lt || (FloatKind.format .f64).order (L.getD k 0) lo == some .eq) = false := by rw [o_le, H5.out k hk1 hke]
              generalize L.getD k 0 = xk at *
              have hwk : IntKind.i64.wrap ((k : Int) + 1) = (k : Int) + 1 := wrap_id _ (by omega) (by omega)
              go_wp2_with fail
              go_roundw
              case rel => exact ⟨k + 1, by go_num, by omega, by omega, K16.out.1, K16.out.2⟩
              case measure => simp [intOf]; omega
            · have hke' : ¬ (k : Int) < (e : Int) := by omega
              go_wp2_with fail
              go_roundw
              case rel => exact ⟨i + 1, by go_num, by omega, K16.out.2⟩
              case measure => simp [intOf]; omega
    · have hc2 : (F.length : Int) ≤ (i : Int) := by omega
      go_wp2
      go_ret
      exact ⟨rfl, chain B1.out (chain B5.out BW.out)⟩

theorem own : ownKnob Try.prog.godebug = none := by kernel_rfl
theorem laidOut : laidOutB Try.prog = true := by kernel_rfl

set_option maxRecDepth 100000 in
theorem lifted (os : Os) (started : os.Started) (H : Type) (enc : TypeId × Value → H) :
    ReturnsInHanded {} Try.checked os 4 .any (Rows.fnAlarmsSpec.pre6 enc Try.prog Try.f4 Rows.fnAlarmsRow.domain false) (Rows.fnAlarmsSpec.post enc Try.prog Try.f4 false true false false) := by
  refine returnsInHanded_of_change (C := Try.checked) own started (by kernel_rfl) Try.func4
    (ChangeSpec.witness6 (enc := enc) (C := Try.checked) false ⟨#[], #[.slice none 0 0], []⟩ 8 (by kernel_rfl) (by kernel_rfl) (by kernel_rfl) (by kernel_rfl)) ?_
  intro W base args ds gs before hval0 hW hcnd _
  have hval : ∀ (j : Nat) t v, Try.f4.params[j]? = some t → args[j]? = some v → Value.okWide Try.prog W .any base t v := hval0
  have hW' := hW
  obtain ⟨p, q, hA0, hV, rfl, hfz, hnd⟩ := hW
  have hA : DataW.TrodAll enc Try.prog W 0 (fun _ => true) true Try.f4.params.toList args.toList ds p := hA0
  rw [Try.params4] at hA hval
  obtain ⟨v0, vs0, d0, ds0, p0, q0, hargs, rfl, rfl, h0, r0⟩ := trodAll_cons hA
  obtain ⟨rfl, rfl, rfl⟩ := trodAll_nil r0
  obtain rfl : args = #[v0] := by cases args; simp_all
  obtain ⟨rfl, rfl⟩ := trodVars_none hV
  have k0 := h0
  have lt0 : ∀ x ∈ p0, x.block < W.heap.size := by obtain ⟨m, hm⟩ := k0; exact DataW.trod_lt m _ _ _ hm
  obtain ⟨a0, len0, cap0, rfl⟩ := okWide_slice Try.underlying22 (hval 0 22 v0 rfl rfl)
  obtain ⟨z0, w0⟩ : ∃ zs, IsRow .u8 W a0 len0 cap0 zs := by
    obtain ⟨fuel, hf⟩ := h0
    rcases open_ints Try.underlying22 Try.underlying5 (by kernel_rfl) hf with ⟨hcs, _⟩ | ⟨x, l, c, zs, hcs, _, hl, hm, hz, _, hcell, hwz⟩
    · simp [Value.cells] at hcs
      obtain ⟨rfl, rfl, rfl⟩ := hcs
      exact ⟨[], .inl ⟨rfl, rfl, rfl, rfl⟩⟩
    · simp [Value.cells] at hcs
      obtain ⟨rfl, rfl, rfl⟩ := hcs
      exact ⟨zs, .inr ⟨_, rfl, hl, hm, by simpa using hz, hcell, hwz⟩⟩
  clear hA0 hval0
  refine (walk a0 len0 cap0 z0 W (rowB_of _ _ _ _ _ w0)).mono fun e W' ⟨he, bel⟩ => ?_
  subst he
  exact ⟨_, rfl, _, _, _, [], _, [], hW', trodAll_mk1 (shut_bool Try.underlying4 _), (trodAll_cons_mk (Below.trod laidOut (by kernel_rfl) (of_decide_eq_true (by kernel_rfl)) k0 bel lt0) trodAll_mk0), rfl, bel.frame _, fun h => by cases h⟩

theorem over : Rows.fnAlarmsRow.holds Try.pinned (OpenSpec.ofChange Rows.fnAlarmsSpec) :=
  OpenClaim.holds_of_wide 4 Try.f4 rfl rfl rfl rfl rfl rfl rfl ⟨rfl, rfl, rfl, rfl, rfl⟩ rfl rfl rfl rfl rfl (by kernel_rfl) Try.func4 (by kernel_rfl)
    (of_decide_eq_true (by kernel_rfl)) (by unfold Func.isWrapper; first | (rw [if_pos (by decide +kernel)]; kernel_rfl) | (rw [if_neg (by decide +kernel)]; exact ⟨rfl, rfl⟩))
    (fun os started H enc _ => lifted os started H enc)
end FnAlarms

theorem fnAlarms_holds : Rows.FnAlarmsSaid := FnAlarms.over
end Go.Proofs.Ytillkllkekhmfaa
