/-
  For every two lists of bytes the law FnPower answers true: of drawn volts and amps the power of volts with themselves has no second part and none below 0, power exchanged is the power turned, both sides tell one power and one bridge; with no condition.
-/
import Derived.Test.YtillkllkekhmfaaPdC
import Derived.Test.YtillkllkekhmfaaPwH
import Derived.Test.YtillkllkekhmfaaPwS
import Derived.Test.YtillkllkekhmfaaPwY
import Derived.Deep.RegionLaw
import Derived.Deep.CutRange
namespace Go.Proofs.Ytillkllkekhmfaa
open Go.ChangeShapes Go.WideShapes Go.ChangeAt Go.RowKit Go.Joins Go.Deep
set_option linter.unusedVariables false
attribute [local go_sem] run_store_float
namespace FnPower
theorem eqFl (d x y : Nat) (w : World) : (Op.equalIn (d + 1) 24 (.float .f64 x) (.float .f64 y)).run Try.prog w = .ok (eqF x y) w := by
  simp [Op.equalIn, run_underlying Try.underlying24]
  exact o_eq x y
theorem part0 (u v : Value) (w : World) : (part 24 #[u, v] 0).run Try.prog w = .ok u w := by kernel_rfl
theorem part1 (u v : Value) (w : World) : (part 24 #[u, v] 1).run Try.prog w = .ok v w := by kernel_rfl
theorem pwEqIn (x y u v : Nat) (w : World) : (Op.equalIn 10000 43 (.agg #[.float .f64 x, .float .f64 y]) (.agg #[.float .f64 u, .float .f64 v])).run Try.prog w = .ok (eqF x u && eqF y v) w := by
  rw [show (10000 : Nat) = 9998 + 1 + 1 from rfl, run_equalIn_struct w (9998 + 1) 43 _ _ (by kernel_rfl) (by kernel_rfl)]
  simp only [Program.fieldsOf, Try.underlying43]
  simp only [Op.eqFields]
  simp [part0, part1, eqFl, Result.andThen]
  by_cases h1 : eqF x u = true <;> by_cases h2 : eqF y v = true <;> simp [h1, h2]
theorem takePw {B : Nat} {w : World} {a : Option Addr} {rs : List RPw} (h : ReadsPw B w a rs) (n : Nat) : ReadsPw B w a (rs.take n) := by
  rcases h with h | ⟨b, off, ha, hB, hi⟩
  · exact .inl (by rw [h]; simp)
  · refine .inr ⟨b, off, ha, hB, fun i hi2 => ?_⟩
    have h3 : i < rs.length ∧ i < n := by simp at hi2; omega
    have e : (rs.take n).getD i zPw = rs.getD i zPw := by simp [List.getD_eq_getElem?_getD, h3.2]
    rw [e]
    exact hi i h3.1
theorem takeB {rs : List RPw} (h : pwsB rs = true) (n : Nat) : pwsB (rs.take n) = true := by
  unfold pwsB at *
  rw [List.all_eq_true] at *
  exact fun x hx => h x (List.mem_of_mem_take hx)
theorem po_zero {vs am : List RPw} (hv : pwsB vs = true) (ha : pwsB am = true) (hl : vs.length ≤ 12) (he : vs.length = am.length) : poC vs am = 0 ∧ poA vs am = poT vs am vs.length := by
  have h : poC vs am = 0 := by
    unfold poC pwR
    rw [if_neg (by omega), hv, ha, decide_eq_true hl, decide_eq_true (by omega : am.length ≤ 12)]
    simp [he]
  exact ⟨h, by unfold poA; rw [if_pos h]⟩
/-- What the law reads of. -/
structure Fp (w : World) (g1 g2 : Nat) (L M : List RPw) (W : World) : Prop where
  low : Below w.heap.size w W
  rl : ReadsPw W.heap.size W (some ⟨g1, 0, none⟩) L
  rm : ReadsPw W.heap.size W (some ⟨g2, 0, none⟩) M
theorem Fp.later {w : World} {g1 g2 : Nat} {L M : List RPw} {W W' : World} (h : Fp w g1 g2 L M W) (hb : Below W.heap.size W W') : Fp w g1 g2 L M W' :=
  ⟨chain h.low hb, (h.rl.below hb).mono hb.size, (h.rm.below hb).mono hb.size⟩
set_option maxHeartbeats 16000000 in
set_option maxRecDepth 8000 in
theorem walk (a0 : Option Addr) (len0 cap0 : Nat) (z0 : List Int) (a1 : Option Addr) (len1 cap1 : Nat) (z1 : List Int) (w : World) (r0 : RowB w.heap.size w a0 len0 z0) (r1 : RowB w.heap.size w a1 len1 z1) :
    Calls Try.prog 5 #[.slice a0 len0 cap0, .slice a1 len1 cap1] w fun e w' => e = .returned (.bool true) ∧ Below w.heap.size w w' := by
  by_cases hbig : (1048576 : Int) < (len0 : Int)
  · clear r0 r1
    go_enter Try.func5, Try.ntmps5
    go_wp2
    go_ret
    exact ⟨rfl, Below.refl _ _⟩
  by_cases hbig1 : (1048576 : Int) < (len1 : Int)
  · clear r0 r1
    go_enter Try.func5, Try.ntmps5
    go_wp2
    go_ret
    exact ⟨rfl, Below.refl _ _⟩
  have hT := PowersOf_any a0 len0 cap0 z0 w r0
  have HT2 : Hid (∀ W, Below w.heap.size w W → Calls Try.prog 15 #[.slice a1 len1 cap1] W (PostPowersOf W)) := fun W hb => PowersOf_any a1 len1 cap1 z1 W (by have := r1.below hb; exact ⟨this.1, this.2.imp id (fun ⟨b0, off, e, h1, h2⟩ => ⟨b0, off, e, by have := hb.size; omega, h2⟩)⟩)
  clear r0 r1
  unfold PostPowersOf at hT HT2
  go_enter Try.func5, Try.ntmps5
  go_wp2_with fail
  (first | go_at_call 15 | skip)
  refine hT.mono ?_
  rintro e w1 ⟨L, g1, c1, rfl, hlL, hL, hcL, hrL, hb1⟩
  have HB1 : Hid (Below w.heap.size w w1) := hb1
  have HRL : Hid (ReadsPw w1.heap.size w1 (some ⟨g1, 0, none⟩) L) := hrL
  clear hT hb1 hrL
  go_wp2_with fail
  (first | go_at_call 15 | skip)
  refine (HT2.out w1 HB1.out).mono ?_
  rintro e w2 ⟨M, g2, c2, rfl, hlM, hM, hcM, hrM, hb2⟩
  have F2 : Hid (Fp w g1 g2 L M w2) := ⟨chain HB1.out hb2, (HRL.out.below hb2).mono hb2.size, hrM⟩
  clear HT2 hrM hb2 HRL HB1
  obtain ⟨n, hn⟩ : ∃ n, n = min L.length M.length := ⟨_, rfl⟩
  have hnL : n ≤ L.length := by omega
  have hnM : n ≤ M.length := by omega
  have hnl : (L.take n).length = n := by rw [List.length_take]; omega
  have hnm : (M.take n).length = n := by rw [List.length_take]; omega
  have hmn : n = min L.length M.length := hn
  -- what the program and the specification tell
  have HO : Hid (∀ W, Fp w g1 g2 L M W → Calls Try.prog 16 #[.slice (some ⟨g1, 0, none⟩) L.length c1, .slice (some ⟨g1, 0, none⟩) L.length c1] W (AnsPw W (poT L L L.length) 0)) := fun W h => by
    have q := implPow_any (some ⟨g1, 0, none⟩) c1 L (some ⟨g1, 0, none⟩) c1 L W h.rl h.rl
    obtain ⟨q1, q2⟩ := po_zero hL hL (by omega) rfl
    rwa [q1, q2] at q
  have HPQ : Hid (∀ W, Fp w g1 g2 L M W → Calls Try.prog 16 #[.slice (some ⟨g1, 0, none⟩) n c1, .slice (some ⟨g2, 0, none⟩) n c2] W (AnsPw W (poT (L.take n) (M.take n) n) 0)) := fun W h => by
    have q := implPow_any (some ⟨g1, 0, none⟩) c1 (L.take n) (some ⟨g2, 0, none⟩) c2 (M.take n) W (takePw h.rl n) (takePw h.rm n)
    obtain ⟨q1, q2⟩ := po_zero (takeB hL n) (takeB hM n) (by omega) (by omega)
    rw [q1, q2, hnl, hnm] at q
    exact q
  have HQP : Hid (∀ W, Fp w g1 g2 L M W → Calls Try.prog 16 #[.slice (some ⟨g2, 0, none⟩) n c2, .slice (some ⟨g1, 0, none⟩) n c1] W (AnsPw W (poT (M.take n) (L.take n) n) 0)) := fun W h => by
    have q := implPow_any (some ⟨g2, 0, none⟩) c2 (M.take n) (some ⟨g1, 0, none⟩) c1 (L.take n) W (takePw h.rm n) (takePw h.rl n)
    obtain ⟨q1, q2⟩ := po_zero (takeB hM n) (takeB hL n) (by omega) (by omega)
    rw [q1, q2, hnl, hnm] at q
    exact q
  have HSP : Hid (∀ W, Fp w g1 g2 L M W → Calls Try.prog 17 #[.slice (some ⟨g1, 0, none⟩) n c1, .slice (some ⟨g2, 0, none⟩) n c2] W (AnsPw W (poT (L.take n) (M.take n) n) 0)) := fun W h => by
    have q := specPow_any (some ⟨g1, 0, none⟩) c1 (L.take n) (some ⟨g2, 0, none⟩) c2 (M.take n) W (takePw h.rl n) (takePw h.rm n)
    obtain ⟨q1, q2⟩ := po_zero (takeB hL n) (takeB hM n) (by omega) (by omega)
    rw [q1, q2, hnl, hnm] at q
    exact q
  have HBi : Hid (∀ W, Fp w g1 g2 L M W → Calls Try.prog 18 #[.slice (some ⟨g1, 0, none⟩) L.length c1] W (AnsPw W (brA L) (brC L))) := fun W h => implBridge_any (some ⟨g1, 0, none⟩) c1 L W h.rl
  have HBs : Hid (∀ W, Fp w g1 g2 L M W → Calls Try.prog 19 #[.slice (some ⟨g1, 0, none⟩) L.length c1] W (AnsPw W (brA L) (brC L))) := fun W h => specBridge_any (some ⟨g1, 0, none⟩) c1 L W h.rl
  have k1 : eqF (poT L L L.length).2 0 = true := own_im hL L.length (Nat.le_refl _) (by omega)
  have k2 : ltF (poT L L L.length).1 0 = false := nonneg_lt (own_po hL L.length (Nat.le_refl _) (by omega))
  obtain ⟨k3, k4⟩ := po_swap (takeB hL n) (takeB hM n) (by omega) n (by omega) (by omega)
  obtain ⟨k5, k6⟩ := poT_fin (takeB hL n) (takeB hM n) (by omega) n (by omega) (by omega)
  have k7 := fin_eq k5
  have k8 := fin_eq k6
  have k9 : eqF (poT (L.take n) (M.take n) n).1 (poT (M.take n) (L.take n) n).1 = true := by rw [← k3]; exact k7
  have k10 := swap_im k4
  obtain ⟨k11, k12⟩ := brA_num L
  clear k3 k4 k5 k6 hnl hnm hn hL hM
  unfold AnsPw at HO HPQ HQP HSP HBi HBs
  generalize poT L L L.length = ow at *
  generalize poT (L.take n) (M.take n) n = p at *
  generalize poT (M.take n) (L.take n) n = q at *
  generalize brA L = b at *
  generalize brC L = bc at *
  obtain ⟨ox, oy⟩ := ow
  obtain ⟨px, py⟩ := p
  obtain ⟨qx, qy⟩ := q
  obtain ⟨bx, bY⟩ := b
  dsimp only at HO HPQ HQP HSP HBi HBs k1 k2 k7 k8 k9 k10 k11 k12
  have o1 : ((FloatKind.format .f64).order oy 0 != some .eq) = false := by rw [o_ne, k1]; rfl
  have o2 : ((FloatKind.format .f64).order ox 0 == some .lt) = false := by rw [o_lt, k2]
  have o3 : ((FloatKind.format .f64).order px qx != some .eq) = false := by rw [o_ne, k9]; rfl
  have o4 : ((FloatKind.format .f64).order py (negF qy) != some .eq) = false := by rw [o_ne, k10]; rfl
  have o5 := fun W => neg_run (P := Try.prog) qy W
  have o6 : ∀ W, (Op.equalIn 10000 43 (.agg #[.float .f64 px, .float .f64 py]) (.agg #[.float .f64 px, .float .f64 py])).run Try.prog W = .ok true W := fun W => by rw [pwEqIn, k7, k8]; rfl
  have o7 : ∀ W, (Op.equalIn 10000 43 (.agg #[.float .f64 bx, .float .f64 bY]) (.agg #[.float .f64 bx, .float .f64 bY])).run Try.prog W = .ok true W := fun W => by rw [pwEqIn, k11, k12]; rfl
  have hbc : (bc == bc) = true := by simp
  generalize negF qy = nq at *
  clear k1 k2 k7 k8 k9 k10 k11 k12
  have hlL' : L.length ≤ maxLen := by unfold maxLen; omega
  go_upto_region 5 with fail
  generalize hll : L.length = ll at *
  generalize hmm : M.length = mm at *
  go_cut [7] from 32 to 36 (fun t wx => t = .int .i64 (n : Int) ∧ wx = w2)
  case first =>
    go_wp2_with fail
    all_goals go_meet
    all_goals exact ⟨congrArg (Value.int .i64) (by omega), rfl⟩
  case rest =>
  obtain ⟨rfl, rfl⟩ := hcut
  clear hmn
  have hnc1 : n ≤ c1 := by omega
  have hnc2 : n ≤ c2 := by omega
  have hnd1 : ¬ c1 < n := by omega
  have hnd2 : ¬ c2 < n := by omega
  go_upto_region 6 with fail
  go_wp2_with fail
  (first | go_at_call 16 | skip)
  refine (HO.out _ F2.out).mono ?_
  rintro e w3 ⟨rfl, hb3⟩
  have F3 : Hid (Fp w g1 g2 L M w3) := F2.out.later hb3
  clear hb3 F2 HO
  go_upto_region 7 with fail
  have n4 := heapNew w3 (Obj.cells #[.float .f64 ox, .float .f64 oy] 43)
  have b4 := below_alloc w3 (Obj.cells #[.float .f64 ox, .float .f64 oy] 43)
  generalize w3.alloc (Obj.cells #[.float .f64 ox, .float .f64 oy] 43) = w4 at *
  have F4 : Hid (Fp w g1 g2 L M w4) := F3.out.later b4
  obtain ⟨⟨x0, _⟩, y0, _⟩ := two_cells n4
  clear n4 b4 F3
  generalize w3.heap.size = p3 at *
  go_upto_region 9 with fail
  clear x0 y0 o1 o2
  go_cut [10, 11] from 55 to 64 (fun tp tc wx => ∃ B, tp = .pointer (some ⟨B, 0, none⟩) ∧ tc = .int .i64 0 ∧ Fp w g1 g2 L M wx ∧ wx.heap[B]? = some (.cells #[.float .f64 px, .float .f64 py] 43 (0, 0)) ∧ Below w4.heap.size w4 wx)
  case first =>
    have H0 : Hid (Below w4.heap.size w4 w4.drew) := below_drew _
    refine wp_region_held_drew (S := fun V => Below w4.heap.size w4 V) (by kernel_rfl) H0.out (fun hH => ?_)
    generalize w4.drew = V0 at *
    refine wpAnyH_take (i := 0) (v := .slice (some ⟨g1, 0, none⟩) ll c1) rfl (by kernel_rfl) (by kernel_rfl) (by kernel_rfl) (fun _ _ _ h => h) (Or.inl ⟨by rfl, fun w hSw => by clear hSw; go_simp⟩) hH ?_
    try simp only [Act.put, List.setIfInBounds_toArray, List.set_cons_zero, List.set_cons_succ, List.getElem_toArray, List.getElem_cons_zero]
    refine wpAnyH_take (i := 1) (v := .int .i64 (n : Int)) rfl (by kernel_rfl) (by kernel_rfl) (by kernel_rfl) (fun _ _ _ h => h) (Or.inl ⟨by rfl, fun w hSw => by clear hSw; go_simp⟩) hH ?_
    try simp only [Act.put, List.setIfInBounds_toArray, List.set_cons_zero, List.set_cons_succ, List.getElem_toArray, List.getElem_cons_succ, List.getElem_cons_zero]
    refine wpAnyH_take (i := 2) (v := .slice (some ⟨g1, 0, none⟩) n c1) rfl (by kernel_rfl) (by kernel_rfl) (by kernel_rfl) (fun _ _ _ h => h) (Or.inl ⟨by rfl, fun w hSw => by clear hSw; go_simp⟩) hH ?_
    try simp only [Act.put, List.setIfInBounds_toArray, List.set_cons_zero, List.set_cons_succ, List.getElem_toArray, List.getElem_cons_succ, List.getElem_cons_zero]
    refine wpAnyH_take (i := 3) (v := .slice (some ⟨g2, 0, none⟩) mm c2) rfl (by kernel_rfl) (by kernel_rfl) (by kernel_rfl) (fun _ _ _ h => h) (Or.inl ⟨by rfl, fun w hSw => by clear hSw; go_simp⟩) hH ?_
    try simp only [Act.put, List.setIfInBounds_toArray, List.set_cons_zero, List.set_cons_succ, List.getElem_toArray, List.getElem_cons_succ, List.getElem_cons_zero]
    refine wpAnyH_take (i := 4) (v := .int .i64 (n : Int)) rfl (by kernel_rfl) (by kernel_rfl) (by kernel_rfl) (fun _ _ _ h => h) (Or.inl ⟨by rfl, fun w hSw => by clear hSw; go_simp⟩) hH ?_
    try simp only [Act.put, List.setIfInBounds_toArray, List.set_cons_zero, List.set_cons_succ, List.getElem_toArray, List.getElem_cons_succ, List.getElem_cons_zero]
    refine wpAnyH_take (i := 5) (v := .slice (some ⟨g2, 0, none⟩) n c2) rfl (by kernel_rfl) (by kernel_rfl) (by kernel_rfl) (fun _ _ _ h => h) (Or.inl ⟨by rfl, fun w hSw => by clear hSw; go_simp⟩) hH ?_
    try simp only [Act.put, List.setIfInBounds_toArray, List.set_cons_zero, List.set_cons_succ, List.getElem_toArray, List.getElem_cons_succ, List.getElem_cons_zero]
    refine wpAnyH_ready (rs := [6, 10]) (by kernel_rfl) (by simp) ?_
    refine AllReadyH.cons rfl (fun K hK => ?_) (AllReadyH.cons rfl (fun K hK => ?_) AllReadyH.nil)
    · skip
      go_simp
      go_at_call 16
      refine (HPQ.out V0 (F4.out.later H0.out)).mono ?_
      rintro e V1 ⟨rfl, hk⟩
      have H1 : Hid (Below w4.heap.size w4 V1) := chain H0.out hk
      clear hk
      refine hK.out _ _ H1.out (fun _ => ?_)
      clear hK K
      try simp only [Act.put, List.setIfInBounds_toArray, List.set_cons_zero, List.set_cons_succ, List.getElem_toArray, List.getElem_cons_succ, List.getElem_cons_zero]
      refine wpAnyH_take (i := 7) (v := .tuple #[.agg #[.float .f64 px, .float .f64 py], .int .i64 0]) rfl (by kernel_rfl) (by kernel_rfl) (by kernel_rfl) (fun _ _ _ h => h) (Or.inl ⟨by rfl, fun w hSw => by clear hSw; go_simp⟩) H1.out ?_
      try simp only [Act.put, List.setIfInBounds_toArray, List.set_cons_zero, List.set_cons_succ, List.getElem_toArray, List.getElem_cons_succ, List.getElem_cons_zero]
      refine wpAnyH_take (i := 8) (v := .agg #[.float .f64 px, .float .f64 py]) rfl (by kernel_rfl) (by kernel_rfl) (by kernel_rfl) (fun _ _ _ h => h) (Or.inl ⟨by rfl, fun w hSw => by clear hSw; go_simp⟩) H1.out ?_
      try simp only [Act.put, List.setIfInBounds_toArray, List.set_cons_zero, List.set_cons_succ, List.getElem_toArray, List.getElem_cons_succ, List.getElem_cons_zero]
      refine wpAnyH_take (i := 9) (v := .int .i64 0) rfl (by kernel_rfl) (by kernel_rfl) (by kernel_rfl) (fun _ _ _ h => h) (Or.inl ⟨by rfl, fun w hSw => by clear hSw; go_simp⟩) H1.out ?_
      try simp only [Act.put, List.setIfInBounds_toArray, List.set_cons_zero, List.set_cons_succ, List.getElem_toArray, List.getElem_cons_succ, List.getElem_cons_zero]
      refine wpAnyH_ready (rs := [10]) (by kernel_rfl) (by simp) ?_
      refine AllReadyH.cons rfl (fun K hK => ?_) AllReadyH.nil
      go_simp
      have H2 : Hid (Below w4.heap.size w4 (V1.alloc (Obj.cells #[.float .f64 0, .float .f64 0] 43))) := chain H1.out (below_alloc _ _)
      have N2 : Hid (w4.heap.size ≤ V1.heap.size ∧ (V1.alloc (Obj.cells #[.float .f64 0, .float .f64 0] 43)).heap[V1.heap.size]? = some (.cells #[.float .f64 0, .float .f64 0] 43 (0, 0))) := ⟨H1.out.size, heapNew _ _⟩
      generalize V1.alloc (Obj.cells #[.float .f64 0, .float .f64 0] 43) = V2 at *
      generalize V1.heap.size = B at *
      refine hK.out _ _ H2.out (fun _ => ?_)
      clear hK K
      try simp only [Act.put, List.setIfInBounds_toArray, List.set_cons_zero, List.set_cons_succ, List.getElem_toArray, List.getElem_cons_succ, List.getElem_cons_zero]
      refine wpAnyH_ready (rs := [11]) (by kernel_rfl) (by simp) ?_
      refine AllReadyH.cons rfl (fun K hK => ?_) AllReadyH.nil
      obtain ⟨⟨w0, k0⟩, w1', k1⟩ := two_cells N2.out.2
      go_simp
      clear w0 k0 w1' k1
      have H3 : Hid (Below w4.heap.size w4 ((V2.setCell ⟨B, 0, none⟩ (.float .f64 px)).setCell ⟨B, 1, none⟩ (.float .f64 py))) := (H2.out.setCell (p := ⟨B, 0, none⟩) N2.out.1 _).setCell (p := ⟨B, 1, none⟩) N2.out.1 _
      have R : Hid (((V2.setCell ⟨B, 0, none⟩ (.float .f64 px)).setCell ⟨B, 1, none⟩ (.float .f64 py)).heap[B]? = some (.cells #[.float .f64 px, .float .f64 py] 43 (0, 0))) := p2_set1 (p2_set0 N2.out.2 _) _
      generalize (V2.setCell ⟨B, 0, none⟩ (.float .f64 px)).setCell ⟨B, 1, none⟩ (.float .f64 py) = V3 at *
      refine hK.out _ _ H3.out (fun _ => ?_)
      clear hK K
      try simp only [Act.put, List.setIfInBounds_toArray, List.set_cons_zero, List.set_cons_succ, List.getElem_toArray, List.getElem_cons_succ, List.getElem_cons_zero]
      refine wpAnyH_take (i := 12) (v := .int .i64 0) rfl (by kernel_rfl) (by kernel_rfl) (by kernel_rfl) (fun _ _ _ h => h) (Or.inl ⟨by rfl, fun w hSw => by clear hSw; go_simp⟩) H3.out ?_
      try simp only [Act.put, List.setIfInBounds_toArray, List.set_cons_zero, List.set_cons_succ, List.getElem_toArray, List.getElem_cons_succ, List.getElem_cons_zero]
      refine wpAnyH_done (by kernel_rfl) ?_ _
      clear hH
      go_wp2_with fail
      go_meet
      exact ⟨B, rfl, rfl, F4.out.later H3.out, R.out, H3.out⟩
    · skip
      go_simp
      have H1 : Hid (Below w4.heap.size w4 (V0.alloc (Obj.cells #[.float .f64 0, .float .f64 0] 43))) := chain H0.out (below_alloc _ _)
      have N1 : Hid (w4.heap.size ≤ V0.heap.size ∧ (V0.alloc (Obj.cells #[.float .f64 0, .float .f64 0] 43)).heap[V0.heap.size]? = some (.cells #[.float .f64 0, .float .f64 0] 43 (0, 0))) := ⟨H0.out.size, heapNew _ _⟩
      generalize V0.alloc (Obj.cells #[.float .f64 0, .float .f64 0] 43) = V1 at *
      generalize V0.heap.size = B at *
      refine hK.out _ _ H1.out (fun _ => ?_)
      clear hK K
      try simp only [Act.put, List.setIfInBounds_toArray, List.set_cons_zero, List.set_cons_succ, List.getElem_toArray, List.getElem_cons_succ, List.getElem_cons_zero]
      refine wpAnyH_ready (rs := [6]) (by kernel_rfl) (by simp) ?_
      refine AllReadyH.cons rfl (fun K hK => ?_) AllReadyH.nil
      go_simp
      go_at_call 16
      refine (HPQ.out V1 (F4.out.later H1.out)).mono ?_
      rintro e V2 ⟨rfl, hk⟩
      have H2 : Hid (Below w4.heap.size w4 V2) := chain H1.out hk
      have N2 : Hid (w4.heap.size ≤ B ∧ V2.heap[B]? = some (.cells #[.float .f64 0, .float .f64 0] 43 (0, 0))) := ⟨N1.out.1, (hk.block _ (blkLt N1.out.2)).trans N1.out.2⟩
      clear hk
      refine hK.out _ _ H2.out (fun _ => ?_)
      clear hK K
      try simp only [Act.put, List.setIfInBounds_toArray, List.set_cons_zero, List.set_cons_succ, List.getElem_toArray, List.getElem_cons_succ, List.getElem_cons_zero]
      refine wpAnyH_take (i := 7) (v := .tuple #[.agg #[.float .f64 px, .float .f64 py], .int .i64 0]) rfl (by kernel_rfl) (by kernel_rfl) (by kernel_rfl) (fun _ _ _ h => h) (Or.inl ⟨by rfl, fun w hSw => by clear hSw; go_simp⟩) H2.out ?_
      try simp only [Act.put, List.setIfInBounds_toArray, List.set_cons_zero, List.set_cons_succ, List.getElem_toArray, List.getElem_cons_succ, List.getElem_cons_zero]
      refine wpAnyH_take (i := 8) (v := .agg #[.float .f64 px, .float .f64 py]) rfl (by kernel_rfl) (by kernel_rfl) (by kernel_rfl) (fun _ _ _ h => h) (Or.inl ⟨by rfl, fun w hSw => by clear hSw; go_simp⟩) H2.out ?_
      try simp only [Act.put, List.setIfInBounds_toArray, List.set_cons_zero, List.set_cons_succ, List.getElem_toArray, List.getElem_cons_succ, List.getElem_cons_zero]
      refine wpAnyH_take (i := 9) (v := .int .i64 0) rfl (by kernel_rfl) (by kernel_rfl) (by kernel_rfl) (fun _ _ _ h => h) (Or.inl ⟨by rfl, fun w hSw => by clear hSw; go_simp⟩) H2.out ?_
      try simp only [Act.put, List.setIfInBounds_toArray, List.set_cons_zero, List.set_cons_succ, List.getElem_toArray, List.getElem_cons_succ, List.getElem_cons_zero]
      refine wpAnyH_ready (rs := [11]) (by kernel_rfl) (by simp) ?_
      refine AllReadyH.cons rfl (fun K hK => ?_) AllReadyH.nil
      obtain ⟨⟨w0, k0⟩, w1', k1⟩ := two_cells N2.out.2
      go_simp
      clear w0 k0 w1' k1
      have H3 : Hid (Below w4.heap.size w4 ((V2.setCell ⟨B, 0, none⟩ (.float .f64 px)).setCell ⟨B, 1, none⟩ (.float .f64 py))) := (H2.out.setCell (p := ⟨B, 0, none⟩) N2.out.1 _).setCell (p := ⟨B, 1, none⟩) N2.out.1 _
      have R : Hid (((V2.setCell ⟨B, 0, none⟩ (.float .f64 px)).setCell ⟨B, 1, none⟩ (.float .f64 py)).heap[B]? = some (.cells #[.float .f64 px, .float .f64 py] 43 (0, 0))) := p2_set1 (p2_set0 N2.out.2 _) _
      generalize (V2.setCell ⟨B, 0, none⟩ (.float .f64 px)).setCell ⟨B, 1, none⟩ (.float .f64 py) = V3 at *
      refine hK.out _ _ H3.out (fun _ => ?_)
      clear hK K
      try simp only [Act.put, List.setIfInBounds_toArray, List.set_cons_zero, List.set_cons_succ, List.getElem_toArray, List.getElem_cons_succ, List.getElem_cons_zero]
      refine wpAnyH_take (i := 12) (v := .int .i64 0) rfl (by kernel_rfl) (by kernel_rfl) (by kernel_rfl) (fun _ _ _ h => h) (Or.inl ⟨by rfl, fun w hSw => by clear hSw; go_simp⟩) H3.out ?_
      try simp only [Act.put, List.setIfInBounds_toArray, List.set_cons_zero, List.set_cons_succ, List.getElem_toArray, List.getElem_cons_succ, List.getElem_cons_zero]
      refine wpAnyH_done (by kernel_rfl) ?_ _
      clear hH
      go_wp2_with fail
      go_meet
      exact ⟨B, rfl, rfl, F4.out.later H3.out, R.out, H3.out⟩
  case rest =>
    obtain ⟨b1, rfl, rfl, hF5, hc5, hb5⟩ := hcut
    have F5 : Hid (Fp w g1 g2 L M wc) := hF5
    have G5 : Hid (wc.heap[b1]? = some (.cells #[.float .f64 px, .float .f64 py] 43 (0, 0))) := hc5
    clear hF5 hc5 hb5 F4
    generalize hw5 : wc = w5 at *
    clear hw5
    go_upto_region 10 with fail
    go_cut [12, 13] from 65 to 74 (fun tp tc wx => ∃ B, tp = .pointer (some ⟨B, 0, none⟩) ∧ tc = .int .i64 0 ∧ Fp w g1 g2 L M wx ∧ wx.heap[B]? = some (.cells #[.float .f64 qx, .float .f64 qy] 43 (0, 0)) ∧ Below w5.heap.size w5 wx)
    case first =>
      have H0 : Hid (Below w5.heap.size w5 w5.drew) := below_drew _
      refine wp_region_held_drew (S := fun V => Below w5.heap.size w5 V) (by kernel_rfl) H0.out (fun hH => ?_)
      generalize w5.drew = V0 at *
      refine wpAnyH_take (i := 0) (v := .slice (some ⟨g2, 0, none⟩) mm c2) rfl (by kernel_rfl) (by kernel_rfl) (by kernel_rfl) (fun _ _ _ h => h) (Or.inl ⟨by rfl, fun w hSw => by clear hSw; go_simp⟩) hH ?_
      try simp only [Act.put, List.setIfInBounds_toArray, List.set_cons_zero, List.set_cons_succ, List.getElem_toArray, List.getElem_cons_zero]
      refine wpAnyH_take (i := 1) (v := .int .i64 (n : Int)) rfl (by kernel_rfl) (by kernel_rfl) (by kernel_rfl) (fun _ _ _ h => h) (Or.inl ⟨by rfl, fun w hSw => by clear hSw; go_simp⟩) hH ?_
      try simp only [Act.put, List.setIfInBounds_toArray, List.set_cons_zero, List.set_cons_succ, List.getElem_toArray, List.getElem_cons_succ, List.getElem_cons_zero]
      refine wpAnyH_take (i := 2) (v := .slice (some ⟨g2, 0, none⟩) n c2) rfl (by kernel_rfl) (by kernel_rfl) (by kernel_rfl) (fun _ _ _ h => h) (Or.inl ⟨by rfl, fun w hSw => by clear hSw; go_simp⟩) hH ?_
      try simp only [Act.put, List.setIfInBounds_toArray, List.set_cons_zero, List.set_cons_succ, List.getElem_toArray, List.getElem_cons_succ, List.getElem_cons_zero]
      refine wpAnyH_take (i := 3) (v := .slice (some ⟨g1, 0, none⟩) ll c1) rfl (by kernel_rfl) (by kernel_rfl) (by kernel_rfl) (fun _ _ _ h => h) (Or.inl ⟨by rfl, fun w hSw => by clear hSw; go_simp⟩) hH ?_
      try simp only [Act.put, List.setIfInBounds_toArray, List.set_cons_zero, List.set_cons_succ, List.getElem_toArray, List.getElem_cons_succ, List.getElem_cons_zero]
      refine wpAnyH_take (i := 4) (v := .int .i64 (n : Int)) rfl (by kernel_rfl) (by kernel_rfl) (by kernel_rfl) (fun _ _ _ h => h) (Or.inl ⟨by rfl, fun w hSw => by clear hSw; go_simp⟩) hH ?_
      try simp only [Act.put, List.setIfInBounds_toArray, List.set_cons_zero, List.set_cons_succ, List.getElem_toArray, List.getElem_cons_succ, List.getElem_cons_zero]
      refine wpAnyH_take (i := 5) (v := .slice (some ⟨g1, 0, none⟩) n c1) rfl (by kernel_rfl) (by kernel_rfl) (by kernel_rfl) (fun _ _ _ h => h) (Or.inl ⟨by rfl, fun w hSw => by clear hSw; go_simp⟩) hH ?_
      try simp only [Act.put, List.setIfInBounds_toArray, List.set_cons_zero, List.set_cons_succ, List.getElem_toArray, List.getElem_cons_succ, List.getElem_cons_zero]
      refine wpAnyH_ready (rs := [6, 10]) (by kernel_rfl) (by simp) ?_
      refine AllReadyH.cons rfl (fun K hK => ?_) (AllReadyH.cons rfl (fun K hK => ?_) AllReadyH.nil)
      · skip
        go_simp
        go_at_call 16
        refine (HQP.out V0 (F5.out.later H0.out)).mono ?_
        rintro e V1 ⟨rfl, hk⟩
        have H1 : Hid (Below w5.heap.size w5 V1) := chain H0.out hk
        clear hk
        refine hK.out _ _ H1.out (fun _ => ?_)
        clear hK K
        try simp only [Act.put, List.setIfInBounds_toArray, List.set_cons_zero, List.set_cons_succ, List.getElem_toArray, List.getElem_cons_succ, List.getElem_cons_zero]
        refine wpAnyH_take (i := 7) (v := .tuple #[.agg #[.float .f64 qx, .float .f64 qy], .int .i64 0]) rfl (by kernel_rfl) (by kernel_rfl) (by kernel_rfl) (fun _ _ _ h => h) (Or.inl ⟨by rfl, fun w hSw => by clear hSw; go_simp⟩) H1.out ?_
        try simp only [Act.put, List.setIfInBounds_toArray, List.set_cons_zero, List.set_cons_succ, List.getElem_toArray, List.getElem_cons_succ, List.getElem_cons_zero]
        refine wpAnyH_take (i := 8) (v := .agg #[.float .f64 qx, .float .f64 qy]) rfl (by kernel_rfl) (by kernel_rfl) (by kernel_rfl) (fun _ _ _ h => h) (Or.inl ⟨by rfl, fun w hSw => by clear hSw; go_simp⟩) H1.out ?_
        try simp only [Act.put, List.setIfInBounds_toArray, List.set_cons_zero, List.set_cons_succ, List.getElem_toArray, List.getElem_cons_succ, List.getElem_cons_zero]
        refine wpAnyH_take (i := 9) (v := .int .i64 0) rfl (by kernel_rfl) (by kernel_rfl) (by kernel_rfl) (fun _ _ _ h => h) (Or.inl ⟨by rfl, fun w hSw => by clear hSw; go_simp⟩) H1.out ?_
        try simp only [Act.put, List.setIfInBounds_toArray, List.set_cons_zero, List.set_cons_succ, List.getElem_toArray, List.getElem_cons_succ, List.getElem_cons_zero]
        refine wpAnyH_ready (rs := [10]) (by kernel_rfl) (by simp) ?_
        refine AllReadyH.cons rfl (fun K hK => ?_) AllReadyH.nil
        go_simp
        have H2 : Hid (Below w5.heap.size w5 (V1.alloc (Obj.cells #[.float .f64 0, .float .f64 0] 43))) := chain H1.out (below_alloc _ _)
        have N2 : Hid (w5.heap.size ≤ V1.heap.size ∧ (V1.alloc (Obj.cells #[.float .f64 0, .float .f64 0] 43)).heap[V1.heap.size]? = some (.cells #[.float .f64 0, .float .f64 0] 43 (0, 0))) := ⟨H1.out.size, heapNew _ _⟩
        generalize V1.alloc (Obj.cells #[.float .f64 0, .float .f64 0] 43) = V2 at *
        generalize V1.heap.size = B at *
        refine hK.out _ _ H2.out (fun _ => ?_)
        clear hK K
        try simp only [Act.put, List.setIfInBounds_toArray, List.set_cons_zero, List.set_cons_succ, List.getElem_toArray, List.getElem_cons_succ, List.getElem_cons_zero]
        refine wpAnyH_ready (rs := [11]) (by kernel_rfl) (by simp) ?_
        refine AllReadyH.cons rfl (fun K hK => ?_) AllReadyH.nil
        obtain ⟨⟨w0, k0⟩, w1', k1⟩ := two_cells N2.out.2
        go_simp
        clear w0 k0 w1' k1
        have H3 : Hid (Below w5.heap.size w5 ((V2.setCell ⟨B, 0, none⟩ (.float .f64 qx)).setCell ⟨B, 1, none⟩ (.float .f64 qy))) := (H2.out.setCell (p := ⟨B, 0, none⟩) N2.out.1 _).setCell (p := ⟨B, 1, none⟩) N2.out.1 _
        have R : Hid (((V2.setCell ⟨B, 0, none⟩ (.float .f64 qx)).setCell ⟨B, 1, none⟩ (.float .f64 qy)).heap[B]? = some (.cells #[.float .f64 qx, .float .f64 qy] 43 (0, 0))) := p2_set1 (p2_set0 N2.out.2 _) _
        generalize (V2.setCell ⟨B, 0, none⟩ (.float .f64 qx)).setCell ⟨B, 1, none⟩ (.float .f64 qy) = V3 at *
        refine hK.out _ _ H3.out (fun _ => ?_)
        clear hK K
        try simp only [Act.put, List.setIfInBounds_toArray, List.set_cons_zero, List.set_cons_succ, List.getElem_toArray, List.getElem_cons_succ, List.getElem_cons_zero]
        refine wpAnyH_take (i := 12) (v := .int .i64 0) rfl (by kernel_rfl) (by kernel_rfl) (by kernel_rfl) (fun _ _ _ h => h) (Or.inl ⟨by rfl, fun w hSw => by clear hSw; go_simp⟩) H3.out ?_
        try simp only [Act.put, List.setIfInBounds_toArray, List.set_cons_zero, List.set_cons_succ, List.getElem_toArray, List.getElem_cons_succ, List.getElem_cons_zero]
        refine wpAnyH_done (by kernel_rfl) ?_ _
        clear hH
        go_wp2_with fail
        go_meet
        exact ⟨B, rfl, rfl, F5.out.later H3.out, R.out, H3.out⟩
      · skip
        go_simp
        have H1 : Hid (Below w5.heap.size w5 (V0.alloc (Obj.cells #[.float .f64 0, .float .f64 0] 43))) := chain H0.out (below_alloc _ _)
        have N1 : Hid (w5.heap.size ≤ V0.heap.size ∧ (V0.alloc (Obj.cells #[.float .f64 0, .float .f64 0] 43)).heap[V0.heap.size]? = some (.cells #[.float .f64 0, .float .f64 0] 43 (0, 0))) := ⟨H0.out.size, heapNew _ _⟩
        generalize V0.alloc (Obj.cells #[.float .f64 0, .float .f64 0] 43) = V1 at *
        generalize V0.heap.size = B at *
        refine hK.out _ _ H1.out (fun _ => ?_)
        clear hK K
        try simp only [Act.put, List.setIfInBounds_toArray, List.set_cons_zero, List.set_cons_succ, List.getElem_toArray, List.getElem_cons_succ, List.getElem_cons_zero]
        refine wpAnyH_ready (rs := [6]) (by kernel_rfl) (by simp) ?_
        refine AllReadyH.cons rfl (fun K hK => ?_) AllReadyH.nil
        go_simp
        go_at_call 16
        refine (HQP.out V1 (F5.out.later H1.out)).mono ?_
        rintro e V2 ⟨rfl, hk⟩
        have H2 : Hid (Below w5.heap.size w5 V2) := chain H1.out hk
        have N2 : Hid (w5.heap.size ≤ B ∧ V2.heap[B]? = some (.cells #[.float .f64 0, .float .f64 0] 43 (0, 0))) := ⟨N1.out.1, (hk.block _ (blkLt N1.out.2)).trans N1.out.2⟩
        clear hk
        refine hK.out _ _ H2.out (fun _ => ?_)
        clear hK K
        try simp only [Act.put, List.setIfInBounds_toArray, List.set_cons_zero, List.set_cons_succ, List.getElem_toArray, List.getElem_cons_succ, List.getElem_cons_zero]
        refine wpAnyH_take (i := 7) (v := .tuple #[.agg #[.float .f64 qx, .float .f64 qy], .int .i64 0]) rfl (by kernel_rfl) (by kernel_rfl) (by kernel_rfl) (fun _ _ _ h => h) (Or.inl ⟨by rfl, fun w hSw => by clear hSw; go_simp⟩) H2.out ?_
        try simp only [Act.put, List.setIfInBounds_toArray, List.set_cons_zero, List.set_cons_succ, List.getElem_toArray, List.getElem_cons_succ, List.getElem_cons_zero]
        refine wpAnyH_take (i := 8) (v := .agg #[.float .f64 qx, .float .f64 qy]) rfl (by kernel_rfl) (by kernel_rfl) (by kernel_rfl) (fun _ _ _ h => h) (Or.inl ⟨by rfl, fun w hSw => by clear hSw; go_simp⟩) H2.out ?_
        try simp only [Act.put, List.setIfInBounds_toArray, List.set_cons_zero, List.set_cons_succ, List.getElem_toArray, List.getElem_cons_succ, List.getElem_cons_zero]
        refine wpAnyH_take (i := 9) (v := .int .i64 0) rfl (by kernel_rfl) (by kernel_rfl) (by kernel_rfl) (fun _ _ _ h => h) (Or.inl ⟨by rfl, fun w hSw => by clear hSw; go_simp⟩) H2.out ?_
        try simp only [Act.put, List.setIfInBounds_toArray, List.set_cons_zero, List.set_cons_succ, List.getElem_toArray, List.getElem_cons_succ, List.getElem_cons_zero]
        refine wpAnyH_ready (rs := [11]) (by kernel_rfl) (by simp) ?_
        refine AllReadyH.cons rfl (fun K hK => ?_) AllReadyH.nil
        obtain ⟨⟨w0, k0⟩, w1', k1⟩ := two_cells N2.out.2
        go_simp
        clear w0 k0 w1' k1
        have H3 : Hid (Below w5.heap.size w5 ((V2.setCell ⟨B, 0, none⟩ (.float .f64 qx)).setCell ⟨B, 1, none⟩ (.float .f64 qy))) := (H2.out.setCell (p := ⟨B, 0, none⟩) N2.out.1 _).setCell (p := ⟨B, 1, none⟩) N2.out.1 _
        have R : Hid (((V2.setCell ⟨B, 0, none⟩ (.float .f64 qx)).setCell ⟨B, 1, none⟩ (.float .f64 qy)).heap[B]? = some (.cells #[.float .f64 qx, .float .f64 qy] 43 (0, 0))) := p2_set1 (p2_set0 N2.out.2 _) _
        generalize (V2.setCell ⟨B, 0, none⟩ (.float .f64 qx)).setCell ⟨B, 1, none⟩ (.float .f64 qy) = V3 at *
        refine hK.out _ _ H3.out (fun _ => ?_)
        clear hK K
        try simp only [Act.put, List.setIfInBounds_toArray, List.set_cons_zero, List.set_cons_succ, List.getElem_toArray, List.getElem_cons_succ, List.getElem_cons_zero]
        refine wpAnyH_take (i := 12) (v := .int .i64 0) rfl (by kernel_rfl) (by kernel_rfl) (by kernel_rfl) (fun _ _ _ h => h) (Or.inl ⟨by rfl, fun w hSw => by clear hSw; go_simp⟩) H3.out ?_
        try simp only [Act.put, List.setIfInBounds_toArray, List.set_cons_zero, List.set_cons_succ, List.getElem_toArray, List.getElem_cons_succ, List.getElem_cons_zero]
        refine wpAnyH_done (by kernel_rfl) ?_ _
        clear hH
        go_wp2_with fail
        go_meet
        exact ⟨B, rfl, rfl, F5.out.later H3.out, R.out, H3.out⟩
    case rest =>
      obtain ⟨b2, rfl, rfl, hF6, hc6, hb6⟩ := hcut
      have F6 : Hid (Fp w g1 g2 L M wc) := hF6
      have G6 : Hid (wc.heap[b1]? = some (.cells #[.float .f64 px, .float .f64 py] 43 (0, 0)) ∧ wc.heap[b2]? = some (.cells #[.float .f64 qx, .float .f64 qy] 43 (0, 0))) := ⟨(hb6.block _ (blkLt G5.out)).trans G5.out, hc6⟩
      clear hF6 hc6 hb6 F5 G5
      generalize hw6 : wc = w6 at *
      clear hw6
      go_upto_region 11 with fail
      go_cut [14, 15] from 75 to 84 (fun tp tc wx => ∃ B, tp = .pointer (some ⟨B, 0, none⟩) ∧ tc = .int .i64 0 ∧ Fp w g1 g2 L M wx ∧ wx.heap[B]? = some (.cells #[.float .f64 px, .float .f64 py] 43 (0, 0)) ∧ Below w6.heap.size w6 wx)
      case first =>
        have H0 : Hid (Below w6.heap.size w6 w6.drew) := below_drew _
        refine wp_region_held_drew (S := fun V => Below w6.heap.size w6 V) (by kernel_rfl) H0.out (fun hH => ?_)
        generalize w6.drew = V0 at *
        refine wpAnyH_take (i := 0) (v := .slice (some ⟨g1, 0, none⟩) ll c1) rfl (by kernel_rfl) (by kernel_rfl) (by kernel_rfl) (fun _ _ _ h => h) (Or.inl ⟨by rfl, fun w hSw => by clear hSw; go_simp⟩) hH ?_
        try simp only [Act.put, List.setIfInBounds_toArray, List.set_cons_zero, List.set_cons_succ, List.getElem_toArray, List.getElem_cons_zero]
        refine wpAnyH_take (i := 1) (v := .int .i64 (n : Int)) rfl (by kernel_rfl) (by kernel_rfl) (by kernel_rfl) (fun _ _ _ h => h) (Or.inl ⟨by rfl, fun w hSw => by clear hSw; go_simp⟩) hH ?_
        try simp only [Act.put, List.setIfInBounds_toArray, List.set_cons_zero, List.set_cons_succ, List.getElem_toArray, List.getElem_cons_succ, List.getElem_cons_zero]
        refine wpAnyH_take (i := 2) (v := .slice (some ⟨g1, 0, none⟩) n c1) rfl (by kernel_rfl) (by kernel_rfl) (by kernel_rfl) (fun _ _ _ h => h) (Or.inl ⟨by rfl, fun w hSw => by clear hSw; go_simp⟩) hH ?_
        try simp only [Act.put, List.setIfInBounds_toArray, List.set_cons_zero, List.set_cons_succ, List.getElem_toArray, List.getElem_cons_succ, List.getElem_cons_zero]
        refine wpAnyH_take (i := 3) (v := .slice (some ⟨g2, 0, none⟩) mm c2) rfl (by kernel_rfl) (by kernel_rfl) (by kernel_rfl) (fun _ _ _ h => h) (Or.inl ⟨by rfl, fun w hSw => by clear hSw; go_simp⟩) hH ?_
        try simp only [Act.put, List.setIfInBounds_toArray, List.set_cons_zero, List.set_cons_succ, List.getElem_toArray, List.getElem_cons_succ, List.getElem_cons_zero]
        refine wpAnyH_take (i := 4) (v := .int .i64 (n : Int)) rfl (by kernel_rfl) (by kernel_rfl) (by kernel_rfl) (fun _ _ _ h => h) (Or.inl ⟨by rfl, fun w hSw => by clear hSw; go_simp⟩) hH ?_
        try simp only [Act.put, List.setIfInBounds_toArray, List.set_cons_zero, List.set_cons_succ, List.getElem_toArray, List.getElem_cons_succ, List.getElem_cons_zero]
        refine wpAnyH_take (i := 5) (v := .slice (some ⟨g2, 0, none⟩) n c2) rfl (by kernel_rfl) (by kernel_rfl) (by kernel_rfl) (fun _ _ _ h => h) (Or.inl ⟨by rfl, fun w hSw => by clear hSw; go_simp⟩) hH ?_
        try simp only [Act.put, List.setIfInBounds_toArray, List.set_cons_zero, List.set_cons_succ, List.getElem_toArray, List.getElem_cons_succ, List.getElem_cons_zero]
        refine wpAnyH_ready (rs := [6, 10]) (by kernel_rfl) (by simp) ?_
        refine AllReadyH.cons rfl (fun K hK => ?_) (AllReadyH.cons rfl (fun K hK => ?_) AllReadyH.nil)
        · skip
          go_simp
          go_at_call 17
          refine (HSP.out V0 (F6.out.later H0.out)).mono ?_
          rintro e V1 ⟨rfl, hk⟩
          have H1 : Hid (Below w6.heap.size w6 V1) := chain H0.out hk
          clear hk
          refine hK.out _ _ H1.out (fun _ => ?_)
          clear hK K
          try simp only [Act.put, List.setIfInBounds_toArray, List.set_cons_zero, List.set_cons_succ, List.getElem_toArray, List.getElem_cons_succ, List.getElem_cons_zero]
          refine wpAnyH_take (i := 7) (v := .tuple #[.agg #[.float .f64 px, .float .f64 py], .int .i64 0]) rfl (by kernel_rfl) (by kernel_rfl) (by kernel_rfl) (fun _ _ _ h => h) (Or.inl ⟨by rfl, fun w hSw => by clear hSw; go_simp⟩) H1.out ?_
          try simp only [Act.put, List.setIfInBounds_toArray, List.set_cons_zero, List.set_cons_succ, List.getElem_toArray, List.getElem_cons_succ, List.getElem_cons_zero]
          refine wpAnyH_take (i := 8) (v := .agg #[.float .f64 px, .float .f64 py]) rfl (by kernel_rfl) (by kernel_rfl) (by kernel_rfl) (fun _ _ _ h => h) (Or.inl ⟨by rfl, fun w hSw => by clear hSw; go_simp⟩) H1.out ?_
          try simp only [Act.put, List.setIfInBounds_toArray, List.set_cons_zero, List.set_cons_succ, List.getElem_toArray, List.getElem_cons_succ, List.getElem_cons_zero]
          refine wpAnyH_take (i := 9) (v := .int .i64 0) rfl (by kernel_rfl) (by kernel_rfl) (by kernel_rfl) (fun _ _ _ h => h) (Or.inl ⟨by rfl, fun w hSw => by clear hSw; go_simp⟩) H1.out ?_
          try simp only [Act.put, List.setIfInBounds_toArray, List.set_cons_zero, List.set_cons_succ, List.getElem_toArray, List.getElem_cons_succ, List.getElem_cons_zero]
          refine wpAnyH_ready (rs := [10]) (by kernel_rfl) (by simp) ?_
          refine AllReadyH.cons rfl (fun K hK => ?_) AllReadyH.nil
          go_simp
          have H2 : Hid (Below w6.heap.size w6 (V1.alloc (Obj.cells #[.float .f64 0, .float .f64 0] 43))) := chain H1.out (below_alloc _ _)
          have N2 : Hid (w6.heap.size ≤ V1.heap.size ∧ (V1.alloc (Obj.cells #[.float .f64 0, .float .f64 0] 43)).heap[V1.heap.size]? = some (.cells #[.float .f64 0, .float .f64 0] 43 (0, 0))) := ⟨H1.out.size, heapNew _ _⟩
          generalize V1.alloc (Obj.cells #[.float .f64 0, .float .f64 0] 43) = V2 at *
          generalize V1.heap.size = B at *
          refine hK.out _ _ H2.out (fun _ => ?_)
          clear hK K
          try simp only [Act.put, List.setIfInBounds_toArray, List.set_cons_zero, List.set_cons_succ, List.getElem_toArray, List.getElem_cons_succ, List.getElem_cons_zero]
          refine wpAnyH_ready (rs := [11]) (by kernel_rfl) (by simp) ?_
          refine AllReadyH.cons rfl (fun K hK => ?_) AllReadyH.nil
          obtain ⟨⟨w0, k0⟩, w1', k1⟩ := two_cells N2.out.2
          go_simp
          clear w0 k0 w1' k1
          have H3 : Hid (Below w6.heap.size w6 ((V2.setCell ⟨B, 0, none⟩ (.float .f64 px)).setCell ⟨B, 1, none⟩ (.float .f64 py))) := (H2.out.setCell (p := ⟨B, 0, none⟩) N2.out.1 _).setCell (p := ⟨B, 1, none⟩) N2.out.1 _
          have R : Hid (((V2.setCell ⟨B, 0, none⟩ (.float .f64 px)).setCell ⟨B, 1, none⟩ (.float .f64 py)).heap[B]? = some (.cells #[.float .f64 px, .float .f64 py] 43 (0, 0))) := p2_set1 (p2_set0 N2.out.2 _) _
          generalize (V2.setCell ⟨B, 0, none⟩ (.float .f64 px)).setCell ⟨B, 1, none⟩ (.float .f64 py) = V3 at *
          refine hK.out _ _ H3.out (fun _ => ?_)
          clear hK K
          try simp only [Act.put, List.setIfInBounds_toArray, List.set_cons_zero, List.set_cons_succ, List.getElem_toArray, List.getElem_cons_succ, List.getElem_cons_zero]
          refine wpAnyH_take (i := 12) (v := .int .i64 0) rfl (by kernel_rfl) (by kernel_rfl) (by kernel_rfl) (fun _ _ _ h => h) (Or.inl ⟨by rfl, fun w hSw => by clear hSw; go_simp⟩) H3.out ?_
          try simp only [Act.put, List.setIfInBounds_toArray, List.set_cons_zero, List.set_cons_succ, List.getElem_toArray, List.getElem_cons_succ, List.getElem_cons_zero]
          refine wpAnyH_done (by kernel_rfl) ?_ _
          clear hH
          go_wp2_with fail
          go_meet
          exact ⟨B, rfl, rfl, F6.out.later H3.out, R.out, H3.out⟩
        · skip
          go_simp
          have H1 : Hid (Below w6.heap.size w6 (V0.alloc (Obj.cells #[.float .f64 0, .float .f64 0] 43))) := chain H0.out (below_alloc _ _)
          have N1 : Hid (w6.heap.size ≤ V0.heap.size ∧ (V0.alloc (Obj.cells #[.float .f64 0, .float .f64 0] 43)).heap[V0.heap.size]? = some (.cells #[.float .f64 0, .float .f64 0] 43 (0, 0))) := ⟨H0.out.size, heapNew _ _⟩
          generalize V0.alloc (Obj.cells #[.float .f64 0, .float .f64 0] 43) = V1 at *
          generalize V0.heap.size = B at *
          refine hK.out _ _ H1.out (fun _ => ?_)
          clear hK K
          try simp only [Act.put, List.setIfInBounds_toArray, List.set_cons_zero, List.set_cons_succ, List.getElem_toArray, List.getElem_cons_succ, List.getElem_cons_zero]
          refine wpAnyH_ready (rs := [6]) (by kernel_rfl) (by simp) ?_
          refine AllReadyH.cons rfl (fun K hK => ?_) AllReadyH.nil
          go_simp
          go_at_call 17
          refine (HSP.out V1 (F6.out.later H1.out)).mono ?_
          rintro e V2 ⟨rfl, hk⟩
          have H2 : Hid (Below w6.heap.size w6 V2) := chain H1.out hk
          have N2 : Hid (w6.heap.size ≤ B ∧ V2.heap[B]? = some (.cells #[.float .f64 0, .float .f64 0] 43 (0, 0))) := ⟨N1.out.1, (hk.block _ (blkLt N1.out.2)).trans N1.out.2⟩
          clear hk
          refine hK.out _ _ H2.out (fun _ => ?_)
          clear hK K
          try simp only [Act.put, List.setIfInBounds_toArray, List.set_cons_zero, List.set_cons_succ, List.getElem_toArray, List.getElem_cons_succ, List.getElem_cons_zero]
          refine wpAnyH_take (i := 7) (v := .tuple #[.agg #[.float .f64 px, .float .f64 py], .int .i64 0]) rfl (by kernel_rfl) (by kernel_rfl) (by kernel_rfl) (fun _ _ _ h => h) (Or.inl ⟨by rfl, fun w hSw => by clear hSw; go_simp⟩) H2.out ?_
          try simp only [Act.put, List.setIfInBounds_toArray, List.set_cons_zero, List.set_cons_succ, List.getElem_toArray, List.getElem_cons_succ, List.getElem_cons_zero]
          refine wpAnyH_take (i := 8) (v := .agg #[.float .f64 px, .float .f64 py]) rfl (by kernel_rfl) (by kernel_rfl) (by kernel_rfl) (fun _ _ _ h => h) (Or.inl ⟨by rfl, fun w hSw => by clear hSw; go_simp⟩) H2.out ?_
          try simp only [Act.put, List.setIfInBounds_toArray, List.set_cons_zero, List.set_cons_succ, List.getElem_toArray, List.getElem_cons_succ, List.getElem_cons_zero]
          refine wpAnyH_take (i := 9) (v := .int .i64 0) rfl (by kernel_rfl) (by kernel_rfl) (by kernel_rfl) (fun _ _ _ h => h) (Or.inl ⟨by rfl, fun w hSw => by clear hSw; go_simp⟩) H2.out ?_
          try simp only [Act.put, List.setIfInBounds_toArray, List.set_cons_zero, List.set_cons_succ, List.getElem_toArray, List.getElem_cons_succ, List.getElem_cons_zero]
          refine wpAnyH_ready (rs := [11]) (by kernel_rfl) (by simp) ?_
          refine AllReadyH.cons rfl (fun K hK => ?_) AllReadyH.nil
          obtain ⟨⟨w0, k0⟩, w1', k1⟩ := two_cells N2.out.2
          go_simp
          clear w0 k0 w1' k1
          have H3 : Hid (Below w6.heap.size w6 ((V2.setCell ⟨B, 0, none⟩ (.float .f64 px)).setCell ⟨B, 1, none⟩ (.float .f64 py))) := (H2.out.setCell (p := ⟨B, 0, none⟩) N2.out.1 _).setCell (p := ⟨B, 1, none⟩) N2.out.1 _
          have R : Hid (((V2.setCell ⟨B, 0, none⟩ (.float .f64 px)).setCell ⟨B, 1, none⟩ (.float .f64 py)).heap[B]? = some (.cells #[.float .f64 px, .float .f64 py] 43 (0, 0))) := p2_set1 (p2_set0 N2.out.2 _) _
          generalize (V2.setCell ⟨B, 0, none⟩ (.float .f64 px)).setCell ⟨B, 1, none⟩ (.float .f64 py) = V3 at *
          refine hK.out _ _ H3.out (fun _ => ?_)
          clear hK K
          try simp only [Act.put, List.setIfInBounds_toArray, List.set_cons_zero, List.set_cons_succ, List.getElem_toArray, List.getElem_cons_succ, List.getElem_cons_zero]
          refine wpAnyH_take (i := 12) (v := .int .i64 0) rfl (by kernel_rfl) (by kernel_rfl) (by kernel_rfl) (fun _ _ _ h => h) (Or.inl ⟨by rfl, fun w hSw => by clear hSw; go_simp⟩) H3.out ?_
          try simp only [Act.put, List.setIfInBounds_toArray, List.set_cons_zero, List.set_cons_succ, List.getElem_toArray, List.getElem_cons_succ, List.getElem_cons_zero]
          refine wpAnyH_done (by kernel_rfl) ?_ _
          clear hH
          go_wp2_with fail
          go_meet
          exact ⟨B, rfl, rfl, F6.out.later H3.out, R.out, H3.out⟩
      case rest =>
        obtain ⟨b3, rfl, rfl, hF7, hc7, hb7⟩ := hcut
        have F7 : Hid (Fp w g1 g2 L M wc) := hF7
        have G7 : Hid (∀ W, Below wc.heap.size wc W → W.heap[b1]? = some (.cells #[.float .f64 px, .float .f64 py] 43 (0, 0)) ∧ W.heap[b2]? = some (.cells #[.float .f64 qx, .float .f64 qy] 43 (0, 0)) ∧ W.heap[b3]? = some (.cells #[.float .f64 px, .float .f64 py] 43 (0, 0))) := fun W hW => by
          have q1 := (hb7.block _ (blkLt G6.out.1)).trans G6.out.1
          have q2 := (hb7.block _ (blkLt G6.out.2)).trans G6.out.2
          exact ⟨(hW.block _ (blkLt q1)).trans q1, (hW.block _ (blkLt q2)).trans q2, (hW.block _ (blkLt hc7)).trans hc7⟩
        clear hF7 hc7 hb7 F6 G6 HPQ HQP HSP
        go_upto_region 12 with fail
        obtain ⟨d1, d2, d3⟩ := G7.out wc (Below.refl _ _)
        obtain ⟨⟨x1, _⟩, y1, _⟩ := two_cells d1
        obtain ⟨⟨x2, _⟩, y2, _⟩ := two_cells d2
        obtain ⟨⟨x3, _⟩, y3, _⟩ := two_cells d3
        clear d1 d2 d3
        go_upto_region 14 with fail
        clear x1 y1 x2 y2 x3 y3 G7
        go_wp2_with fail
        (first | go_at_call 18 | skip)
        refine (HBi.out wc F7.out).mono ?_
        rintro e w8 ⟨rfl, hb8⟩
        have F8 : Hid (Fp w g1 g2 L M w8) := F7.out.later hb8
        clear hb8 F7
        go_upto_region 15 with fail
        have n9 := heapNew w8 (Obj.cells #[.float .f64 bx, .float .f64 bY] 43)
        have b9 := below_alloc w8 (Obj.cells #[.float .f64 bx, .float .f64 bY] 43)
        generalize w8.alloc (Obj.cells #[.float .f64 bx, .float .f64 bY] 43) = w9 at *
        have F9 : Hid (Fp w g1 g2 L M w9) := F8.out.later b9
        have N9 : Hid (w9.heap[w8.heap.size]? = some (.cells #[.float .f64 bx, .float .f64 bY] 43 (0, 0))) := n9
        clear n9 b9 F8
        generalize w8.heap.size = p8 at *
        go_wp2_with fail
        (first | go_at_call 19 | skip)
        refine (HBs.out w9 F9.out).mono ?_
        rintro e w10 ⟨rfl, hb10⟩
        have F10 : Hid (Fp w g1 g2 L M w10) := F9.out.later hb10
        have N10 : Hid (w10.heap[p8]? = some (.cells #[.float .f64 bx, .float .f64 bY] 43 (0, 0))) := (hb10.block _ (blkLt N9.out)).trans N9.out
        clear hb10 F9 N9
        go_upto_region 16 with fail
        have n11 := heapNew w10 (Obj.cells #[.float .f64 bx, .float .f64 bY] 43)
        have b11 := below_alloc w10 (Obj.cells #[.float .f64 bx, .float .f64 bY] 43)
        have n12 := (b11.block _ (blkLt N10.out)).trans N10.out
        generalize w10.alloc (Obj.cells #[.float .f64 bx, .float .f64 bY] 43) = w11 at *
        have F11 : Hid (Fp w g1 g2 L M w11) := F10.out.later b11
        obtain ⟨⟨x1, _⟩, y1, _⟩ := two_cells n11
        obtain ⟨⟨x2, _⟩, y2, _⟩ := two_cells n12
        clear n11 n12 b11 F10 N10
        generalize w10.heap.size = p10 at *
        go_wp2
        go_ret
        exact ⟨rfl, F11.out.low⟩

theorem own : ownKnob Try.prog.godebug = none := by kernel_rfl
theorem laidOut : laidOutB Try.prog = true := by kernel_rfl

set_option maxRecDepth 100000 in
theorem lifted (os : Os) (started : os.Started) (H : Type) (enc : TypeId × Value → H) :
    ReturnsInHanded {} Try.checked os 5 .any (Rows.fnPowerSpec.pre6 enc Try.prog Try.f5 Rows.fnPowerRow.domain false) (Rows.fnPowerSpec.post enc Try.prog Try.f5 false true false false) := by
  refine returnsInHanded_of_change (C := Try.checked) own started (by kernel_rfl) Try.func5
    (ChangeSpec.witness6 (enc := enc) (C := Try.checked) false ⟨#[], #[.slice none 0 0, .slice none 0 0], []⟩ 8 (by kernel_rfl) (by kernel_rfl) (by kernel_rfl) (by kernel_rfl)) ?_
  intro W base args ds gs before hval0 hW hcnd _
  have hval : ∀ (j : Nat) t v, Try.f5.params[j]? = some t → args[j]? = some v → Value.okWide Try.prog W .any base t v := hval0
  have hW' := hW
  obtain ⟨p, q, hA0, hV, rfl, hfz, hnd⟩ := hW
  have hA : DataW.TrodAll enc Try.prog W 0 (fun _ => true) true Try.f5.params.toList args.toList ds p := hA0
  rw [Try.params5] at hA hval
  obtain ⟨v0, vs0, d0, ds0, p0, q0, hargs, rfl, rfl, h0, r0⟩ := trodAll_cons hA
  obtain ⟨v1, vs1, d1, ds1, p1, q1, rfl, rfl, rfl, h1, r1⟩ := trodAll_cons r0
  obtain ⟨rfl, rfl, rfl⟩ := trodAll_nil r1
  obtain rfl : args = #[v0, v1] := by cases args; simp_all
  obtain ⟨rfl, rfl⟩ := trodVars_none hV
  have k0 := h0
  have lt0 : ∀ x ∈ p0, x.block < W.heap.size := by obtain ⟨m, hm⟩ := k0; exact DataW.trod_lt m _ _ _ hm
  have k1 := h1
  have lt1 : ∀ x ∈ p1, x.block < W.heap.size := by obtain ⟨m, hm⟩ := k1; exact DataW.trod_lt m _ _ _ hm
  obtain ⟨a0, len0, cap0, rfl⟩ := okWide_slice Try.underlying22 (hval 0 22 v0 rfl rfl)
  obtain ⟨z0, w0⟩ : ∃ zs, IsRow .u8 W a0 len0 cap0 zs := by
    obtain ⟨fuel, hf⟩ := h0
    rcases open_ints Try.underlying22 Try.underlying5 (by kernel_rfl) hf with ⟨hcs, _⟩ | ⟨x, l, c, zs, hcs, _, hl, hm, hz, _, hcell, hwz⟩
    · simp [Value.cells] at hcs
      obtain ⟨rfl, rfl, rfl⟩ := hcs
      exact ⟨[], .inl ⟨rfl, rfl, rfl, rfl⟩⟩
    · simp [Value.cells] at hcs
      obtain ⟨rfl, rfl, rfl⟩ := hcs
      exact ⟨zs, .inr ⟨_, rfl, hl, hm, by simpa using hz, hcell, hwz⟩⟩
  obtain ⟨a1, len1, cap1, rfl⟩ := okWide_slice Try.underlying22 (hval 1 22 v1 rfl rfl)
  obtain ⟨z1, w1⟩ : ∃ zs, IsRow .u8 W a1 len1 cap1 zs := by
    obtain ⟨fuel, hf⟩ := h1
    rcases open_ints Try.underlying22 Try.underlying5 (by kernel_rfl) hf with ⟨hcs, _⟩ | ⟨x, l, c, zs, hcs, _, hl, hm, hz, _, hcell, hwz⟩
    · simp [Value.cells] at hcs
      obtain ⟨rfl, rfl, rfl⟩ := hcs
      exact ⟨[], .inl ⟨rfl, rfl, rfl, rfl⟩⟩
    · simp [Value.cells] at hcs
      obtain ⟨rfl, rfl, rfl⟩ := hcs
      exact ⟨zs, .inr ⟨_, rfl, hl, hm, by simpa using hz, hcell, hwz⟩⟩
  clear hA0 hval0
  refine (walk a0 len0 cap0 z0 a1 len1 cap1 z1 W (rowB_of _ _ _ _ _ w0) (rowB_of _ _ _ _ _ w1)).mono fun e W' ⟨he, bel⟩ => ?_
  subst he
  exact ⟨_, rfl, _, _, _, [], _, [], hW', trodAll_mk1 (shut_bool Try.underlying4 _), (trodAll_cons_mk (Below.trod laidOut (by kernel_rfl) (of_decide_eq_true (by kernel_rfl)) k0 bel lt0) (trodAll_cons_mk (Below.trod laidOut (by kernel_rfl) (of_decide_eq_true (by kernel_rfl)) k1 bel lt1) trodAll_mk0)), rfl, bel.frame _, fun h => by cases h⟩

theorem over : Rows.fnPowerRow.holds Try.pinned (OpenSpec.ofChange Rows.fnPowerSpec) :=
  OpenClaim.holds_of_wide 5 Try.f5 rfl rfl rfl rfl rfl rfl rfl ⟨rfl, rfl, rfl, rfl, rfl⟩ rfl rfl rfl rfl rfl (by kernel_rfl) Try.func5 (by kernel_rfl)
    (of_decide_eq_true (by kernel_rfl)) (by unfold Func.isWrapper; first | (rw [if_pos (by decide +kernel)]; kernel_rfl) | (rw [if_neg (by decide +kernel)]; exact ⟨rfl, rfl⟩))
    (fun os started H enc _ => lifted os started H enc)
end FnPower

theorem fnPower_holds : Rows.FnPowerSaid := FnPower.over
end Go.Proofs.Ytillkllkekhmfaa
