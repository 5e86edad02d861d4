/-
  Texts of this claim laid together: BsN.
-/
import Derived.Test.YtbijgoaanphojaaM39
import Derived.Test.YtbijgoaanphojaaM40
/-
  Contract of the specification's Best, for every list of units and of deals.
-/
namespace Go.Proofs.Ytbijgoaanphojaa
open Go.ChangeShapes Go.WideShapes Go.ChangeAt Go.RowKit Go.Deep
set_option linter.unusedVariables false

/-- What holds at each round of Best's search. -/
structure BsR (us : List RUn) (ds : List CDl) (x mask sp : Nat) (U : List (Nat × List Nat)) : Prop where
  hm : mask < 256
  hs : sp < 64
  so : SpOK ds sp
  up : ∀ y, y < x → mask.testBit y = true
  eq : (sr us ds (List.range us.length) 0).us = U ++ (sr us ds (freeL us.length mask) sp).us
theorem BsR.len {us : List RUn} {ds : List CDl} (h2 : dlAll ds = true) (hu8 : us.length ≤ 8) {x mask sp : Nat} {U : List (Nat × List Nat)} (h : BsR us ds x mask sp U) : U.length ≤ 8 := by
  have e := congrArg List.length h.eq
  rw [List.length_append] at e
  have := sr_len h2 0 (left := List.range us.length) ⟨List.pairwise_lt_range, fun y hy => List.mem_range.1 hy⟩
  rw [List.length_range] at this
  omega
theorem BsR.start (us : List RUn) (ds : List CDl) : BsR us ds 0 0 0 [] := ⟨by decide, by decide, SpOK.zero ds, fun y hy => by omega, by rw [freeL_zero]; rfl⟩
theorem BsR.bit {us : List RUn} {ds : List CDl} {x mask sp : Nat} {U : List (Nat × List Nat)} (h : BsR us ds x mask sp U) (hb : mask.testBit x = true) : BsR us ds (x + 1) mask sp U := ⟨h.hm, h.hs, h.so, fun y hy => by
  by_cases e : y = x
  · rw [e]; exact hb
  · exact h.up y (by omega), h.eq⟩
theorem BsR.skip {us : List RUn} {ds : List CDl} (h2 : dlAll ds = true) (hu8 : us.length ≤ 8) {x mask sp : Nat} {U : List (Nat × List Nat)} (hx : x < us.length) (h : BsR us ds x mask sp U) {l : List Nat} (hl : freeL us.length mask = x :: l) (he : mostM us ds (mask ||| 2 ^ x) sp = mostM us ds mask sp) : BsR us ds (x + 1) (mask ||| 2 ^ x) sp U :=
  ⟨Nat.or_lt_two_pow (n := 8) h.hm (by have := pow_lt x (by omega); omega), h.hs, h.so, bits_up h.up (by rw [Nat.testBit_or, Nat.testBit_two_pow]; simp), by rw [h.eq, best_skip h2 hl he]⟩
theorem BsR.use {us : List RUn} {ds : List CDl} (h1 : unAll us = true) (h2 : dlAll ds = true) (hu8 : us.length ≤ 8) {x mask sp : Nat} {U : List (Nat × List Nat)} (h : BsR us ds x mask sp U) {l : List Nat} (hl : freeL us.length mask = x :: l) {k : Nat} {s : List Nat} (hk : k < ds.length) (hs : s ∈ setsK us ds (x :: l) k)
    (he : (sr us ds (freeL us.length mask) sp).us = (k, s) :: (sr us ds (freeL us.length (mask ||| bitsN s)) (spD (ds.getD k zDl) sp k)).us) : BsR us ds (x + 1) (mask ||| bitsN s) (spD (ds.getD k zDl) sp k) (U ++ [(k, s)]) :=
  ⟨(set_facts h1 h2 hu8 h.hm hl hk hs).2.2.2.2.2.2.1, spD_ok h2 h.hs hk, h.so.next k, bits_up h.up (by rw [Nat.testBit_or, bitsN_test, decide_eq_true (set_first h2 hk hs)]; simp), by rw [h.eq, he, List.append_assoc]; rfl⟩
theorem best_push {B sb mb B1 ub k g cp c : Nat} {us : List RUn} {ua : Option Addr} {uc : Nat} {ds : List CDl} {da : Option Addr} {dc : Nat} {F : Nat → Int} {w3 W W' : World} {v : Value} {U : List (Nat × List Nat)} {C : List Value} {h : Option Addr} {s : List Nat} (hU : UseR B1 v U C W) (hS : MoS B sb mb us ua uc ds da dc F W) (hF : Fr (fun q => q = mb) w3 W) (he : B1 = w3.heap.size) (hb : sb < B1 ∧ mb < B1)
    (hub : W.heap[ub]? = some (.cells #[.int .i64 (k : Int), .int .i64 0, .slice h s.length c] 36 (0, 0))) (hov : ∀ q, v.ownBlock = some q → q < ub) (ho : W'.ownsRow B1 36 3 (.slice (some ⟨g, 0, none⟩) (U.length + 1) cp) (U.length + 1) (C ++ [.int .i64 (k : Int), .int .i64 0, .slice h s.length c])) (hg : W.grownBy W' v.ownBlock) (hs : s.length ≤ c) (hr : RI W h s) (hh : ∀ b o, h = some ⟨b, o, none⟩ → B1 ≤ b) :
    UseR B1 (.slice (some ⟨g, 0, none⟩) (U.length + 1) cp) (U ++ [(k, s)]) (C ++ [.int .i64 (k : Int), .int .i64 0, .slice h s.length c]) W' ∧ MoS B sb mb us ua uc ds da dc F W' ∧ Fr (fun q => q = mb) w3 W' ∧ RI W' h s ∧ W'.cell? ⟨ub, 0, none⟩ = some (.int .i64 (k : Int)) ∧ W'.cell? ⟨ub, 2, none⟩ = some (.slice h s.length c) := by
  have hf := fr_grown hg
  have hB1 : B1 ≤ W.heap.size := by rw [he]; exact hF.size
  have hlow : Below B1 W W' := Fr.below (Below.refl _ _) hf hB1 (fun q hq => (row_lt hU.own q hq).1)
  have hk : W'.heap[ub]? = some (.cells #[.int .i64 (k : Int), .int .i64 0, .slice h s.length c] 36 (0, 0)) := (hf.block ub (blkLt hub) (fun e => by have := hov ub e; omega)).trans hub
  refine ⟨?_, hS.low1 hlow hb.1 hb.2, fr_below hF hlow (by omega), use_keep hU.own hg _ _ hr, blkCell hk 0 _ rfl, blkCell hk 2 _ rfl⟩
  have := hU.push ho hg hs hr hh
  rwa [show (U ++ [(k, s)]).length = U.length + 1 by simp] at this
theorem best_hit {B sb mb B1 Bz ub d c : Nat} {us : List RUn} {ua : Option Addr} {uc : Nat} {ds : List CDl} {da : Option Addr} {dc : Nat} {F : Nat → Int} {w3 W : World} {v vs : Value} {U : List (Nat × List Nat)} {C E : List Value} {L : List (List Nat)} {h : Option Addr} {s : List Nat} {cs : Array Value} (hb : W.heap[ub]? = some (.cells cs 36 (0, 0))) (hcs : cs.size = 3) (hU : UseR B1 v U C W) (hv : ∀ q, v.ownBlock = some q → q < ub) (hS : MoS B sb mb us ua uc ds da dc F W) (hB : sb < B1 ∧ mb < B1) (hub : B1 ≤ ub) (hF : Fr (fun q => q = mb) w3 W) (he : B1 = w3.heap.size) (hR : SetR Bz vs L E W) (hs : s.length ≤ c) (hr : RI W h s) (hh : ∀ b o, h = some ⟨b, o, none⟩ → B1 ≤ b) (WE : World) (hE : WE = ((W.setCell ⟨ub, 0, none⟩ (.int .i64 (d : Int))).setCell ⟨ub, 1, none⟩ (.int .i64 0)).setCell ⟨ub, 2, none⟩ (.slice h s.length c)) :
    UB B1 ub (some (d, s)) WE ∧ UseR B1 v U C WE ∧ MoS B sb mb us ua uc ds da dc F WE ∧ Fr (fun q => q = mb) w3 WE ∧ SetR Bz vs L E WE := by
  obtain ⟨a1, a2, a3, a4⟩ := set3 W ub _ _ _ cs _ hcs hb WE hE
  exact ⟨⟨h, c, a1, hs, ri_but hb a2 _ _ hr, hh⟩, hU.but hb a2 hv, hS.low1 (a3 B1 hub) hB.1 hB.2, fr_below hF (a3 B1 hub) (by omega), hR.but hb a2⟩
theorem tab_start (us : List RUn) (ds : List CDl) : TabOK us ds (fun _ => -1) := fun _ _ _ _ _ => .inl rfl
theorem useInf : (Try.prog.info? 36).map (fun i => (i.zero, i.size, i.bytes)) = some (some (.agg #[.int .i64 0, .int .i64 0, .slice none 0 0]), 3, 40) := by kernel_rfl
set_option maxHeartbeats 16000000 in
set_option maxRecDepth 8000 in
theorem specBest_ok (a : Option Addr) (cap : Nat) (us : List RUn) (hp : ∀ r ∈ us, UnOK r) (b : Option Addr) (cb : Nat) (ds : List CDl) (hq : ∀ r ∈ ds, DlOK r) (hfz : faultOf us ds = 0) (w : World) (hr : ReadsUn w.heap.size w a us) (ks : ReadsDl w.heap.size w b ds) :
    Calls Try.prog 11 #[.slice a us.length cap, .slice b ds.length cb] w (AnsP us ds (bsU us ds) w) := by
  obtain ⟨h1, h2⟩ := fault_both hfz
  have hu8 : us.length ≤ 8 := by unfold unAll at h1; rw [Bool.and_eq_true] at h1; exact of_decide_eq_true h1.1
  have hd6 : ds.length ≤ 6 := (dlAll_yes h2).1
  have HU : Hid (∀ W, Below w.heap.size w W → Calls Try.prog 36 #[.slice a us.length cap] W fun e w' => e = .returned (.bool true) ∧ Below W.heap.size W w') := fun W hb => by have := specUnits_any a cap us (by omega) hp W (hr.later hb); rwa [h1] at this
  have HDl : Hid (∀ W, Below w.heap.size w W → Calls Try.prog 37 #[.slice b ds.length cb] W fun e w' => e = .returned (.bool true) ∧ Below W.heap.size W w') := fun W hb => by have := specDeals_any b cb ds (by omega) hq W (ks.later hb); rwa [h2] at this
  have HRu : Hid (ReadsUn w.heap.size w a us ∧ ReadsDl w.heap.size w b ds) := ⟨hr, ks⟩
  have he : bsU us ds = (sr us ds (List.range us.length) 0).us.map cuOf := by unfold bsU; rw [if_pos hfz]
  have HPr : Hid (∀ W g cg, Below w.heap.size w W → ReadsUs W.heap.size W g ((sr us ds (List.range us.length) 0).us.map cuOf) → Calls Try.prog 25 #[.slice a us.length cap, .slice b ds.length cb, .slice g (sr us ds (List.range us.length) 0).us.length cg] W (AnsP us ds (bsU us ds) W)) := fun W g cg hW hu => by
    have := specPriced_any a cap us (by omega) hp b cb ds (by omega) hq g cg (bsU us ds) (Nat.le_trans bsU_len (by omega)) bsU_ok W (hr.later hW) (ks.later hW) (by rw [he]; exact hu)
    rwa [show (bsU us ds).length = (sr us ds (List.range us.length) 0).us.length by rw [he, List.length_map]] at this
  have HMo : Hid (∀ sb mb n, MostP w.heap.size sb mb us a cap ds b cb n) := fun sb mb n => most_any w.heap.size sb mb us a cap ds b cb hu8 h1 h2 hq n
  have hmk := fun w => run_make_row' (P := Try.prog) 34 3 (.int .i64 0) 8 Try.underlying34 intInfo rfl .i64 .i64 16384 (by omega) (by omega) w
  have e16 : ((16384 : Nat) : Int) = (16384 : Int) := rfl
  rw [e16] at hmk
  clear e16
  have HNz : Hid (pcode us ds (bsU us ds) = 0) := by show _ = _; rw [bsU_code, hfz]
  obtain ⟨i0, hi, hzz⟩ := Option.map_eq_some_iff.1 useInf
  simp only [Prod.mk.injEq] at hzz
  obtain ⟨hi0, hi1, hi2⟩ := hzz
  have hu1 : ¬ (4096 : Int) < (us.length : Int) := by omega
  have hd1 : ¬ (4096 : Int) < (ds.length : Int) := by omega
  clear hr ks hp he hfz
  go_enter Try.func11, Try.ntmps11
  go_wp2_with fail
  (first | go_at_call 36 | skip)
  refine (HU.out _ (below_alloc _ _)).mono ?_
  rintro e w1 ⟨rfl, hb1⟩
  have HB1 : Hid (Below (w.alloc (Obj.cells #[.int .i64 0, .int .i64 0, .slice none 0 0] 29)).heap.size (w.alloc (Obj.cells #[.int .i64 0, .int .i64 0, .slice none 0 0] 29)) w1) := hb1
  clear hb1 HU
  go_wp2_with fail
  (first | go_at_call 37 | skip)
  refine (HDl.out _ (chain (below_alloc _ _) HB1.out)).mono ?_
  rintro e w2 ⟨rfl, hb2⟩
  have HBr2 : Hid (w2.rowIs w.heap.size 29 3 (bgF 0 0 (.slice none 0 0))) := (bg_new w 0 0 (.slice none 0 0)).of_block ((chain HB1.out hb2).block _ (by simp))
  have HB2 : Hid (Below w.heap.size w w2 ∧ w2.heap[w.heap.size]? = some (.cells #[.int .i64 0, .int .i64 0, .slice none 0 0] 29 (0, 0))) := by
    have := chain HB1.out hb2
    exact ⟨chain (below_alloc _ _) this, (this.block _ (by simp)).trans (heapNew _ _)⟩
  clear hb2 HDl HB1
  obtain ⟨w3, hw3⟩ : ∃ w3, w3 = (w2.alloc (Obj.cells (madeCells #[.int .i64 0] 16384) 3)).alloc (Obj.cells #[.slice a us.length cap, .slice b ds.length cb, .slice (some ⟨w2.heap.size, 0, none⟩) 16384 16384] 74) := ⟨_, rfl⟩
  have HW3 : Hid (w3 = (w2.alloc (Obj.cells (madeCells #[.int .i64 0] 16384) 3)).alloc (Obj.cells #[.slice a us.length cap, .slice b ds.length cb, .slice (some ⟨w2.heap.size, 0, none⟩) 16384 16384] 74)) := hw3
  have H3 : Hid (Below w2.heap.size w2 w3 ∧ w3.rowIs w2.heap.size 3 16384 (fun _ => .int .i64 0) ∧ w3.heap[w2.heap.size + 1]? = some (.cells #[.slice a us.length cap, .slice b ds.length cb, .slice (some ⟨w2.heap.size, 0, none⟩) 16384 16384] 74 (0, 0))) := by
    have q1 := below_alloc w2 (Obj.cells (madeCells #[.int .i64 0] 16384) 3)
    have q2 := World.rowIs_made w2 (.int .i64 0) 16384 3
    have q3 : (w2.alloc (Obj.cells (madeCells #[.int .i64 0] 16384) 3)).heap.size = w2.heap.size + 1 := alloc_size _ _
    generalize w2.alloc (Obj.cells (madeCells #[.int .i64 0] 16384) 3) = w4 at *
    have q4 := below_alloc w4 (Obj.cells #[.slice a us.length cap, .slice b ds.length cb, .slice (some ⟨w2.heap.size, 0, none⟩) 16384 16384] 74)
    have q5 := heapNew w4 (Obj.cells #[.slice a us.length cap, .slice b ds.length cb, .slice (some ⟨w2.heap.size, 0, none⟩) 16384 16384] 74)
    rw [← hw3] at q4 q5
    rw [q3] at q5
    exact ⟨chain q1 q4, q2.of_block (q4.block _ q2.lt), q5⟩
  clear hw3
  go_wp2
  rw [← HW3.out]
  obtain ⟨mb, hmb⟩ : ∃ mb, mb = w2.heap.size := ⟨_, rfl⟩
  rw [← hmb] at H3 ⊢
  have hmw : w.heap.size < mb := by rw [hmb]; exact blkLt HB2.out.2
  have HB3 : Hid (Below w.heap.size w w3 ∧ w3.heap[w.heap.size]? = some (.cells #[.int .i64 0, .int .i64 0, .slice none 0 0] 29 (0, 0))) := ⟨chain HB2.out.1 (hmb ▸ H3.out.1), ((hmb ▸ H3.out.1 : Below w2.heap.size w2 w3).block _ (hmb ▸ hmw)).trans HB2.out.2⟩
  have HBr : Hid (w3.rowIs w.heap.size 29 3 (bgF 0 0 (.slice none 0 0))) := HBr2.out.of_block ((hmb ▸ H3.out.1 : Below w2.heap.size w2 w3).block _ (hmb ▸ hmw))
  clear HW3 hmb hmk HBr2 HB2
  obtain ⟨sb, hsb⟩ : ∃ sb, sb = mb + 1 := ⟨_, rfl⟩
  rw [← hsb] at H3 ⊢
  have hsm : sb ≠ mb := by omega
  have hsw : w.heap.size ≤ sb := by omega
  have HSb : Hid (sb = mb + 1) := hsb
  clear hsb
  go_loopw [7] (fun c wr => ∃ k : Nat, k ≤ 16384 ∧ c = .int .i64 (k : Int) ∧ wr.rowIs mb 3 16384 (fun i => .int .i64 (if i < k then -1 else 0)) ∧ Fr (fun q => q = mb) w3 wr ∧ wr.heap.size = w3.heap.size) (fun c _ => 16384 - (intOf c).toNat)
  case atStart => exact ⟨0, Nat.zero_le _, rfl, H3.out.2.1.congr (fun i hi => by simp), Fr.refl _ _, rfl⟩
  case round =>
    obtain ⟨k, hk, rfl, hrow, hfr, hsz⟩ := hrel
    have HSz : Hid (wr.heap.size = w3.heap.size) := hsz
    have HRow : Hid (wr.rowIs mb 3 16384 (fun i => .int .i64 (if i < k then -1 else 0))) := hrow
    have HFr : Hid (Fr (fun q => q = mb) w3 wr) := hfr
    have x2 : wr.cell? ⟨sb, 2, none⟩ = some (.slice (some ⟨mb, 0, none⟩) 16384 16384) := blkCell ((hfr.block sb (blkLt H3.out.2.2) hsm).trans H3.out.2.2) 2 _ rfl
    clear hrow hfr hsz
    by_cases hlt : k < 16384
    · have hlt' : (k : Int) < 16384 := by omega
      have c0 := HRow.out.cell hlt
      have f0 := HRow.out.frozen k
      have HN : Hid ((wr.setCell ⟨mb, k, none⟩ (.int .i64 (-1))).rowIs mb 3 16384 (fun i => .int .i64 (if i < k + 1 then -1 else 0))) := (HRow.out.set k (.int .i64 (-1))).congr (fun i hi => by
        try dsimp only
        by_cases e : i = k
        · rw [if_pos e, if_pos (by omega)]
        · rw [if_neg e]
          by_cases e2 : i < k
          · rw [if_pos e2, if_pos (by omega)]
          · rw [if_neg e2, if_neg (by omega)])
      have HFn : Hid (Fr (fun q => q = mb) w3 (wr.setCell ⟨mb, k, none⟩ (.int .i64 (-1)))) := HFr.out.set (b := mb) rfl _ _
      have HZn : Hid ((wr.setCell ⟨mb, k, none⟩ (.int .i64 (-1))).heap.size = w3.heap.size) := by show _ = _; rw [World.size_setCell]; exact HSz.out
      go_wp2
      exact ⟨⟨k + 1, hlt, by go_num, HN.out, HFn.out, HZn.out⟩, by simp [intOf]; omega⟩
    · have hke : k = 16384 := by omega
      have hkn : ¬ ((k : Int) < 16384) := by omega
      have HS0 : Hid (MoS w.heap.size sb mb us a cap ds b cb (fun _ => -1) wr) := by
        have hbw : Below w.heap.size w wr := Fr.below HB3.out.1 HFr.out HB3.out.1.size (fun q hq => by omega)
        exact ⟨(HFr.out.block sb (blkLt H3.out.2.2) hsm).trans H3.out.2.2, HRu.out.1.below hbw, HRu.out.2.below hbw, HRow.out.congr (fun i hi => by rw [if_pos (by omega)]), tab_start us ds, hsw, by omega⟩
      obtain ⟨wf, rfl⟩ : ∃ wf, wf = wr := ⟨_, rfl⟩
      have hB1 : sb < wf.heap.size ∧ mb < wf.heap.size := ⟨blkLt HS0.out.sv, HS0.out.tab.lt⟩
      have HU0 : Hid (UseR wf.heap.size (.slice (some ⟨wf.heap.size, 0, none⟩) 0 0) [] [] (wf.alloc (Obj.cells #[] 36))) := ⟨⟨rfl, .inr ⟨wf.heap.size, 0, #[], rfl, Nat.le_refl _, heapNew wf _, Nat.le_refl _, by unfold maxLen; omega, rfl, rfl⟩⟩, fun i hi => by simp at hi⟩
      have HS1 : Hid (MoS w.heap.size sb mb us a cap ds b cb (fun _ => -1) (wf.alloc (Obj.cells #[] 36))) := HS0.out.later (below_alloc _ _)
      have HF1 : Hid (Fr (fun q => q = mb) w3 (wf.alloc (Obj.cells #[] 36))) := HFr.out.alloc _
      clear HRow HFr HS0 hke
      go_wp2
      clear x2
      obtain ⟨B1, hB1e⟩ : ∃ B1, B1 = wf.heap.size := ⟨_, rfl⟩
      have HEq : Hid (B1 = w3.heap.size) := hB1e.trans HSz.out
      rw [← hB1e] at HU0 hB1 ⊢
      clear hB1e HSz
      obtain ⟨wg, hwg⟩ : ∃ wg, wg = wf.alloc (Obj.cells #[] 36) := ⟨_, rfl⟩
      rw [← hwg] at HU0 HS1 HF1 ⊢
      clear hwg H3
      go_loopw [8, 9, 10, 11, 12, 13, 14, 15] (fun v m o c _ _ _ _ wr => ∃ (x mask sp : Nat) (U : List (Nat × List Nat)) (C : List Value) (F : Nat → Int) (va : Option Addr) (vc : Nat), x ≤ us.length ∧ c = .int .i64 (x : Int) ∧ m = .int .i64 (mask : Int) ∧ o = .int .i64 (sp : Int) ∧ v = .slice va U.length vc ∧ BsR us ds x mask sp U ∧ UseR B1 v U C wr ∧ MoS w.heap.size sb mb us a cap ds b cb F wr ∧ Fr (fun q => q = mb) w3 wr) (fun _ _ _ c _ _ _ _ _ => us.length - (intOf c).toNat)
      case atStart => exact ⟨0, 0, 0, [], [], _, _, _, Nat.zero_le _, rfl, rfl, rfl, rfl, BsR.start us ds, HU0.out, HS1.out, HF1.out⟩
      case round =>
        clear HU0 HS1 HF1
        obtain ⟨x, mask, sp, U, C, F, va, vc, hxl, rfl, rfl, rfl, rfl, hR, hU, hS, hF⟩ := hrel
        obtain ⟨wx, rfl⟩ : ∃ wx, wx = wr := ⟨_, rfl⟩
        have HR : Hid (BsR us ds x mask sp U) := hR
        have HUx : Hid (UseR B1 (.slice va U.length vc) U C wx) := hU
        have HSx : Hid (MoS w.heap.size sb mb us a cap ds b cb F wx) := hS
        have HFx : Hid (Fr (fun q => q = mb) w3 wx) := hF
        have hm := hR.hm
        have hs := hR.hs
        have hU8 := hR.len h2 hu8
        clear hR hU hS hF
        by_cases hx : x < us.length
        · have hx' : (x : Int) < (us.length : Int) := by omega
          have hju := wrapJ x (by omega)
          have hsh := shr_bit mask x (Nat.lt_trans hm (by decide))
          have hor : bits .or .i64 (mask : Int) (wrap64 ((2 : Int) ^ x)) = ((mask ||| 2 ^ x : Nat) : Int) := by
            have := pow_lt x (by omega)
            rw [powI x (by omega), orI mask (2 ^ x) (by omega) (by omega)]
          cases hbit : mask.testBit x
          · rw [hbit, if_neg (by simp)] at hsh
            have hsh1 : bits .and .i64 ((mask : Int) / 2 ^ x) 1 = (0 : Int) := by rw [hsh]; rfl
            obtain ⟨l, hl⟩ := freeL_at hx hbit HR.out.up
            have HL : Hid (freeL us.length mask = x :: l) := hl
            clear hsh hbit hl
            obtain ⟨m1, hm1⟩ : ∃ m1, m1 = mask ||| 2 ^ x := ⟨_, rfl⟩
            have HM1 : Hid (m1 = mask ||| 2 ^ x) := hm1
            have hm1l : m1 < 256 := by rw [hm1]; exact Nat.or_lt_two_pow (n := 8) hm (by have := pow_lt x (by omega); omega)
            rw [← hm1] at hor
            clear hm1
            have HMa : Hid (∀ F W, MoS w.heap.size sb mb us a cap ds b cb F W → Calls Try.prog 38 #[.pointer (some ⟨sb, 0, none⟩), .int .i64 (m1 : Int), .int .i64 (sp : Int)] W fun e w' => e = .returned (.int .i64 (mostM us ds m1 sp)) ∧ (∃ F', MoS w.heap.size sb mb us a cap ds b cb F' w') ∧ Fr (fun q => q = mb) W w') := fun F W h => HMo.out sb mb _ m1 sp F W hm1l hs HR.out.so (Nat.le_refl _) h
            have HMb : Hid (∀ F W, MoS w.heap.size sb mb us a cap ds b cb F W → Calls Try.prog 38 #[.pointer (some ⟨sb, 0, none⟩), .int .i64 (mask : Int), .int .i64 (sp : Int)] W fun e w' => e = .returned (.int .i64 (mostM us ds mask sp)) ∧ (∃ F', MoS w.heap.size sb mb us a cap ds b cb F' w') ∧ Fr (fun q => q = mb) W w') := fun F W h => HMo.out sb mb _ mask sp F W hm hs HR.out.so (Nat.le_refl _) h
            go_wp2_with fail
            (first | go_at_call 38 | skip)
            refine (HMa.out F wx HSx.out).mono ?_
            rintro e w4 ⟨rfl, ⟨F4, hS4⟩, hf4⟩
            have HS4 : Hid (MoS w.heap.size sb mb us a cap ds b cb F4 w4) := hS4
            have HF4 : Hid (Fr (fun q => q = mb) wx w4) := hf4
            clear hS4 hf4 HMa
            go_wp2_with fail
            (first | go_at_call 38 | skip)
            refine (HMb.out F4 w4 HS4.out).mono ?_
            rintro e w5 ⟨rfl, ⟨F5, hS5⟩, hf5⟩
            have HS5 : Hid (MoS w.heap.size sb mb us a cap ds b cb F5 w5) := hS5
            have HU5 : Hid (UseR B1 (.slice va U.length vc) U C w5) := HUx.out.fr hB1.2 (HF4.out.trans hf5)
            have HF5 : Hid (Fr (fun q => q = mb) w3 w5) := HFx.out.trans (HF4.out.trans hf5)
            clear hS5 hf5 HS4 HF4 HUx HSx HFx
            by_cases heq : mostM us ds m1 sp = mostM us ds mask sp
            · have heq' : (mostM us ds m1 sp == mostM us ds mask sp) = true := by simpa using heq
              have HRn : Hid (BsR us ds (x + 1) m1 sp U) := by show BsR _ _ _ _ _ _; rw [HM1.out]; exact HR.out.skip h2 hu8 hx HL.out (by rw [← HM1.out]; exact heq)
              clear heq HMb
              go_wp2
              first
                | exact ⟨⟨x + 1, m1, sp, U, C, F5, va, vc, hx, by go_num, by first | rfl | rw [hor], rfl, rfl, HRn.out, HU5.out, HS5.out, HF5.out⟩, by simp [intOf]; omega⟩
                | (go_roundw
                   case rel => exact ⟨x + 1, m1, sp, U, C, F5, va, vc, hx, by go_num, by first | rfl | rw [hor], rfl, rfl, HRn.out, HU5.out, HS5.out, HF5.out⟩
                   case measure => simp [intOf]; omega)
            · have heq' : (mostM us ds m1 sp == mostM us ds mask sp) = false := by simpa using heq
              obtain ⟨kk, ss, hk1, hk2, hk3, hk4⟩ := best_next h2 HR.out.so HL.out (by rw [← HM1.out]; exact heq)
              have HBn : Hid (useJ us ds mask sp (x :: l) ds.length = some (kk, ss)) := hk1
              have HRn : Hid (BsR us ds (x + 1) (mask ||| bitsN ss) (spD (ds.getD kk zDl) sp kk) (U ++ [(kk, ss)])) := HR.out.use h1 h2 hu8 HL.out hk2 hk3 hk4
              have hkl : kk < ds.length := hk2
              have HSf : Hid ((∀ y ∈ ss, y < 8) ∧ ss.length ≤ 8) := ⟨(set_facts h1 h2 hu8 hm HL.out hk2 hk3).1, (set_facts h1 h2 hu8 hm HL.out hk2 hk3).2.1⟩
              clear heq hk1 hk2 hk3 hk4 hor hju hsh1 HM1 hm1l
              have hub0 : mb < w5.heap.size := HS5.out.tab.lt
              have HV : Hid (∀ q, (Value.slice va U.length vc).ownBlock = some q → q < w5.heap.size) := fun q hq => (row_lt HU5.out.own q hq).2
              have hB5 : B1 ≤ w5.heap.size := by have := HF5.out.size; have := HEq.out; omega
              have HU6 : Hid (UseR B1 (.slice va U.length vc) U C (w5.alloc (Obj.cells #[.int .i64 (-1), .int .i64 0, .slice none 0 0] 36))) := HU5.out.later (below_alloc _ _)
              have HS6 : Hid (MoS w.heap.size sb mb us a cap ds b cb F5 (w5.alloc (Obj.cells #[.int .i64 (-1), .int .i64 0, .slice none 0 0] 36))) := HS5.out.later (below_alloc _ _)
              have HF6 : Hid (Fr (fun q => q = mb) w3 (w5.alloc (Obj.cells #[.int .i64 (-1), .int .i64 0, .slice none 0 0] 36))) := HF5.out.alloc _
              have HB6 : Hid (UB B1 w5.heap.size none (w5.alloc (Obj.cells #[.int .i64 (-1), .int .i64 0, .slice none 0 0] 36))) := heapNew w5 _
              clear HU5 HS5 HF5
              go_wp2
              obtain ⟨ub, hub⟩ : ∃ ub, ub = w5.heap.size := ⟨_, rfl⟩
              obtain ⟨w6, hw6⟩ : ∃ w6, w6 = w5.alloc (Obj.cells #[.int .i64 (-1), .int .i64 0, .slice none 0 0] 36) := ⟨_, rfl⟩
              rw [← hub] at HV HB6 hub0 hB5 ⊢
              rw [← hw6] at HU6 HS6 HF6 HB6 ⊢
              clear hub hw6 heq'
              have hor2 : bits .or .i64 (mask : Int) (bitsN ss : Int) = ((mask ||| bitsN ss : Nat) : Int) := orI mask (bitsN ss) (by omega) (by have := bitsN_lt HSf.out.1; omega)
              have HOr2 : Hid (bits .or .i64 (mask : Int) (bitsN ss : Int) = ((mask ||| bitsN ss : Nat) : Int)) := hor2
              clear hor2
              go_loopw [13, 14, 15] (fun c _ _ wr => ∃ (d : Nat) (Fd : Nat → Int) (r : Option (Nat × List Nat)), d ≤ ds.length ∧ c = .int .i64 (d : Int) ∧ useJ us ds mask sp (x :: l) d = r ∧ UB B1 ub r wr ∧ UseR B1 (.slice va U.length vc) U C wr ∧ MoS w.heap.size sb mb us a cap ds b cb Fd wr ∧ Fr (fun q => q = mb) w3 wr) (fun c _ _ _ => ds.length - (intOf c).toNat)
              case atStart => exact ⟨0, F5, none, Nat.zero_le _, rfl, rfl, HB6.out, HU6.out, HS6.out, HF6.out⟩
              case round =>
                clear HU6 HS6 HF6 HB6
                obtain ⟨d, Fd, r, hd, rfl, hJ, hB, hUd, hSd, hFd⟩ := hrel
                obtain ⟨wd, rfl⟩ : ∃ wd, wd = wr := ⟨_, rfl⟩
                have HUd : Hid (UseR B1 (.slice va U.length vc) U C wd) := hUd
                have HSd : Hid (MoS w.heap.size sb mb us a cap ds b cb Fd wd) := hSd
                have HFd : Hid (Fr (fun q => q = mb) w3 wd) := hFd
                clear hUd hSd hFd
                cases r with
                | some ks =>
                  obtain ⟨k', s'⟩ := ks
                  have e := useJ_to hJ hd
                  rw [HBn.out] at e
                  obtain ⟨e1, e2⟩ := Prod.mk.inj (Option.some.inj e)
                  subst e1 e2
                  clear e hJ
                  obtain ⟨hh, hc, hblk, hlc, hri, hhb⟩ := hB
                  have z0 : wd.cell? ⟨ub, 0, none⟩ = some (.int .i64 (kk : Int)) := blkCell hblk 0 _ rfl
                  have z1 : wd.cell? ⟨ub, 1, none⟩ = some (.int .i64 0) := blkCell hblk 1 _ rfl
                  have z2 : wd.cell? ⟨ub, 2, none⟩ = some (.slice hh ss.length hc) := blkCell hblk 2 _ rfl
                  have hk0 : ¬ ((kk : Int) < 0) := by omega
                  have HA : Hid (UseR B1 (.slice va U.length vc) U C (wd.alloc (Obj.cells #[.int .i64 (kk : Int), .int .i64 0, .slice hh ss.length hc] 36))) := HUd.out.later (below_alloc _ _)
                  have HA2 : Hid (B1 ≤ (wd.alloc (Obj.cells #[.int .i64 (kk : Int), .int .i64 0, .slice hh ss.length hc] 36)).heap.size) := by show _ ≤ _; rw [alloc_size]; have := HFd.out.size; have := HEq.out; omega
                  have HP : Hid (∀ g cp W', W'.ownsRow B1 36 3 (.slice (some ⟨g, 0, none⟩) (U.length + 1) cp) (U.length + 1) (C ++ [.int .i64 (kk : Int), .int .i64 0, .slice hh ss.length hc]) → (wd.alloc (Obj.cells #[.int .i64 (kk : Int), .int .i64 0, .slice hh ss.length hc] 36)).grownBy W' (Value.slice va U.length vc).ownBlock →
                      UseR B1 (.slice (some ⟨g, 0, none⟩) (U.length + 1) cp) (U ++ [(kk, ss)]) (C ++ [.int .i64 (kk : Int), .int .i64 0, .slice hh ss.length hc]) W' ∧ MoS w.heap.size sb mb us a cap ds b cb Fd W' ∧ Fr (fun q => q = mb) w3 W' ∧ RI W' hh ss ∧ W'.cell? ⟨ub, 0, none⟩ = some (.int .i64 (kk : Int)) ∧ W'.cell? ⟨ub, 2, none⟩ = some (.slice hh ss.length hc)) := fun g cp W' ho hg => best_push HA.out (HSd.out.later (below_alloc _ _)) (HFd.out.alloc _) HEq.out hB1 (((below_alloc wd _).block ub (blkLt hblk)).trans hblk) HV.out ho hg hlc (hri.later (below_alloc _ _)) hhb
                  have HSt : Hid (∀ W, MoS w.heap.size sb mb us a cap ds b cb Fd W → Calls Try.prog 42 #[.pointer (some ⟨sb, 0, none⟩), .int .i64 (sp : Int), .int .i64 (kk : Int)] W fun e w' => e = .returned (.int .i64 (spD (ds.getD kk zDl) sp kk : Int)) ∧ w' = W) := fun W hW => spent_any sb a us.length cap b cb mb ds hd6 sp kk hs hkl W hW.sv (hW.dl.mono hW.top)
                  clear hblk hlc hri hhb HUd HSd HFd
                  obtain ⟨sp2, hsp2⟩ : ∃ sp2, sp2 = spD (ds.getD kk zDl) sp kk := ⟨_, rfl⟩
                  rw [← hsp2] at HSt HRn
                  clear hsp2
                  by_cases hlt : d < ds.length
                  · have hlt' : (d : Int) < (ds.length : Int) := by omega
                    go_wp2_with (at_builtin; refine wpList_append_lies _ rfl _ _ 25 rfl B1 36 i0 (.agg #[.int .i64 0, .int .i64 0, .slice none 0 0]) 3 40 Try.underlying25 hi hi0 hi1 hi2 rfl (by decide) _ _ _ rfl HA.out.own ⟨wd.heap.size, 0, none⟩ 1 1 [.int .i64 (kk : Int), .int .i64 0, .slice hh ss.length hc] rfl rfl (World.news_of_block (heapNew wd _)) (by simp [Value.oneCell']) (by omega) (by unfold maxLen; omega) (by omega) HA2.out _ rfl ?_; intro g1 cp1 w7 hown1 hgrow1 hat1 hglt1; have HT : Hid (UseR B1 (.slice (some ⟨g1, 0, none⟩) (U.length + 1) cp1) (U ++ [(kk, ss)]) (C ++ [.int .i64 (kk : Int), .int .i64 0, .slice hh ss.length hc]) w7 ∧ MoS w.heap.size sb mb us a cap ds b cb Fd w7 ∧ Fr (fun q => q = mb) w3 w7 ∧ RI w7 hh ss ∧ w7.cell? ⟨ub, 0, none⟩ = some (.int .i64 (kk : Int)) ∧ w7.cell? ⟨ub, 2, none⟩ = some (.slice hh ss.length hc)) := HP.out g1 cp1 w7 hown1 hgrow1; have y0 := HT.out.2.2.2.2.1; have y2 := HT.out.2.2.2.2.2; clear hown1 hgrow1 hat1 hglt1)
                    (first | go_at_call 41 | skip)
                    refine (mask_any hh hc ss HSf.out.2 HSf.out.1 w7 HT.out.2.2.2.1).mono ?_
                    rintro e w8 ⟨rfl, h8⟩
                    rw [h8]
                    clear h8 w8
                    have hor2 := HOr2.out
                    go_wp2_with fail
                    (first | go_at_call 42 | skip)
                    refine (HSt.out w7 HT.out.2.1).mono ?_
                    rintro e w8 ⟨rfl, h8⟩
                    rw [h8]
                    clear h8 w8
                    go_wp2
                    first
                      | exact ⟨⟨x + 1, mask ||| bitsN ss, sp2, U ++ [(kk, ss)], _, Fd, some ⟨g1, 0, none⟩, cp1, hx, by go_num, by first | rfl | rw [hor2], rfl, by rw [List.length_append]; rfl, HRn.out, HT.out.1, HT.out.2.1, HT.out.2.2.1⟩, by simp [intOf]; omega⟩
                      | (go_roundw
                         case rel => exact ⟨x + 1, mask ||| bitsN ss, sp2, U ++ [(kk, ss)], _, Fd, some ⟨g1, 0, none⟩, cp1, hx, by go_num, by first | rfl | rw [hor2], rfl, by rw [List.length_append]; rfl, HRn.out, HT.out.1, HT.out.2.1, HT.out.2.2.1⟩
                         case measure => simp [intOf]; omega)
                  · have hlt' : ¬ ((d : Int) < (ds.length : Int)) := by omega
                    go_wp2_with (at_builtin; refine wpList_append_lies _ rfl _ _ 25 rfl B1 36 i0 (.agg #[.int .i64 0, .int .i64 0, .slice none 0 0]) 3 40 Try.underlying25 hi hi0 hi1 hi2 rfl (by decide) _ _ _ rfl HA.out.own ⟨wd.heap.size, 0, none⟩ 1 1 [.int .i64 (kk : Int), .int .i64 0, .slice hh ss.length hc] rfl rfl (World.news_of_block (heapNew wd _)) (by simp [Value.oneCell']) (by omega) (by unfold maxLen; omega) (by omega) HA2.out _ rfl ?_; intro g1 cp1 w7 hown1 hgrow1 hat1 hglt1; have HT : Hid (UseR B1 (.slice (some ⟨g1, 0, none⟩) (U.length + 1) cp1) (U ++ [(kk, ss)]) (C ++ [.int .i64 (kk : Int), .int .i64 0, .slice hh ss.length hc]) w7 ∧ MoS w.heap.size sb mb us a cap ds b cb Fd w7 ∧ Fr (fun q => q = mb) w3 w7 ∧ RI w7 hh ss ∧ w7.cell? ⟨ub, 0, none⟩ = some (.int .i64 (kk : Int)) ∧ w7.cell? ⟨ub, 2, none⟩ = some (.slice hh ss.length hc)) := HP.out g1 cp1 w7 hown1 hgrow1; have y0 := HT.out.2.2.2.2.1; have y2 := HT.out.2.2.2.2.2; clear hown1 hgrow1 hat1 hglt1)
                    (first | go_at_call 41 | skip)
                    refine (mask_any hh hc ss HSf.out.2 HSf.out.1 w7 HT.out.2.2.2.1).mono ?_
                    rintro e w8 ⟨rfl, h8⟩
                    rw [h8]
                    clear h8 w8
                    have hor2 := HOr2.out
                    go_wp2_with fail
                    (first | go_at_call 42 | skip)
                    refine (HSt.out w7 HT.out.2.1).mono ?_
                    rintro e w8 ⟨rfl, h8⟩
                    rw [h8]
                    clear h8 w8
                    go_wp2
                    first
                      | exact ⟨⟨x + 1, mask ||| bitsN ss, sp2, U ++ [(kk, ss)], _, Fd, some ⟨g1, 0, none⟩, cp1, hx, by go_num, by first | rfl | rw [hor2], rfl, by rw [List.length_append]; rfl, HRn.out, HT.out.1, HT.out.2.1, HT.out.2.2.1⟩, by simp [intOf]; omega⟩
                      | (go_roundw
                         case rel => exact ⟨x + 1, mask ||| bitsN ss, sp2, U ++ [(kk, ss)], _, Fd, some ⟨g1, 0, none⟩, cp1, hx, by go_num, by first | rfl | rw [hor2], rfl, by rw [List.length_append]; rfl, HRn.out, HT.out.1, HT.out.2.1, HT.out.2.2.1⟩
                         case measure => simp [intOf]; omega)
                | none =>
                  have HBd : Hid (UB B1 ub none wd) := hB
                  have z0 : wd.cell? ⟨ub, 0, none⟩ = some (.int .i64 (-1)) := blkCell (show wd.heap[ub]? = some (.cells #[.int .i64 (-1), .int .i64 0, .slice none 0 0] 36 (0, 0)) from hB) 0 _ rfl
                  clear hB
                  by_cases hlt : d < ds.length
                  · have hlt' : (d : Int) < (ds.length : Int) := by omega
                    have hju2 := wrapJ d (by omega)
                    have hsh2 := shr_bit sp d (Nat.lt_trans hs (by decide))
                    have HJ0 : Hid (useJ us ds mask sp (x :: l) d = none) := hJ
                    clear hJ
                    cases hbit : sp.testBit d
                    · rw [hbit, if_neg (by simp)] at hsh2
                      have hsh3 : bits .and .i64 ((sp : Int) / 2 ^ d) 1 = (0 : Int) := by rw [hsh2]; rfl
                      have HBit : Hid (sp.testBit d = false) := hbit
                      have HUs := uses_any sb us a cap ds b cb mb d x mask l hlt hq wd HSd.out.sv (HSd.out.un.mono HSd.out.top) (HSd.out.dl.mono HSd.out.top) hu8 hm ((dlAll_yes h2).2 _ (by rw [show ds.getD d zDl = ds[d] by simp [List.getD_eq_getElem?_getD, hlt]]; exact List.getElem_mem _)).1 HL.out
                      have HFacts : Hid (∀ s ∈ setsK us ds (x :: l) d, (∀ y ∈ s, y < 8) ∧ s.length ≤ 8 ∧ InR us (zN s) ∧ PsOK ((zN s).map (prAt us)) ∧ TvOK (ds.getD d zDl).kd (ds.getD d zDl).vl ∧ (0 ≤ svU us (ds.getD d zDl) s ∧ svU us (ds.getD d zDl) s ≤ 400000000) ∧ mask ||| bitsN s < 256 ∧ (freeL us.length (mask ||| bitsN s)).length ≤ l.length) := fun s hs => set_facts h1 h2 hu8 hm HL.out hlt hs
                      have hLs := setsK_small (ds := ds) (k := d) hu8 HL.out
                      have HNx : Hid (∀ s, (setsK us ds (x :: l) d).find? (hitK us ds mask sp d) = some s → useJ us ds mask sp (x :: l) (d + 1) = some (d, s)) := fun s h => useJ_hit HJ0.out HBit.out h
                      have HNm : Hid ((setsK us ds (x :: l) d).find? (hitK us ds mask sp d) = none → useJ us ds mask sp (x :: l) (d + 1) = none) := fun h => useJ_miss HJ0.out HBit.out h
                      clear hsh2 hbit HJ0 HBit
                      obtain ⟨L, hL⟩ : ∃ L, L = setsK us ds (x :: l) d := ⟨_, rfl⟩
                      rw [← hL] at HUs HFacts hLs HNx HNm
                      clear hL
                      go_wp2_with fail
                      (first | go_at_call 39 | skip)
                      refine HUs.mono ?_
                      rintro e wz ⟨g, cp, E, rfl, hO3, hHi⟩
                      have HSz : Hid (MoS w.heap.size sb mb us a cap ds b cb Fd wz) := HSd.out.later hO3.low
                      have HFz : Hid (Fr (fun q => q = mb) w3 wz) := HFd.out.trans (Fr.of hO3.low)
                      have HUz : Hid (UseR B1 (.slice va U.length vc) U C wz) := HUd.out.later hO3.low
                      have HBz : Hid (UB B1 ub none wz) := (hO3.low.block ub (UB.lt HBd.out)).trans HBd.out
                      have HRz : Hid (SetR wd.heap.size (.slice g L.length cp) L E wz) := ⟨hO3.own, hO3.fit, hHi⟩
                      have hmbd : mb < wd.heap.size := HSd.out.tab.lt
                      have hB1d : B1 ≤ wd.heap.size := by have := HFd.out.size; have := HEq.out; omega
                      clear hO3 hHi HUs HSd HFd HUd HBd z0 hsh3 hju2
                      go_wp2
                      go_loopw [15] (fun c wr => ∃ (i : Nat) (Fi : Nat → Int) (rr : Option (List Nat)), i ≤ L.length ∧ c = .int .i64 (i : Int) ∧ (rr = none → ∀ j, j < i → hitK us ds mask sp d (L.getD j []) = false) ∧ (∀ s, rr = some s → L.find? (hitK us ds mask sp d) = some s) ∧ UB B1 ub (rr.map (fun s => (d, s))) wr ∧ UseR B1 (.slice va U.length vc) U C wr ∧ MoS w.heap.size sb mb us a cap ds b cb Fi wr ∧ Fr (fun q => q = mb) w3 wr ∧ SetR wd.heap.size (.slice g L.length cp) L E wr) (fun c _ => L.length - (intOf c).toNat)
                      case atStart => exact ⟨0, Fd, none, Nat.zero_le _, rfl, (fun _ j hj => by omega), (fun s h => by cases h), HBz.out, HUz.out, HSz.out, HFz.out, HRz.out⟩
                      case round =>
                        clear HSz HFz HUz HBz HRz
                        obtain ⟨i, Fi, rr, hi', rfl, hno, hye, hBi, hUi, hSi, hFi, hRi⟩ := hrel
                        obtain ⟨wq, rfl⟩ : ∃ wq, wq = wr := ⟨_, rfl⟩
                        have HUq : Hid (UseR B1 (.slice va U.length vc) U C wq) := hUi
                        have HSq : Hid (MoS w.heap.size sb mb us a cap ds b cb Fi wq) := hSi
                        have HFq : Hid (Fr (fun q => q = mb) w3 wq) := hFi
                        have HRq : Hid (SetR wd.heap.size (.slice g L.length cp) L E wq) := hRi
                        clear hUi hSi hFi hRi
                        cases rr with
                        | some s0 =>
                          have HJn : Hid (useJ us ds mask sp (x :: l) (d + 1) = some (d, s0)) := HNx.out s0 (hye s0 rfl)
                          have HBq : Hid (UB B1 ub (some (d, s0)) wq) := hBi
                          obtain ⟨h0, c0, hblk, _, _, _⟩ := hBi
                          have z0 : wq.cell? ⟨ub, 0, none⟩ = some (.int .i64 (d : Int)) := blkCell hblk 0 _ rfl
                          have hk0 : ¬ ((d : Int) < 0) := by omega
                          clear hno hye hblk HNx HNm HFacts HMb HMo
                          by_cases hil : i < L.length
                          · have hil' : (i : Int) < (L.length : Int) := by omega
                            go_wp2
                            first
                              | exact ⟨⟨d + 1, Fi, some (d, s0), hlt, by go_num, HJn.out, HBq.out, HUq.out, HSq.out, HFq.out⟩, by simp [intOf]; omega⟩
                              | (go_roundw
                                 case rel => exact ⟨d + 1, Fi, some (d, s0), hlt, by go_num, HJn.out, HBq.out, HUq.out, HSq.out, HFq.out⟩
                                 case measure => simp [intOf]; omega)
                          · have hil' : ¬ ((i : Int) < (L.length : Int)) := by omega
                            go_wp2
                            first
                              | exact ⟨⟨d + 1, Fi, some (d, s0), hlt, by go_num, HJn.out, HBq.out, HUq.out, HSq.out, HFq.out⟩, by simp [intOf]; omega⟩
                              | (go_roundw
                                 case rel => exact ⟨d + 1, Fi, some (d, s0), hlt, by go_num, HJn.out, HBq.out, HUq.out, HSq.out, HFq.out⟩
                                 case measure => simp [intOf]; omega)
                        | none =>
                          have HBq : Hid (UB B1 ub none wq) := hBi
                          have z0 : wq.cell? ⟨ub, 0, none⟩ = some (.int .i64 (-1)) := blkCell (show wq.heap[ub]? = some (.cells #[.int .i64 (-1), .int .i64 0, .slice none 0 0] 36 (0, 0)) from hBi) 0 _ rfl
                          have HNo : Hid (∀ j, j < i → hitK us ds mask sp d (L.getD j []) = false) := hno rfl
                          clear hno hye hBi
                          by_cases hil : i < L.length
                          · have hil' : (i : Int) < (L.length : Int) := by omega
                            obtain ⟨gb, cp', hqv⟩ := row_some HRq.out.own (by omega)
                            have hg : g = some ⟨gb, 0, none⟩ := by simp only [Value.slice.injEq] at hqv; exact hqv.1
                            subst hg
                            obtain ⟨sh, sc, hs1, hs2, hs3⟩ := HRq.out.fit.2 i hil
                            have hHi := HRq.out.hi i hil sh _ sc hs1
                            have hF := HFacts.out _ (show L.getD i [] ∈ L by rw [show L.getD i [] = L[i] by simp [List.getD_eq_getElem?_getD, hil]]; exact List.getElem_mem _)
                            have cs : wq.cell? ⟨gb, i, none⟩ = some (.slice sh (L.getD i []).length sc) := by rw [HRq.out.own.cellAt i (by omega)]; exact hs1
                            have HFd0 : Hid (hitK us ds mask sp d (L.getD i []) = true → L.find? (hitK us ds mask sp d) = some (L.getD i [])) := fun h => find_at hil HNo.out h
                            have HNo2 : Hid (hitK us ds mask sp d (L.getD i []) = false → ∀ j, j < i + 1 → hitK us ds mask sp d (L.getD j []) = false) := fun h j hj => by
                              by_cases e : j = i
                              · rw [e]; exact h
                              · exact HNo.out j (by omega)
                            obtain ⟨s, hse⟩ : ∃ s, s = L.getD i [] := ⟨_, rfl⟩
                            rw [← hse] at hs2 hs3 hF cs HFd0 HNo2
                            obtain ⟨hin, hsl, hinr, hps, htv, hsv, hm2, hfl⟩ := hF
                            obtain ⟨db, off, dh, cpd, hda, hdB, hDl⟩ := dealAtM HSq.out.dl hlt
                            subst hda
                            have HHit : Hid (hitK us ds mask sp d s = decide (svU us (ds.getD d zDl) s + mostM us ds (mask ||| bitsN s) (spD (ds.getD d zDl) sp d) = mostM us ds mask sp)) := rfl
                            have hgl := row_lt HRq.out.own gb rfl
                            have HCF : Hid (∀ W, Fr (fun q => q = mb) wq W → DlAt W db (off + d * 6) dh cpd (ds.getD d zDl) ∧ W.cell? ⟨gb, i, none⟩ = some (.slice sh s.length sc)) := fun W hW => by
                              have hdm : db ≠ mb := by have := HSq.out.bm; omega
                              obtain ⟨q0, q1, q2, q3, q4, q5⟩ := hDl
                              exact ⟨⟨fr_cell hW hdm q0, fr_cell hW hdm q1, fr_cell hW hdm q2, fr_cell hW hdm q3, fr_cell hW hdm q4, fr_cell hW hdm q5⟩, fr_cell hW (by omega) cs⟩
                            have HSv : Hid (∀ W, Below wq.heap.size wq W → Calls Try.prog 40 #[.slice a us.length cap, .agg #[.string (ds.getD d zDl).nm, .int .i64 (ds.getD d zDl).kd, .slice dh (ds.getD d zDl).arts.length cpd, .int .i64 (ds.getD d zDl).nd, .int .i64 (ds.getD d zDl).vl, .bool (ds.getD d zDl).on], .slice sh s.length sc] W fun e w' => e = .returned (.int .i64 (svU us (ds.getD d zDl) s)) ∧ Below W.heap.size W w') := fun W hW => by
                              have := specSaves_any a cap us hu8 (ds.getD d zDl) dh cpd sh sc (zN s) hinr hps htv W (((HSq.out.un.mono HSq.out.top).below hW).mono hW.size) (hs3.later hW).reads
                              rw [zN_len] at this
                              exact this
                            have HMk : Hid (∀ W, Below wq.heap.size wq W → Calls Try.prog 41 #[.slice sh s.length sc] W fun e w' => e = .returned (.int .i64 (bitsN s : Int)) ∧ w' = W) := fun W hW => mask_any sh sc s hsl hin W (hs3.later hW)
                            have HSt : Hid (∀ W, Below wq.heap.size wq W → Calls Try.prog 42 #[.pointer (some ⟨sb, 0, none⟩), .int .i64 (sp : Int), .int .i64 (d : Int)] W fun e w' => e = .returned (.int .i64 (spD (ds.getD d zDl) sp d : Int)) ∧ w' = W) := fun W hW => spent_any sb a us.length cap (some ⟨db, off, none⟩) cb mb ds hd6 sp d hs hlt W (HSq.out.later hW).sv ((HSq.out.later hW).dl.mono (HSq.out.later hW).top)
                            have HMo2 : Hid (∀ W, Below wq.heap.size wq W → Calls Try.prog 38 #[.pointer (some ⟨sb, 0, none⟩), .int .i64 ((mask ||| bitsN s : Nat) : Int), .int .i64 ((spD (ds.getD d zDl) sp d : Nat) : Int)] W fun e w' => e = .returned (.int .i64 (mostM us ds (mask ||| bitsN s) (spD (ds.getD d zDl) sp d))) ∧ (∃ F', MoS w.heap.size sb mb us a cap ds (some ⟨db, off, none⟩) cb F' w') ∧ Fr (fun q => q = mb) W w') := fun W hW => HMo.out sb mb _ _ _ Fi W hm2 (spD_ok h2 hs hlt) (HR.out.so.next d) (Nat.le_refl _) (HSq.out.later hW)
                            have hmb2 := most_bound h1 h2 hu8 (mask ||| bitsN s) (spD (ds.getD d zDl) sp d)
                            have hor3 : bits .or .i64 (mask : Int) (bitsN s : Int) = ((mask ||| bitsN s : Nat) : Int) := orI mask (bitsN s) (by omega) (by have := bitsN_lt hin; omega)
                            have HRn2 : Hid (∀ W, Fr (fun q => q = mb) wq W → SetR wd.heap.size (.slice (some ⟨gb, 0, none⟩) L.length cp) L E W ∧ Fr (fun q => q = mb) w3 W ∧ UseR B1 (.slice va U.length vc) U C W ∧ UB B1 ub none W ∧ RI W sh s) := fun W hW => ⟨HRq.out.fr hmbd hW, HFq.out.trans hW, HUq.out.fr hB1.2 hW, UB.fr HBq.out hB1.2 (by omega) hW, ri_fr hs3 hHi hmbd hW⟩
                            have HLow : Hid (s.length ≤ sc ∧ ∀ q o, sh = some ⟨q, o, none⟩ → B1 ≤ q) := ⟨hs2, fun q o h => Nat.le_trans hB1d (hHi q o h)⟩
                            obtain ⟨dd, hdd⟩ : ∃ dd, dd = ds.getD d zDl := ⟨_, rfl⟩
                            rw [← hdd] at HHit HCF HSv HSt HMo2 hmb2 hsv
                            obtain ⟨m2, hm2e⟩ : ∃ m2, m2 = mask ||| bitsN s := ⟨_, rfl⟩
                            rw [← hm2e] at HHit HMo2 hmb2 hor3
                            obtain ⟨sp3, hsp3⟩ : ∃ sp3, sp3 = spD dd sp d := ⟨_, rfl⟩
                            rw [← hsp3] at HHit HSt HMo2 hmb2
                            obtain ⟨sv, hsve⟩ : ∃ sv, sv = svU us dd s := ⟨_, rfl⟩
                            rw [← hsve] at HHit HSv hsv
                            obtain ⟨mo, hmoe⟩ : ∃ mo, mo = mostM us ds m2 sp3 := ⟨_, rfl⟩
                            rw [← hmoe] at HHit HMo2 hmb2
                            obtain ⟨mm, hmme⟩ : ∃ mm, mm = mostM us ds mask sp := ⟨_, rfl⟩
                            have HMm : Hid (∀ (F : Nat → Int) (W : World), MoS w.heap.size sb mb us a cap ds (some ⟨db, off, none⟩) cb F W → Calls Try.prog 38 #[.pointer (some ⟨sb, 0, none⟩), .int .i64 (mask : Int), .int .i64 (sp : Int)] W fun e w' => e = .returned (.int .i64 mm) ∧ (∃ F', MoS w.heap.size sb mb us a cap ds (some ⟨db, off, none⟩) cb F' w') ∧ Fr (fun q => q = mb) W w') := fun F W h => by rw [hmme]; exact HMb.out F W h
                            rw [← hmme] at HHit
                            clear hs1 hs2 hs3 hin hsl hinr hps htv hm2 hfl hDl cs hqv hse hdd hm2e hsp3 hsve hmoe hmme HRq HMb HMo hHi HFq HUq HSq HBq HNx HNm HNo HFacts
                            have HWs : Hid (IntKind.i64.wrap (sv + mo) = sv + mo) := wrap_id _ (by omega) (by omega)
                            have HOr : Hid (bits .or .i64 (mask : Int) (bitsN s : Int) = (m2 : Int)) := hor3
                            clear hor3
                            go_wp2_with fail
                            refine wp_region_held_drew (S := fun W => Fr (fun q => q = mb) wq W) (by kernel_rfl) (Fr.of (below_drew _)) (fun hH => ?_)
                            refine wpAnyH_take (i := 0) (v := .slice a us.length cap) rfl (by kernel_rfl) (by kernel_rfl) (by kernel_rfl) (fun _ _ _ h => h) (Or.inl ⟨by rfl, fun w hSw => by clear hSw; go_simp⟩) hH ?_
                            refine wpAnyH_take (i := 1) (v := .slice (some ⟨db, off, none⟩) ds.length cb) rfl (by kernel_rfl) (by kernel_rfl) (by kernel_rfl) (fun _ _ _ h => h) (Or.inl ⟨by rfl, fun w hSw => by clear hSw; go_simp⟩) hH ?_
                            try simp only [Act.put, List.setIfInBounds_toArray, List.set_cons_zero, List.set_cons_succ, List.getElem_toArray, List.getElem_cons_succ, List.getElem_cons_zero]
                            refine wpAnyH_take (i := 2) (v := .int .i64 (d : Int)) rfl (by kernel_rfl) (by kernel_rfl) (by kernel_rfl) (fun _ _ _ h => h) (Or.inl ⟨by rfl, fun w hSw => by clear hSw; go_simp⟩) hH ?_
                            try simp only [Act.put, List.setIfInBounds_toArray, List.set_cons_zero, List.set_cons_succ, List.getElem_toArray, List.getElem_cons_succ, List.getElem_cons_zero]
                            refine wpAnyH_take (i := 3) (v := .pointer (some ⟨db, off + d * 6, none⟩)) rfl (by kernel_rfl) (by kernel_rfl) (by kernel_rfl) (fun _ _ _ h => h) (Or.inl ⟨by rfl, fun w hSw => by clear hSw; go_simp⟩) hH ?_
                            try simp only [Act.put, List.setIfInBounds_toArray, List.set_cons_zero, List.set_cons_succ, List.getElem_toArray, List.getElem_cons_succ, List.getElem_cons_zero]
                            refine wpAnyH_take (i := 4) (v := .agg #[.string dd.nm, .int .i64 dd.kd, .slice dh dd.arts.length cpd, .int .i64 dd.nd, .int .i64 dd.vl, .bool dd.on]) rfl (by kernel_rfl) (by kernel_rfl) (by kernel_rfl) (fun _ _ _ h => h) (Or.inl ⟨by rfl, fun w hSw => by obtain ⟨f0, f1, f2, f3, f4, f5⟩ := (HCF.out _ hSw).1; clear hSw; go_simp⟩) hH ?_
                            try simp only [Act.put, List.setIfInBounds_toArray, List.set_cons_zero, List.set_cons_succ, List.getElem_toArray, List.getElem_cons_succ, List.getElem_cons_zero]
                            refine wpAnyH_take (i := 5) (v := .slice (some ⟨gb, 0, none⟩) L.length cp) rfl (by kernel_rfl) (by kernel_rfl) (by kernel_rfl) (fun _ _ _ h => h) (Or.inl ⟨by rfl, fun w hSw => by clear hSw; go_simp⟩) hH ?_
                            try simp only [Act.put, List.setIfInBounds_toArray, List.set_cons_zero, List.set_cons_succ, List.getElem_toArray, List.getElem_cons_succ, List.getElem_cons_zero]
                            refine wpAnyH_take (i := 6) (v := .int .i64 (i : Int)) rfl (by kernel_rfl) (by kernel_rfl) (by kernel_rfl) (fun _ _ _ h => h) (Or.inl ⟨by rfl, fun w hSw => by clear hSw; go_simp⟩) hH ?_
                            try simp only [Act.put, List.setIfInBounds_toArray, List.set_cons_zero, List.set_cons_succ, List.getElem_toArray, List.getElem_cons_succ, List.getElem_cons_zero]
                            refine wpAnyH_take (i := 7) (v := .pointer (some ⟨gb, i, none⟩)) rfl (by kernel_rfl) (by kernel_rfl) (by kernel_rfl) (fun _ _ _ h => h) (Or.inl ⟨by rfl, fun w hSw => by clear hSw; go_simp⟩) hH ?_
                            try simp only [Act.put, List.setIfInBounds_toArray, List.set_cons_zero, List.set_cons_succ, List.getElem_toArray, List.getElem_cons_succ, List.getElem_cons_zero]
                            refine wpAnyH_take (i := 8) (v := .slice sh s.length sc) rfl (by kernel_rfl) (by kernel_rfl) (by kernel_rfl) (fun _ _ _ h => h) (Or.inl ⟨by rfl, fun w hSw => by have f0 := (HCF.out _ hSw).2; clear hSw; go_simp⟩) hH ?_
                            try simp only [Act.put, List.setIfInBounds_toArray, List.set_cons_zero, List.set_cons_succ, List.getElem_toArray, List.getElem_cons_succ, List.getElem_cons_zero]
                            refine wpAnyH_take (i := 10) (v := .pointer (some ⟨sb, 0, none⟩)) rfl (by kernel_rfl) (by kernel_rfl) (by kernel_rfl) (fun _ _ _ h => h) (Or.inl ⟨by rfl, fun w hSw => by clear hSw; go_simp⟩) hH ?_
                            try simp only [Act.put, List.setIfInBounds_toArray, List.set_cons_zero, List.set_cons_succ, List.getElem_toArray, List.getElem_cons_succ, List.getElem_cons_zero]
                            refine wpAnyH_take (i := 11) (v := .int .i64 (mask : Int)) rfl (by kernel_rfl) (by kernel_rfl) (by kernel_rfl) (fun _ _ _ h => h) (Or.inl ⟨by rfl, fun w hSw => by clear hSw; go_simp⟩) hH ?_
                            try simp only [Act.put, List.setIfInBounds_toArray, List.set_cons_zero, List.set_cons_succ, List.getElem_toArray, List.getElem_cons_succ, List.getElem_cons_zero]
                            refine wpAnyH_take (i := 12) (v := .slice (some ⟨gb, 0, none⟩) L.length cp) rfl (by kernel_rfl) (by kernel_rfl) (by kernel_rfl) (fun _ _ _ h => h) (Or.inl ⟨by rfl, fun w hSw => by clear hSw; go_simp⟩) hH ?_
                            try simp only [Act.put, List.setIfInBounds_toArray, List.set_cons_zero, List.set_cons_succ, List.getElem_toArray, List.getElem_cons_succ, List.getElem_cons_zero]
                            refine wpAnyH_take (i := 13) (v := .int .i64 (i : Int)) rfl (by kernel_rfl) (by kernel_rfl) (by kernel_rfl) (fun _ _ _ h => h) (Or.inl ⟨by rfl, fun w hSw => by clear hSw; go_simp⟩) hH ?_
                            try simp only [Act.put, List.setIfInBounds_toArray, List.set_cons_zero, List.set_cons_succ, List.getElem_toArray, List.getElem_cons_succ, List.getElem_cons_zero]
                            refine wpAnyH_take (i := 14) (v := .pointer (some ⟨gb, i, none⟩)) rfl (by kernel_rfl) (by kernel_rfl) (by kernel_rfl) (fun _ _ _ h => h) (Or.inl ⟨by rfl, fun w hSw => by clear hSw; go_simp⟩) hH ?_
                            try simp only [Act.put, List.setIfInBounds_toArray, List.set_cons_zero, List.set_cons_succ, List.getElem_toArray, List.getElem_cons_succ, List.getElem_cons_zero]
                            refine wpAnyH_take (i := 15) (v := .slice sh s.length sc) rfl (by kernel_rfl) (by kernel_rfl) (by kernel_rfl) (fun _ _ _ h => h) (Or.inl ⟨by rfl, fun w hSw => by have f0 := (HCF.out _ hSw).2; clear hSw; go_simp⟩) hH ?_
                            try simp only [Act.put, List.setIfInBounds_toArray, List.set_cons_zero, List.set_cons_succ, List.getElem_toArray, List.getElem_cons_succ, List.getElem_cons_zero]
                            refine wpAnyH_take (i := 18) (v := .pointer (some ⟨sb, 0, none⟩)) rfl (by kernel_rfl) (by kernel_rfl) (by kernel_rfl) (fun _ _ _ h => h) (Or.inl ⟨by rfl, fun w hSw => by clear hSw; go_simp⟩) hH ?_
                            try simp only [Act.put, List.setIfInBounds_toArray, List.set_cons_zero, List.set_cons_succ, List.getElem_toArray, List.getElem_cons_succ, List.getElem_cons_zero]
                            refine wpAnyH_take (i := 19) (v := .int .i64 (sp : Int)) rfl (by kernel_rfl) (by kernel_rfl) (by kernel_rfl) (fun _ _ _ h => h) (Or.inl ⟨by rfl, fun w hSw => by clear hSw; go_simp⟩) hH ?_
                            try simp only [Act.put, List.setIfInBounds_toArray, List.set_cons_zero, List.set_cons_succ, List.getElem_toArray, List.getElem_cons_succ, List.getElem_cons_zero]
                            refine wpAnyH_take (i := 20) (v := .int .i64 (d : Int)) rfl (by kernel_rfl) (by kernel_rfl) (by kernel_rfl) (fun _ _ _ h => h) (Or.inl ⟨by rfl, fun w hSw => by clear hSw; go_simp⟩) hH ?_
                            try simp only [Act.put, List.setIfInBounds_toArray, List.set_cons_zero, List.set_cons_succ, List.getElem_toArray, List.getElem_cons_succ, List.getElem_cons_zero]
                            refine wpAnyH_take (i := 24) (v := .pointer (some ⟨sb, 0, none⟩)) rfl (by kernel_rfl) (by kernel_rfl) (by kernel_rfl) (fun _ _ _ h => h) (Or.inl ⟨by rfl, fun w hSw => by clear hSw; go_simp⟩) hH ?_
                            try simp only [Act.put, List.setIfInBounds_toArray, List.set_cons_zero, List.set_cons_succ, List.getElem_toArray, List.getElem_cons_succ, List.getElem_cons_zero]
                            refine wpAnyH_take (i := 25) (v := .int .i64 (mask : Int)) rfl (by kernel_rfl) (by kernel_rfl) (by kernel_rfl) (fun _ _ _ h => h) (Or.inl ⟨by rfl, fun w hSw => by clear hSw; go_simp⟩) hH ?_
                            try simp only [Act.put, List.setIfInBounds_toArray, List.set_cons_zero, List.set_cons_succ, List.getElem_toArray, List.getElem_cons_succ, List.getElem_cons_zero]
                            refine wpAnyH_take (i := 26) (v := .int .i64 (sp : Int)) rfl (by kernel_rfl) (by kernel_rfl) (by kernel_rfl) (fun _ _ _ h => h) (Or.inl ⟨by rfl, fun w hSw => by clear hSw; go_simp⟩) hH ?_
                            try simp only [Act.put, List.setIfInBounds_toArray, List.set_cons_zero, List.set_cons_succ, List.getElem_toArray, List.getElem_cons_succ, List.getElem_cons_zero]
                            refine wpAnyH_ready (rs := [9]) (by kernel_rfl) (by simp) ?_
                            refine AllReadyH.cons rfl (fun K hK => ?_) AllReadyH.nil
                            go_simp
                            go_at_call 40
                            refine (HSv.out _ (below_drew _)).mono ?_
                            rintro e w4q ⟨rfl, hb4⟩
                            have h4b : Below wq.heap.size wq w4q := chain (below_drew _) hb4
                            have h4 : Fr (fun q => q = mb) wq w4q := Fr.of h4b
                            clear hb4 hH
                            refine hK.out _ _ h4 (fun _ => ?_)
                            clear hK K
                            try simp only [Act.put, List.setIfInBounds_toArray, List.set_cons_zero, List.set_cons_succ, List.getElem_toArray, List.getElem_cons_succ, List.getElem_cons_zero]
                            refine wpAnyH_ready (rs := [16]) (by kernel_rfl) (by simp) ?_
                            refine AllReadyH.cons rfl (fun K hK => ?_) AllReadyH.nil
                            go_simp
                            go_at_call 41
                            refine (HMk.out w4q h4b).mono ?_
                            rintro e w5q ⟨rfl, h5⟩
                            rw [h5]
                            clear h5 w5q
                            refine hK.out _ _ h4 (fun _ => ?_)
                            clear hK K
                            try simp only [Act.put, List.setIfInBounds_toArray, List.set_cons_zero, List.set_cons_succ, List.getElem_toArray, List.getElem_cons_succ, List.getElem_cons_zero]
                            refine wpAnyH_take (i := 17) (v := .int .i64 (m2 : Int)) rfl (by kernel_rfl) (by kernel_rfl) (by kernel_rfl) (fun _ _ _ h => h) (Or.inl ⟨by rfl, fun w hSw => by have f0 := HOr.out; clear hSw; go_simp⟩) h4 ?_
                            try simp only [Act.put, List.setIfInBounds_toArray, List.set_cons_zero, List.set_cons_succ, List.getElem_toArray, List.getElem_cons_succ, List.getElem_cons_zero]
                            refine wpAnyH_ready (rs := [21]) (by kernel_rfl) (by simp) ?_
                            refine AllReadyH.cons rfl (fun K hK => ?_) AllReadyH.nil
                            go_simp
                            go_at_call 42
                            refine (HSt.out w4q h4b).mono ?_
                            rintro e w5q ⟨rfl, h5⟩
                            rw [h5]
                            clear h5 w5q
                            refine hK.out _ _ h4 (fun _ => ?_)
                            clear hK K
                            try simp only [Act.put, List.setIfInBounds_toArray, List.set_cons_zero, List.set_cons_succ, List.getElem_toArray, List.getElem_cons_succ, List.getElem_cons_zero]
                            refine wpAnyH_ready (rs := [22]) (by kernel_rfl) (by simp) ?_
                            refine AllReadyH.cons rfl (fun K hK => ?_) AllReadyH.nil
                            go_simp
                            go_at_call 38
                            refine (HMo2.out w4q h4b).mono ?_
                            rintro e w6q ⟨rfl, ⟨F6, hS6⟩, hf6⟩
                            have h6 := h4.trans hf6
                            have HS6 : Hid (MoS w.heap.size sb mb us a cap ds (some ⟨db, off, none⟩) cb F6 w6q) := hS6
                            clear hf6 hS6 h4 h4b
                            refine hK.out _ _ h6 (fun _ => ?_)
                            clear hK K
                            try simp only [Act.put, List.setIfInBounds_toArray, List.set_cons_zero, List.set_cons_succ, List.getElem_toArray, List.getElem_cons_succ, List.getElem_cons_zero]
                            refine wpAnyH_take (i := 23) (v := .int .i64 (sv + mo)) rfl (by kernel_rfl) (by kernel_rfl) (by kernel_rfl) (fun _ _ _ h => h) (Or.inl ⟨by rfl, fun w hSw => by have f0 := HWs.out; clear hSw; go_simp⟩) h6 ?_
                            try simp only [Act.put, List.setIfInBounds_toArray, List.set_cons_zero, List.set_cons_succ, List.getElem_toArray, List.getElem_cons_succ, List.getElem_cons_zero]
                            refine wpAnyH_ready (rs := [27]) (by kernel_rfl) (by simp) ?_
                            refine AllReadyH.cons rfl (fun K hK => ?_) AllReadyH.nil
                            go_simp
                            go_at_call 38
                            refine (HMm.out F6 w6q HS6.out).mono ?_
                            rintro e w7q ⟨rfl, ⟨F7, hS7⟩, hf7⟩
                            have h7 := h6.trans hf7
                            have HS7 : Hid (MoS w.heap.size sb mb us a cap ds (some ⟨db, off, none⟩) cb F7 w7q) := hS7
                            clear hf7 hS7 h6 HS6
                            refine hK.out _ _ h7 (fun _ => ?_)
                            clear hK K
                            try simp only [Act.put, List.setIfInBounds_toArray, List.set_cons_zero, List.set_cons_succ, List.getElem_toArray, List.getElem_cons_succ, List.getElem_cons_zero]
                            refine wpAnyH_take (i := 28) (v := .bool (sv + mo == mm)) rfl (by kernel_rfl) (by kernel_rfl) (by kernel_rfl) (fun _ _ _ h => h) (Or.inl ⟨by rfl, fun w hSw => by clear hSw; go_simp⟩) h7 ?_
                            try simp only [Act.put, List.setIfInBounds_toArray, List.set_cons_zero, List.set_cons_succ, List.getElem_toArray, List.getElem_cons_succ, List.getElem_cons_zero]
                            refine wpAnyH_done (by kernel_rfl) ?_ _
                            have HE7 : Hid (SetR wd.heap.size (.slice (some ⟨gb, 0, none⟩) L.length cp) L E w7q ∧ Fr (fun q => q = mb) w3 w7q ∧ UseR B1 (.slice va U.length vc) U C w7q ∧ UB B1 ub none w7q ∧ RI w7q sh s) := HRn2.out w7q h7
                            have c1 : w7q.cell? ⟨gb, i, none⟩ = some (.slice sh s.length sc) := (HCF.out w7q h7).2
                            clear h7 HSv HMk HSt HMo2 HMm HCF HRn2 z0
                            by_cases hhit : sv + mo = mm
                            · have hb1 : (sv + mo == mm) = true := by simpa using hhit
                              have HFn : Hid (L.find? (hitK us ds mask sp d) = some s) := HFd0.out (by rw [HHit.out, decide_eq_true hhit])
                              have HH : Hid (UB B1 ub (some (d, s)) (((w7q.setCell ⟨ub, 0, none⟩ (.int .i64 (d : Int))).setCell ⟨ub, 1, none⟩ (.int .i64 0)).setCell ⟨ub, 2, none⟩ (.slice sh s.length sc)) ∧ UseR B1 (.slice va U.length vc) U C (((w7q.setCell ⟨ub, 0, none⟩ (.int .i64 (d : Int))).setCell ⟨ub, 1, none⟩ (.int .i64 0)).setCell ⟨ub, 2, none⟩ (.slice sh s.length sc)) ∧ MoS w.heap.size sb mb us a cap ds (some ⟨db, off, none⟩) cb F7 (((w7q.setCell ⟨ub, 0, none⟩ (.int .i64 (d : Int))).setCell ⟨ub, 1, none⟩ (.int .i64 0)).setCell ⟨ub, 2, none⟩ (.slice sh s.length sc)) ∧ Fr (fun q => q = mb) w3 (((w7q.setCell ⟨ub, 0, none⟩ (.int .i64 (d : Int))).setCell ⟨ub, 1, none⟩ (.int .i64 0)).setCell ⟨ub, 2, none⟩ (.slice sh s.length sc)) ∧ SetR wd.heap.size (.slice (some ⟨gb, 0, none⟩) L.length cp) L E (((w7q.setCell ⟨ub, 0, none⟩ (.int .i64 (d : Int))).setCell ⟨ub, 1, none⟩ (.int .i64 0)).setCell ⟨ub, 2, none⟩ (.slice sh s.length sc))) := best_hit (show w7q.heap[ub]? = some (.cells #[.int .i64 (-1), .int .i64 0, .slice none 0 0] 36 (0, 0)) from HE7.out.2.2.2.1) rfl HE7.out.2.2.1 HV.out HS7.out hB1 hB5 HE7.out.2.1 HEq.out HE7.out.1 HLow.out.1 HE7.out.2.2.2.2 HLow.out.2 _ rfl
                              have hblk : w7q.heap[ub]? = some (.cells #[.int .i64 (-1), .int .i64 0, .slice none 0 0] 36 (0, 0)) := HE7.out.2.2.2.1
                              have z0 := blkCell hblk 0 _ rfl
                              have z1 := blkCell hblk 1 _ rfl
                              have z2 := blkCell hblk 2 _ rfl
                              have y0 := blkFree hblk 0
                              have y1 := blkFree hblk 1
                              have y2 := blkFree hblk 2
                              clear hblk hhit HE7 HS7 HFd0 HNo2 HHit
                              go_wp2
                              first
                                | exact ⟨⟨i + 1, F7, some s, hil, by go_num, (fun h => by cases h), (fun s' e => by rw [← Option.some.inj e]; exact HFn.out), HH.out.1, HH.out.2.1, HH.out.2.2.1, HH.out.2.2.2.1, HH.out.2.2.2.2⟩, by simp [intOf]; omega⟩
                                | (go_roundw
                                   case rel => exact ⟨i + 1, F7, some s, hil, by go_num, (fun h => by cases h), (fun s' e => by rw [← Option.some.inj e]; exact HFn.out), HH.out.1, HH.out.2.1, HH.out.2.2.1, HH.out.2.2.2.1, HH.out.2.2.2.2⟩
                                   case measure => simp [intOf]; omega)
                            · have hb1 : (sv + mo == mm) = false := by simpa using hhit
                              have HNj : Hid (∀ j, j < i + 1 → hitK us ds mask sp d (L.getD j []) = false) := HNo2.out (by rw [HHit.out, decide_eq_false hhit])
                              clear hhit HFd0 HNo2 HHit c1
                              go_wp2
                              first
                                | exact ⟨⟨i + 1, F7, none, hil, by go_num, (fun _ => HNj.out), (fun s' e => by cases e), HE7.out.2.2.2.1, HE7.out.2.2.1, HS7.out, HE7.out.2.1, HE7.out.1⟩, by simp [intOf]; omega⟩
                                | (go_roundw
                                   case rel => exact ⟨i + 1, F7, none, hil, by go_num, (fun _ => HNj.out), (fun s' e => by cases e), HE7.out.2.2.2.1, HE7.out.2.2.1, HS7.out, HE7.out.2.1, HE7.out.1⟩
                                   case measure => simp [intOf]; omega)
                          · have hil' : ¬ ((i : Int) < (L.length : Int)) := by omega
                            have HJn : Hid (useJ us ds mask sp (x :: l) (d + 1) = none) := HNm.out (find_no (fun j hj => HNo.out j (by omega)))
                            clear HNx HNm HFacts HMb HMo HNo
                            go_wp2
                            first
                              | exact ⟨⟨d + 1, Fi, none, hlt, by go_num, HJn.out, HBq.out, HUq.out, HSq.out, HFq.out⟩, by simp [intOf]; omega⟩
                              | (go_roundw
                                 case rel => exact ⟨d + 1, Fi, none, hlt, by go_num, HJn.out, HBq.out, HUq.out, HSq.out, HFq.out⟩
                                 case measure => simp [intOf]; omega)
                    · rw [hbit, if_pos rfl] at hsh2
                      have hsh3 : bits .and .i64 ((sp : Int) / 2 ^ d) 1 = (1 : Int) := by rw [hsh2]; rfl
                      have HJn : Hid (useJ us ds mask sp (x :: l) (d + 1) = none) := useJ_off HJ0.out hbit
                      clear hsh2 hbit HJ0
                      go_wp2
                      first
                        | exact ⟨⟨d + 1, Fd, none, hlt, by go_num, HJn.out, HBd.out, HUd.out, HSd.out, HFd.out⟩, by simp [intOf]; omega⟩
                        | (go_roundw
                           case rel => exact ⟨d + 1, Fd, none, hlt, by go_num, HJn.out, HBd.out, HUd.out, HSd.out, HFd.out⟩
                           case measure => simp [intOf]; omega)
                  · have hde : d = ds.length := by omega
                    rw [hde, HBn.out] at hJ
                    cases hJ
          · rw [hbit, if_pos rfl] at hsh
            have hsh1 : bits .and .i64 ((mask : Int) / 2 ^ x) 1 = (1 : Int) := by rw [hsh]; rfl
            have HRn : Hid (BsR us ds (x + 1) mask sp U) := HR.out.bit hbit
            rw [or_same hbit] at hor
            clear hsh hbit
            go_wp2
            first
              | exact ⟨⟨x + 1, mask, sp, U, C, F, va, vc, hx, by go_num, by first | rfl | rw [hor], rfl, rfl, HRn.out, HUx.out, HSx.out, HFx.out⟩, by simp [intOf]; omega⟩
              | (go_roundw
                 case rel => exact ⟨x + 1, mask, sp, U, C, F, va, vc, hx, by go_num, by first | rfl | rw [hor], rfl, rfl, HRn.out, HUx.out, HSx.out, HFx.out⟩
                 case measure => simp [intOf]; omega)
        · obtain rfl : x = us.length := by omega
          have hnn : ¬ ((us.length : Int) < (us.length : Int)) := by omega
          have HUe : Hid (U = (sr us ds (List.range us.length) 0).us) := by
            have e := HR.out.eq
            rw [freeL_nil HR.out.up, sr_nil] at e
            show _ = _
            rw [e]; simp
          have HBx : Hid (Below w.heap.size w wx) := Fr.below HB3.out.1 HFx.out HB3.out.1.size (fun q hq => by omega)
          have HUr : Hid (ReadsUs wx.heap.size wx va ((sr us ds (List.range us.length) 0).us.map cuOf)) := by show ReadsUs _ _ _ _; rw [← HUe.out]; exact HUx.out.reads
          have HC : Hid (Calls Try.prog 25 #[.slice a us.length cap, .slice b ds.length cb, .slice va U.length vc] wx (AnsP us ds (bsU us ds) wx)) := by
            have := HPr.out wx va vc HBx.out HUr.out
            rw [← HUe.out] at this
            exact this
          have HRx : Hid (wx.rowIs w.heap.size 29 3 (bgF 0 0 (.slice none 0 0))) := HBr.out.of_block (HFx.out.block _ HBr.out.lt (by omega))
          have hlo : w.heap.size < wx.heap.size := HRx.out.lt
          clear HPr HUr HUe HR HUx HSx HFx HMo HRu HBr HB3 HEq HSb hi hi0 hi1 hi2
          go_wp2_with fail
          (first | go_at_call 25 | skip)
          refine HC.out.mono ?_
          rintro e w7 ⟨q, cq, rfl, ho, hb7⟩
          have HB7 : Hid (Below w.heap.size w w7) := chain HBx.out hb7
          have HR7 : Hid (w7.rowIs w.heap.size 29 3 (bgF 0 0 (.slice none 0 0))) := HRx.out.of_block (hb7.block _ HRx.out.lt)
          have HO7 : Hid (∀ v0 v1 v2, OwnUs w.heap.size (((w7.setCell ⟨w.heap.size, 0, none⟩ v0).setCell ⟨w.heap.size, 1, none⟩ v1).setCell ⟨w.heap.size, 2, none⟩ v2) q (ptold us ds (bsU us ds))) := fun v0 v1 v2 => ownUs_low (ownUs_low (ownUs_low ho hlo 0 v0) hlo 1 v1) hlo 2 v2 |>.mono (by omega)
          have z0 : w7.cell? ⟨w.heap.size, 0, none⟩ = some (.int .i64 0) := HR7.out.cell (i := 0) (by omega)
          have z1 : w7.cell? ⟨w.heap.size, 1, none⟩ = some (.int .i64 0) := HR7.out.cell (i := 1) (by omega)
          have z2 : w7.cell? ⟨w.heap.size, 2, none⟩ = some (.slice none 0 0) := HR7.out.cell (i := 2) (by omega)
          have y0 := HR7.out.frozen 0
          have y1 := HR7.out.frozen 1
          have y2 := HR7.out.frozen 2
          have HFin : Hid (∀ w', OwnUs w.heap.size w' q (ptold us ds (bsU us ds)) → Below w.heap.size w w' → AnsP us ds (bsU us ds) w (.returned (.tuple #[.agg #[.int .i64 (ptot us ds (bsU us ds)), .int .i64 (psav us ds (bsU us ds)), .slice q (ptold us ds (bsU us ds)).length cq], .int .i64 (pcode us ds (bsU us ds))])) w') := fun w' x y => ⟨q, cq, rfl, x, y⟩
          clear ho hb7 HC HRx HBx
          obtain ⟨t0, ht0⟩ : ∃ t0, t0 = ptot us ds (bsU us ds) := ⟨_, rfl⟩
          obtain ⟨s0, hs0⟩ : ∃ s0, s0 = psav us ds (bsU us ds) := ⟨_, rfl⟩
          obtain ⟨c0, hc0⟩ : ∃ c0, c0 = pcode us ds (bsU us ds) := ⟨_, rfl⟩
          obtain ⟨P0, hP0⟩ : ∃ P0, P0 = ptold us ds (bsU us ds) := ⟨_, rfl⟩
          rw [← ht0, ← hs0, ← hc0, ← hP0] at HFin ⊢
          rw [← hP0] at HO7
          clear ht0 hs0 hc0 hP0 HNz
          go_wp2
          refine bodyPost_ret (v := .tuple #[.agg #[.int .i64 t0, .int .i64 s0, .slice q P0.length cq], .int .i64 c0]) (by simp [results, Try.results11, go_sem, z0, z1, z2]) rfl ?_
          refine HFin.out _ (HO7.out _ _ _) ?_
          repeat refine Below.setCell ?_ (by dsimp only; omega) _
          exact HB7.out
end Go.Proofs.Ytbijgoaanphojaa
