/-
  Texts of this claim laid together: BhA.
-/
import Derived.Test.YtkfmifbffgbiiaaM28
import Derived.BigQuiet
import Derived.Deep.QuietTactic
/-
  Contracts of the specification's l05Units, l05Sum, l05Saves.
-/
namespace Go.Proofs.Ytkfmifbffgbiiaa
open Go.ChangeShapes Go.WideShapes Go.ChangeAt Go.RowKit
set_option linter.unusedVariables false


set_option maxHeartbeats 2000000 in
theorem specUnits_any (a : Option Addr) (cap : Nat) (us : List RUn) (hl : us.length ≤ 100000000) (hp : ∀ r ∈ us, UnOK r) (w : World) (hr : ReadsUn w.heap.size w a us) :
    Calls Try.prog 27 #[.slice a us.length cap] w fun e w' => e = .returned (.bool (unAll us)) ∧ Below w.heap.size w w' := by
  have HR : Hid (ReadsUn w.heap.size w a us) := hr
  have HOK : Hid (∀ r ∈ us, UnOK r) := hp
  clear hr hp
  by_cases h8 : (8 : Int) < (us.length : Int)
  · have HA : Hid (unAll us = false) := by show _ = _; unfold unAll; rw [decide_eq_false (by omega)]; rfl
    go_enter Try.func27, Try.ntmps27
    go_wp2
    go_ret
    exact ⟨ret_bool HA.out.symm, Below.refl _ _⟩
  have HA : Hid (unAll us = us.all unOne) := by show _ = _; unfold unAll; rw [decide_eq_true (by omega)]; rfl
  go_enter Try.func27, Try.ntmps27
  go_wp2
  go_loopw [3] (fun c wr => ∃ k : Nat, k ≤ us.length ∧ c = .int .i64 (k : Int) ∧ (us.take k).all unOne = true ∧ Below w.heap.size w wr) (fun c _ => us.length - (intOf c).toNat)
  case atStart => exact ⟨0, Nat.zero_le _, rfl, rfl, Below.refl _ _⟩
  case round =>
    obtain ⟨k, hk, rfl, hf, hb⟩ := hrel
    have HF : Hid ((us.take k).all unOne = true) := hf
    have HB : Hid (Below w.heap.size w wr) := hb
    clear hf hb
    by_cases hlt : k < us.length
    · have hlt' : (k : Int) < (us.length : Int) := by omega
      rcases HR.out with h | ⟨b0, o0, ha, hB0, ia⟩
      · rw [h] at hlt; simp at hlt
      obtain ⟨c0, c1⟩ := (ia.below HB.out hB0) k hlt
      have hW : UnOK (us.getD k zUn) := getUn HOK.out hlt
      have HX : Hid (unOne (us.getD k zUn) = false → unAll us = false) := fun h => HA.out.trans (uns_fail hlt h)
      have HN : Hid (unOne (us.getD k zUn) = true → (us.take (k + 1)).all unOne = true) := fun h => by rw [uns_take unOne us k hlt, HF.out, h]; rfl
      subst ha
      clear ia
      generalize us.getD k zUn = q at *
      obtain ⟨qa, qp⟩ := q
      dsimp only at c0 c1
      have hqa : qa.size ≤ 2000000 := hW
      have HNa : Hid (∀ b, nameB qa = b → ∀ w, Calls Try.prog 51 #[.string qa] w fun e w' => e = .returned (.bool b) ∧ w' = w) := fun b h w => h ▸ specName_any qa (by unfold maxLen; omega) w
      have HL : Hid (∀ b, inB qp 0 100000000 = b → ∀ w, Calls Try.prog 52 #[.int .i64 qp, .int .i64 0, .int .i64 100000000] w fun e w' => e = .returned (.bool b) ∧ w' = w) := fun b h w => h ▸ in_any qp 0 100000000 w
      clear hW
      rcases unOne_ways qa qp with ⟨h1, hE⟩ | ⟨h1, _, h3, hE⟩ | ⟨h1, _, _, h3, hE⟩ | ⟨h1, _, _, h3, hE⟩
      all_goals
        have H1 : Hid _ := HNa.out _ h1
        clear h1 HNa
        try (have H3 : Hid _ := HL.out _ h3; clear h3)
        clear HL
        first
        | (have HE : Hid (unAll us = false) := HX.out hE
           clear hE
           go_wp2_with (first | (go_at_call 51; refine (H1.out _).mono ?_; rintro e w1 ⟨rfl, rfl⟩) | (go_at_call 52; refine (H3.out _).mono ?_; rintro e w2 ⟨rfl, rfl⟩))
           go_ret
           exact ⟨ret_bool HE.out.symm, HB.out⟩)
        | (have HE : Hid ((us.take (k + 1)).all unOne = true) := HN.out hE
           clear hE
           go_wp2_with (first | (go_at_call 51; refine (H1.out _).mono ?_; rintro e w1 ⟨rfl, rfl⟩) | (go_at_call 52; refine (H3.out _).mono ?_; rintro e w2 ⟨rfl, rfl⟩))
           go_roundw
           case rel => exact ⟨k + 1, by omega, by go_num, HE.out, HB.out⟩
           case measure => simp [intOf]; omega)
    · have hle : (us.length : Int) ≤ (k : Int) := by omega
      have HE : Hid (unAll us = true) := by have := HF.out; rw [List.take_of_length_le (by omega)] at this; exact HA.out.trans this
      go_wp2
      go_ret
      exact ⟨ret_bool HE.out.symm, HB.out⟩


set_option maxHeartbeats 2000000 in
theorem specSum_any (a : Option Addr) (cap : Nat) (us : List RUn) (hl : us.length ≤ 8) (hup : UnPr us) (w : World) (hr : ReadsUn w.heap.size w a us) :
    Calls Try.prog 29 #[.slice a us.length cap] w fun e w' => e = .returned (.int .i64 (sumU us)) ∧ w' = w := by
  have HR : Hid (ReadsUn w.heap.size w a us) := hr
  have HUp : Hid (UnPr us) := hup
  clear hr hup
  go_enter Try.func29, Try.ntmps29
  go_wp2
  go_loop [3, 4] (fun s c => ∃ k : Nat, k ≤ us.length ∧ c = .int .i64 (k : Int) ∧ s = .int .i64 ((us.take k).map (·.pr)).sum) (fun _ c => us.length - (intOf c).toNat)
  case atStart => exact ⟨0, Nat.zero_le _, rfl, rfl⟩
  case round =>
    obtain ⟨k, hk, rfl, rfl⟩ := hrel
    by_cases hlt : k < us.length
    · have hlt' : (k : Int) < (us.length : Int) := by omega
      rcases HR.out with h | ⟨b0, o0, ha, hB0, ia⟩
      · rw [h] at hlt; simp at hlt
      obtain ⟨c0, c1⟩ := ia k hlt
      have hb1 := sumN_bound HUp.out k
      have hb2 := getUn HUp.out hlt
      have HNx : Hid (((us.take (k + 1)).map (·.pr)).sum = ((us.take k).map (·.pr)).sum + (us.getD k zUn).pr) := sumN_next us k hlt
      subst ha
      clear ia
      generalize ((us.take k).map (·.pr)).sum = s at *
      generalize us.getD k zUn = q at *
      obtain ⟨qa, qp⟩ := q
      dsimp only at *
      have hwr : IntKind.i64.wrap (s + qp) = s + qp := wrap_id _ (by omega) (by omega)
      go_wp2
      go_round
      case rel => exact ⟨k + 1, by omega, by go_num, by rw [HNx.out]⟩
      case measure => simp [intOf]; omega
    · obtain rfl : k = us.length := by omega
      have HE : Hid (((us.take us.length).map (·.pr)).sum = sumU us) := by show _ = _; rw [List.take_length]; rfl
      rw [HE.out]
      go_wp2
      go_ret
      exact ⟨rfl, rfl⟩


set_option maxHeartbeats 4000000 in
theorem specSaves_any (a : Option Addr) (cap : Nat) (us : List RUn) (hl : us.length ≤ 8) (c : CDl) (h : Option Addr) (cp : Nat) (b : Option Addr) (cb : Nat) (ns : List Int) (hin : InR us ns) (hps : PsOK (ns.map (prAt us))) (htv : TvOK c.kd c.vl) (w : World) (hr : ReadsUn w.heap.size w a us) (ks : Reads w.heap.size w b ns) :
    Calls Try.prog 31 #[.slice a us.length cap, .agg #[.string c.nm, .int .i64 c.kd, .slice h c.arts.length cp, .int .i64 c.nd, .int .i64 c.vl, .bool c.on], .slice b ns.length cb] w fun e w' => e = .returned (.int .i64 (svB c.kd c.vl (ns.map (prAt us)))) ∧ Below w.heap.size w w' := by
  have HR : Hid (ReadsUn w.heap.size w a us) := hr
  have HK : Hid (Reads w.heap.size w b ns) := ks
  have HI : Hid (InR us ns) := hin
  have hns : 1 ≤ ns.length ∧ ns.length ≤ 4 := by have := hps.1; rwa [List.length_map] at this
  have HPs : Hid (PsOK (ns.map (prAt us))) := hps
  have HW := svB_ways c.kd c.vl _ _ (ns.map (prAt us)) rfl rfl
  have HG : Hid (∀ i, i < ns.length → (ns.map (prAt us)).getD i 0 = prAt us (ns.getD i 0)) := fun i hi => by simp [List.getD_eq_getElem?_getD, hi]
  clear hr ks hin hps
  rcases HK.out with hz | ⟨b1, o1, hb1, hB1, ib⟩
  · rw [hz] at hns; simp at hns
  subst hb1
  obtain ⟨x0, x1⟩ := HI.out _ (show ns.getD 0 0 ∈ ns by rw [show ns.getD 0 0 = ns[0] by simp [List.getD_eq_getElem?_getD, show 0 < ns.length by omega]]; exact List.getElem_mem _)
  rcases HR.out with hz | ⟨b0, o0, hb0, hB0, ia⟩
  · have hu0 : us.length = 0 := by rw [hz]; rfl
    omega
  subst hb0
  obtain ⟨v0, v1, v2⟩ := htv
  obtain ⟨nm, kd, arts, nd, vl, on⟩ := c
  dsimp only at *
  obtain ⟨m0, hm0⟩ : ∃ m : Nat, ns.getD 0 0 = (m : Int) := ⟨(ns.getD 0 0).toNat, by omega⟩
  have d0 := (ib.below (below_alloc w (Obj.cells #[.string nm, .int .i64 kd, .slice h arts.length cp, .int .i64 nd, .int .i64 vl, .bool on] 39)) hB1) 0 (by omega)
  rw [Nat.add_zero, hm0] at d0
  obtain ⟨_, c1⟩ := (ia.below (below_alloc w (Obj.cells #[.string nm, .int .i64 kd, .slice h arts.length cp, .int .i64 nd, .int .i64 vl, .bool on] 39)) hB0) m0 (by omega)
  have HM0 : Hid ((us.getD m0 zUn).pr = minN (ns.map (prAt us)) 0) := by
    show _ = (ns.map (prAt us)).getD 0 0
    rw [HG.out 0 (by omega), hm0]; unfold prAt; rw [Int.toNat_natCast]
  have hx1 : (m0 : Int) < (us.length : Int) := by omega
  have hn0 : (0 : Int) < (ns.length : Int) := by omega
  rw [HM0.out] at c1
  have q1 : (w.alloc (Obj.cells #[.string nm, .int .i64 kd, .slice h arts.length cp, .int .i64 nd, .int .i64 vl, .bool on] 39)).cell? ⟨w.heap.size, 1, none⟩ = some (.int .i64 kd) := cellNew _ _ _ _ rfl rfl
  have q4 : (w.alloc (Obj.cells #[.string nm, .int .i64 kd, .slice h arts.length cp, .int .i64 nd, .int .i64 vl, .bool on] 39)).cell? ⟨w.heap.size, 4, none⟩ = some (.int .i64 vl) := cellNew _ _ _ _ rfl rfl
  have HIb : Hid (IntsAt (w.alloc (Obj.cells #[.string nm, .int .i64 kd, .slice h arts.length cp, .int .i64 nd, .int .i64 vl, .bool on] 39)) b1 o1 ns) := ib.below (below_alloc _ _) hB1
  have HIa : Hid (UnsAt (w.alloc (Obj.cells #[.string nm, .int .i64 kd, .slice h arts.length cp, .int .i64 nd, .int .i64 vl, .bool on] 39)) b0 o0 us) := ia.below (below_alloc _ _) hB0
  have HBa : Hid (Below w.heap.size w (w.alloc (Obj.cells #[.string nm, .int .i64 kd, .slice h arts.length cp, .int .i64 nd, .int .i64 vl, .bool on] 39))) := below_alloc _ _
  clear ia ib x0 x1 hm0 HM0
  generalize hps : ns.map (prAt us) = ps at *
  have hpl : ps.length = ns.length := by rw [← hps, List.length_map]
  have HPl : Hid (ps.length = ns.length) := hpl
  clear hpl
  have HPd : Hid (∀ i, i < ns.length → ps.getD i 0 = prAt us (ns.getD i 0)) := HG.out
  clear HG hps
  generalize arts.length = an at *
  go_enter Try.func31, Try.ntmps31
  go_wp2
  generalize w.alloc (Obj.cells #[.string nm, .int .i64 kd, .slice h an cp, .int .i64 nd, .int .i64 vl, .bool on] 39) = W1 at *
  go_loop [7, 8, 9] (fun s l c => ∃ k : Nat, k ≤ ns.length ∧ c = .int .i64 (k : Int) ∧ s = .int .i64 (ps.take k).sum ∧ l = .int .i64 (minN ps k)) (fun _ _ c => ns.length - (intOf c).toNat)
  case atStart => exact ⟨0, Nat.zero_le _, rfl, rfl, rfl⟩
  case round =>
    clear d0 c1
    obtain ⟨k, hk, rfl, rfl, rfl⟩ := hrel
    by_cases hlt : k < ns.length
    · have hlt' : (k : Int) < (ns.length : Int) := by omega
      obtain ⟨x0, x1⟩ := HI.out _ (show ns.getD k 0 ∈ ns by rw [show ns.getD k 0 = ns[k] by simp [List.getD_eq_getElem?_getD, hlt]]; exact List.getElem_mem _)
      obtain ⟨m, hm⟩ : ∃ m : Nat, ns.getD k 0 = (m : Int) := ⟨(ns.getD k 0).toNat, by omega⟩
      have d0 := HIb.out k hlt
      rw [hm] at d0
      obtain ⟨_, c1⟩ := HIa.out m (by omega)
      have hx1 : (m : Int) < (us.length : Int) := by omega
      have HPk : Hid (ps.getD k 0 = (us.getD m zUn).pr) := by show _ = _; rw [HPd.out k hlt, hm]; unfold prAt; rw [Int.toNat_natCast]
      have hb1 := sum_take_bound ps HPs.out.2 k
      have hb2 := getD_bound HPs.out.2 k (by rw [HPl.out]; exact hlt)
      have HS : Hid ((ps.take (k + 1)).sum = (ps.take k).sum + ps.getD k 0) := sum_next ps k (by rw [HPl.out]; exact hlt)
      have HM : Hid (minN ps (k + 1) = if ps.getD k 0 < minN ps k then ps.getD k 0 else minN ps k) := rfl
      have hpl4 : (ps.length : Int) ≤ 4 := by have := HPl.out; omega
      rw [HPk.out] at HS HM hb2
      clear hm x0 x1 HPk
      generalize (ps.take k).sum = s at *
      generalize minN ps k = l at *
      generalize (us.getD m zUn).pr = p at *
      have hwr : IntKind.i64.wrap (s + p) = s + p := wrap_id _ (by omega) (by omega)
      go_wp2
      exact ⟨⟨k + 1, by omega, by go_num, by rw [HS.out], by rw [HM.out]; first | rfl | (congr 1; rw [Int.min_def]; split <;> split <;> omega)⟩, by simp [intOf]; omega⟩
    · obtain rfl : k = ns.length := by omega
      have HT1 : Hid ((ps.take ns.length).sum = ps.sum) := by show _ = _; rw [← HPl.out, List.take_length]
      have HT2 : Hid (minN ps ns.length = minN ps ps.length) := by show _ = _; rw [HPl.out]
      rw [HT1.out, HT2.out]
      have hb := sum_take_bound ps HPs.out.2 ps.length
      rw [List.take_length] at hb
      have hpl4 : (ps.length : Int) ≤ 4 := by have := HPl.out; omega
      clear HT1 HT2 HPs HPd HI HIa HIb HR HK
      generalize hmn : minN ps ps.length = mn at *
      generalize hss : ps.sum = s at *
      clear hmn hss
      rcases HW with ⟨rfl, e⟩ | ⟨rfl, e⟩ | ⟨rfl, e⟩ | ⟨k1, k2, k3, e⟩
      · have HEq : Hid (svB 1 vl ps = (s * vl).tdiv 100) := e
        have hsm := sv_small (s := s) (vl := vl) (by omega) (by omega) v0 (v2 rfl)
        have HW1 : Hid (IntKind.i64.wrap (s * vl) = s * vl) := wrap_id _ (by omega) (by omega)
        have HW2 : Hid (IntKind.i64.wrap ((s * vl).tdiv 100) = (s * vl).tdiv 100) := by
          show _ = _
          rw [Int.tdiv_eq_ediv_of_nonneg hsm.1]; exact wrap_id _ (by omega) (by omega)
        clear v2 hsm e
        go_wp2
        go_ret
        refine ⟨ret_int ?_, HBa.out⟩
        rw [HEq.out]
        first
        | rfl
        | rw [← IntWalk.i64_left, ← IntWalk.i64_left, HW1.out, HW2.out]
      · have HEq : Hid (svB 2 vl ps = if s - vl < 0 then 0 else s - vl) := e
        have hw1 : IntKind.i64.wrap (s - vl) = s - vl := wrap_id _ (by omega) (by omega)
        clear v2 e
        go_wp2
        all_goals
          go_ret
          refine ⟨ret_int ?_, HBa.out⟩
          rw [HEq.out]
          first | rfl | omega | (split <;> omega) | (split <;> split <;> omega)
      · have HEq : Hid (svB 3 vl ps = mn) := e
        clear v2 e
        go_wp2
        go_ret
        exact ⟨ret_int HEq.out.symm, HBa.out⟩
      · have HEq : Hid (svB kd vl ps = if s < vl then s else vl) := e
        clear v2 e
        go_wp2
        all_goals
          go_ret
          refine ⟨ret_int ?_, HBa.out⟩
          rw [HEq.out]
          first | rfl | omega | (split <;> omega) | (split <;> split <;> omega)

end Go.Proofs.Ytkfmifbffgbiiaa
