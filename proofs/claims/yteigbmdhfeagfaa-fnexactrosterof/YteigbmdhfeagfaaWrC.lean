/-
  Contract of the specification's ShiftsOK, for all lists.
-/
import Derived.Test.YteigbmdhfeagfaaWrB
import Derived.Test.YteigbmdhfeagfaaRate
import Derived.BigQuiet
import Derived.Deep.QuietTactic
namespace Go.Proofs.Yteigbmdhfeagfaa
open Go.ChangeShapes Go.WideShapes Go.ChangeAt Go.RowKit Go.Deep
set_option linter.unusedVariables false

theorem ro_shift {rs : List RSf} {ws : List CWk} {k : Nat} (h : k < rs.length) (hq : sfB (rs.getD k zSf) = false) : roB rs ws = false := by
  unfold roB
  rw [sfs_fail h hq, Bool.false_and, Bool.and_false]
  split <;> rfl
theorem ro_order {rs : List RSf} {ws : List CWk} {k : Nat} (h1 : 1 ≤ k) (h : k < rs.length) (hq : srP rs k = false) : roB rs ws = false := by
  unfold roB
  rw [sr_fail h1 h hq, Bool.false_and]
  split <;> rfl
theorem wkNames_getD (cs : List CWk) (k : Nat) : (cs.map (·.nm)).getD k ByteArray.empty = (cs.getD k zWk).nm := by
  simp only [List.getD_eq_getElem?_getD, List.getElem?_map]
  cases cs[k]? <;> rfl
theorem ro_name {rs : List RSf} {cs : List CWk} {k : Nat} (h : k < cs.length) (hq : nameB (cs.getD k zWk).nm = false ∨ hasB ((cs.map (·.nm)).take k) (cs.getD k zWk).nm = true) : roB rs cs = false := by
  unfold roB
  rw [← wkNames_getD] at hq
  rw [diffN_stop (by rw [List.length_map]; exact h) hq, Bool.false_and, Bool.and_false, Bool.and_false]
  split <;> rfl
theorem ro_one {rs : List RSf} {cs : List CWk} {k : Nat} (h : k < cs.length) (hq : wkOne (cs.getD k zWk) = false) : roB rs cs = false := by
  unfold roB
  rw [wks_fail h hq, Bool.and_false, Bool.and_false, Bool.and_false]
  split <;> rfl
theorem ro_end {rs : List RSf} {cs : List CWk} (h8 : rs.length ≤ 8) (h5 : cs.length ≤ 5) (h0 : ∀ j, 1 ≤ j → j < rs.length → srP rs j = true) (hs : sfsB (rs.take rs.length) = true) (h1 : diffN (cs.map (·.nm)) cs.length = true) (h2 : (cs.take cs.length).all wkOne = true) : roB rs cs = true := by
  unfold roB diffB
  rw [List.length_map, h1, if_neg (by omega)]
  rw [List.take_length] at h2 hs
  rw [h2, hs, sr_all h0]; rfl
theorem wkOne_long {c : CWk} (h : 6 < c.sk.length) : wkOne c = false := by unfold wkOne; rw [if_pos h]
theorem wkOne_ms {c : CWk} (h : inB c.ms 0 10080 = false) : wkOne c = false := by unfold wkOne; rw [al_pair, h]; simp
theorem wkOne_rt {c : CWk} (h : inB c.rt 0 10080 = false) : wkOne c = false := by unfold wkOne; rw [al_pair, h]; simp
theorem wkOne_co {c : CWk} (h : inB c.co 0 1000 = false) : wkOne c = false := by unfold wkOne; rw [h]; simp
theorem wkOne_sk {c : CWk} (h : nmsB c.sk = false) : wkOne c = false := by unfold wkOne; rw [h]; simp
theorem wkOne_yes {c : CWk} (h1 : ¬ 6 < c.sk.length) (h2 : inB c.ms 0 10080 = true) (h3 : inB c.rt 0 10080 = true) (h4 : inB c.co 0 1000 = true) (h5 : nmsB c.sk = true) : wkOne c = true := by
  unfold wkOne
  rw [if_neg h1, al_pair, h2, h3, h4, h5]; rfl
/-- What the loop over the shifts has seen. -/
def SrI (rs : List RSf) (k : Nat) : Prop := (∀ j, 1 ≤ j → j < k → srP rs j = true) ∧ sfsB (rs.take k) = true
set_option maxHeartbeats 16000000 in
set_option maxRecDepth 8000 in
theorem specShifts_any (ad : Option Addr) (cap : Nat) (rs : List RSf) (aw : Option Addr) (cw : Nat) (ws : List CWk) (hl : rs.length ≤ 100000000) (hlw : ws.length ≤ 100000000) (hp : ∀ r ∈ rs, SfOK r) (hpw : ∀ c ∈ ws, WkOK c) (w : World) (hr : ReadsSf w.heap.size w ad rs) (hw : ReadsWk w.heap.size w aw ws) :
    Calls Try.prog 7 #[.slice ad rs.length cap, .slice aw ws.length cw] w fun e w' => e = .returned (.bool (roB rs ws)) ∧ Below w.heap.size w w' := by
  have HR : Hid (ReadsSf w.heap.size w ad rs) := hr
  have HW : Hid (ReadsWk w.heap.size w aw ws) := hw
  have HOK : Hid (∀ r ∈ rs, SfOK r) := hp
  have HOW : Hid (∀ c ∈ ws, WkOK c) := hpw
  clear hr hp hw hpw
  by_cases h8 : (8 : Int) < (rs.length : Int)
  · have HA : Hid (roB rs ws = false) := by show _ = _; unfold roB; rw [if_pos (by omega)]
    go_enter Try.func7, Try.ntmps7
    go_wp2
    go_ret
    exact ⟨ret_bool HA.out.symm, Below.refl _ _⟩
  by_cases h5 : (5 : Int) < (ws.length : Int)
  · have HA : Hid (roB rs ws = false) := by show _ = _; unfold roB; rw [if_pos (by omega)]
    go_enter Try.func7, Try.ntmps7
    go_wp2
    go_ret
    exact ⟨ret_bool HA.out.symm, Below.refl _ _⟩
  go_enter Try.func7, Try.ntmps7
  go_wp2_with fail
  go_loopw [5, 6] (fun c _ wr => ∃ k : Nat, k ≤ rs.length ∧ c = .int .i64 (k : Int) ∧ SrI rs k ∧ Below w.heap.size w wr) (fun c _ _ => rs.length - (intOf c).toNat)
  case atStart => exact ⟨0, Nat.zero_le _, rfl, ⟨fun j h1 h2 => by omega, rfl⟩, Below.refl _ _⟩
  case round =>
    obtain ⟨k, hk, rfl, hf, hb⟩ := hrel
    have HF : Hid (SrI rs k) := hf
    have HB : Hid (Below w.heap.size w wr) := hb
    clear hf hb
    by_cases hlt : k < rs.length
    · have hlt' : (k : Int) < (rs.length : Int) := by omega
      rcases HR.out with h | ⟨b0, o0, ha, hB0, ia⟩
      · rw [h] at hlt; simp at hlt
      have HI : Hid (SfsAt w b0 o0 rs) := ia
      have hAt := (ia.below HB.out hB0) k hlt
      have hok : SfOK (rs.getD k zSf) := getSf HOK.out hlt
      have HX : Hid (sfB (rs.getD k zSf) = false → roB rs ws = false) := fun h => ro_shift hlt h
      have HIf : Hid (sfB (rs.getD k zSf) = true ↔ (0 ≤ (rs.getD k zSf).fr ∧ (rs.getD k zSf).fr < (rs.getD k zSf).to ∧ (rs.getD k zSf).to ≤ 10080) ∧ nameB (rs.getD k zSf).sk = true) := sf_iff _
      have HP : Hid (1 ≤ k → srP rs k = decide ((rs.getD (k - 1) zSf).fr ≤ (rs.getD k zSf).fr)) := fun _ => rfl
      have HO : Hid (1 ≤ k → srP rs k = false → roB rs ws = false) := fun h1 h => ro_order h1 hlt h
      have HNx : Hid (sfB (rs.getD k zSf) = true → (1 ≤ k → srP rs k = true) → SrI rs (k + 1)) := fun h1 h2 => ⟨fun j h3 h4 => by
        by_cases hj : j = k
        · rw [hj]; exact h2 (by omega)
        · exact HF.out.1 j h3 (by omega), by rw [sfs_take rs k hlt, HF.out.2, h1]; rfl⟩
      have HNm : Hid (∀ W, Calls Try.prog 25 #[.string (rs.getD k zSf).sk] W fun e w' => e = .returned (.bool (nameB (rs.getD k zSf).sk)) ∧ w' = W) := fun W => specName_any _ (by unfold SfOK at hok; unfold maxLen; omega) W
      clear ia HF hok
      subst ha
      generalize hrk : rs.getD k zSf = r at *
      obtain ⟨f, t, s⟩ := r
      obtain ⟨c0, c1, c2⟩ := hAt
      dsimp only at *
      obtain ⟨W0, hW0⟩ : ∃ W0, W0 = wr.alloc (Obj.cells #[.int .i64 f, .int .i64 t, .string s] 54) := ⟨_, rfl⟩
      obtain ⟨D, hD⟩ : ∃ D, D = wr.heap.size := ⟨_, rfl⟩
      have HW0 : Hid (W0 = wr.alloc (Obj.cells #[.int .i64 f, .int .i64 t, .string s] 54) ∧ D = wr.heap.size) := ⟨hW0, hD⟩
      have HBx : Hid (W0.heap[D]? = some (.cells #[.int .i64 f, .int .i64 t, .string s] 54 (0, 0))) := by show _ = _; rw [hW0, hD]; exact heapNew _ _
      have hbw : Below wr.heap.size wr W0 := by rw [hW0]; exact below_alloc _ _
      have HB0 : Hid (Below w.heap.size w W0) := chain HB.out hbw
      obtain ⟨d0, d1, d2⟩ := (show W0.cell? ⟨D, 0, none⟩ = some (.int .i64 f) ∧ W0.cell? ⟨D, 1, none⟩ = some (.int .i64 t) ∧ W0.cell? ⟨D, 2, none⟩ = some (.string s) from ⟨blkCell HBx.out 0 _ rfl, blkCell HBx.out 1 _ rfl, blkCell HBx.out 2 _ rfl⟩)
      clear hW0 hD hbw HB
      have HRk : Hid (rs.getD k zSf = ⟨f, t, s⟩) := hrk
      clear hrk
      go_upto_region 7 with fail
      rw [← HW0.out.1, ← HW0.out.2]
      clear HW0 c0 c1 c2
      by_cases hf0 : f < 0
      · have HE : Hid (roB rs ws = false) := HX.out (by
          cases hb : sfB ⟨f, t, s⟩
          · rfl
          · have := HIf.out.1 hb; omega)
        go_wp2
        go_ret
        exact ⟨ret_bool HE.out.symm, HB0.out⟩
      by_cases hft : t ≤ f
      · have HE : Hid (roB rs ws = false) := HX.out (by
          cases hb : sfB ⟨f, t, s⟩
          · rfl
          · have := HIf.out.1 hb; omega)
        go_wp2
        go_ret
        exact ⟨ret_bool HE.out.symm, HB0.out⟩
      by_cases ht1 : 10080 < t
      · have HE : Hid (roB rs ws = false) := HX.out (by
          cases hb : sfB ⟨f, t, s⟩
          · rfl
          · have := HIf.out.1 hb; omega)
        go_wp2
        go_ret
        exact ⟨ret_bool HE.out.symm, HB0.out⟩
      have HYs : Hid (nameB s = true → sfB ⟨f, t, s⟩ = true) := fun h => HIf.out.2 ⟨by omega, h⟩
      have HNo : Hid (nameB s = false → sfB ⟨f, t, s⟩ = false) := fun h => by
        cases hb : sfB ⟨f, t, s⟩
        · rfl
        · have := (HIf.out.1 hb).2; rw [h] at this; cases this
      clear HIf
      go_wp2_with fail
      (first | go_at_call 25 | skip)
      refine (HNm.out _).mono ?_
      rintro e w1 ⟨rfl, h⟩
      rw [h]
      clear h w1 HNm
      generalize nameB s = nb at *
      cases nb
      · have HE : Hid (roB rs ws = false) := HX.out (HNo.out rfl)
        go_wp2
        go_ret
        exact ⟨ret_bool HE.out.symm, HB0.out⟩
      have HSf : Hid (sfB ⟨f, t, s⟩ = true) := HYs.out (by first | rfl | trivial)
      clear HYs HNo HX d1 d2 hf0 hft ht1
      by_cases hk0 : k = 0
      · have HN : Hid (SrI rs (k + 1)) := HNx.out HSf.out (fun h => by omega)
        have hk0' : ¬ (0 : Int) < (k : Int) := by omega
        clear hk0 HI
        go_upto_region 9 with fail
        refine wp_region_held_drew (S := fun W' => Below W0.heap.size W0 W') (by kernel_rfl) (below_drew _) (fun hH => ?_)
        refine wpAnyH_take (i := 0) (v := .int .i64 (k : Int)) rfl (by kernel_rfl) (by kernel_rfl) (by kernel_rfl) (fun _ _ _ h => h) (Or.inl ⟨by rfl, fun w hSw => by clear hSw; go_simp⟩) hH ?_
        refine wpAnyH_take (i := 1) (v := .bool (decide ((0 : Int) < (k : Int)))) rfl (by kernel_rfl) (by kernel_rfl) (by kernel_rfl) (fun _ _ _ h => h) (Or.inl ⟨by rfl, fun w hSw => by clear hSw hk0'; go_simp⟩) hH ?_
        try simp only [Act.put, List.setIfInBounds_toArray, List.set_cons_zero, List.set_cons_succ, List.getElem_toArray, List.getElem_cons_succ, List.getElem_cons_zero]
        rw [decide_eq_false (show ¬ (0 : Int) < (k : Int) by omega)]
        refine wpAnyH_take (i := 2) (v := .bool false) rfl (by kernel_rfl) (by kernel_rfl) (by kernel_rfl) (fun _ _ _ h => h) (Or.inl ⟨by rfl, fun w hSw => by clear hSw; go_simp⟩) hH ?_
        try simp only [Act.put, List.setIfInBounds_toArray, List.set_cons_zero, List.set_cons_succ, List.getElem_toArray, List.getElem_cons_succ, List.getElem_cons_zero]
        refine wpAnyH_take (i := 3) (v := undef) rfl (by kernel_rfl) (by kernel_rfl) (by kernel_rfl) (fun _ _ _ h => h) (Or.inr ⟨by rfl, rfl⟩) hH ?_
        try simp only [Act.put, List.setIfInBounds_toArray, List.set_cons_zero, List.set_cons_succ, List.getElem_toArray, List.getElem_cons_succ, List.getElem_cons_zero]
        refine wpAnyH_take (i := 4) (v := undef) rfl (by kernel_rfl) (by kernel_rfl) (by kernel_rfl) (fun _ _ _ h => h) (Or.inr ⟨by rfl, rfl⟩) hH ?_
        try simp only [Act.put, List.setIfInBounds_toArray, List.set_cons_zero, List.set_cons_succ, List.getElem_toArray, List.getElem_cons_succ, List.getElem_cons_zero]
        refine wpAnyH_take (i := 5) (v := undef) rfl (by kernel_rfl) (by kernel_rfl) (by kernel_rfl) (fun _ _ _ h => h) (Or.inr ⟨by rfl, rfl⟩) hH ?_
        try simp only [Act.put, List.setIfInBounds_toArray, List.set_cons_zero, List.set_cons_succ, List.getElem_toArray, List.getElem_cons_succ, List.getElem_cons_zero]
        refine wpAnyH_take (i := 6) (v := undef) rfl (by kernel_rfl) (by kernel_rfl) (by kernel_rfl) (fun _ _ _ h => h) (Or.inr ⟨by rfl, rfl⟩) hH ?_
        try simp only [Act.put, List.setIfInBounds_toArray, List.set_cons_zero, List.set_cons_succ, List.getElem_toArray, List.getElem_cons_succ, List.getElem_cons_zero]
        refine wpAnyH_take (i := 7) (v := undef) rfl (by kernel_rfl) (by kernel_rfl) (by kernel_rfl) (fun _ _ _ h => h) (Or.inr ⟨by rfl, rfl⟩) hH ?_
        try simp only [Act.put, List.setIfInBounds_toArray, List.set_cons_zero, List.set_cons_succ, List.getElem_toArray, List.getElem_cons_succ, List.getElem_cons_zero]
        refine wpAnyH_take (i := 8) (v := undef) rfl (by kernel_rfl) (by kernel_rfl) (by kernel_rfl) (fun _ _ _ h => h) (Or.inr ⟨by rfl, rfl⟩) hH ?_
        try simp only [Act.put, List.setIfInBounds_toArray, List.set_cons_zero, List.set_cons_succ, List.getElem_toArray, List.getElem_cons_succ, List.getElem_cons_zero]
        refine wpAnyH_take (i := 9) (v := undef) rfl (by kernel_rfl) (by kernel_rfl) (by kernel_rfl) (fun _ _ _ h => h) (Or.inr ⟨by rfl, rfl⟩) hH ?_
        try simp only [Act.put, List.setIfInBounds_toArray, List.set_cons_zero, List.set_cons_succ, List.getElem_toArray, List.getElem_cons_succ, List.getElem_cons_zero]
        refine wpAnyH_take (i := 10) (v := undef) rfl (by kernel_rfl) (by kernel_rfl) (by kernel_rfl) (fun _ _ _ h => h) (Or.inr ⟨by rfl, rfl⟩) hH ?_
        try simp only [Act.put, List.setIfInBounds_toArray, List.set_cons_zero, List.set_cons_succ, List.getElem_toArray, List.getElem_cons_succ, List.getElem_cons_zero]
        refine wpAnyH_take (i := 11) (v := undef) rfl (by kernel_rfl) (by kernel_rfl) (by kernel_rfl) (fun _ _ _ h => h) (Or.inr ⟨by rfl, rfl⟩) hH ?_
        try simp only [Act.put, List.setIfInBounds_toArray, List.set_cons_zero, List.set_cons_succ, List.getElem_toArray, List.getElem_cons_succ, List.getElem_cons_zero]
        refine wpAnyH_take (i := 12) (v := .bool false) rfl (by kernel_rfl) (by kernel_rfl) (by kernel_rfl) (fun _ _ _ h => h) (Or.inl ⟨by rfl, fun w hSw => by clear hSw; go_simp⟩) hH ?_
        try simp only [Act.put, List.setIfInBounds_toArray, List.set_cons_zero, List.set_cons_succ, List.getElem_toArray, List.getElem_cons_succ, List.getElem_cons_zero]
        refine wpAnyH_done (by kernel_rfl) ?_ _
        clear hH d0
        go_wp2
        exact ⟨⟨k + 1, by omega, by go_num, HN.out, chain HB0.out (below_drew _)⟩, by simp [intOf]; omega⟩
      · obtain ⟨n, hn⟩ : ∃ n : Nat, k = n + 1 := ⟨k - 1, by omega⟩
        have hw2 : IntKind.i64.wrap ((k : Int) - 1) = (n : Int) := by rw [wrap_id _ (by omega) (by omega)]; omega
        have hlb2 : (n : Int) < (rs.length : Int) := by omega
        have hk0' : (0 : Int) < (k : Int) := by omega
        have HA1 : Hid (∀ W, Below w.heap.size w W → SfAt W b0 (o0 + n * 3) (rs.getD n zSf)) := fun W hW => (HI.out.below hW hB0) n (by omega)
        have HX2 : Hid (srP rs k = decide ((rs.getD n zSf).fr ≤ f)) := by
          show _ = _
          rw [HP.out (by omega), show k - 1 = n by omega]
        have hk1 : 1 ≤ k := by omega
        clear HI hn hk0 HP
        generalize rs.getD n zSf = p at *
        obtain ⟨p0, p1, p2⟩ := p
        dsimp only at HX2
        go_upto_region 9 with fail
        refine wp_region_held_drew (S := fun W' => Below W0.heap.size W0 W') (by kernel_rfl) (below_drew _) (fun hH => ?_)
        refine wpAnyH_take (i := 0) (v := .int .i64 (k : Int)) rfl (by kernel_rfl) (by kernel_rfl) (by kernel_rfl) (fun _ _ _ h => h) (Or.inl ⟨by rfl, fun w hSw => by clear hSw; go_simp⟩) hH ?_
        refine wpAnyH_take (i := 1) (v := .bool (decide ((0 : Int) < (k : Int)))) rfl (by kernel_rfl) (by kernel_rfl) (by kernel_rfl) (fun _ _ _ h => h) (Or.inl ⟨by rfl, fun w hSw => by clear hSw hk0'; go_simp⟩) hH ?_
        try simp only [Act.put, List.setIfInBounds_toArray, List.set_cons_zero, List.set_cons_succ, List.getElem_toArray, List.getElem_cons_succ, List.getElem_cons_zero]
        rw [decide_eq_true hk0']
        refine wpAnyH_take (i := 2) (v := .bool true) rfl (by kernel_rfl) (by kernel_rfl) (by kernel_rfl) (fun _ _ _ h => h) (Or.inl ⟨by rfl, fun w hSw => by clear hSw; go_simp⟩) hH ?_
        try simp only [Act.put, List.setIfInBounds_toArray, List.set_cons_zero, List.set_cons_succ, List.getElem_toArray, List.getElem_cons_succ, List.getElem_cons_zero]
        refine wpAnyH_take (i := 3) (v := .pointer (some ⟨D, 0, none⟩)) rfl (by kernel_rfl) (by kernel_rfl) (by kernel_rfl) (fun _ _ _ h => h) (Or.inl ⟨by rfl, fun w hSw => by clear hSw; go_simp⟩) hH ?_
        try simp only [Act.put, List.setIfInBounds_toArray, List.set_cons_zero, List.set_cons_succ, List.getElem_toArray, List.getElem_cons_succ, List.getElem_cons_zero]
        refine wpAnyH_take (i := 4) (v := .int .i64 f) rfl (by kernel_rfl) (by kernel_rfl) (by kernel_rfl) (fun _ _ _ h => h) (Or.inl ⟨by rfl, fun w hSw => by have e0 := blkCell ((hSw.block D (blkLt HBx.out)).trans HBx.out) 0 _ rfl; clear hSw; go_simp⟩) hH ?_
        try simp only [Act.put, List.setIfInBounds_toArray, List.set_cons_zero, List.set_cons_succ, List.getElem_toArray, List.getElem_cons_succ, List.getElem_cons_zero]
        refine wpAnyH_take (i := 5) (v := .slice (some ⟨b0, o0, none⟩) rs.length cap) rfl (by kernel_rfl) (by kernel_rfl) (by kernel_rfl) (fun _ _ _ h => h) (Or.inl ⟨by rfl, fun w hSw => by clear hSw; go_simp⟩) hH ?_
        try simp only [Act.put, List.setIfInBounds_toArray, List.set_cons_zero, List.set_cons_succ, List.getElem_toArray, List.getElem_cons_succ, List.getElem_cons_zero]
        refine wpAnyH_take (i := 6) (v := .int .i64 (k : Int)) rfl (by kernel_rfl) (by kernel_rfl) (by kernel_rfl) (fun _ _ _ h => h) (Or.inl ⟨by rfl, fun w hSw => by clear hSw; go_simp⟩) hH ?_
        try simp only [Act.put, List.setIfInBounds_toArray, List.set_cons_zero, List.set_cons_succ, List.getElem_toArray, List.getElem_cons_succ, List.getElem_cons_zero]
        refine wpAnyH_take (i := 7) (v := .int .i64 (n : Int)) rfl (by kernel_rfl) (by kernel_rfl) (by kernel_rfl) (fun _ _ _ h => h) (Or.inl ⟨by rfl, fun w hSw => by clear hSw; go_simp⟩) hH ?_
        try simp only [Act.put, List.setIfInBounds_toArray, List.set_cons_zero, List.set_cons_succ, List.getElem_toArray, List.getElem_cons_succ, List.getElem_cons_zero]
        refine wpAnyH_take (i := 8) (v := .pointer (some ⟨b0, o0 + n * 3, none⟩)) rfl (by kernel_rfl) (by kernel_rfl) (by kernel_rfl) (fun _ _ _ h => h) (Or.inl ⟨by rfl, fun w hSw => by clear hSw; go_simp⟩) hH ?_
        try simp only [Act.put, List.setIfInBounds_toArray, List.set_cons_zero, List.set_cons_succ, List.getElem_toArray, List.getElem_cons_succ, List.getElem_cons_zero]
        refine wpAnyH_take (i := 9) (v := .pointer (some ⟨b0, o0 + n * 3, none⟩)) rfl (by kernel_rfl) (by kernel_rfl) (by kernel_rfl) (fun _ _ _ h => h) (Or.inl ⟨by rfl, fun w hSw => by clear hSw; go_simp⟩) hH ?_
        try simp only [Act.put, List.setIfInBounds_toArray, List.set_cons_zero, List.set_cons_succ, List.getElem_toArray, List.getElem_cons_succ, List.getElem_cons_zero]
        refine wpAnyH_take (i := 10) (v := .int .i64 p0) rfl (by kernel_rfl) (by kernel_rfl) (by kernel_rfl) (fun _ _ _ h => h) (Or.inl ⟨by rfl, fun w hSw => by obtain ⟨e0, e1, e2⟩ := HA1.out w (chain HB0.out hSw); clear hSw; go_simp⟩) hH ?_
        try simp only [Act.put, List.setIfInBounds_toArray, List.set_cons_zero, List.set_cons_succ, List.getElem_toArray, List.getElem_cons_succ, List.getElem_cons_zero]
        refine wpAnyH_take (i := 11) (v := .bool (decide (f < p0))) rfl (by kernel_rfl) (by kernel_rfl) (by kernel_rfl) (fun _ _ _ h => h) (Or.inl ⟨by rfl, fun w hSw => by clear hSw; go_simp⟩) hH ?_
        try simp only [Act.put, List.setIfInBounds_toArray, List.set_cons_zero, List.set_cons_succ, List.getElem_toArray, List.getElem_cons_succ, List.getElem_cons_zero]
        refine wpAnyH_take (i := 12) (v := .bool (decide (f < p0))) rfl (by kernel_rfl) (by kernel_rfl) (by kernel_rfl) (fun _ _ _ h => h) (Or.inl ⟨by rfl, fun w hSw => by clear hSw; go_simp⟩) hH ?_
        try simp only [Act.put, List.setIfInBounds_toArray, List.set_cons_zero, List.set_cons_succ, List.getElem_toArray, List.getElem_cons_succ, List.getElem_cons_zero]
        refine wpAnyH_done (by kernel_rfl) ?_ _
        clear hH d0
        by_cases hfp : f < p0
        · have HE : Hid (roB rs ws = false) := HO.out hk1 (by rw [HX2.out]; exact decide_eq_false (by omega))
          go_wp2
          go_ret
          exact ⟨ret_bool HE.out.symm, chain HB0.out (below_drew _)⟩
        · have HN : Hid (SrI rs (k + 1)) := HNx.out HSf.out (fun _ => by rw [HX2.out]; exact decide_eq_true (by omega))
          go_wp2
          exact ⟨⟨k + 1, by omega, by go_num, HN.out, chain HB0.out (below_drew _)⟩, by simp [intOf]; omega⟩
    · have hle : ¬ (k : Int) < (rs.length : Int) := by omega
      have HF2 : Hid (SrI rs rs.length) := by rw [show rs.length = k by omega]; exact HF.out
      clear HF HR HOK hk hlt
      go_wp2_with fail
      go_loopw [7, 8, 9, 10] (fun c _ _ _ wq => ∃ k : Nat, k ≤ ws.length ∧ c = .int .i64 (k : Int) ∧ diffN (ws.map (·.nm)) k = true ∧ (ws.take k).all wkOne = true ∧ Below w.heap.size w wq) (fun c _ _ _ _ => ws.length - (intOf c).toNat)
      case atStart => exact ⟨0, Nat.zero_le _, rfl, rfl, rfl, HB.out⟩
      case round =>
        clear HB hle
        obtain ⟨k, hk, rfl, hf, hf', hb⟩ := hrel
        have HF : Hid (diffN (ws.map (·.nm)) k = true) := hf
        have HF' : Hid ((ws.take k).all wkOne = true) := hf'
        have HB : Hid (Below w.heap.size w wr) := hb
        clear hf hb hf'
        by_cases hlt : k < ws.length
        · have hlt' : (k : Int) < (ws.length : Int) := by omega
          rcases HW.out with h | ⟨b0, o0, ha, hB0, ia⟩
          · rw [h] at hlt; simp at hlt
          have HI : Hid (WksAt w.heap.size w b0 o0 ws) := ia
          obtain ⟨h, cp, hAt, hcp, hS⟩ := (ia.below HB.out hB0 (Nat.le_refl _)) k hlt
          have HS : Hid (ReadsS wr.heap.size wr h (ws.getD k zWk).sk) := hS.mono HB.out.size
          have hok : WkOK (ws.getD k zWk) := getWk HOW.out hlt
          have HXn : Hid (nameB (ws.getD k zWk).nm = false ∨ hasB ((ws.map (·.nm)).take k) (ws.getD k zWk).nm = true → roB rs ws = false) := ro_name hlt
          have HXo : Hid (wkOne (ws.getD k zWk) = false → roB rs ws = false) := ro_one hlt
          have HNn : Hid (nameB (ws.getD k zWk).nm = true → hasB ((ws.map (·.nm)).take k) (ws.getD k zWk).nm = false → diffN (ws.map (·.nm)) (k + 1) = true) := fun h1 h2 => diffN_next HF.out (by rw [wkNames_getD]; exact h1) (by rw [wkNames_getD]; exact h2)
          have HNo : Hid (wkOne (ws.getD k zWk) = true → (ws.take (k + 1)).all wkOne = true) := fun h => by rw [wks_take wkOne ws k hlt, HF'.out, h]; rfl
          have HNm : Hid (∀ W, Calls Try.prog 25 #[.string (ws.getD k zWk).nm] W fun e w' => e = .returned (.bool (nameB (ws.getD k zWk).nm)) ∧ w' = W) := fun W => specName_any _ (by have := hok.1; unfold maxLen; omega) W
          have HI1 : Hid (∀ W, Calls Try.prog 26 #[.int .i64 (ws.getD k zWk).ms, .int .i64 0, .int .i64 10080] W fun e w' => e = .returned (.bool (inB (ws.getD k zWk).ms 0 10080)) ∧ w' = W) := fun W => in_any _ 0 10080 W
          have HI2 : Hid (∀ W, Calls Try.prog 26 #[.int .i64 (ws.getD k zWk).rt, .int .i64 0, .int .i64 10080] W fun e w' => e = .returned (.bool (inB (ws.getD k zWk).rt 0 10080)) ∧ w' = W) := fun W => in_any _ 0 10080 W
          have HI3 : Hid (∀ W, Calls Try.prog 26 #[.int .i64 (ws.getD k zWk).co, .int .i64 0, .int .i64 1000] W fun e w' => e = .returned (.bool (inB (ws.getD k zWk).co 0 1000)) ∧ w' = W) := fun W => in_any _ 0 1000 W
          have HO1 : Hid (inB (ws.getD k zWk).ms 0 10080 = false → roB rs ws = false) := fun h => HXo.out (wkOne_ms h)
          have HO2 : Hid (inB (ws.getD k zWk).rt 0 10080 = false → roB rs ws = false) := fun h => HXo.out (wkOne_rt h)
          have HO3 : Hid (inB (ws.getD k zWk).co 0 1000 = false → roB rs ws = false) := fun h => HXo.out (wkOne_co h)
          have HO6 : Hid (6 < (ws.getD k zWk).sk.length → roB rs ws = false) := fun h => HXo.out (wkOne_long h)
          have HO4 : Hid (nmsB (ws.getD k zWk).sk = false → roB rs ws = false) := fun h => HXo.out (wkOne_sk h)
          have HO5 : Hid (¬ 6 < (ws.getD k zWk).sk.length → inB (ws.getD k zWk).ms 0 10080 = true → inB (ws.getD k zWk).rt 0 10080 = true → inB (ws.getD k zWk).co 0 1000 = true → nmsB (ws.getD k zWk).sk = true → (ws.take (k + 1)).all wkOne = true) := fun h1 h2 h3 h4 h5 => HNo.out (wkOne_yes h1 h2 h3 h4 h5)
          clear ia hS HF HF' HXo HNo
          rw [ha]
          generalize ws.getD k zWk = r at *
          obtain ⟨nm, ms, rt, co, sk⟩ := r
          obtain ⟨c0, c1, c2, c3, c4⟩ := hAt
          dsimp only at *
          obtain ⟨hnm, hsl, hall⟩ := hok
          have HAl : Hid (∀ s ∈ sk, s.size ≤ 2000000) := hall
          clear hall
          generalize hN : sk.length = n at *
          generalize hb1 : inB ms 0 10080 = b1 at *
          generalize hb2 : inB rt 0 10080 = b2 at *
          generalize hb3 : inB co 0 1000 = b3 at *
          generalize hnb : nameB nm = nb at *
          clear hb1 hb2 hb3 hnb
          obtain ⟨W0, hW0⟩ : ∃ W0, W0 = wr.alloc (Obj.cells #[.string nm, .int .i64 ms, .int .i64 rt, .int .i64 co, .slice h n cp] 56) := ⟨_, rfl⟩
          obtain ⟨D, hD⟩ : ∃ D, D = wr.heap.size := ⟨_, rfl⟩
          have HW0 : Hid (W0 = wr.alloc (Obj.cells #[.string nm, .int .i64 ms, .int .i64 rt, .int .i64 co, .slice h n cp] 56) ∧ D = wr.heap.size) := ⟨hW0, hD⟩
          have HBx : Hid (W0.heap[D]? = some (.cells #[.string nm, .int .i64 ms, .int .i64 rt, .int .i64 co, .slice h n cp] 56 (0, 0))) := by show _ = _; rw [hW0, hD]; exact heapNew _ _
          have hbw : Below wr.heap.size wr W0 := by rw [hW0]; exact below_alloc _ _
          have HB0 : Hid (Below w.heap.size w W0) := chain HB.out hbw
          have HS0 : Hid (ReadsS W0.heap.size W0 h sk) := HS.out.later hbw
          have d0 := blkCell HBx.out 0 _ rfl
          have d1 := blkCell HBx.out 1 _ rfl
          have d2 := blkCell HBx.out 2 _ rfl
          have d3 := blkCell HBx.out 3 _ rfl
          have d4 := blkCell HBx.out 4 _ rfl
          simp only [List.getElem_toArray, List.getElem_cons_zero, List.getElem_cons_succ] at d0 d1 d2 d3 d4
          clear hW0 hD hbw HB HS
          go_upto_region 15 with fail
          rw [← HW0.out.1, ← HW0.out.2]
          clear HW0 c0 c1 c2 c3 c4
          go_wp2_with fail
          (first | go_at_call 25 | skip)
          refine (HNm.out _).mono ?_
          rintro e w1 ⟨rfl, h⟩
          rw [h]
          clear h w1
          cases nb
          · have HE : Hid (roB rs ws = false) := HXn.out (.inl rfl)
            go_wp2_with fail
            go_ret
            exact ⟨ret_bool HE.out.symm, HB0.out⟩
          have HXn2 : Hid (hasB ((ws.map (·.nm)).take k) nm = true → roB rs ws = false) := fun h => HXn.out (.inr h)
          have HNn2 : Hid (hasB ((ws.map (·.nm)).take k) nm = false → diffN (ws.map (·.nm)) (k + 1) = true) := fun h => HNn.out rfl h
          clear HXn HNn HNm
          go_wp2_with fail
          (first | go_at_call 26 | skip)
          refine (HI1.out _).mono ?_
          rintro e w1 ⟨rfl, h⟩
          rw [h]
          clear h w1 HI1
          cases b1
          · have HE : Hid (roB rs ws = false) := HO1.out rfl
            go_wp2_with fail
            go_ret
            exact ⟨ret_bool HE.out.symm, HB0.out⟩
          go_wp2_with fail
          (first | go_at_call 26 | skip)
          refine (HI2.out _).mono ?_
          rintro e w1 ⟨rfl, h⟩
          rw [h]
          clear h w1 HI2
          cases b2
          · have HE : Hid (roB rs ws = false) := HO2.out rfl
            go_wp2_with fail
            go_ret
            exact ⟨ret_bool HE.out.symm, HB0.out⟩
          go_wp2_with fail
          (first | go_at_call 26 | skip)
          refine (HI3.out _).mono ?_
          rintro e w1 ⟨rfl, h⟩
          rw [h]
          clear h w1 HI3
          cases b3
          · have HE : Hid (roB rs ws = false) := HO3.out rfl
            go_wp2_with fail
            go_ret
            exact ⟨ret_bool HE.out.symm, HB0.out⟩
          by_cases hn6 : (6 : Int) < (n : Int)
          · have HE : Hid (roB rs ws = false) := HO6.out (by omega)
            go_wp2_with fail
            go_ret
            exact ⟨ret_bool HE.out.symm, HB0.out⟩
          have HO7 : Hid (nmsB sk = true → (ws.take (k + 1)).all wkOne = true) := HO5.out (by omega) (by first | rfl | trivial) (by first | rfl | trivial) (by first | rfl | trivial)
          clear HO1 HO2 HO3 HO5 HO6
          go_wp2_with fail
          go_loopw [9] (fun c wq => ∃ j : Nat, j ≤ n ∧ c = .int .i64 (j : Int) ∧ nmsB (sk.take j) = true ∧ wq = W0) (fun c _ => n - (intOf c).toNat)
          case atStart => exact ⟨0, Nat.zero_le _, rfl, rfl, rfl⟩
          case round =>
            obtain ⟨j, hj, rfl, hg, rfl⟩ := hrel
            have HG : Hid (nmsB (sk.take j) = true) := hg
            clear hg
            by_cases hjn : j < n
            · have hjn' : (j : Int) < (n : Int) := by omega
              rcases HS0.out with hz | ⟨b2, o2, hh2, hB2, ib⟩
              · rw [hz] at hN; simp at hN; omega
              have e0 := ib j (by omega)
              have HIn : Hid (∀ W, Calls Try.prog 25 #[.string (sk.getD j ByteArray.empty)] W fun e w' => e = .returned (.bool (nameB (sk.getD j ByteArray.empty))) ∧ w' = W) := fun W => specName_any _ (by have := getS HAl.out (show j < sk.length by omega); unfold maxLen; omega) W
              have HX : Hid (nameB (sk.getD j ByteArray.empty) = false → roB rs ws = false) := fun h => HO4.out (nms_fail (by omega) h)
              have HNx : Hid (nameB (sk.getD j ByteArray.empty) = true → nmsB (sk.take (j + 1)) = true) := fun h => by rw [nms_take sk j (by omega), HG.out, h]; rfl
              rw [hh2] at d4 ⊢
              clear ib
              generalize sk.getD j ByteArray.empty = x at *
              generalize nameB x = xb at *
              go_wp2_with fail
              (first | go_at_call 25 | skip)
              refine (HIn.out _).mono ?_
              rintro e w1 ⟨rfl, h⟩
              rw [h]
              clear h w1
              cases xb
              · have HE : Hid (roB rs ws = false) := HX.out rfl
                go_wp2_with fail
                go_ret
                exact ⟨ret_bool HE.out.symm, HB0.out⟩
              · have HE : Hid (nmsB (sk.take (j + 1)) = true) := HNx.out rfl
                go_wp2_with fail
                go_roundw
                case rel => exact ⟨j + 1, by omega, by go_num, HE.out, by first | rfl | trivial⟩
                case measure => simp [intOf]; omega
            · have hjn' : ¬ (j : Int) < (n : Int) := by omega
              have HE : Hid ((ws.take (k + 1)).all wkOne = true) := HO7.out (by have := HG.out; rwa [List.take_of_length_le (by omega)] at this)
              clear HG HO7 HO4
              have HQF : Hid (∀ W, Below wr.heap.size wr W → W.cell? ⟨D, 0, none⟩ = some (.string nm) ∧ Below w.heap.size w W ∧ ∀ i, i < k → W.cell? ⟨b0, o0 + i * 5, none⟩ = some (.string (ws.getD i zWk).nm)) := fun W hb => by
                refine ⟨(hb.cell (p := ⟨D, 0, none⟩) (blkLt HBx.out)).trans d0, chain HB0.out hb, fun i hi => ?_⟩
                obtain ⟨_, _, ⟨e0, _⟩, _⟩ := (HI.out.below (chain HB0.out hb) hB0 (Nat.le_refl _)) i (by omega)
                exact e0
              go_wp2_with fail
              clear d0 d1 d2 d3 d4
              go_loopw [10] (fun c wq => ∃ i : Nat, i ≤ k ∧ c = .int .i64 (i : Int) ∧ hasB ((ws.map (·.nm)).take i) nm = false ∧ Below wr.heap.size wr wq) (fun c _ => k - (intOf c).toNat)
              case atStart => exact ⟨0, Nat.zero_le _, rfl, rfl, Below.refl _ _⟩
              case round =>
                obtain ⟨i, hi, rfl, hh, hq⟩ := hrel
                have HH : Hid (hasB ((ws.map (·.nm)).take i) nm = false) := hh
                obtain ⟨e1, hbq, hcs⟩ := HQF.out _ hq
                have HB1 : Hid (Below w.heap.size w wr) := hbq
                have HQ1 : Hid (∀ W, Below wr.heap.size wr W → _) := fun W hb => chain hq hb
                clear hh hq hbq
                by_cases hjk : i < k
                · have hjk' : (i : Int) < (k : Int) := by omega
                  have hjl' : (i : Int) < (ws.length : Int) := by omega
                  have e0 := hcs i hjk
                  have HY : Hid (((ws.getD i zWk).nm.toList == nm.toList) = true → roB rs ws = false) := fun h => HXn2.out (hasB_yes (k := i) (by rw [List.length_take, List.length_map]; omega) (by rw [strs_getD_take _ _ _ hjk, wkNames_getD]; exact h))
                  have HN2 : Hid (((ws.getD i zWk).nm.toList == nm.toList) = false → hasB ((ws.map (·.nm)).take (i + 1)) nm = false) := fun h => hasB_next (by rw [List.length_map]; omega) HH.out (by rw [wkNames_getD]; exact h)
                  clear hcs
                  generalize (ws.getD i zWk).nm = mm at *
                  cases hc : (mm.toList == nm.toList)
                  · have HE2 : Hid (hasB ((ws.map (·.nm)).take (i + 1)) nm = false) := HN2.out hc
                    go_wp2
                    go_quiet (fail)
                    go_wp2
                    go_roundw
                    case rel => exact ⟨i + 1, by omega, by go_num, HE2.out, HQ1.out _ ⟨rfl, rfl, rfl, Nat.le_refl _, fun _ _ => rfl⟩⟩
                    case measure => simp [intOf]; omega
                  · have HE2 : Hid (roB rs ws = false) := HY.out hc
                    go_wp2
                    go_quiet (fail)
                    go_wp2
                    go_ret
                    exact ⟨ret_bool HE2.out.symm, chain HB1.out ⟨rfl, rfl, rfl, Nat.le_refl _, fun _ _ => rfl⟩⟩
                · obtain rfl : i = k := by omega
                  have HNn3 : Hid (diffN (ws.map (·.nm)) (i + 1) = true) := HNn2.out HH.out
                  clear hcs e1
                  go_wp2
                  go_roundw
                  case rel => exact ⟨i + 1, by omega, by go_num, HNn3.out, HE.out, HB1.out⟩
                  case measure => simp [intOf]; omega
        · have hle : ¬ (k : Int) < (ws.length : Int) := by omega
          have HE : Hid (roB rs ws = true) := ro_end (by omega) (by omega) HF2.out.1 HF2.out.2 (by have := HF.out; rwa [show k = ws.length by omega] at this) (by have := HF'.out; rwa [show k = ws.length by omega] at this)
          go_wp2
          go_ret
          exact ⟨ret_bool HE.out.symm, HB.out⟩
end Go.Proofs.Yteigbmdhfeagfaa
