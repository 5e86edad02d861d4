/-
  Contracts of the specification's l21Cost and RosterOf, for all arguments.
-/
import Derived.Test.YteigbmdhfeagfaaWrJ
import Derived.Test.YteigbmdhfeagfaaWrH
import Derived.Test.YteigbmdhfeagfaaWrC
import Derived.Test.YteigbmdhfeagfaaAppAny
namespace Go.Proofs.Yteigbmdhfeagfaa
open Go.ChangeShapes Go.WideShapes Go.ChangeAt Go.RowKit Go.Joins Go.Deep
set_option linter.unusedVariables false

set_option maxHeartbeats 8000000 in
set_option maxRecDepth 8000 in
theorem specCost_any (ad : Option Addr) (cap : Nat) (rs : List RSf) (aw : Option Addr) (cw : Nat) (ws : List CWk) (ao : Option Addr) (co : Nat) (L : List Int) (hs : sfsB rs = true) (hws : ws.all wkOne = true) (h8 : rs.length ≤ 8) (h5 : ws.length ≤ 100) (hln : L.length = rs.length) (hin : ∀ k, k < L.length → ∃ m : Nat, m < ws.length ∧ L.getD k 0 = (m : Int)) (w : World) (hr : ReadsSf w.heap.size w ad rs) (hw : ReadsWk w.heap.size w aw ws) (ho : Reads w.heap.size w ao L) :
    Calls Try.prog 42 #[.slice ad rs.length cap, .slice aw ws.length cw, .slice ao L.length co] w fun e w' => e = .returned (.int .i64 (rqC rs ws L L.length)) ∧ Below w.heap.size w w' := by
  have HR : Hid (ReadsSf w.heap.size w ad rs) := hr
  have HW : Hid (ReadsWk w.heap.size w aw ws) := hw
  have HO : Hid (Reads w.heap.size w ao L) := ho
  have HIn : Hid (∀ k, k < L.length → ∃ m : Nat, m < ws.length ∧ L.getD k 0 = (m : Int)) := hin
  have HC0 : Hid (rqC rs ws L 0 = 0) := rfl
  have HCn : Hid (∀ k, rqC rs ws L (k + 1) = rqC rs ws L k + duB (rs.getD k zSf) * (ws.getD (L.getD k 0).toNat zWk).co) := fun k => rfl
  have HCb : Hid (∀ k, 0 ≤ rqC rs ws L k ∧ rqC rs ws L k ≤ 10080000 * (k : Int)) := fun k => rqC_bd hs hws L k
  have HFb : Hid (∀ k, 0 ≤ duB (rs.getD k zSf) ∧ duB (rs.getD k zSf) ≤ 10080 ∧ 0 ≤ (rs.getD k zSf).fr ∧ (rs.getD k zSf).to ≤ 10080 ∧ 0 ≤ (rs.getD k zSf).to ∧ (rs.getD k zSf).fr ≤ 10080) := fun k => sf_bd hs k
  have HWb : Hid (∀ k, (0 ≤ (ws.getD k zWk).ms ∧ (ws.getD k zWk).ms ≤ 10080) ∧ (0 ≤ (ws.getD k zWk).rt ∧ (ws.getD k zWk).rt ≤ 10080) ∧ 0 ≤ (ws.getD k zWk).co ∧ (ws.getD k zWk).co ≤ 1000) := fun k => wk_bd hws k
  have HLn : Hid (L.length = rs.length) := hln
  have hl8 : L.length ≤ 8 := by omega
  clear hr hw ho hin hs hws hln
  go_enter Try.func42, Try.ntmps42
  go_wp2_with fail
  go_loopw [7, 8] (fun a c wr => ∃ k : Nat, k ≤ L.length ∧ a = .int .i64 (rqC rs ws L k) ∧ c = .int .i64 (k : Int) ∧ Below w.heap.size w wr) (fun _ c _ => L.length - (intOf c).toNat)
  case atStart => exact ⟨0, Nat.zero_le _, by rw [HC0.out], rfl, Below.refl _ _⟩
  case round =>
    obtain ⟨k, hk, rfl, rfl, hB⟩ := hrel
    have HB : Hid (Below w.heap.size w wr) := hB
    clear hB
    by_cases hlt : k < L.length
    · have hlt' : (k : Int) < (L.length : Int) := by omega
      have hkr : (k : Int) < (rs.length : Int) := by have := HLn.out; omega
      obtain ⟨m, hm, hmk⟩ := HIn.out k hlt
      have hmw : (m : Int) < (ws.length : Int) := by omega
      rcases HR.out with h | ⟨b0, o0, ha0, hB0, ia⟩
      · have := HLn.out; rw [h, List.length_nil] at this; omega
      rcases HW.out with h | ⟨b1, o1, ha1, hB1, ib⟩
      · rw [h] at hm; simp at hm
      rcases HO.out with h | ⟨b2, o2, ha2, hB2, ic⟩
      · rw [h] at hlt; simp at hlt
      have hCn := HCn.out k
      have hCb := HCb.out k
      rw [hmk, Int.toNat_natCast] at hCn
      have hfk := HFb.out k
      have hwk := HWb.out m
      have HDk : Hid (duB (rs.getD k zSf) = (rs.getD k zSf).to - (rs.getD k zSf).fr) := rfl
      have hdm := du_mul ⟨hfk.1, hfk.2.1⟩ ⟨hwk.2.2.1, hwk.2.2.2⟩
      have HAk : Hid (∀ W, Below w.heap.size w W → SfAt W b0 (o0 + k * 3) (rs.getD k zSf)) := fun W hW => (ia k (by have := HLn.out; omega)).below hW hB0
      obtain ⟨h, cp, hxw, _, _⟩ := ib m hm
      have HBk : Hid (∀ W, Below w.heap.size w W → WkAt W b1 (o1 + m * 5) h cp (ws.getD m zWk)) := fun W hW => hxw.below hW hB1
      have HLk : Hid (∀ W, Below w.heap.size w W → W.cell? ⟨b2, o2 + k, none⟩ = some (.int .i64 (m : Int))) := fun W hW => by have := (ic.below hW hB2) k hlt; rw [hmk] at this; exact this
      rw [ha0, ha1, ha2]
      clear ia ib ic hxw hmk
      generalize rs.getD k zSf = s at *
      generalize ws.getD m zWk = c at *
      obtain ⟨f, t, sn⟩ := s
      obtain ⟨nm, ms, rt, cc, sk⟩ := c
      dsimp only at *
      generalize duB ⟨f, t, sn⟩ = du at *
      have hw1 : IntKind.i64.wrap (t - f) = du := by have := HDk.out; rw [wrap_id _ (by omega) (by omega)]; exact this.symm
      obtain ⟨dc, hdc⟩ : ∃ dc, du * cc = dc := ⟨_, rfl⟩
      rw [hdc] at hdm hCn
      have hw2 : IntKind.i64.wrap (du * cc) = dc := by rw [hdc]; exact wrap_id _ (by omega) (by omega)
      have HDc : Hid (du * cc = dc) := hdc
      clear hdc
      have HN : Hid (rqC rs ws L (k + 1) = rqC rs ws L k + dc) := hCn
      clear hCn
      generalize rqC rs ws L k = C at *
      have hw3 : IntKind.i64.wrap (C + dc) = C + dc := wrap_id _ (by omega) (by omega)
      go_upto_region 5 with fail
      refine wp_region_held_drew (S := fun W => Below w.heap.size w W) (by kernel_rfl) (chain HB.out (below_drew _)) (fun hH => ?_)
      generalize wr.drew = V2 at *
      refine wpAnyH_take (i := 0) (v := .int .i64 C) rfl (by kernel_rfl) (by kernel_rfl) (by kernel_rfl) (fun _ _ _ h => h) (Or.inl ⟨by rfl, fun w hSw => by clear hSw; go_simp⟩) hH ?_
      refine wpAnyH_take (i := 1) (v := .slice (some ⟨b0, o0, none⟩) rs.length cap) rfl (by kernel_rfl) (by kernel_rfl) (by kernel_rfl) (fun _ _ _ h => h) (Or.inl ⟨by rfl, fun w hSw => by clear hSw; go_simp⟩) hH ?_
      try simp only [Act.put, List.setIfInBounds_toArray, List.set_cons_zero, List.set_cons_succ, List.getElem_toArray, List.getElem_cons_succ, List.getElem_cons_zero]
      refine wpAnyH_take (i := 2) (v := .int .i64 (k : Int)) rfl (by kernel_rfl) (by kernel_rfl) (by kernel_rfl) (fun _ _ _ h => h) (Or.inl ⟨by rfl, fun w hSw => by clear hSw; go_simp⟩) hH ?_
      try simp only [Act.put, List.setIfInBounds_toArray, List.set_cons_zero, List.set_cons_succ, List.getElem_toArray, List.getElem_cons_succ, List.getElem_cons_zero]
      refine wpAnyH_take (i := 3) (v := .pointer (some ⟨b0, o0 + k * 3, none⟩)) rfl (by kernel_rfl) (by kernel_rfl) (by kernel_rfl) (fun _ _ _ h => h) (Or.inl ⟨by rfl, fun w hSw => by clear hSw; go_simp⟩) hH ?_
      try simp only [Act.put, List.setIfInBounds_toArray, List.set_cons_zero, List.set_cons_succ, List.getElem_toArray, List.getElem_cons_succ, List.getElem_cons_zero]
      refine wpAnyH_take (i := 4) (v := .pointer (some ⟨b0, o0 + k * 3 + 1, none⟩)) rfl (by kernel_rfl) (by kernel_rfl) (by kernel_rfl) (fun _ _ _ h => h) (Or.inl ⟨by rfl, fun w hSw => by clear hSw; go_simp⟩) hH ?_
      try simp only [Act.put, List.setIfInBounds_toArray, List.set_cons_zero, List.set_cons_succ, List.getElem_toArray, List.getElem_cons_succ, List.getElem_cons_zero]
      refine wpAnyH_take (i := 5) (v := .int .i64 t) rfl (by kernel_rfl) (by kernel_rfl) (by kernel_rfl) (fun _ _ _ h => h) (Or.inl ⟨by rfl, fun w hSw => by obtain ⟨e0, e1, e2⟩ := HAk.out w hSw; clear hSw; go_simp⟩) hH ?_
      try simp only [Act.put, List.setIfInBounds_toArray, List.set_cons_zero, List.set_cons_succ, List.getElem_toArray, List.getElem_cons_succ, List.getElem_cons_zero]
      refine wpAnyH_take (i := 6) (v := .slice (some ⟨b0, o0, none⟩) rs.length cap) rfl (by kernel_rfl) (by kernel_rfl) (by kernel_rfl) (fun _ _ _ h => h) (Or.inl ⟨by rfl, fun w hSw => by clear hSw; go_simp⟩) hH ?_
      try simp only [Act.put, List.setIfInBounds_toArray, List.set_cons_zero, List.set_cons_succ, List.getElem_toArray, List.getElem_cons_succ, List.getElem_cons_zero]
      refine wpAnyH_take (i := 7) (v := .int .i64 (k : Int)) rfl (by kernel_rfl) (by kernel_rfl) (by kernel_rfl) (fun _ _ _ h => h) (Or.inl ⟨by rfl, fun w hSw => by clear hSw; go_simp⟩) hH ?_
      try simp only [Act.put, List.setIfInBounds_toArray, List.set_cons_zero, List.set_cons_succ, List.getElem_toArray, List.getElem_cons_succ, List.getElem_cons_zero]
      refine wpAnyH_take (i := 8) (v := .pointer (some ⟨b0, o0 + k * 3, none⟩)) rfl (by kernel_rfl) (by kernel_rfl) (by kernel_rfl) (fun _ _ _ h => h) (Or.inl ⟨by rfl, fun w hSw => by clear hSw; go_simp⟩) hH ?_
      try simp only [Act.put, List.setIfInBounds_toArray, List.set_cons_zero, List.set_cons_succ, List.getElem_toArray, List.getElem_cons_succ, List.getElem_cons_zero]
      refine wpAnyH_take (i := 9) (v := .pointer (some ⟨b0, o0 + k * 3, none⟩)) rfl (by kernel_rfl) (by kernel_rfl) (by kernel_rfl) (fun _ _ _ h => h) (Or.inl ⟨by rfl, fun w hSw => by clear hSw; go_simp⟩) hH ?_
      try simp only [Act.put, List.setIfInBounds_toArray, List.set_cons_zero, List.set_cons_succ, List.getElem_toArray, List.getElem_cons_succ, List.getElem_cons_zero]
      refine wpAnyH_take (i := 10) (v := .int .i64 f) rfl (by kernel_rfl) (by kernel_rfl) (by kernel_rfl) (fun _ _ _ h => h) (Or.inl ⟨by rfl, fun w hSw => by obtain ⟨e0, e1, e2⟩ := HAk.out w hSw; clear hSw; go_simp⟩) hH ?_
      try simp only [Act.put, List.setIfInBounds_toArray, List.set_cons_zero, List.set_cons_succ, List.getElem_toArray, List.getElem_cons_succ, List.getElem_cons_zero]
      refine wpAnyH_take (i := 11) (v := .int .i64 du) rfl (by kernel_rfl) (by kernel_rfl) (by kernel_rfl) (fun _ _ _ h => h) (Or.inl ⟨by rfl, fun w hSw => by clear hSw; go_simp⟩) hH ?_
      try simp only [Act.put, List.setIfInBounds_toArray, List.set_cons_zero, List.set_cons_succ, List.getElem_toArray, List.getElem_cons_succ, List.getElem_cons_zero]
      refine wpAnyH_take (i := 12) (v := .slice (some ⟨b1, o1, none⟩) ws.length cw) rfl (by kernel_rfl) (by kernel_rfl) (by kernel_rfl) (fun _ _ _ h => h) (Or.inl ⟨by rfl, fun w hSw => by clear hSw; go_simp⟩) hH ?_
      try simp only [Act.put, List.setIfInBounds_toArray, List.set_cons_zero, List.set_cons_succ, List.getElem_toArray, List.getElem_cons_succ, List.getElem_cons_zero]
      refine wpAnyH_take (i := 13) (v := .slice (some ⟨b2, o2, none⟩) L.length co) rfl (by kernel_rfl) (by kernel_rfl) (by kernel_rfl) (fun _ _ _ h => h) (Or.inl ⟨by rfl, fun w hSw => by clear hSw; go_simp⟩) hH ?_
      try simp only [Act.put, List.setIfInBounds_toArray, List.set_cons_zero, List.set_cons_succ, List.getElem_toArray, List.getElem_cons_succ, List.getElem_cons_zero]
      refine wpAnyH_take (i := 14) (v := .int .i64 (k : Int)) rfl (by kernel_rfl) (by kernel_rfl) (by kernel_rfl) (fun _ _ _ h => h) (Or.inl ⟨by rfl, fun w hSw => by clear hSw; go_simp⟩) hH ?_
      try simp only [Act.put, List.setIfInBounds_toArray, List.set_cons_zero, List.set_cons_succ, List.getElem_toArray, List.getElem_cons_succ, List.getElem_cons_zero]
      refine wpAnyH_take (i := 15) (v := .pointer (some ⟨b2, o2 + k, none⟩)) rfl (by kernel_rfl) (by kernel_rfl) (by kernel_rfl) (fun _ _ _ h => h) (Or.inl ⟨by rfl, fun w hSw => by clear hSw; go_simp⟩) hH ?_
      try simp only [Act.put, List.setIfInBounds_toArray, List.set_cons_zero, List.set_cons_succ, List.getElem_toArray, List.getElem_cons_succ, List.getElem_cons_zero]
      refine wpAnyH_take (i := 16) (v := .int .i64 (m : Int)) rfl (by kernel_rfl) (by kernel_rfl) (by kernel_rfl) (fun _ _ _ h => h) (Or.inl ⟨by rfl, fun w hSw => by have e0 := HLk.out w hSw; clear hSw; go_simp⟩) hH ?_
      try simp only [Act.put, List.setIfInBounds_toArray, List.set_cons_zero, List.set_cons_succ, List.getElem_toArray, List.getElem_cons_succ, List.getElem_cons_zero]
      refine wpAnyH_take (i := 17) (v := .pointer (some ⟨b1, o1 + m * 5, none⟩)) rfl (by kernel_rfl) (by kernel_rfl) (by kernel_rfl) (fun _ _ _ h => h) (Or.inl ⟨by rfl, fun w hSw => by clear hSw; go_simp⟩) hH ?_
      try simp only [Act.put, List.setIfInBounds_toArray, List.set_cons_zero, List.set_cons_succ, List.getElem_toArray, List.getElem_cons_succ, List.getElem_cons_zero]
      refine wpAnyH_take (i := 18) (v := .pointer (some ⟨b1, o1 + m * 5 + 3, none⟩)) rfl (by kernel_rfl) (by kernel_rfl) (by kernel_rfl) (fun _ _ _ h => h) (Or.inl ⟨by rfl, fun w hSw => by clear hSw; go_simp⟩) hH ?_
      try simp only [Act.put, List.setIfInBounds_toArray, List.set_cons_zero, List.set_cons_succ, List.getElem_toArray, List.getElem_cons_succ, List.getElem_cons_zero]
      refine wpAnyH_take (i := 19) (v := .int .i64 cc) rfl (by kernel_rfl) (by kernel_rfl) (by kernel_rfl) (fun _ _ _ h => h) (Or.inl ⟨by rfl, fun w hSw => by obtain ⟨e0, e1, e2, e3, e4⟩ := HBk.out w hSw; clear hSw; go_simp⟩) hH ?_
      try simp only [Act.put, List.setIfInBounds_toArray, List.set_cons_zero, List.set_cons_succ, List.getElem_toArray, List.getElem_cons_succ, List.getElem_cons_zero]
      refine wpAnyH_take (i := 20) (v := .int .i64 dc) rfl (by kernel_rfl) (by kernel_rfl) (by kernel_rfl) (fun _ _ _ h => h) (Or.inl ⟨by rfl, fun w hSw => by clear hSw; go_simp⟩) hH ?_
      try simp only [Act.put, List.setIfInBounds_toArray, List.set_cons_zero, List.set_cons_succ, List.getElem_toArray, List.getElem_cons_succ, List.getElem_cons_zero]
      refine wpAnyH_take (i := 21) (v := .int .i64 (C + dc)) rfl (by kernel_rfl) (by kernel_rfl) (by kernel_rfl) (fun _ _ _ h => h) (Or.inl ⟨by rfl, fun w hSw => by clear hSw; go_simp⟩) hH ?_
      try simp only [Act.put, List.setIfInBounds_toArray, List.set_cons_zero, List.set_cons_succ, List.getElem_toArray, List.getElem_cons_succ, List.getElem_cons_zero]
      refine wpAnyH_take (i := 22) (v := .int .i64 (C + dc)) rfl (by kernel_rfl) (by kernel_rfl) (by kernel_rfl) (fun _ _ _ h => h) (Or.inl ⟨by rfl, fun w hSw => by clear hSw; go_simp⟩) hH ?_
      try simp only [Act.put, List.setIfInBounds_toArray, List.set_cons_zero, List.set_cons_succ, List.getElem_toArray, List.getElem_cons_succ, List.getElem_cons_zero]
      refine wpAnyH_done (by kernel_rfl) ?_ _
      have H2 : Hid (Below w.heap.size w V2) := hH
      clear hH HB
      go_wp2
      exact ⟨⟨k + 1, by omega, by rw [HN.out], by go_num, H2.out⟩, by simp [intOf]; omega⟩
    · have hle : (L.length : Int) ≤ (k : Int) := by omega
      obtain rfl : k = L.length := by omega
      go_wp2
      go_ret
      exact ⟨rfl, HB.out⟩
set_option maxHeartbeats 8000000 in
set_option maxRecDepth 8000 in
theorem specRoster_any (ad : Option Addr) (cap : Nat) (rs : List RSf) (aw : Option Addr) (cw : Nat) (ws : List CWk) (ao : Option Addr) (co : Nat) (L : List Int) (hl : rs.length ≤ 100000000) (hlw : ws.length ≤ 100000000) (hlo : L.length ≤ 100000000) (hp : ∀ r ∈ rs, SfOK r) (hpw : ∀ c ∈ ws, WkOK c) (w : World) (hr : ReadsSf w.heap.size w ad rs) (hw : ReadsWk w.heap.size w aw ws) (ho : Reads w.heap.size w ao L) :
    Calls Try.prog 13 #[.slice ad rs.length cap, .slice aw ws.length cw, .slice ao L.length co] w (AnsR (rwC rs ws L).1 (rwC rs ws L).2 (rwL rs ws L) (rwT rs ws L) w) := by
  have HNo : Hid (∀ (c : Int) (p : Nat) (w' : World), rwC rs ws L = (c, p) → c ≠ 0 → Below w.heap.size w w' → AnsR (rwC rs ws L).1 (rwC rs ws L).2 (rwL rs ws L) (rwT rs ws L) w (.returned (.tuple #[.agg #[.slice none 0 0, .int .i64 0], .int .i64 c, .int .i64 (p : Int)])) w') := fun c p w' h1 h2 h3 => by
    obtain ⟨e1, e2⟩ := rw_no h1 h2
    rw [h1, e1, e2]
    exact ansR_none h3
  have HSh : Hid (∀ W, Below w.heap.size w W → Calls Try.prog 7 #[.slice ad rs.length cap, .slice aw ws.length cw] W fun e w' => e = .returned (.bool (roB rs ws)) ∧ Below W.heap.size W w') := fun W hb => specShifts_any ad cap rs aw cw ws hl hlw hp hpw W ((hr.below hb).mono hb.size) (hw.later hb)
  by_cases hlong : 4096 < rs.length ∨ 4096 < ws.length ∨ 4096 < L.length
  · have hc : rwC rs ws L = (2, 0) := by
      unfold rwC
      by_cases h : 4096 < L.length
      · rw [if_pos h]
      · rw [if_neg h]
        have : rfB rs ws = 2 := by unfold rfB; rw [if_pos (by omega)]
        rw [if_neg (by omega), this]
    have HA : Hid (∀ w', Below w.heap.size w w' → AnsR (rwC rs ws L).1 (rwC rs ws L).2 (rwL rs ws L) (rwT rs ws L) w (.returned (.tuple #[.agg #[.slice none 0 0, .int .i64 0], .int .i64 2, .int .i64 0])) w') := fun w' h => HNo.out 2 0 w' hc (by omega) h
    clear hr hw ho hp hpw HNo HSh hc
    generalize AnsR (rwC rs ws L).1 (rwC rs ws L).2 (rwL rs ws L) (rwT rs ws L) w = Post at *
    by_cases h1 : (4096 : Int) < (rs.length : Int)
    · go_enter Try.func13, Try.ntmps13
      go_wp2
      refine bodyPost_ret (v := .tuple #[.agg #[.slice none 0 0, .int .i64 0], .int .i64 2, .int .i64 0]) (by simp [results, Try.results13, go_sem]) rfl ?_
      refine HA.out _ ?_
      repeat (first | exact Below.refl _ _ | refine chain ?_ (below_alloc _ _) | refine Below.setCell ?_ (by dsimp only; omega) _)
    · by_cases h2 : (4096 : Int) < (ws.length : Int)
      · go_enter Try.func13, Try.ntmps13
        go_wp2
        refine bodyPost_ret (v := .tuple #[.agg #[.slice none 0 0, .int .i64 0], .int .i64 2, .int .i64 0]) (by simp [results, Try.results13, go_sem]) rfl ?_
        refine HA.out _ ?_
        repeat (first | exact Below.refl _ _ | refine chain ?_ (below_alloc _ _) | refine Below.setCell ?_ (by dsimp only; omega) _)
      · have h3 : (4096 : Int) < (L.length : Int) := by omega
        go_enter Try.func13, Try.ntmps13
        go_wp2
        refine bodyPost_ret (v := .tuple #[.agg #[.slice none 0 0, .int .i64 0], .int .i64 2, .int .i64 0]) (by simp [results, Try.results13, go_sem]) rfl ?_
        refine HA.out _ ?_
        repeat (first | exact Below.refl _ _ | refine chain ?_ (below_alloc _ _) | refine Below.setCell ?_ (by dsimp only; omega) _)
  have h1 : ¬ (4096 : Int) < (rs.length : Int) := by omega
  have h2 : ¬ (4096 : Int) < (ws.length : Int) := by omega
  have h3 : ¬ (4096 : Int) < (L.length : Int) := by omega
  obtain ⟨qb, hqb⟩ : ∃ qb, qb = w.heap.size := ⟨_, rfl⟩
  obtain ⟨W0, hW0⟩ : ∃ W0, W0 = w.alloc (Obj.cells #[.slice none 0 0, .int .i64 0] 36) := ⟨_, rfl⟩
  have HE : Hid (W0 = w.alloc (Obj.cells #[.slice none 0 0, .int .i64 0] 36) ∧ qb = w.heap.size) := ⟨hW0, hqb⟩
  have HB0 : Hid (Below w.heap.size w W0 ∧ W0.heap[qb]? = some (.cells #[.slice none 0 0, .int .i64 0] 36 (0, 0))) := by rw [hW0, hqb]; exact ⟨below_alloc _ _, heapNew _ _⟩
  have hqw : w.heap.size ≤ qb := by omega
  have HQl : Hid (qb < W0.heap.size) := blkLt HB0.out.2
  clear hW0 hqb
  have HRet : Hid (∀ W, Below W0.heap.size W0 W → Below w.heap.size w W ∧ W.cell? ⟨qb, 0, none⟩ = some (.slice none 0 0) ∧ W.cell? ⟨qb, 1, none⟩ = some (.int .i64 0) ∧ W.frozen? ⟨qb, 0, none⟩ = false ∧ W.frozen? ⟨qb, 1, none⟩ = false) := fun W hW => by
    have hq := (hW.block qb HQl.out).trans HB0.out.2
    exact ⟨chain HB0.out.1 hW, blkCell hq 0 _ rfl, blkCell hq 1 _ rfl, blkFree hq 0, blkFree hq 1⟩
  by_cases hro : roB rs ws = true
  · have hf : rfB rs ws = 0 := by unfold rfB; rw [if_neg (by omega), if_pos hro]
    obtain ⟨h8, h5, hso, hs, hws⟩ := rf_rosters hf
    rw [hro] at HSh
    by_cases hln : L.length = rs.length
    · have hcd : rwC rs ws L = rwG rs ws L L.length 0 := by unfold rwC; rw [if_neg (by omega), if_pos hf, if_pos hln]
      have HYes : Hid (rwG rs ws L L.length 0 = (0, 0) → (rwC rs ws L).1 = 0 ∧ (rwC rs ws L).2 = 0 ∧ rwL rs ws L = L ∧ rwT rs ws L = rqC rs ws L L.length) := fun h => by
        unfold rwL rwT
        rw [hcd, h]
        exact ⟨rfl, rfl, if_pos rfl, if_pos rfl⟩
      rw [hcd] at HNo
      have HCd : Hid (rwC rs ws L = rwG rs ws L L.length 0) := hcd
      have HNo2 : Hid (∀ (c : Int) (p : Nat) (w' : World), rwG rs ws L L.length 0 = (c, p) → c ≠ 0 → Below w.heap.size w w' → AnsR (rwC rs ws L).1 (rwC rs ws L).2 (rwL rs ws L) (rwT rs ws L) w (.returned (.tuple #[.agg #[.slice none 0 0, .int .i64 0], .int .i64 c, .int .i64 (p : Int)])) w') := by rw [hcd]; exact HNo
      have HCk : Hid (∀ (k m : Nat) W, k < L.length → m < ws.length → L.getD k 0 = (m : Int) → Below w.heap.size w W → Calls Try.prog 41 #[.slice ad rs.length cap, .slice aw ws.length cw, .slice ao L.length co, .int .i64 (k : Int)] W fun e w' => e = .returned (.int .i64 (coB rs ws L k)) ∧ Below W.heap.size W w') := fun k m W hk hm hL hb => specCode_any ad cap rs aw cw ws ao co L k m hs hws hpw (by omega) h8 hk (by omega) hm (by omega) hL W ((hr.below hb).mono hb.size) (hw.later hb) ((ho.below hb).mono hb.size)
      have HCt : Hid (∀ W, (∀ k, k < L.length → ∃ m : Nat, m < ws.length ∧ L.getD k 0 = (m : Int)) → Below w.heap.size w W → Calls Try.prog 42 #[.slice ad rs.length cap, .slice aw ws.length cw, .slice ao L.length co] W fun e w' => e = .returned (.int .i64 (rqC rs ws L L.length)) ∧ Below W.heap.size W w') := fun W hin hb => specCost_any ad cap rs aw cw ws ao co L hs hws h8 (by omega) hln hin W ((hr.below hb).mono hb.size) (hw.later hb) ((ho.below hb).mono hb.size)
      have HIn : Hid (∀ (d : Int) W, Calls Try.prog 26 #[.int .i64 d, .int .i64 0, .int .i64 ((ws.length : Int) - 1)] W fun e w' => e = .returned (.bool (inB d 0 ((ws.length : Int) - 1))) ∧ w' = W) := fun d W => in_any d 0 _ W
      have HSt : Hid (∀ k, k < L.length → rwG rs ws L (L.length - k) k = if inB (L.getD k 0) 0 ((ws.length : Int) - 1) = true then (if coB rs ws L k = 0 then rwG rs ws L (L.length - (k + 1)) (k + 1) else (coB rs ws L k, k)) else (5, k)) := fun k hk => rwG_step rs ws L hk
      have HO : Hid (Reads w.heap.size w ao L) := ho
      have hwn : IntKind.i64.wrap ((ws.length : Int) - 1) = (ws.length : Int) - 1 := wrap_id _ (by omega) (by omega)
      have hneb : ((L.length : Int) != (rs.length : Int)) = false := by rw [hln]; simp
      have hl8 : L.length ≤ 8 := by omega
      clear hr hw ho hp hpw hcd hf hso hs hws hln hro hlong HNo
      generalize (rwC rs ws L).1 = rc at *
      generalize (rwC rs ws L).2 = rp at *
      generalize rwL rs ws L = rl at *
      generalize rwT rs ws L = rt at *
      go_enter Try.func13, Try.ntmps13
      go_upto_region 3 with fail
      rw [← HE.out.1, ← HE.out.2]
      clear HE
      go_wp2_with fail
      (first | go_at_call 7 | skip)
      refine (HSh.out W0 HB0.out.1).mono ?_
      rintro e w1 ⟨rfl, hb1⟩
      have HB1 : Hid (Below W0.heap.size W0 w1) := hb1
      clear hb1 HSh
      go_wp2_with fail
      go_loopw [9, 10] (fun c _ wr => ∃ (k : Nat), k ≤ L.length ∧ c = .int .i64 (k : Int) ∧ rwG rs ws L L.length 0 = rwG rs ws L (L.length - k) k ∧ (∀ j, j < k → ∃ m : Nat, m < ws.length ∧ L.getD j 0 = (m : Int)) ∧ Below W0.heap.size W0 wr) (fun c _ _ => L.length - (intOf c).toNat)
      case atStart => exact ⟨0, Nat.zero_le _, rfl, rfl, fun j hj => by omega, HB1.out⟩
      case round =>
        clear HB1
        obtain ⟨k, hk, rfl, hg, hin, hW⟩ := hrel
        have HG : Hid (rwG rs ws L L.length 0 = rwG rs ws L (L.length - k) k) := hg
        have HI : Hid (∀ j, j < k → ∃ m : Nat, m < ws.length ∧ L.getD j 0 = (m : Int)) := hin
        have HW : Hid (Below W0.heap.size W0 wr) := hW
        clear hg hin hW
        by_cases hlt : k < L.length
        · have hlt' : (k : Int) < (L.length : Int) := by omega
          rcases HO.out with h | ⟨b0, o0, ha, hB0, ia⟩
          · rw [h] at hlt; simp at hlt
          have d0 := (ia.below (HRet.out wr HW.out).1 hB0) k hlt
          have hst := HSt.out k hlt
          obtain ⟨d, hd⟩ : ∃ d, L.getD k 0 = d := ⟨_, rfl⟩
          have HD : Hid (L.getD k 0 = d) := hd
          rw [hd] at d0 hst
          obtain ⟨ib, hib⟩ : ∃ ib, inB d 0 ((ws.length : Int) - 1) = ib := ⟨_, rfl⟩
          have HIb : Hid (inB d 0 ((ws.length : Int) - 1) = ib) := hib
          have HInd : Hid (∀ W, Calls Try.prog 26 #[.int .i64 d, .int .i64 0, .int .i64 ((ws.length : Int) - 1)] W fun e w' => e = .returned (.bool ib) ∧ w' = W) := by have := HIn.out d; rwa [hib] at this
          rw [hib] at hst
          have HStk : Hid (rwG rs ws L (L.length - k) k = if ib = true then (if coB rs ws L k = 0 then rwG rs ws L (L.length - (k + 1)) (k + 1) else (coB rs ws L k, k)) else (5, k)) := hst
          subst ha
          clear hst hib hd ia
          go_wp2_with fail
          (first | go_at_call 26 | skip)
          refine (HInd.out _).mono ?_
          rintro e w3 ⟨rfl, h9⟩
          rw [h9]
          clear h9 w3 HInd d0
          cases ib
          · obtain ⟨HLw, r0, r1, s0, s1⟩ := HRet.out wr HW.out
            have HLw2 : Hid (Below w.heap.size w wr) := HLw
            have HA : Hid (∀ w', Below w.heap.size w w' → AnsR rc rp rl rt w (.returned (.tuple #[.agg #[.slice none 0 0, .int .i64 0], .int .i64 5, .int .i64 (k : Int)])) w') := fun w' h => HNo2.out 5 k w' (by rw [HG.out, HStk.out]; rfl) (by omega) h
            clear HLw HNo2 HYes HG HStk HI HCk HCt
            go_wp2
            refine bodyPost_ret (v := .tuple #[.agg #[.slice none 0 0, .int .i64 0], .int .i64 5, .int .i64 (k : Int)]) (by simp [results, Try.results13, go_sem, r0, r1]) rfl ?_
            refine HA.out _ ?_
            repeat (first | exact HLw2.out | refine Below.setCell ?_ hqw _)
          · obtain ⟨m, hm⟩ : ∃ m : Nat, d = (m : Int) := ⟨d.toNat, by have := HIb.out; unfold inB at this; have := of_decide_eq_true this; omega⟩
            subst hm
            have hmw : m < ws.length := by have := HIb.out; unfold inB at this; have := of_decide_eq_true this; omega
            have HCk2 : Hid (∀ W, Below w.heap.size w W → Calls Try.prog 41 #[.slice ad rs.length cap, .slice aw ws.length cw, .slice (some ⟨b0, o0, none⟩) L.length co, .int .i64 (k : Int)] W fun e w' => e = .returned (.int .i64 (coB rs ws L k)) ∧ Below W.heap.size W w') := fun W hW => HCk.out k m W hlt hmw HD.out hW
            have HStn : Hid (coB rs ws L k = 0 → rwG rs ws L L.length 0 = rwG rs ws L (L.length - (k + 1)) (k + 1)) := fun hc => by rw [HG.out, HStk.out, if_pos (by first | rfl | trivial), if_pos hc]
            have HSto : Hid (coB rs ws L k ≠ 0 → rwG rs ws L L.length 0 = (coB rs ws L k, k)) := fun hc => by rw [HG.out, HStk.out, if_pos (by first | rfl | trivial), if_neg hc]
            have HI2 : Hid (∀ j, j < k + 1 → ∃ m : Nat, m < ws.length ∧ L.getD j 0 = (m : Int)) := fun j hj => by
              by_cases e : j = k
              · exact ⟨m, hmw, by rw [e]; exact HD.out⟩
              · exact HI.out j (by omega)
            clear HStk HIb HD HG HI HCk
            generalize coB rs ws L k = code at *
            go_wp2_with fail
            (first | go_at_call 41 | skip)
            refine (HCk2.out wr (HRet.out wr HW.out).1).mono ?_
            rintro e w4 ⟨rfl, hb4⟩
            have HW4 : Hid (Below W0.heap.size W0 w4) := chain HW.out hb4
            clear hb4 HW HCk2
            by_cases h0 : code = 0
            · have HG2 : Hid (rwG rs ws L L.length 0 = rwG rs ws L (L.length - (k + 1)) (k + 1)) := HStn.out h0
              clear HStn HSto
              subst h0
              go_wp2
              exact ⟨⟨k + 1, by omega, by go_num, HG2.out, HI2.out, HW4.out⟩, by simp [intOf]; omega⟩
            · have hcb : (code != 0) = true := by simpa using h0
              obtain ⟨HLw, r0, r1, s0, s1⟩ := HRet.out w4 HW4.out
              have HLw2 : Hid (Below w.heap.size w w4) := HLw
              have HA : Hid (∀ w', Below w.heap.size w w' → AnsR rc rp rl rt w (.returned (.tuple #[.agg #[.slice none 0 0, .int .i64 0], .int .i64 code, .int .i64 (k : Int)])) w') := fun w' h => HNo2.out code k w' (HSto.out h0) h0 h
              clear HLw HNo2 HYes HStn HSto HI2 HCt
              go_wp2
              refine bodyPost_ret (v := .tuple #[.agg #[.slice none 0 0, .int .i64 0], .int .i64 code, .int .i64 (k : Int)]) (by simp [results, Try.results13, go_sem, r0, r1]) rfl ?_
              refine HA.out _ ?_
              repeat (first | exact HLw2.out | refine Below.setCell ?_ hqw _)
        · have hle : (L.length : Int) ≤ (k : Int) := by omega
          obtain rfl : k = L.length := by omega
          obtain ⟨e1, e2, e3, e4⟩ := HYes.out (by rw [HG.out]; exact rwG_end rs ws L _)
          have HEq : Hid (rc = 0 ∧ rp = 0 ∧ rl = L ∧ rt = rqC rs ws L L.length) := ⟨e1, by omega, e3, e4⟩
          have HCt2 : Hid (∀ W, Below w.heap.size w W → Calls Try.prog 42 #[.slice ad rs.length cap, .slice aw ws.length cw, .slice ao L.length co] W fun e w' => e = .returned (.int .i64 (rqC rs ws L L.length)) ∧ Below W.heap.size W w') := fun W hW => HCt.out W HI.out hW
          clear e1 e2 e3 e4 HYes HNo2 HG HI HCk HCt HSt
          generalize rqC rs ws L L.length = cost at *
          have HLwr := (HRet.out wr HW.out).1
          have HLw3 : Hid (Below w.heap.size w wr) := HLwr
          clear HLwr
          obtain ⟨i0, hi0, hzz⟩ := Option.map_eq_some_iff.1 intInfo1
          simp only [Prod.mk.injEq] at hzz
          obtain ⟨hi1, hi2, hi3⟩ := hzz
          have HOne : Hid (∀ u ∈ inW L, u.oneCell' = true) := fun u hu => by
            obtain ⟨z, _, rfl⟩ := List.mem_map.1 hu
            rfl
          have HS1 : Hid ((wr.alloc (Obj.cells #[] 3)).ownsRow wr.heap.size 3 1 (.slice (some ⟨wr.heap.size, 0, none⟩) 0 0) 0 []) := ⟨rfl, .inr ⟨wr.heap.size, 0, #[], rfl, Nat.le_refl _, heapNew _ _, Nat.le_refl _, by unfold maxLen; omega, rfl, rfl⟩⟩
          have HNw : Hid (0 < L.length → ∃ ad, ao = some ad ∧ ∀ j u, (inW L)[j]? = some u → (wr.alloc (Obj.cells #[] 3)).cell? (ad.add j) = some u) := fun h0 => by
            rcases HO.out with h | ⟨b1, o1, rfl, hb1, ia⟩
            · rw [h] at h0; simp at h0
            · refine ⟨_, rfl, fun j u hu => ?_⟩
              have hj : j < L.length := by
                have := (List.getElem?_eq_some_iff.1 hu).1
                simpa [inW] using this
              have := (ia.below (chain HLw3.out (below_alloc wr (Obj.cells #[] 3))) hb1) j hj
              rw [Go.WideShapes.add_plain, this]
              simp [inW, hj] at hu
              simp [List.getD_eq_getElem?_getD, hj, hu]
          go_wp2_with (at_builtin; refine wpList_append_any rfl _ _ 34 rfl wr.heap.size 3 i0 (.int .i64 0) 1 8 Try.underlying34 hi0 hi1 hi2 hi3 rfl (by decide) _ _ _ rfl HS1.out ao L.length co (inW L) rfl (by simp [inW]) HNw.out HOne.out (by unfold maxLen; omega) (by omega) (by simp) ?_; intro va vc w2 hown hgrow hat; simp only [Nat.zero_add, List.nil_append] at hown ⊢; have H2 : Hid (w2.ownsRow wr.heap.size 3 1 (.slice va L.length vc) L.length (inW L) ∧ Below wr.heap.size wr w2) := ⟨hown, (below_alloc wr (Obj.cells #[] 3)).grown hgrow (by simp) (fun q hq => (row_lt HS1.out q hq).1)⟩; clear hown hgrow hat)
          (first | go_at_call 42 | skip)
          refine (HCt2.out w2 (chain HLw3.out H2.out.2)).mono ?_
          rintro e w6 ⟨rfl, hb6⟩
          have HR6 : Hid (RowI wr.heap.size w6.heap.size w6 va L ∧ Below wr.heap.size wr w6) := by
            have k := rowW_own (w := wr) (g := va) (cp := vc) (L := L) H2.out.1 H2.out.2
            exact ⟨(k.rowI.later hb6).wide (Nat.le_refl _) hb6.size (Nat.le_refl _), chain H2.out.2 hb6⟩
          clear hb6 H2 HS1 HNw HOne HCt2
          have hW6 : Below W0.heap.size W0 w6 := chain HW.out HR6.out.2
          have hq := (hW6.block qb HQl.out).trans HB0.out.2
          have r0 := blkCell hq 0 _ rfl
          have r1 := blkCell hq 1 _ rfl
          have s0 := blkFree hq 0
          have s1 := blkFree hq 1
          have h5 := heap_setCell_same _ _ 1 _ _ (.int .i64 cost) (heap_setCell_same _ _ 0 _ _ (.slice va L.length vc) hq)
          simp only [List.setIfInBounds_toArray, List.set_cons_zero, List.set_cons_succ, List.getElem_toArray, List.getElem_cons_zero, List.getElem_cons_succ] at h5 r0 r1
          have HLw6 : Hid (Below w.heap.size w w6) := chain HLw3.out HR6.out.2
          obtain ⟨W7, hW7⟩ : ∃ W7, W7 = (w6.setCell ⟨qb, 0, none⟩ (.slice va L.length vc)).setCell ⟨qb, 1, none⟩ (.int .i64 cost) := ⟨_, rfl⟩
          rw [← hW7] at h5
          have HW7 : Hid (W7 = (w6.setCell ⟨qb, 0, none⟩ (.slice va L.length vc)).setCell ⟨qb, 1, none⟩ (.int .i64 cost)) := hW7
          have t0 := blkCell h5 0 _ rfl
          have t1 := blkCell h5 1 _ rfl
          simp only [List.getElem_toArray, List.getElem_cons_zero, List.getElem_cons_succ] at t0 t1
          have hqr : Hid (qb < wr.heap.size) := Nat.lt_of_lt_of_le HQl.out HW.out.size
          clear hq h5 hW7 hW6
          go_wp2
          rw [← HW7.out]
          refine bodyPost_ret (v := .tuple #[.agg #[.slice va L.length vc, .int .i64 cost], .int .i64 0, .int .i64 0]) (by simp [results, Try.results13, go_sem, t0, t1]) rfl ?_
          obtain ⟨e1, e2, e3, e4⟩ := HEq.out
          rw [e1, e2, e3, e4]
          have e5 : W7.heap.size = w6.heap.size := by rw [HW7.out]; simp only [World.size_setCell]
          refine ⟨va, vc, rfl, ?_, ?_⟩
          · rw [e5]
            refine RowI.wide (lo := wr.heap.size) (hi := w6.heap.size) ?_ HLw3.out.size (Nat.le_refl _) (by omega)
            rw [HW7.out]
            exact (HR6.out.1.set hqr.out _ _).set hqr.out _ _
          · rw [HW7.out]
            exact (HLw6.out.setCell hqw _).setCell hqw _
    · have hc : rwC rs ws L = (3, 0) := by unfold rwC; rw [if_neg (by omega), if_pos hf, if_neg hln]
      have hneb : ((L.length : Int) != (rs.length : Int)) = true := by simp; omega
      have HA : Hid (∀ w', Below w.heap.size w w' → AnsR (rwC rs ws L).1 (rwC rs ws L).2 (rwL rs ws L) (rwT rs ws L) w (.returned (.tuple #[.agg #[.slice none 0 0, .int .i64 0], .int .i64 3, .int .i64 0])) w') := fun w' h => HNo.out 3 0 w' hc (by omega) h
      clear hr hw ho hp hpw HNo hc hf hso hs hws hro hln hlong
      generalize AnsR (rwC rs ws L).1 (rwC rs ws L).2 (rwL rs ws L) (rwT rs ws L) w = Post at *
      go_enter Try.func13, Try.ntmps13
      go_upto_region 3 with fail
      rw [← HE.out.1, ← HE.out.2]
      clear HE
      go_wp2_with fail
      (first | go_at_call 7 | skip)
      refine (HSh.out W0 HB0.out.1).mono ?_
      rintro e w1 ⟨rfl, hb1⟩
      obtain ⟨HLw, r0, r1, s0, s1⟩ := HRet.out w1 hb1
      have HLw2 : Hid (Below w.heap.size w w1) := HLw
      clear hb1 HSh HRet HB0 HLw
      go_wp2
      refine bodyPost_ret (v := .tuple #[.agg #[.slice none 0 0, .int .i64 0], .int .i64 3, .int .i64 0]) (by simp [results, Try.results13, go_sem, r0, r1]) rfl ?_
      refine HA.out _ ?_
      repeat (first | exact HLw2.out | refine Below.setCell ?_ hqw _)
  · have hro' : roB rs ws = false := by cases h : roB rs ws; rfl; exact absurd h hro
    have hc : rwC rs ws L = (1, 0) := by
      have e : rfB rs ws = 1 := by unfold rfB; rw [if_neg (by omega), if_neg hro]
      unfold rwC; rw [if_neg (by omega), if_neg (by omega), e]
    rw [hro'] at HSh
    have HA : Hid (∀ w', Below w.heap.size w w' → AnsR (rwC rs ws L).1 (rwC rs ws L).2 (rwL rs ws L) (rwT rs ws L) w (.returned (.tuple #[.agg #[.slice none 0 0, .int .i64 0], .int .i64 1, .int .i64 0])) w') := fun w' h => HNo.out 1 0 w' hc (by omega) h
    clear hr hw ho hp hpw HNo hc hro hro' hlong
    generalize AnsR (rwC rs ws L).1 (rwC rs ws L).2 (rwL rs ws L) (rwT rs ws L) w = Post at *
    go_enter Try.func13, Try.ntmps13
    go_upto_region 3 with fail
    rw [← HE.out.1, ← HE.out.2]
    clear HE
    go_wp2_with fail
    (first | go_at_call 7 | skip)
    refine (HSh.out W0 HB0.out.1).mono ?_
    rintro e w1 ⟨rfl, hb1⟩
    obtain ⟨HLw, r0, r1, s0, s1⟩ := HRet.out w1 hb1
    have HLw2 : Hid (Below w.heap.size w w1) := HLw
    clear hb1 HSh HRet HB0 HLw
    go_wp2
    refine bodyPost_ret (v := .tuple #[.agg #[.slice none 0 0, .int .i64 0], .int .i64 1, .int .i64 0]) (by simp [results, Try.results13, go_sem, r0, r1]) rfl ?_
    refine HA.out _ ?_
    repeat (first | exact HLw2.out | refine Below.setCell ?_ hqw _)
end Go.Proofs.Yteigbmdhfeagfaa
