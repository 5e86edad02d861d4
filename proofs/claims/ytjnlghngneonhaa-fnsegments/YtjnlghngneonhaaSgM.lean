/-
  A list of segments of its own, each with its own row of texts: the laws' own marks on it, and held against them.
-/
import Derived.Test.YtjnlghngneonhaaSgQ
import Derived.Test.YtjnlghngneonhaaScW
import Derived.Deep.RegionHeld3
namespace Go.Proofs.Ytjnlghngneonhaa
open Go.ChangeShapes Go.WideShapes Go.ChangeAt Go.RowKit Go.Joins Go.Deep
set_option linter.unusedVariables false

theorem mkA_set (f : Nat → Value) (m i : Nat) (u : Value) (h : i < m) : (mkA f m).set i u = mkA (fun j => if j = i then u else f j) m := by
  apply List.ext_getElem?
  intro j
  by_cases hj : j < m
  · rw [mkA_get _ _ j hj, List.getElem?_set]
    by_cases e : i = j
    · subst e; rw [if_pos rfl, if_pos (by rw [mkA_length]; exact h), if_pos rfl]
    · rw [if_neg e, mkA_get f m j hj, if_neg (fun e2 => e e2.symm)]
  · rw [List.getElem?_eq_none (by rw [List.length_set, mkA_length]; omega), List.getElem?_eq_none (by rw [mkA_length]; omega)]
theorem mkA_congr {f g : Nat → Value} {m : Nat} (h : ∀ j, j < m → f j = g j) : mkA f m = mkA g m := by
  unfold mkA
  exact List.map_congr_left (fun j hj => h j (List.mem_range.1 hj))
def FarS (a b : Value) : Prop := ∀ q, a.ownBlock = some q → b.ownBlock ≠ some q
/-- The number that the marks have come to ahead of segment i. -/
def kAtS (k0 : Nat) (M : Nat → Nat) : Nat → Nat
  | 0 => k0
  | i + 1 => kAtS k0 M i + 1 + M i
theorem kAtS_le (k0 : Nat) (M : Nat → Nat) (i j : Nat) (h : i ≤ j) : kAtS k0 M i ≤ kAtS k0 M j := by
  induction j with
  | zero => obtain rfl : i = 0 := by omega
            exact Nat.le_refl _
  | succ j ih =>
    by_cases e : i = j + 1
    · subst e; exact Nat.le_refl _
    · have := ih (by omega)
      show _ ≤ kAtS k0 M j + 1 + M j
      omega
/-- n segments of their own: what lies in the list, and in the row of each. -/
structure SgT (B : Nat) (la : Option Addr) (n lk : Nat) (vs : Nat → Value) (M : Nat → Nat) (f : Nat → Value) (C : Nat → List Value) (W : World) : Prop where
  row : W.ownsRow B 43 2 (.slice la n lk) n (mkA f (n * 2))
  each : ∀ i, i < n → W.ownsRow B 9 1 (vs i) (M i) (C i)
  far : ∀ i j, i < n → j < n → i ≠ j → FarS (vs i) (vs j)
/-- Blocks of such a list. -/
def SgX (la : Option Addr) (n lk : Nat) (vs : Nat → Value) (q : Nat) : Prop := (Value.slice la n lk).ownBlock = some q ∨ ∃ i, i < n ∧ (vs i).ownBlock = some q
section
variable {B : Nat} {la : Option Addr} {n lk : Nat} {vs : Nat → Value} {M : Nat → Nat} {f f' : Nat → Value} {C C' : Nat → List Value} {W W' : World}
theorem SgT.lt (h : SgT B la n lk vs M f C W) : ∀ q, SgX la n lk vs q → B ≤ q ∧ q < W.heap.size := by
  rintro q (hq | ⟨i, hi, hq⟩)
  · exact row_lt h.row q hq
  · exact row_lt (h.each i hi) q hq
theorem SgT.same (h : SgT B la n lk vs M f C W) (hk : ∀ q, SgX la n lk vs q → W'.heap[q]? = W.heap[q]?) : SgT B la n lk vs M f C W' :=
  ⟨row_of h.row (fun q hq => hk q (.inl hq)), fun i hi => row_of (h.each i hi) (fun q hq => hk q (.inr ⟨i, hi, hq⟩)), h.far⟩
theorem SgT.later (h : SgT B la n lk vs M f C W) (hb : Below W.heap.size W W') : SgT B la n lk vs M f C W' := h.same (fun q hq => hb.block q (h.lt q hq).2)
theorem SgT.congr (h : SgT B la n lk vs M f C W) (hf : ∀ j, j < n * 2 → f j = f' j) (hc : ∀ i, i < n → C i = C' i) : SgT B la n lk vs M f' C' W :=
  ⟨by rw [← mkA_congr hf]; exact h.row, fun i hi => hc i hi ▸ h.each i hi, h.far⟩
theorem SgT.rowOff (h : SgT B la n lk vs M f C W) {i : Nat} (hi : i < n) {q q' : Nat} (hq : (Value.slice la n lk).ownBlock = some q) (hq' : (vs i).ownBlock = some q') : q ≠ q' := offRow h.row (h.each i hi) (by decide) hq hq'
/-- A tag is turned. -/
theorem SgT.tag {g : Nat} (h : SgT B (some ⟨g, 0, none⟩) n lk vs M f C W) {i : Nat} (hi : i < n) (u : Value) : SgT B (some ⟨g, 0, none⟩) n lk vs M (fun j => if j = i * 2 then u else f j) C (W.setCell ⟨g, i * 2, none⟩ u) := by
  have hk : ∀ k, k ≠ g → (W.setCell ⟨g, i * 2, none⟩ u).heap[k]? = W.heap[k]? := fun k hk => Below.heap_setCell W ⟨g, i * 2, none⟩ _ k hk
  refine ⟨?_, fun j hj => row_of (h.each j hj) (fun q hq => hk q (Ne.symm (h.rowOff hj rfl hq))), h.far⟩
  rw [← mkA_set f (n * 2) (i * 2) u (by omega)]
  exact rowPutG h.row (i * 2) (by omega) u
/-- A row of parts is turned. -/
theorem SgT.part (h : SgT B la n lk vs M f C W) {i : Nat} (hi : i < n) {c : List Value} (hf : Fr (fun q => (vs i).ownBlock = some q) W W') (hr : W'.ownsRow B 9 1 (vs i) (M i) c) : SgT B la n lk vs M f (fun j => if j = i then c else C j) W' := by
  refine ⟨row_of h.row (fun q hq => hf.block q (row_lt h.row q hq).2 (fun e => h.rowOff hi hq e rfl)), fun j hj => ?_, h.far⟩
  by_cases e : j = i
  · subst e; rw [if_pos rfl]; exact hr
  · rw [if_neg e]
    exact row_of (h.each j hj) (fun q hq => hf.block q (row_lt (h.each j hj) q hq).2 (fun e2 => h.far j i hj hi e q hq e2))
end
/-- Marked up to j. -/
def tgM (k0 : Nat) (M : Nat → Nat) (f : Nat → Value) (j i : Nat) : Value := if i % 2 = 0 ∧ i / 2 < j then .string (mkS (kAtS k0 M (i / 2))) else f i
def ptM (k0 : Nat) (M : Nat → Nat) (C : Nat → List Value) (j i : Nat) : List Value := if i < j then mkA (fSx (kAtS k0 M i + 1)) (M i * 1) else C i
set_option maxHeartbeats 4000000 in
theorem markSgs_any {B : Nat} {la : Option Addr} {n lk : Nat} {vs : Nat → Value} {M : Nat → Nat} {f : Nat → Value} {C : Nat → List Value} (hn : n ≤ 1000) (hv : ∀ i, i < n → f (i * 2 + 1) = vs i) (k0 : Nat) (hk1 : 1 ≤ k0) (hk : kAtS k0 M n ≤ 1000000) (w : World) (h : SgT B la n lk vs M f C w) :
    Calls Try.prog 15 #[.slice la n lk, .int .i64 (k0 : Int)] w fun e w' => e = .returned (.int .i64 (kAtS k0 M n : Int)) ∧ Fr (SgX la n lk vs) w w' ∧ SgT B la n lk vs M (tgM k0 M f n) (ptM k0 M C n) w' := by
  have H0 : Hid (SgT B la n lk vs M (tgM k0 M f 0) (ptM k0 M C 0) w) := h.congr (fun j hj => by unfold tgM; rw [if_neg (by omega)]) (fun i hi => by unfold ptM; rw [if_neg (by omega)])
  have HK : Hid (∀ j, j ≤ n → 1 ≤ kAtS k0 M j ∧ kAtS k0 M j ≤ 1000000) := fun j hj => ⟨Nat.le_trans hk1 (kAtS_le k0 M 0 j (Nat.zero_le _)), Nat.le_trans (kAtS_le _ _ j n hj) hk⟩
  have HVs : Hid (∀ i, i < n → f (i * 2 + 1) = vs i) := hv
  clear h hv
  go_enter Try.func15, Try.ntmps15
  go_wp2
  go_loopw [1, 5] (fun k i wr => ∃ j : Nat, j ≤ n ∧ i = .int .i64 (j : Int) ∧ k = .int .i64 (kAtS k0 M j : Int) ∧ Fr (SgX la n lk vs) w wr ∧ SgT B la n lk vs M (tgM k0 M f j) (ptM k0 M C j) wr) (fun _ i _ => n - (intOf i).toNat)
  case atStart => exact ⟨0, Nat.zero_le _, rfl, rfl, Fr.refl _ _, H0.out⟩
  case round =>
    obtain ⟨j, hj, rfl, rfl, hf, hm⟩ := hrel
    have HF : Hid (Fr (SgX la n lk vs) w wr) := hf
    have HM : Hid (SgT B la n lk vs M (tgM k0 M f j) (ptM k0 M C j) wr) := hm
    clear hf hm H0
    by_cases hlt : j < n
    · have hlt' : (j : Int) < (n : Int) := by omega
      obtain ⟨g, cp, hq⟩ := row_some HM.out.row (by omega)
      simp only [Value.slice.injEq, true_and] at hq
      obtain ⟨rfl, rfl⟩ := hq
      obtain ⟨hkj0, hkj⟩ := HK.out j hj
      have hkj1 : kAtS k0 M j + 1 + M j ≤ 1000000 := (HK.out (j + 1) hlt).2
      have HE : Hid ((kAtS k0 M (j + 1) : Int) = ((kAtS k0 M j + 1 + M j * 1 : Nat) : Int)) := by
        show ((kAtS k0 M j + 1 + M j : Nat) : Int) = _
        omega
      have t0 := fun w => markText_any (kAtS k0 M j) hkj0 (by omega) w
      have HS : Hid (∀ (W W2 : World), SgT B (some ⟨g, 0, none⟩) n lk vs M (fun i => if i = j * 2 then .string (mkS (kAtS k0 M j)) else tgM k0 M f j i) (ptM k0 M C j) W → Fr (fun q => (vs j).ownBlock = some q) W W2 → W2.ownsRow B 9 1 (vs j) (M j) (mkA (fSx (kAtS k0 M j + 1)) (M j * 1)) → SgT B (some ⟨g, 0, none⟩) n lk vs M (tgM k0 M f (j + 1)) (ptM k0 M C (j + 1)) W2) := fun W W2 h1 h2 h3 => by
        refine (h1.part hlt h2 h3).congr (fun i hi => ?_) (fun i hi => ?_)
        · unfold tgM
          by_cases e : i = j * 2
          · subst e
            rw [if_pos rfl, if_pos (by omega), show j * 2 / 2 = j by omega]
          · rw [if_neg e]
            by_cases e2 : i % 2 = 0 ∧ i / 2 < j
            · rw [if_pos e2, if_pos (by omega)]
            · rw [if_neg e2, if_neg (by omega)]
        · unfold ptM
          by_cases e : i = j
          · subst e; rw [if_pos rfl, if_pos (by omega)]
          · rw [if_neg e]
            by_cases e2 : i < j
            · rw [if_pos e2, if_pos (by omega)]
            · rw [if_neg e2, if_neg (by omega)]
      obtain ⟨s0, hs0⟩ : ∃ s0, mkS (kAtS k0 M j) = s0 := ⟨_, rfl⟩
      rw [hs0] at t0 HS
      clear hs0
      obtain ⟨va, vc, hvj⟩ := row_slice (HM.out.each j hlt)
      have HP : Hid (∀ W, W.ownsRow B 9 1 (vs j) (M j) (ptM k0 M C j j) → Calls Try.prog 29 #[.slice va (M j) vc, .int .i64 ((kAtS k0 M j : Int) + 1)] W fun e w' => e = .returned (.int .i64 ((kAtS k0 M j + 1 + M j * 1 : Nat) : Int)) ∧ Fr (fun q => (vs j).ownBlock = some q) W w' ∧ w'.ownsRow B 9 1 (vs j) (M j) (mkA (fSx (kAtS k0 M j + 1)) (M j * 1))) := fun W hW => by
        have := markSx_row B (vs j) (M j) (by omega) (kAtS k0 M j + 1) (by omega) (by omega) _ W hW
        rw [show ((kAtS k0 M j + 1 : Nat) : Int) = (kAtS k0 M j : Int) + 1 by omega] at this
        rw [← hvj]; exact this
      have HCl : Hid (∀ W, SgT B (some ⟨g, 0, none⟩) n lk vs M (tgM k0 M f j) (ptM k0 M C j) W → W.cell? ⟨g, j * 2 + 1, none⟩ = some (.slice va (M j) vc) ∧ (∃ v, W.cell? ⟨g, j * 2, none⟩ = some v) ∧ W.frozen? ⟨g, j * 2, none⟩ = false) := fun W hW => by
        have c1 := rowCellG hW.row (j * 2) (by omega)
        refine ⟨?_, c1.1, c1.2⟩
        rw [hW.row.cellAt (j * 2 + 1) (by omega), mkA_get _ _ _ (by omega)]
        unfold tgM
        rw [if_neg (by omega), HVs.out j hlt, hvj]
      generalize kAtS k0 M j = K at *
      go_wp2_with fail
      (first | go_at_call 28 | skip)
      refine (t0 _).mono ?_
      rintro e w1 ⟨rfl, hb1⟩
      have HM1 : Hid (SgT B (some ⟨g, 0, none⟩) n lk vs M (tgM k0 M f j) (ptM k0 M C j) w1) := HM.out.later hb1
      have HF1 : Hid (Fr (SgX (some ⟨g, 0, none⟩) n lk vs) w w1) := HF.out.trans (Fr.of hb1)
      obtain ⟨y1, ⟨v0, y0⟩, z0⟩ := HCl.out _ HM1.out
      clear hb1 t0 HM HF HCl
      have HM2 : Hid (SgT B (some ⟨g, 0, none⟩) n lk vs M (fun i => if i = j * 2 then .string s0 else tgM k0 M f j i) (ptM k0 M C j) (w1.setCell ⟨g, j * 2, none⟩ (.string s0))) := HM1.out.tag hlt _
      have HF2 : Hid (Fr (SgX (some ⟨g, 0, none⟩) n lk vs) w (w1.setCell ⟨g, j * 2, none⟩ (.string s0))) := HF1.out.set (b := g) (.inl rfl) _ _
      clear HM1 HF1
      go_wp2_with fail
      (first | go_at_call 29 | skip)
      refine (HP.out _ (HM2.out.each j hlt)).mono ?_
      rintro e w3 ⟨rfl, hf3, hr3⟩
      have HN : Hid (Fr (SgX (some ⟨g, 0, none⟩) n lk vs) w w3 ∧ SgT B (some ⟨g, 0, none⟩) n lk vs M (tgM k0 M f (j + 1)) (ptM k0 M C (j + 1)) w3) := ⟨HF2.out.trans (hf3.mono (fun q hq => .inr ⟨j, hlt, hq⟩)), HS.out _ _ HM2.out hf3 hr3⟩
      clear hf3 hr3 HM2 HF2 HP HS y0 y1 z0
      go_wp2
      exact ⟨⟨j + 1, by omega, by go_num, (by rw [HE.out]; congr 1; omega), HN.out.1, HN.out.2⟩, by simp [intOf]; omega⟩
    · obtain rfl : j = n := by omega
      go_wp2
      go_ret
      exact ⟨rfl, HF.out, HM.out⟩
set_option maxHeartbeats 4000000 in
theorem heldSgs_any {B : Nat} {la : Option Addr} {n lk : Nat} {vs : Nat → Value} {M : Nat → Nat} {f : Nat → Value} {C : Nat → List Value} (hn : n ≤ 1000) (hv : ∀ i, i < n → f (i * 2 + 1) = vs i) (k0 : Nat) (hk1 : 1 ≤ k0) (hk : kAtS k0 M n ≤ 1000000) (w : World) (h : SgT B la n lk vs M (tgM k0 M f n) (ptM k0 M C n) w) :
    Calls Try.prog 16 #[.slice la n lk, .int .i64 (k0 : Int)] w fun e w' => e = .returned (.int .i64 (kAtS k0 M n : Int)) ∧ Below w.heap.size w w' := by
  have H0 : Hid (SgT B la n lk vs M (tgM k0 M f n) (ptM k0 M C n) w) := h
  have HK : Hid (∀ j, j ≤ n → 1 ≤ kAtS k0 M j ∧ kAtS k0 M j ≤ 1000000) := fun j hj => ⟨Nat.le_trans hk1 (kAtS_le k0 M 0 j (Nat.zero_le _)), Nat.le_trans (kAtS_le _ _ j n hj) hk⟩
  have HVs : Hid (∀ i, i < n → f (i * 2 + 1) = vs i) := hv
  clear h hv
  go_enter Try.func16, Try.ntmps16
  go_wp2
  go_loopw [1, 4, 5] (fun k _ i wr => ∃ j : Nat, j ≤ n ∧ i = .int .i64 (j : Int) ∧ k = .int .i64 (kAtS k0 M j : Int) ∧ Below w.heap.size w wr) (fun _ _ i _ => n - (intOf i).toNat)
  case atStart => exact ⟨0, Nat.zero_le _, rfl, rfl, Below.refl _ _⟩
  case round =>
    obtain ⟨j, hj, rfl, rfl, hb⟩ := hrel
    have HB : Hid (Below w.heap.size w wr) := hb
    have HM : Hid (SgT B la n lk vs M (tgM k0 M f n) (ptM k0 M C n) wr) := H0.out.later hb
    clear hb
    by_cases hlt : j < n
    · have hlt' : (j : Int) < (n : Int) := by omega
      obtain ⟨g, cp, hq⟩ := row_some HM.out.row (by omega)
      simp only [Value.slice.injEq, true_and] at hq
      obtain ⟨rfl, rfl⟩ := hq
      obtain ⟨hkj0, hkj⟩ := HK.out j hj
      have hkj1 : kAtS k0 M j + 1 + M j ≤ 1000000 := (HK.out (j + 1) hlt).2
      have HE : Hid ((kAtS k0 M (j + 1) : Int) = ((kAtS k0 M j + 1 + M j * 1 : Nat) : Int)) := by
        show ((kAtS k0 M j + 1 + M j : Nat) : Int) = _
        omega
      have t0 := fun w => markText_any (kAtS k0 M j) hkj0 (by omega) w
      obtain ⟨va, vc, hvj⟩ := row_slice (HM.out.each j hlt)
      have HC : Hid (∀ X, Below wr.heap.size wr X → X.cell? ⟨g, j * 2, none⟩ = some (.string (mkS (kAtS k0 M j))) ∧ X.cell? ⟨g, j * 2 + 1, none⟩ = some (.slice va (M j) vc)) := fun X hX => by
        have hW := HM.out.later hX
        constructor
        · rw [hW.row.cellAt (j * 2) (by omega), mkA_get _ _ _ (by omega)]
          unfold tgM
          rw [if_pos (by omega), show j * 2 / 2 = j by omega]
        · rw [hW.row.cellAt (j * 2 + 1) (by omega), mkA_get _ _ _ (by omega)]
          unfold tgM
          rw [if_neg (by omega), HVs.out j hlt, hvj]
      have HP : Hid (∀ X, Below wr.heap.size wr X → Calls Try.prog 30 #[.slice va (M j) vc, .int .i64 ((kAtS k0 M j : Int) + 1)] X fun e w' => e = .returned (.int .i64 ((kAtS k0 M j + 1 + M j * 1 : Nat) : Int)) ∧ Below X.heap.size X w') := fun X hX => by
        have hr := (HM.out.later hX).each j hlt
        unfold ptM at hr
        rw [if_pos hlt] at hr
        have := heldSx_row B (vs j) (M j) (by omega) (kAtS k0 M j + 1) (by omega) (by omega) X hr
        rw [show ((kAtS k0 M j + 1 : Nat) : Int) = (kAtS k0 M j : Int) + 1 by omega] at this
        rw [← hvj]; exact this
      generalize kAtS k0 M j = K at *
      obtain ⟨s0, hs0⟩ : ∃ s0, mkS K = s0 := ⟨_, rfl⟩
      rw [hs0] at t0 HC
      clear hs0
      have es0 : (s0.toList != s0.toList) = false := by simp
      clear HM hvj
      go_wp2_with fail
      refine wp_region_held_drew (S := fun W => Below wr.heap.size wr W) (by kernel_rfl) (below_drew _) (fun hH => ?_)
      refine wpAnyH_take (i := 0) (v := .slice (some ⟨g, 0, none⟩) n lk) rfl (by kernel_rfl) (by kernel_rfl) (by kernel_rfl) (fun _ _ _ h => h) (Or.inl ⟨by rfl, fun w hSw => by go_simp⟩) hH ?_
      refine wpAnyH_take (i := 1) (v := .int .i64 (j : Int)) rfl (by kernel_rfl) (by kernel_rfl) (by kernel_rfl) (fun _ _ _ h => h) (Or.inl ⟨by rfl, fun w hSw => by go_simp⟩) hH ?_
      try simp only [Act.put, List.setIfInBounds_toArray, List.set_cons_zero, List.set_cons_succ, List.getElem_toArray, List.getElem_cons_succ, List.getElem_cons_zero]
      refine wpAnyH_take (i := 2) (v := .pointer (some ⟨g, j * 2, none⟩)) rfl (by kernel_rfl) (by kernel_rfl) (by kernel_rfl) (fun _ _ _ h => h) (Or.inl ⟨by rfl, fun w hSw => by go_simp⟩) hH ?_
      try simp only [Act.put, List.setIfInBounds_toArray, List.set_cons_zero, List.set_cons_succ, List.getElem_toArray, List.getElem_cons_succ, List.getElem_cons_zero]
      refine wpAnyH_take (i := 3) (v := .pointer (some ⟨g, j * 2, none⟩)) rfl (by kernel_rfl) (by kernel_rfl) (by kernel_rfl) (fun _ _ _ h => h) (Or.inl ⟨by rfl, fun w hSw => by go_simp⟩) hH ?_
      try simp only [Act.put, List.setIfInBounds_toArray, List.set_cons_zero, List.set_cons_succ, List.getElem_toArray, List.getElem_cons_succ, List.getElem_cons_zero]
      refine wpAnyH_take (i := 4) (v := .string s0) rfl (by kernel_rfl) (by kernel_rfl) (by kernel_rfl) (fun _ _ _ h => h) (Or.inl ⟨by rfl, fun w hSw => by have f0 := (HC.out w hSw).1; go_simp⟩) hH ?_
      try simp only [Act.put, List.setIfInBounds_toArray, List.set_cons_zero, List.set_cons_succ, List.getElem_toArray, List.getElem_cons_succ, List.getElem_cons_zero]
      refine wpAnyH_take (i := 5) (v := .int .i64 (K : Int)) rfl (by kernel_rfl) (by kernel_rfl) (by kernel_rfl) (fun _ _ _ h => h) (Or.inl ⟨by rfl, fun w hSw => by go_simp⟩) hH ?_
      try simp only [Act.put, List.setIfInBounds_toArray, List.set_cons_zero, List.set_cons_succ, List.getElem_toArray, List.getElem_cons_succ, List.getElem_cons_zero]
      refine wpAnyH_ready (rs := [6]) (by kernel_rfl) (by simp) ?_
      refine AllReadyH.cons rfl (fun K hK => ?_) AllReadyH.nil
      go_simp
      go_at_call 28
      refine (t0 _).mono ?_
      rintro e w1 ⟨rfl, hb1⟩
      have hw1 := chain hH hb1
      clear hb1
      refine hK.out _ _ hw1 (fun _ => ?_)
      clear hK K
      try simp only [Act.put, List.setIfInBounds_toArray, List.set_cons_zero, List.set_cons_succ, List.getElem_toArray, List.getElem_cons_succ, List.getElem_cons_zero]
      refine wpAnyH_take (i := 7) (v := .bool false) rfl (by kernel_rfl) (by kernel_rfl) (by kernel_rfl) (fun _ _ _ h => h) (Or.inl ⟨by rfl, fun w hSw => by have f0 := es0; go_simp⟩) hw1 ?_
      try simp only [Act.put, List.setIfInBounds_toArray, List.set_cons_zero, List.set_cons_succ, List.getElem_toArray, List.getElem_cons_succ, List.getElem_cons_zero]
      refine wpAnyH_done (by kernel_rfl) ?_ _
      have HW1 : Hid (Below wr.heap.size wr w1) := hw1
      have y1 := (HC.out w1 hw1).2
      clear hH hw1 t0 HC es0
      go_wp2_with fail
      (first | go_at_call 30 | skip)
      refine (HP.out w1 HW1.out).mono ?_
      rintro e w2 ⟨rfl, hb2⟩
      have HB2 : Hid (Below w.heap.size w w2) := chain HB.out (chain HW1.out hb2)
      clear hb2 y1 HP HW1 HB
      have hnn : ¬ (((K + 1 + M j * 1 : Nat) : Int) < 0) := by omega
      generalize M j = mj at *
      go_wp2
      first
      | exact ⟨⟨j + 1, by omega, by go_num, (by rw [HE.out]; congr 1; omega), HB2.out⟩, by simp [intOf]; omega⟩
      | (go_roundw
         case rel => exact ⟨j + 1, by omega, by go_num, (by rw [HE.out]; try (congr 1; omega)), HB2.out⟩
         case measure => simp [intOf]; omega)
    · obtain rfl : j = n := by omega
      go_wp2
      go_ret
      exact ⟨rfl, HB.out⟩
end Go.Proofs.Ytjnlghngneonhaa
