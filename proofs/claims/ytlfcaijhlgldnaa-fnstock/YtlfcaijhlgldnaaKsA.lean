/-
  The specification's l14Find, l14Drop and l14Units.
-/
import Derived.Test.YtlfcaijhlgldnaaKmT
import Derived.Test.YtlfcaijhlgldnaaAppAny
namespace Go.Proofs.Ytlfcaijhlgldnaa
open Go.ChangeShapes Go.WideShapes Go.ChangeAt Go.RowKit Go.Deep
set_option linter.unusedVariables false

theorem row_sl {W : World} {B g c : Nat} {L : List RSl} (h : W.ownsRow B 38 5 (.slice (some ⟨g, 0, none⟩) L.length c) L.length (slCells L)) {k : Nat} (hk : k < L.length) : W.cell? ⟨g, k * 5, none⟩ = some (.string (gl L k).ar) ∧ W.cell? ⟨g, k * 5 + 1, none⟩ = some (.int .i64 (gl L k).lt) ∧ W.cell? ⟨g, k * 5 + 2, none⟩ = some (.int .i64 (gl L k).nu) ∧ W.cell? ⟨g, k * 5 + 3, none⟩ = some (.int .i64 (gl L k).un) ∧ W.cell? ⟨g, k * 5 + 4, none⟩ = some (.bool (gl L k).hd) := by
  obtain ⟨q0, q1, q2, q3, q4⟩ := slCells_at L k hk
  exact ⟨by rw [h.cellAt (k * 5) (by omega), q0], by rw [h.cellAt (k * 5 + 1) (by omega), q1], by rw [h.cellAt (k * 5 + 2) (by omega), q2], by rw [h.cellAt (k * 5 + 3) (by omega), q3], by rw [h.cellAt (k * 5 + 4) (by omega), q4]⟩
def fdV : Option Nat → Int
  | none => -1
  | some i => (i : Int)
set_option maxHeartbeats 4000000 in
theorem sFind_any {B : Nat} (a : Option Addr) (c : Nat) (L : List RSl) (hl : L.length ≤ 1000) (ar : ByteArray) (lt : Int) (w : World) (hr : w.ownsRow B 38 5 (.slice a L.length c) L.length (slCells L)) :
    Calls Try.prog 46 #[.slice a L.length c, .string ar, .int .i64 lt] w fun e w' => e = .returned (.int .i64 (fdV (fdI L ar lt))) ∧ w = w' := by
  have HR : Hid (w.ownsRow B 38 5 (.slice a L.length c) L.length (slCells L)) := hr
  clear hr
  go_enter Try.func46, Try.ntmps46
  go_wp2
  go_loopw [7] (fun x wr => ∃ k : Nat, k ≤ L.length ∧ x = .int .i64 (k : Int) ∧ (∀ j, j < k → keyB ar lt (gl L j) = false) ∧ wr = w) (fun x _ => L.length - (intOf x).toNat)
  case atStart => exact ⟨0, Nat.zero_le _, rfl, fun j hj => by omega, rfl⟩
  case round =>
    obtain ⟨k, hk, rfl, hno, rfl⟩ := hrel
    have HNo : Hid (∀ j, j < k → keyB ar lt (gl L j) = false) := hno
    clear hno
    by_cases hlt : k < L.length
    · have hlt' : (k : Int) < (L.length : Int) := by omega
      obtain ⟨g, cp, hq⟩ := row_some HR.out (by omega)
      simp only [Value.slice.injEq, true_and] at hq
      obtain ⟨rfl, rfl⟩ := hq
      obtain ⟨q0, q1, q2, q3, q4⟩ := row_sl HR.out hlt
      have HAt : Hid (keyB ar lt (gl L k) = true → fdI L ar lt = some k) := fun h => fd_at hlt HNo.out h
      have HNx : Hid (keyB ar lt (gl L k) = false → ∀ j, j < k + 1 → keyB ar lt (gl L j) = false) := fun h j hj => by
        rcases Nat.lt_or_ge j k with q | q
        · exact HNo.out j q
        · obtain rfl : j = k := by omega
          exact h
      have hkb : keyB ar lt (gl L k) = (((gl L k).ar.toList == ar.toList) && ((gl L k).lt == lt)) := rfl
      have HKb : Hid (keyB ar lt (gl L k) = (((gl L k).ar.toList == ar.toList) && ((gl L k).lt == lt))) := hkb
      clear hkb HNo q2 q3 q4
      generalize keyB ar lt (gl L k) = kb at *
      generalize gl L k = r at *
      obtain ⟨a0, a1, a2, a3, a4⟩ := r
      dsimp only at q0 q1 HKb
      cases e1 : (a0.toList == ar.toList) with
      | false =>
        have HN2 : Hid (∀ j, j < k + 1 → keyB ar lt (gl L j) = false) := HNx.out (by rw [HKb.out, e1]; rfl)
        clear HAt HNx HKb
        go_wp2
        exact ⟨⟨k + 1, by omega, by go_num, HN2.out, by first | rfl | trivial⟩, by simp [intOf]; omega⟩
      | true =>
        cases e2 : (a1 == lt) with
        | false =>
          have HN2 : Hid (∀ j, j < k + 1 → keyB ar lt (gl L j) = false) := HNx.out (by rw [HKb.out, e1, e2]; rfl)
          clear HAt HNx HKb
          go_wp2
          exact ⟨⟨k + 1, by omega, by go_num, HN2.out, by first | rfl | trivial⟩, by simp [intOf]; omega⟩
        | true =>
          have HF : Hid (fdI L ar lt = some k) := HAt.out (by rw [HKb.out, e1, e2]; rfl)
          clear HAt HNx HKb
          go_wp2
          go_ret
          exact ⟨by rw [HF.out]; rfl, rfl⟩
    · obtain rfl : k = L.length := by omega
      have HF : Hid (fdI L ar lt = none) := fd_none HNo.out
      clear HNo
      go_wp2
      go_ret
      exact ⟨by rw [HF.out]; rfl, rfl⟩
theorem sl_one (L : List RSl) : ∀ u ∈ slCells L, u.oneCell' = true := fun u hu => by
  unfold slCells at hu
  obtain ⟨r, _, hr⟩ := List.mem_flatMap.1 hu
  unfold slC at hr
  simp at hr
  rcases hr with rfl | rfl | rfl | rfl | rfl <;> rfl
theorem slCells_take (L : List RSl) (i : Nat) (hi : i ≤ L.length) : (slCells L).take (i * 5) = slCells (L.take i) := by
  have h : slCells L = slCells (L.take i) ++ slCells (L.drop i) := by rw [← slCells_append, List.take_append_drop]
  rw [h, List.take_left' (by rw [slCells_len, List.length_take]; omega)]
theorem slCells_drop (L : List RSl) (i : Nat) (hi : i ≤ L.length) : (slCells L).drop (i * 5) = slCells (L.drop i) := by
  have h : slCells L = slCells (L.take i) ++ slCells (L.drop i) := by rw [← slCells_append, List.take_append_drop]
  rw [h, List.drop_left' (by rw [slCells_len, List.length_take]; omega)]
/-- A row of lots of its own, from block B on. -/
def SlRow (w : World) (B : Nat) (v : Value) (L : List RSl) (wr : World) : Prop := wr.ownsRow B 38 5 v L.length (slCells L) ∧ B ≤ wr.heap.size ∧ Below B w wr
set_option maxHeartbeats 4000000 in
set_option maxRecDepth 8000 in
theorem sDrop_any {B g c : Nat} (L : List RSl) (hl : L.length ≤ 1000) {k : Nat} (hk : k < L.length) (w : World) (hr : w.ownsRow B 38 5 (.slice (some ⟨g, 0, none⟩) L.length c) L.length (slCells L)) :
    Calls Try.prog 61 #[.slice (some ⟨g, 0, none⟩) L.length c, .int .i64 (k : Int)] w fun e w' => ∃ va vc, e = .returned (.slice va (L.length - 1) vc) ∧ w'.ownsRow w.heap.size 38 5 (.slice va (L.length - 1) vc) (L.length - 1) (slCells (L.take k ++ L.drop (k + 1))) ∧ Below w.heap.size w w' := by
  have HR : Hid (w.ownsRow B 38 5 (.slice (some ⟨g, 0, none⟩) L.length c) L.length (slCells L)) := hr
  have hcap : L.length ≤ c := row_cap hr
  obtain ⟨i0, hi, hzz⟩ := Option.map_eq_some_iff.1 slInfo
  simp only [Prod.mk.injEq] at hzz
  obtain ⟨hi0, hi1, hi2⟩ := hzz
  obtain ⟨o8, ho8⟩ : ∃ o8 : Nat, o8 = if c = k + 1 then 0 else (k + 1) * 5 := ⟨_, rfl⟩
  have hof : (if c = k + 1 then (some (⟨g, 0, none⟩ : Addr)) else some ⟨g, (k + 1) * 5, none⟩) = some ⟨g, o8, none⟩ := by rw [ho8]; split <;> rfl
  have hlt := (row_lt hr g rfl).2
  have HP1 : Hid (∀ W, Below w.heap.size w W → ∀ j u, (slCells (L.take k))[j]? = some u → W.cell? ((⟨g, 0, none⟩ : Addr).add j) = some u) := fun W hW j u hu => by
    have hrow := row_of (w' := W) hr (fun q hq => hW.block q (row_lt hr q hq).2)
    refine row_part hrow 0 (slCells (L.take k)) (fun j u hj => ?_) j u hu
    rw [Nat.zero_add, ← slCells_take L k (by omega)] at *
    rw [← hj]
    exact (List.getElem?_take_of_lt (by have := (List.getElem?_eq_some_iff.1 hj).1; rw [List.length_take] at this; omega)).symm
  have HP2 : Hid (∀ W, Below w.heap.size w W → 0 < L.length - (k + 1) → ∃ ad, some (⟨g, o8, none⟩ : Addr) = some ad ∧ ∀ j u, (slCells (L.drop (k + 1)))[j]? = some u → W.cell? (ad.add j) = some u) := fun W hW hpos => by
    have hrow := row_of (w' := W) hr (fun q hq => hW.block q (row_lt hr q hq).2)
    refine ⟨_, rfl, ?_⟩
    have e8 : o8 = (k + 1) * 5 := by rw [ho8, if_neg (by omega)]
    rw [e8]
    refine row_part hrow ((k + 1) * 5) (slCells (L.drop (k + 1))) (fun j u hj => ?_)
    rw [← slCells_drop L (k + 1) (by omega), List.getElem?_drop] at hj
    exact hj
  have hlk : (slCells (L.take k)).length = k * 5 := by rw [slCells_len, List.length_take]; omega
  have hlk2 : (slCells (L.drop (k + 1))).length = (L.length - (k + 1)) * 5 := by rw [slCells_len, List.length_drop]
  have hk1 : (k : Int) + 1 ≤ (L.length : Int) := by omega
  have hwk : IntKind.i64.wrap ((k : Int) + 1) = (k : Int) + 1 := wrap_id _ (by omega) (by omega)
  have hk2 : ¬ ((k : Int) + 1 < 0) := by omega
  have hk3 : (k : Int) ≤ (c : Int) := by omega
  have hk4 : (k : Int) + 1 ≤ (c : Int) := by omega
  have hk5 : k + 1 ≤ L.length := by omega
  have hk6 : k ≤ c := by omega
  have hlen : k + (L.length - (k + 1)) = L.length - 1 := by omega
  have HLn : Hid (k + (L.length - (k + 1)) = L.length - 1) := hlen
  have HCs : Hid (slCells (L.take k) ++ slCells (L.drop (k + 1)) = slCells (L.take k ++ L.drop (k + 1))) := (slCells_append _ _).symm
  clear hr ho8 hlen
  go_enter Try.func61, Try.ntmps61
  go_wp2_with fail
  refine wp_region_held_drew (S := fun W => Below w.heap.size w W) (by kernel_rfl) (below_drew _) (fun hH => ?_)
  refine wpAnyH_take (i := 1) (v := .slice (some ⟨g, 0, none⟩) L.length c) rfl (by kernel_rfl) (by kernel_rfl) (by kernel_rfl) (fun _ _ _ h => h) (Or.inl ⟨by rfl, fun w hSw => by go_simp⟩) hH ?_
  refine wpAnyH_take (i := 2) (v := .int .i64 (k : Int)) rfl (by kernel_rfl) (by kernel_rfl) (by kernel_rfl) (fun _ _ _ h => h) (Or.inl ⟨by rfl, fun w hSw => by go_simp⟩) hH ?_
  try simp only [Act.put, List.setIfInBounds_toArray, List.set_cons_zero, List.set_cons_succ, List.getElem_toArray, List.getElem_cons_succ, List.getElem_cons_zero]
  refine wpAnyH_take (i := 3) (v := .slice (some ⟨g, 0, none⟩) k c) rfl (by kernel_rfl) (by kernel_rfl) (by kernel_rfl) (fun _ _ _ h => h) (Or.inl ⟨by rfl, fun w hSw => by go_simp⟩) hH ?_
  try simp only [Act.put, List.setIfInBounds_toArray, List.set_cons_zero, List.set_cons_succ, List.getElem_toArray, List.getElem_cons_succ, List.getElem_cons_zero]
  refine wpAnyH_take (i := 5) (v := .slice (some ⟨g, 0, none⟩) L.length c) rfl (by kernel_rfl) (by kernel_rfl) (by kernel_rfl) (fun _ _ _ h => h) (Or.inl ⟨by rfl, fun w hSw => by go_simp⟩) hH ?_
  try simp only [Act.put, List.setIfInBounds_toArray, List.set_cons_zero, List.set_cons_succ, List.getElem_toArray, List.getElem_cons_succ, List.getElem_cons_zero]
  refine wpAnyH_take (i := 6) (v := .int .i64 (k : Int)) rfl (by kernel_rfl) (by kernel_rfl) (by kernel_rfl) (fun _ _ _ h => h) (Or.inl ⟨by rfl, fun w hSw => by go_simp⟩) hH ?_
  try simp only [Act.put, List.setIfInBounds_toArray, List.set_cons_zero, List.set_cons_succ, List.getElem_toArray, List.getElem_cons_succ, List.getElem_cons_zero]
  refine wpAnyH_take (i := 7) (v := .int .i64 ((k : Int) + 1)) rfl (by kernel_rfl) (by kernel_rfl) (by kernel_rfl) (fun _ _ _ h => h) (Or.inl ⟨by rfl, fun w hSw => by go_simp⟩) hH ?_
  try simp only [Act.put, List.setIfInBounds_toArray, List.set_cons_zero, List.set_cons_succ, List.getElem_toArray, List.getElem_cons_succ, List.getElem_cons_zero]
  refine wpAnyH_take (i := 8) (v := .slice (some ⟨g, o8, none⟩) (L.length - (k + 1)) (c - (k + 1))) rfl (by kernel_rfl) (by kernel_rfl) (by kernel_rfl) (fun _ _ _ h => h) (Or.inl ⟨by rfl, fun w hSw => by go_simp⟩) hH ?_
  try simp only [Act.put, List.setIfInBounds_toArray, List.set_cons_zero, List.set_cons_succ, List.getElem_toArray, List.getElem_cons_succ, List.getElem_cons_zero]
  refine wpAnyH_ready (rs := [0]) (by kernel_rfl) (by simp) ?_
  refine AllReadyH.cons rfl (fun K hK => ?_) AllReadyH.nil
  go_simp
  obtain ⟨W1, hW1⟩ : ∃ W1, W1 = (w.alloc (Obj.cells #[] 38)).drew := ⟨_, rfl⟩
  have hb1 : Below w.heap.size w W1 := by rw [hW1]; exact chain (below_alloc _ _) (below_drew _)
  have hn1 : W1.ownsRow w.heap.size 38 5 (.slice (some ⟨w.heap.size, 0, none⟩) 0 0) 0 [] := by
    rw [hW1]
    exact ⟨rfl, .inr ⟨w.heap.size, 0, #[], rfl, Nat.le_refl _, heapNew w _, Nat.le_refl _, by unfold maxLen; omega, rfl, rfl⟩⟩
  rw [← hW1]
  clear hW1 hH
  refine hK.out _ _ hb1 (fun _ => ?_)
  clear hK K
  try simp only [Act.put, List.setIfInBounds_toArray, List.set_cons_zero, List.set_cons_succ, List.getElem_toArray, List.getElem_cons_succ, List.getElem_cons_zero]
  refine wpAnyH_ready (rs := [4]) (by kernel_rfl) (by simp) ?_
  refine AllReadyH.cons rfl (fun K hK => ?_) AllReadyH.nil
  refine step_append_any rfl (.tmp 5) (.tmp 8) 27 rfl w.heap.size 38 i0 (.agg #[.string ⟨#[]⟩, .int .i64 0, .int .i64 0, .int .i64 0, .bool false]) 5 48 Try.underlying27 hi hi0 hi1 hi2 rfl (by decide) (.slice (some ⟨w.heap.size, 0, none⟩) 0 0) 0 [] (by simp [Act.eval]) hn1 (some ⟨g, 0, none⟩) k c (slCells (L.take k)) (by simp [Act.eval]) hlk (fun _ => ⟨_, rfl, HP1.out W1 hb1⟩) (sl_one _) (by unfold maxLen; omega) (by omega) hb1.size (fun va vc w2 hown hgrow hat => ?_)
  have hb2 : Below w.heap.size w w2 := hb1.grown hgrow hb1.size (fun q hq => by cases hq; exact Nat.le_refl _)
  have HO2 : Hid (w2.ownsRow w.heap.size 38 5 (.slice va (0 + k) vc) (0 + k) ([] ++ slCells (L.take k))) := hown
  rw [Nat.zero_add, List.nil_append] at HO2
  have hz0 : 0 + k = k := by omega
  rw [hz0]
  clear hown hgrow hat hn1 hb1
  refine hK.out _ _ hb2 (fun _ => ?_)
  clear hK K
  try simp only [Act.put, List.setIfInBounds_toArray, List.set_cons_zero, List.set_cons_succ, List.getElem_toArray, List.getElem_cons_succ, List.getElem_cons_zero]
  refine wpAnyH_ready (rs := [9]) (by kernel_rfl) (by simp) ?_
  refine AllReadyH.cons rfl (fun K hK => ?_) AllReadyH.nil
  refine step_append_any rfl (.tmp 9) (.tmp 13) 27 rfl w.heap.size 38 i0 (.agg #[.string ⟨#[]⟩, .int .i64 0, .int .i64 0, .int .i64 0, .bool false]) 5 48 Try.underlying27 hi hi0 hi1 hi2 rfl (by decide) (.slice va k vc) k (slCells (L.take k)) (by simp [Act.eval]) HO2.out (some ⟨g, o8, none⟩) (L.length - (k + 1)) (c - (k + 1)) (slCells (L.drop (k + 1))) (by simp [Act.eval]) hlk2 (fun h => HP2.out w2 hb2 h) (sl_one _) (by unfold maxLen; omega) (by omega) hb2.size (fun vb vd w3 hown hgrow hat => ?_)
  have hb3 : Below w.heap.size w w3 := hb2.grown hgrow hb2.size (fun q hq => (row_lt HO2.out q hq).1)
  rw [HCs.out, HLn.out] at hown
  have HO3 : Hid (w3.ownsRow w.heap.size 38 5 (.slice vb (L.length - 1) vd) (L.length - 1) (slCells (L.take k ++ L.drop (k + 1)))) := hown
  rw [HLn.out]
  clear hown hgrow hat HO2 hb2
  refine hK.out _ _ hb3 (fun _ => ?_)
  clear hK K
  try simp only [Act.put, List.setIfInBounds_toArray, List.set_cons_zero, List.set_cons_succ, List.getElem_toArray, List.getElem_cons_succ, List.getElem_cons_zero]
  refine wpAnyH_take (i := 10) (v := .slice vb (L.length - 1) vd) rfl (by kernel_rfl) (by kernel_rfl) (by kernel_rfl) (fun _ _ _ h => h) (Or.inl ⟨by rfl, fun w hSw => by go_simp⟩) hb3 ?_
  try simp only [Act.put, List.setIfInBounds_toArray, List.set_cons_zero, List.set_cons_succ, List.getElem_toArray, List.getElem_cons_succ, List.getElem_cons_zero]
  refine wpAnyH_done (by kernel_rfl) ?_ _
  have HE : Hid (Below w.heap.size w w3) := hb3
  clear hb3 HP1 HP2
  go_wp2
  go_ret
  exact ⟨vb, vd, rfl, HO3.out, HE.out⟩
set_option maxHeartbeats 4000000 in
theorem sUnits0_any {B : Nat} (σ : StS) (a : Option Addr) (c : Nat) (hl : σ.L.length ≤ 60) (hN : ∀ r ∈ σ.L, SlN r) (ar : ByteArray) (w : World) (hr : w.ownsRow B 38 5 (.slice a σ.L.length c) σ.L.length (slCells σ.L)) :
    Calls Try.prog 43 #[.agg (stkV σ (.slice a σ.L.length c)), .string ar, .int .i64 0] w fun e w' => e = .returned (.int .i64 (uN (pS ar σ.day) σ.L)) ∧ Below w.heap.size w w' := by
  have HR : Hid (w.ownsRow B 38 5 (.slice a σ.L.length c) σ.L.length (slCells σ.L)) := hr
  have HN : Hid (∀ r ∈ σ.L, SlN r) := hN
  obtain ⟨W1, hW1⟩ : ∃ W1, W1 = w.alloc (Obj.cells (stkV σ (.slice a σ.L.length c)) 29) := ⟨_, rfl⟩
  have H1 : Hid (Below w.heap.size w W1 ∧ W1.heap[w.heap.size]? = some (.cells (stkV σ (.slice a σ.L.length c)) 29 (0, 0))) := by rw [hW1]; exact ⟨below_alloc _ _, heapNew _ _⟩
  unfold stkV at hW1 H1 ⊢
  clear hr hN
  go_enter Try.func43, Try.ntmps43
  go_wp2
  rw [← hW1]
  clear hW1
  go_loopw [7, 8, 9] (fun s x _ wr => ∃ k : Nat, k ≤ σ.L.length ∧ x = .int .i64 (k : Int) ∧ s = .int .i64 (uN (pS ar σ.day) (σ.L.take k)) ∧ Below w.heap.size w wr ∧ wr.heap[w.heap.size]? = some (.cells #[.int .i64 σ.day, .int .i64 σ.rc, .int .i64 σ.sd, .int .i64 σ.wa, .int .i64 σ.sh, .slice a σ.L.length c] 29 (0, 0))) (fun _ x _ _ => σ.L.length - (intOf x).toNat)
  case atStart => exact ⟨0, Nat.zero_le _, rfl, rfl, H1.out⟩
  case round =>
    obtain ⟨k, hk, rfl, rfl, hb, hz⟩ := hrel
    have HS : Hid (Below w.heap.size w wr ∧ wr.heap[w.heap.size]? = some (.cells #[.int .i64 σ.day, .int .i64 σ.rc, .int .i64 σ.sd, .int .i64 σ.wa, .int .i64 σ.sh, .slice a σ.L.length c] 29 (0, 0))) := ⟨hb, hz⟩
    have s5 := blkCell hz 5 _ rfl
    clear hb hz H1
    by_cases hlt : k < σ.L.length
    · have hlt' : (k : Int) < (σ.L.length : Int) := by omega
      have hrow := row_of (w' := wr) HR.out (fun q hq => HS.out.1.block q (row_lt HR.out q hq).2)
      obtain ⟨g, cp, hq⟩ := row_some hrow (by omega)
      simp only [Value.slice.injEq, true_and] at hq
      obtain ⟨rfl, rfl⟩ := hq
      obtain ⟨q0, q1, q2, q3, q4⟩ := row_sl hrow hlt
      have hub := uN_take (p := pS ar σ.day) HN.out k hk
      have hn := getN HN.out hlt
      have hn1 := hn.nu
      have hn2 := hn.nu'
      have HNx : Hid (uN (pS ar σ.day) (σ.L.take (k + 1)) = uN (pS ar σ.day) (σ.L.take k) + if pS ar σ.day (gl σ.L k) = true then (gl σ.L k).nu else 0) := uN_next _ _ _ hlt
      clear hn hrow
      generalize gl σ.L k = r at *
      obtain ⟨a0, a1, a2, a3, a4⟩ := r
      dsimp only at q0 q1 q2 q3 q4 hn1 hn2 HNx
      obtain ⟨W2, hW2⟩ : ∃ W2, W2 = wr.alloc (Obj.cells #[.string a0, .int .i64 a1, .int .i64 a2, .int .i64 a3, .bool a4] 38) := ⟨_, rfl⟩
      have H2 : Hid (Below w.heap.size w W2 ∧ W2.heap[w.heap.size]? = some (.cells #[.int .i64 σ.day, .int .i64 σ.rc, .int .i64 σ.sd, .int .i64 σ.wa, .int .i64 σ.sh, .slice (some ⟨g, 0, none⟩) σ.L.length c] 29 (0, 0))) := by
        rw [hW2]
        exact ⟨chain HS.out.1 (below_alloc _ _), (Below.heap_alloc _ _ _ (blkLt HS.out.2)).trans HS.out.2⟩
      have s0 := blkCell H2.out.2 0 _ rfl
      rw [hW2] at s0
      generalize hux : uN (pS ar σ.day) (σ.L.take k) = ux at *
      have HUx : Hid (uN (pS ar σ.day) (σ.L.take k) = ux) := hux
      clear hux
      have hws : IntKind.i64.wrap (ux + a2) = ux + a2 := wrap_id _ (by omega) (by omega)
      cases e1 : (a0.toList == ar.toList) with
      | false =>
        have HX : Hid (uN (pS ar σ.day) (σ.L.take (k + 1)) = ux) := by show _ = _; rw [HNx.out]; unfold pS; simp [e1]
        clear HNx
        go_wp2
        rw [← hW2]
        exact ⟨⟨k + 1, by omega, by go_num, by rw [HX.out], H2.out⟩, by simp [intOf]; omega⟩
      | true =>
        by_cases e2 : σ.day ≤ a3
        · have e2b : decide (σ.day ≤ a3) = true := decide_eq_true e2
          cases a4 with
          | false =>
            have HX : Hid (uN (pS ar σ.day) (σ.L.take (k + 1)) = ux + a2) := by show _ = _; rw [HNx.out]; unfold pS; simp [e1, e2]
            clear HNx
            go_wp2
            rw [← hW2]
            exact ⟨⟨k + 1, by omega, by go_num, by rw [HX.out], H2.out⟩, by simp [intOf]; omega⟩
          | true =>
            have HX : Hid (uN (pS ar σ.day) (σ.L.take (k + 1)) = ux) := by show _ = _; rw [HNx.out]; unfold pS; simp [e1]
            clear HNx
            go_wp2
            rw [← hW2]
            exact ⟨⟨k + 1, by omega, by go_num, by rw [HX.out], H2.out⟩, by simp [intOf]; omega⟩
        · have e2b : decide (σ.day ≤ a3) = false := decide_eq_false e2
          have HX : Hid (uN (pS ar σ.day) (σ.L.take (k + 1)) = ux) := by show _ = _; rw [HNx.out]; unfold pS; simp [e1, e2]
          clear HNx
          go_wp2
          rw [← hW2]
          exact ⟨⟨k + 1, by omega, by go_num, by rw [HX.out], H2.out⟩, by simp [intOf]; omega⟩
    · obtain rfl : k = σ.L.length := by omega
      rw [List.take_length]
      have HE : Hid (Below w.heap.size w wr) := HS.out.1
      clear HS
      go_wp2
      go_ret
      exact ⟨rfl, HE.out⟩
set_option maxHeartbeats 4000000 in
theorem sUnits1_any {B : Nat} (σ : StS) (a : Option Addr) (c : Nat) (hl : σ.L.length ≤ 60) (hN : ∀ r ∈ σ.L, SlN r) (ar : ByteArray) (w : World) (hr : w.ownsRow B 38 5 (.slice a σ.L.length c) σ.L.length (slCells σ.L)) :
    Calls Try.prog 43 #[.agg (stkV σ (.slice a σ.L.length c)), .string ar, .int .i64 1] w fun e w' => e = .returned (.int .i64 (uN (pD ar σ.day) σ.L)) ∧ Below w.heap.size w w' := by
  have HR : Hid (w.ownsRow B 38 5 (.slice a σ.L.length c) σ.L.length (slCells σ.L)) := hr
  have HN : Hid (∀ r ∈ σ.L, SlN r) := hN
  obtain ⟨W1, hW1⟩ : ∃ W1, W1 = w.alloc (Obj.cells (stkV σ (.slice a σ.L.length c)) 29) := ⟨_, rfl⟩
  have H1 : Hid (Below w.heap.size w W1 ∧ W1.heap[w.heap.size]? = some (.cells (stkV σ (.slice a σ.L.length c)) 29 (0, 0))) := by rw [hW1]; exact ⟨below_alloc _ _, heapNew _ _⟩
  unfold stkV at hW1 H1 ⊢
  clear hr hN
  go_enter Try.func43, Try.ntmps43
  go_wp2
  rw [← hW1]
  clear hW1
  go_loopw [7, 8, 9] (fun s x _ wr => ∃ k : Nat, k ≤ σ.L.length ∧ x = .int .i64 (k : Int) ∧ s = .int .i64 (uN (pD ar σ.day) (σ.L.take k)) ∧ Below w.heap.size w wr ∧ wr.heap[w.heap.size]? = some (.cells #[.int .i64 σ.day, .int .i64 σ.rc, .int .i64 σ.sd, .int .i64 σ.wa, .int .i64 σ.sh, .slice a σ.L.length c] 29 (0, 0))) (fun _ x _ _ => σ.L.length - (intOf x).toNat)
  case atStart => exact ⟨0, Nat.zero_le _, rfl, rfl, H1.out⟩
  case round =>
    obtain ⟨k, hk, rfl, rfl, hb, hz⟩ := hrel
    have HS : Hid (Below w.heap.size w wr ∧ wr.heap[w.heap.size]? = some (.cells #[.int .i64 σ.day, .int .i64 σ.rc, .int .i64 σ.sd, .int .i64 σ.wa, .int .i64 σ.sh, .slice a σ.L.length c] 29 (0, 0))) := ⟨hb, hz⟩
    have s5 := blkCell hz 5 _ rfl
    clear hb hz H1
    by_cases hlt : k < σ.L.length
    · have hlt' : (k : Int) < (σ.L.length : Int) := by omega
      have hrow := row_of (w' := wr) HR.out (fun q hq => HS.out.1.block q (row_lt HR.out q hq).2)
      obtain ⟨g, cp, hq⟩ := row_some hrow (by omega)
      simp only [Value.slice.injEq, true_and] at hq
      obtain ⟨rfl, rfl⟩ := hq
      obtain ⟨q0, q1, q2, q3, q4⟩ := row_sl hrow hlt
      have hub := uN_take (p := pD ar σ.day) HN.out k hk
      have hn := getN HN.out hlt
      have hn1 := hn.nu
      have hn2 := hn.nu'
      have HNx : Hid (uN (pD ar σ.day) (σ.L.take (k + 1)) = uN (pD ar σ.day) (σ.L.take k) + if pD ar σ.day (gl σ.L k) = true then (gl σ.L k).nu else 0) := uN_next _ _ _ hlt
      clear hn hrow
      generalize gl σ.L k = r at *
      obtain ⟨a0, a1, a2, a3, a4⟩ := r
      dsimp only at q0 q1 q2 q3 q4 hn1 hn2 HNx
      obtain ⟨W2, hW2⟩ : ∃ W2, W2 = wr.alloc (Obj.cells #[.string a0, .int .i64 a1, .int .i64 a2, .int .i64 a3, .bool a4] 38) := ⟨_, rfl⟩
      have H2 : Hid (Below w.heap.size w W2 ∧ W2.heap[w.heap.size]? = some (.cells #[.int .i64 σ.day, .int .i64 σ.rc, .int .i64 σ.sd, .int .i64 σ.wa, .int .i64 σ.sh, .slice (some ⟨g, 0, none⟩) σ.L.length c] 29 (0, 0))) := by
        rw [hW2]
        exact ⟨chain HS.out.1 (below_alloc _ _), (Below.heap_alloc _ _ _ (blkLt HS.out.2)).trans HS.out.2⟩
      have s0 := blkCell H2.out.2 0 _ rfl
      rw [hW2] at s0
      generalize hux : uN (pD ar σ.day) (σ.L.take k) = ux at *
      have HUx : Hid (uN (pD ar σ.day) (σ.L.take k) = ux) := hux
      clear hux
      have hws : IntKind.i64.wrap (ux + a2) = ux + a2 := wrap_id _ (by omega) (by omega)
      cases e1 : (a0.toList == ar.toList) with
      | false =>
        have HX : Hid (uN (pD ar σ.day) (σ.L.take (k + 1)) = ux) := by show _ = _; rw [HNx.out]; unfold pD; simp [e1]
        clear HNx
        go_wp2
        rw [← hW2]
        exact ⟨⟨k + 1, by omega, by go_num, by rw [HX.out], H2.out⟩, by simp [intOf]; omega⟩
      | true =>
        by_cases e2 : σ.day ≤ a3
        · have e2b : decide (σ.day ≤ a3) = true := decide_eq_true e2
          have HX : Hid (uN (pD ar σ.day) (σ.L.take (k + 1)) = ux + a2) := by show _ = _; rw [HNx.out]; unfold pD; simp [e1, e2]
          clear HNx
          go_wp2
          rw [← hW2]
          exact ⟨⟨k + 1, by omega, by go_num, by rw [HX.out], H2.out⟩, by simp [intOf]; omega⟩
        · have e2b : decide (σ.day ≤ a3) = false := decide_eq_false e2
          have HX : Hid (uN (pD ar σ.day) (σ.L.take (k + 1)) = ux) := by show _ = _; rw [HNx.out]; unfold pD; simp [e1, e2]
          clear HNx
          go_wp2
          rw [← hW2]
          exact ⟨⟨k + 1, by omega, by go_num, by rw [HX.out], H2.out⟩, by simp [intOf]; omega⟩
    · obtain rfl : k = σ.L.length := by omega
      rw [List.take_length]
      have HE : Hid (Below w.heap.size w wr) := HS.out.1
      clear HS
      go_wp2
      go_ret
      exact ⟨rfl, HE.out⟩
set_option maxHeartbeats 4000000 in
theorem sUnits2_any {B : Nat} (σ : StS) (a : Option Addr) (c : Nat) (hl : σ.L.length ≤ 60) (hN : ∀ r ∈ σ.L, SlN r) (ar : ByteArray) (w : World) (hr : w.ownsRow B 38 5 (.slice a σ.L.length c) σ.L.length (slCells σ.L)) :
    Calls Try.prog 43 #[.agg (stkV σ (.slice a σ.L.length c)), .string ar, .int .i64 2] w fun e w' => e = .returned (.int .i64 (uN (pA ar) σ.L)) ∧ Below w.heap.size w w' := by
  have HR : Hid (w.ownsRow B 38 5 (.slice a σ.L.length c) σ.L.length (slCells σ.L)) := hr
  have HN : Hid (∀ r ∈ σ.L, SlN r) := hN
  obtain ⟨W1, hW1⟩ : ∃ W1, W1 = w.alloc (Obj.cells (stkV σ (.slice a σ.L.length c)) 29) := ⟨_, rfl⟩
  have H1 : Hid (Below w.heap.size w W1 ∧ W1.heap[w.heap.size]? = some (.cells (stkV σ (.slice a σ.L.length c)) 29 (0, 0))) := by rw [hW1]; exact ⟨below_alloc _ _, heapNew _ _⟩
  unfold stkV at hW1 H1 ⊢
  clear hr hN
  go_enter Try.func43, Try.ntmps43
  go_wp2
  rw [← hW1]
  clear hW1
  go_loopw [7, 8, 9] (fun s x _ wr => ∃ k : Nat, k ≤ σ.L.length ∧ x = .int .i64 (k : Int) ∧ s = .int .i64 (uN (pA ar) (σ.L.take k)) ∧ Below w.heap.size w wr ∧ wr.heap[w.heap.size]? = some (.cells #[.int .i64 σ.day, .int .i64 σ.rc, .int .i64 σ.sd, .int .i64 σ.wa, .int .i64 σ.sh, .slice a σ.L.length c] 29 (0, 0))) (fun _ x _ _ => σ.L.length - (intOf x).toNat)
  case atStart => exact ⟨0, Nat.zero_le _, rfl, rfl, H1.out⟩
  case round =>
    obtain ⟨k, hk, rfl, rfl, hb, hz⟩ := hrel
    have HS : Hid (Below w.heap.size w wr ∧ wr.heap[w.heap.size]? = some (.cells #[.int .i64 σ.day, .int .i64 σ.rc, .int .i64 σ.sd, .int .i64 σ.wa, .int .i64 σ.sh, .slice a σ.L.length c] 29 (0, 0))) := ⟨hb, hz⟩
    have s5 := blkCell hz 5 _ rfl
    clear hb hz H1
    by_cases hlt : k < σ.L.length
    · have hlt' : (k : Int) < (σ.L.length : Int) := by omega
      have hrow := row_of (w' := wr) HR.out (fun q hq => HS.out.1.block q (row_lt HR.out q hq).2)
      obtain ⟨g, cp, hq⟩ := row_some hrow (by omega)
      simp only [Value.slice.injEq, true_and] at hq
      obtain ⟨rfl, rfl⟩ := hq
      obtain ⟨q0, q1, q2, q3, q4⟩ := row_sl hrow hlt
      have hub := uN_take (p := pA ar) HN.out k hk
      have hn := getN HN.out hlt
      have hn1 := hn.nu
      have hn2 := hn.nu'
      have HNx : Hid (uN (pA ar) (σ.L.take (k + 1)) = uN (pA ar) (σ.L.take k) + if pA ar (gl σ.L k) = true then (gl σ.L k).nu else 0) := uN_next _ _ _ hlt
      clear hn hrow
      generalize gl σ.L k = r at *
      obtain ⟨a0, a1, a2, a3, a4⟩ := r
      dsimp only at q0 q1 q2 q3 q4 hn1 hn2 HNx
      obtain ⟨W2, hW2⟩ : ∃ W2, W2 = wr.alloc (Obj.cells #[.string a0, .int .i64 a1, .int .i64 a2, .int .i64 a3, .bool a4] 38) := ⟨_, rfl⟩
      have H2 : Hid (Below w.heap.size w W2 ∧ W2.heap[w.heap.size]? = some (.cells #[.int .i64 σ.day, .int .i64 σ.rc, .int .i64 σ.sd, .int .i64 σ.wa, .int .i64 σ.sh, .slice (some ⟨g, 0, none⟩) σ.L.length c] 29 (0, 0))) := by
        rw [hW2]
        exact ⟨chain HS.out.1 (below_alloc _ _), (Below.heap_alloc _ _ _ (blkLt HS.out.2)).trans HS.out.2⟩
      have s0 := blkCell H2.out.2 0 _ rfl
      rw [hW2] at s0
      generalize hux : uN (pA ar) (σ.L.take k) = ux at *
      have HUx : Hid (uN (pA ar) (σ.L.take k) = ux) := hux
      clear hux
      have hws : IntKind.i64.wrap (ux + a2) = ux + a2 := wrap_id _ (by omega) (by omega)
      cases e1 : (a0.toList == ar.toList) with
      | false =>
        have HX : Hid (uN (pA ar) (σ.L.take (k + 1)) = ux) := by show _ = _; rw [HNx.out]; unfold pA; simp [e1]
        clear HNx
        go_wp2
        rw [← hW2]
        exact ⟨⟨k + 1, by omega, by go_num, by rw [HX.out], H2.out⟩, by simp [intOf]; omega⟩
      | true =>
        have HX : Hid (uN (pA ar) (σ.L.take (k + 1)) = ux + a2) := by show _ = _; rw [HNx.out]; unfold pA; simp [e1]
        clear HNx
        go_wp2
        rw [← hW2]
        exact ⟨⟨k + 1, by omega, by go_num, by rw [HX.out], H2.out⟩, by simp [intOf]; omega⟩
    · obtain rfl : k = σ.L.length := by omega
      rw [List.take_length]
      have HE : Hid (Below w.heap.size w wr) := HS.out.1
      clear HS
      go_wp2
      go_ret
      exact ⟨rfl, HE.out⟩
end Go.Proofs.Ytlfcaijhlgldnaa
