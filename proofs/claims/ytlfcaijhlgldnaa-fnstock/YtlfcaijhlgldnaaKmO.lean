/-
  The program's againstSale.
-/
import Derived.Test.YtlfcaijhlgldnaaKmJ
namespace Go.Proofs.Ytlfcaijhlgldnaa
open Go.ChangeShapes Go.WideShapes Go.ChangeAt Go.RowKit Go.Deep
set_option linter.unusedVariables false

theorem Rn.units {B rb mb ub : Nat} {σ : StS} {ov : Value} {W W' : World} (h : Rn B rb mb ub σ ov W) (hf : Fr (fun k => k = ub) W W') {n : Nat} {g : Int → Int} (hm : MapI W' ub n g) : Rn B rb mb ub σ ov W' := by
  have d := h.dis
  exact ⟨(hf.block rb (blkLt h.blk) d.ru).trans h.blk, row_of h.ord (fun q hq => hf.block q (row_lt h.ord q hq).2 (fun e => d.uo (by rw [hq, e]))), h.map.block (hf.block mb h.map.lt d.mu), ⟨n, g, hm⟩, h.ne, h.low⟩
theorem MapI.congr {w : World} {b n : Nat} {f g : Int → Int} (h : MapI w b n f) (e : ∀ c, f c = g c) : MapI w b n g := by
  have : f = g := funext e
  rw [← this]; exact h
theorem uC_next (ar : ByteArray) (d : Int) (L : List RSl) (k : Nat) (h : k < L.length) (c : Int) : uN (pC ar d c) (L.take (k + 1)) = if ((gl L k).ar.toList == ar.toList) = true ∧ c = cA d (gl L k) then uN (pC ar d c) (L.take k) + (gl L k).nu else uN (pC ar d c) (L.take k) := by
  rw [uN_next _ _ _ h]
  have e : (pC ar d c (gl L k) = true) ↔ (((gl L k).ar.toList == ar.toList) = true ∧ c = cA d (gl L k)) := by
    unfold pC
    rw [Bool.and_eq_true, beq_iff_eq (a := cA d (gl L k))]
    exact ⟨fun q => ⟨q.1, q.2.symm⟩, fun q => ⟨q.1, q.2.symm⟩⟩
  by_cases q : pC ar d c (gl L k) = true
  · rw [if_pos q, if_pos (e.1 q)]
  · rw [if_neg q, if_neg (fun z => q (e.2 z))]; omega
def cdN (k : Nat) : Int := if k = 0 then 0 else if k = 1 then 18 else 17
def sU (ar : ByteArray) (d : Int) (L : List RSl) : Nat → Int
  | 0 => 0
  | k + 1 => sU ar d L k + uN (pC ar d (cdN k)) L
theorem sU_is (ar : ByteArray) (d : Int) (L : List RSl) : sU ar d L 1 = uN (pS ar d) L ∧ sU ar d L 2 = uN (pD ar d) L ∧ sU ar d L 3 = uN (pA ar) L := by
  have e0 : sU ar d L 1 = uN (pC ar d 0) L := by show 0 + _ = _; rw [Int.zero_add]; rfl
  have e1 : sU ar d L 2 = sU ar d L 1 + uN (pC ar d 18) L := rfl
  have e2 : sU ar d L 3 = sU ar d L 2 + uN (pC ar d 17) L := rfl
  have q0 : uN (pC ar d 0) L = uN (pS ar d) L := uN_congr (fun r _ => pC_zero ar d r)
  have q1 := sum_date ar d L
  have q2 := sum_all ar d L
  refine ⟨by rw [e0, q0], by rw [e1, e0, q1], by rw [e2, e1, e0, q2, q1]⟩
theorem sU_bound {ar : ByteArray} {d : Int} {L : List RSl} (hN : ∀ r ∈ L, SlN r) : ∀ k, 0 ≤ sU ar d L k ∧ sU ar d L k ≤ 100000 * (L.length : Int) * (k : Int)
  | 0 => by simp [sU]
  | k + 1 => by
    have h1 := sU_bound (ar := ar) (d := d) hN k
    have h2 := uN_bound (p := pC ar d (cdN k)) hN
    rw [sU]
    push_cast
    rw [Int.mul_add]
    omega
theorem sel_at {σ : StS} {ar : ByteArray} {m : Int} {k : Nat} (hk : k < 3) (h0 : ∀ j, 1 ≤ j → j ≤ k → ¬ m ≤ sU ar σ.day σ.L j) (h1 : m ≤ sU ar σ.day σ.L (k + 1)) : selC σ ar m = cdN k := by
  obtain ⟨e1, e2, e3⟩ := sU_is ar σ.day σ.L
  unfold selC
  rcases (by omega : k = 0 ∨ k = 1 ∨ k = 2) with rfl | rfl | rfl
  · rw [if_pos (by rw [← e1]; exact h1)]; rfl
  · rw [if_neg (by rw [← e1]; exact h0 1 (by omega) (by omega)), if_pos (by rw [← e2]; exact h1)]; rfl
  · rw [if_neg (by rw [← e1]; exact h0 1 (by omega) (by omega)), if_neg (by rw [← e2]; exact h0 2 (by omega) (by omega)), if_pos (by rw [← e3]; exact h1)]; rfl
theorem sel_none {σ : StS} {ar : ByteArray} {m : Int} (h0 : ∀ j, 1 ≤ j → j ≤ 3 → ¬ m ≤ sU ar σ.day σ.L j) : selC σ ar m = 19 := by
  obtain ⟨e1, e2, e3⟩ := sU_is ar σ.day σ.L
  unfold selC
  rw [if_neg (by rw [← e1]; exact h0 1 (by omega) (by omega)), if_neg (by rw [← e2]; exact h0 2 (by omega) (by omega)), if_neg (by rw [← e3]; exact h0 3 (by omega) (by omega))]
theorem cA_wf (d : Int) (r : RSl) : WfI (cA d r) := by
  rcases cA_ways d r with e | e | e <;> rw [e] <;> exact wfI_of _ (by omega) (by omega)
set_option maxHeartbeats 16000000 in
theorem againstSale_any {B rb mb ub : Nat} {σ : StS} {ov : Value} {w : World} (h : Rn B rb mb ub σ ov w) (hlen : σ.L.length ≤ 60) (hN : ∀ r ∈ σ.L, SlN r) (ar : ByteArray) (m : Int) :
    Calls Try.prog 52 #[.pointer (some ⟨rb, 0, none⟩), .string ar, .int .i64 m] w fun e w' => e = .returned (.int .i64 (selC σ ar m)) ∧ Fr (fun k => k = ub) w w' ∧ Rn B rb mb ub σ ov w' := by
  obtain ⟨oa, oc, rfl⟩ := row_slice h.ord
  obtain ⟨un, ug, hu⟩ := h.uni
  obtain ⟨W0, hclr, hm0, hg0⟩ := hu.clear
  have HF0 : Hid (Fr (fun k => k = ub) w W0 ∧ MapI W0 ub 0 (fun _ => 0)) := ⟨(fr_grown hg0).mono (fun k hk => by simpa using hk.symm), hm0⟩
  have HR : Hid (Rn B rb mb ub σ (.slice oa σ.L.length oc) w) := h
  have HN : Hid (∀ r ∈ σ.L, SlN r) := hN
  have HRu : Hid (∀ W n g, Fr (fun k => k = ub) w W → MapI W ub n g → Rn B rb mb ub σ (.slice oa σ.L.length oc) W) := fun W n g hf hm => h.units hf hm
  have c8 := h.at.c8
  have c7 := (HRu.out W0 _ _ HF0.out.1 HF0.out.2).at.c7
  have hmf : ∀ (fn : Fn) (first cap : Array Value) (w : World), (Instr.makeFunc fn first cap).run Try.prog w = .ok (.func fn first cap) w := fun _ _ _ _ => rfl
  have hSb : ∀ k, 0 ≤ sU ar σ.day σ.L k ∧ sU ar σ.day σ.L k ≤ 100000 * (σ.L.length : Int) * (k : Int) := fun k => sU_bound hN k
  have HSb : Hid (∀ k, k ≤ 3 → 0 ≤ sU ar σ.day σ.L k ∧ sU ar σ.day σ.L k ≤ 1000000000) := fun k hk => by
    obtain ⟨k1, k2⟩ := hSb k
    refine ⟨k1, ?_⟩
    have : 100000 * (σ.L.length : Int) * (k : Int) ≤ 100000 * 60 * 3 := by
      have h1 : 100000 * (σ.L.length : Int) ≤ 100000 * 60 := by omega
      exact Int.mul_le_mul h1 (by omega) (by omega) (by omega)
    omega
  clear h hN hu hm0 hg0 hSb
  go_enter Try.func52, Try.ntmps52
  go_wp2
  clear hclr c8 c7
  go_loopw [8, 9, 22] (fun _ _ x wr => ∃ (k n : Nat), k ≤ σ.L.length ∧ x = .int .i64 (k : Int) ∧ n ≤ k ∧ MapI wr ub n (fun c => uN (pC ar σ.day c) (σ.L.take k)) ∧ Fr (fun q => q = ub) w wr) (fun _ _ x _ => σ.L.length - (intOf x).toNat)
  case atStart => exact ⟨0, 0, Nat.zero_le _, rfl, Nat.le_refl _, HF0.out.2.congr (fun c => by simp [uN]), HF0.out.1⟩
  case round =>
    obtain ⟨k, n, hk, rfl, hnk, hmi, hf⟩ := hrel
    have HS : Hid (MapI wr ub n (fun c => uN (pC ar σ.day c) (σ.L.take k)) ∧ Fr (fun q => q = ub) w wr) := ⟨hmi, hf⟩
    clear hmi hf HF0
    by_cases hlt : k < σ.L.length
    · have hlt' : (k : Int) < (σ.L.length : Int) := by omega
      have hRr := HRu.out wr _ _ HS.out.2 HS.out.1
      obtain ⟨g, cp, hq⟩ := row_some hRr.ord (by omega)
      simp only [Value.slice.injEq, true_and] at hq
      obtain ⟨rfl, rfl⟩ := hq
      obtain ⟨q0, q1⟩ := row_ky hRr.ord hlt
      have hnu := getN HN.out hlt
      have hn1 := hnu.nu
      have hn2 := hnu.nu'
      have hub := fun c => uN_take (p := pC ar σ.day c) HN.out k hk
      have hNx := fun c => uC_next ar σ.day σ.L k hlt c
      have hcw := cA_wf σ.day (gl σ.L k)
      have hAg : ∀ a0 a1 a2 a3 a4, gl σ.L k = ⟨a0, a1, a2, a3, a4⟩ → ∀ W, Calls Try.prog (agF a4) #[.agg #[.string a0, .int .i64 a1, .int .i64 a2, .int .i64 a3, .bool a4], .int .i64 σ.day] W fun e w' => e = .returned (.int .i64 (cA σ.day (gl σ.L k))) ∧ Below W.heap.size W w' := fun a0 a1 a2 a3 a4 hr W => by rw [hr]; exact against_any a0 a1 a2 a3 a4 σ.day W
      obtain ⟨⟨a0, a1, a2, a3, a4⟩, hr⟩ : ∃ r, gl σ.L k = r := ⟨_, rfl⟩
      have HAg : Hid (∀ W, Calls Try.prog (agF a4) #[.agg #[.string a0, .int .i64 a1, .int .i64 a2, .int .i64 a3, .bool a4], .int .i64 σ.day] W fun e w' => e = .returned (.int .i64 (cA σ.day (gl σ.L k))) ∧ Below W.heap.size W w') := hAg _ _ _ _ _ hr
      have HG : Hid (∀ W, Below wr.heap.size wr W → RnC rb mb ub σ (.slice (some ⟨g, 0, none⟩) σ.L.length oc) W ∧ (Instr.lookup 54 (.map (some mb)) (.agg #[.string a0, .int .i64 a1]) false).run Try.prog W = .ok (.iface (lotT a4) (.agg #[.string a0, .int .i64 a1, .int .i64 a2, .int .i64 a3, .bool a4])) W) := fun W hW => ⟨(hRr.later hW).at, (hRr.later hW).get HN.out hlt hr⟩
      have HNx : Hid (∀ c, uN (pC ar σ.day c) (σ.L.take (k + 1)) = if (a0.toList == ar.toList) = true ∧ c = cA σ.day (gl σ.L k) then uN (pC ar σ.day c) (σ.L.take k) + a2 else uN (pC ar σ.day c) (σ.L.take k)) := fun c => by rw [hNx c, hr]
      rw [hr] at q0 q1 hn1 hn2
      dsimp only at q0 q1 hn1 hn2
      clear hRr hr hnu hNx hAg
      generalize cA σ.day (gl σ.L k) = co at *
      obtain ⟨W1, hW1⟩ : ∃ W1, W1 = wr.alloc (Obj.cells #[.string a0, .int .i64 a1] 82) := ⟨_, rfl⟩
      have HW1 : Hid (Below wr.heap.size wr W1 ∧ W1.heap[wr.heap.size]? = some (.cells #[.string a0, .int .i64 a1] 82 (0, 0))) := by
        rw [hW1]; exact ⟨below_alloc _ _, heapNew _ _⟩
      have HQ : Hid (∀ W, Below W1.heap.size W1 W → Below wr.heap.size wr W ∧ W.heap[wr.heap.size]? = some (.cells #[.string a0, .int .i64 a1] 82 (0, 0))) := fun W hW => ⟨chain HW1.out.1 hW, (hW.block _ (blkLt HW1.out.2)).trans HW1.out.2⟩
      cases ea : (a0.toList == ar.toList) with
      | false =>
        have HNx2 : Hid (∀ c, uN (pC ar σ.day c) (σ.L.take k) = uN (pC ar σ.day c) (σ.L.take (k + 1))) := fun c => by rw [HNx.out c, ea]; simp
        have HE : Hid (MapI W1 ub n (fun c => uN (pC ar σ.day c) (σ.L.take (k + 1))) ∧ Fr (fun q => q = ub) w W1) := ⟨(HS.out.1.block (HW1.out.1.block ub HS.out.1.lt)).congr HNx2.out, HS.out.2.trans (Fr.of HW1.out.1)⟩
        clear HNx HNx2 HAg HG HQ HW1
        go_wp2
        rw [← hW1]
        exact ⟨⟨k + 1, n, by omega, by go_num, by omega, HE.out⟩, by simp [intOf]; omega⟩
      | true =>
        rw [ea] at HNx
        have HNx2 : Hid (∀ c, (if c = co then uN (pC ar σ.day co) (σ.L.take k) + a2 else uN (pC ar σ.day c) (σ.L.take k)) = uN (pC ar σ.day c) (σ.L.take (k + 1))) := fun c => by
          rw [HNx.out c]
          by_cases q : c = co
          · rw [if_pos q, if_pos ⟨rfl, q⟩, q]
          · rw [if_neg q, if_neg (fun z => q z.2)]
        clear HNx
        have hu1 := (hub co).1
        have hu2 := (hub co).2
        generalize hux : uN (pC ar σ.day co) (σ.L.take k) = ux at *
        have HUx : Hid (uN (pC ar σ.day co) (σ.L.take k) = ux) := hux
        clear hux hub
        have t0 := fldNu
        have t1 := na_agT
        have t2 := me_agT
        have t3 := cf_ag
        have t4 := na_toldT
        have t5 := me_toldT
        go_wp2_with fail
        rw [← hW1]
        clear hW1 q0 q1
        refine wp_region_held_drew (S := fun W => Below W1.heap.size W1 W) (by kernel_rfl) (below_drew _) (fun hH => ?_)
        refine wpAnyH_take (i := 0) (v := .pointer (some ⟨rb, 0, none⟩)) rfl (by kernel_rfl) (by kernel_rfl) (by kernel_rfl) (fun _ _ _ h => h) (Or.inl ⟨by rfl, fun w hSw => by go_simp⟩) hH ?_
        refine wpAnyH_take (i := 1) (v := .pointer (some ⟨rb, 0, none⟩)) rfl (by kernel_rfl) (by kernel_rfl) (by kernel_rfl) (fun _ _ _ h => h) (Or.inl ⟨by rfl, fun w hSw => by go_simp⟩) hH ?_
        try simp only [Act.put, List.setIfInBounds_toArray, List.set_cons_zero, List.set_cons_succ, List.getElem_toArray, List.getElem_cons_succ, List.getElem_cons_zero]
        refine wpAnyH_take (i := 2) (v := .pointer (some ⟨rb, 6, none⟩)) rfl (by kernel_rfl) (by kernel_rfl) (by kernel_rfl) (fun _ _ _ h => h) (Or.inl ⟨by rfl, fun w hSw => by go_simp⟩) hH ?_
        try simp only [Act.put, List.setIfInBounds_toArray, List.set_cons_zero, List.set_cons_succ, List.getElem_toArray, List.getElem_cons_succ, List.getElem_cons_zero]
        refine wpAnyH_take (i := 3) (v := .map (some mb)) rfl (by kernel_rfl) (by kernel_rfl) (by kernel_rfl) (fun _ _ _ h => h) (Or.inl ⟨by rfl, fun w hSw => by have f0 := (HG.out w (HQ.out w hSw).1).1.c6; go_simp⟩) hH ?_
        try simp only [Act.put, List.setIfInBounds_toArray, List.set_cons_zero, List.set_cons_succ, List.getElem_toArray, List.getElem_cons_succ, List.getElem_cons_zero]
        refine wpAnyH_take (i := 4) (v := .agg #[.string a0, .int .i64 a1]) rfl (by kernel_rfl) (by kernel_rfl) (by kernel_rfl) (fun _ _ _ h => h) (Or.inl ⟨by rfl, fun w hSw => by have f0 := blkCell (HQ.out w hSw).2 0 _ rfl; have f1 := blkCell (HQ.out w hSw).2 1 _ rfl; go_simp⟩) hH ?_
        try simp only [Act.put, List.setIfInBounds_toArray, List.set_cons_zero, List.set_cons_succ, List.getElem_toArray, List.getElem_cons_succ, List.getElem_cons_zero]
        refine wpAnyH_take (i := 5) (v := .iface (lotT a4) (.agg #[.string a0, .int .i64 a1, .int .i64 a2, .int .i64 a3, .bool a4])) rfl (by kernel_rfl) (by kernel_rfl) (by kernel_rfl) (fun _ _ _ h => h) (Or.inl ⟨by rfl, fun w hSw => by have f0 := (HG.out w (HQ.out w hSw).1).2; go_simp⟩) hH ?_
        try simp only [Act.put, List.setIfInBounds_toArray, List.set_cons_zero, List.set_cons_succ, List.getElem_toArray, List.getElem_cons_succ, List.getElem_cons_zero]
        refine wpAnyH_take (i := 6) (v := .iface (lotT a4) (.agg #[.string a0, .int .i64 a1, .int .i64 a2, .int .i64 a3, .bool a4])) rfl (by kernel_rfl) (by kernel_rfl) (by kernel_rfl) (fun _ _ _ h => h) (Or.inl ⟨by rfl, fun w hSw => by go_simp⟩) hH ?_
        try simp only [Act.put, List.setIfInBounds_toArray, List.set_cons_zero, List.set_cons_succ, List.getElem_toArray, List.getElem_cons_succ, List.getElem_cons_zero]
        refine wpAnyH_done (by kernel_rfl) ?_ _
        have H2 : Hid (Below W1.heap.size W1 W1.drew) := hH
        clear hH
        generalize W1.drew = W2 at *
        have HQ2 : Hid (∀ W, Below W2.heap.size W2 W → RnC rb mb ub σ (.slice (some ⟨g, 0, none⟩) σ.L.length oc) W ∧ (Instr.lookup 56 (.map (some ub)) (.int .i64 co) false).run Try.prog W = .ok (.int .i64 ux) W ∧ Below wr.heap.size wr W) := fun W hW => by
          have hb := (HQ.out W (chain H2.out hW)).1
          refine ⟨(HG.out W hb).1, ?_, hb⟩
          have := (HS.out.1.block (hb.block ub HS.out.1.lt)).get hcw
          rw [HUx.out] at this
          exact this
        have hws : IntKind.i64.wrap (ux + a2) = ux + a2 := wrap_id _ (by omega) (by omega)
        clear HG HQ HW1 H2
        go_wp2_with fail
        refine wp_region_z (S := fun W => Below W2.heap.size W2 W) 19 (by kernel_rfl) (below_drew _) (fun hH => ?_)
        refine wpAnyZ_take (i := 0) (v := .pointer (some ⟨rb, 0, none⟩)) rfl (by kernel_rfl) (by kernel_rfl) (by kernel_rfl) (by kernel_rfl) (fun _ _ _ h => h) (Or.inl ⟨by rfl, fun w hSw => by go_simp⟩) hH ?_
        refine wpAnyZ_take (i := 1) (v := .pointer (some ⟨rb, 0, none⟩)) rfl (by kernel_rfl) (by kernel_rfl) (by kernel_rfl) (by kernel_rfl) (fun _ _ _ h => h) (Or.inl ⟨by rfl, fun w hSw => by go_simp⟩) hH ?_
        try simp only [Act.put, List.setIfInBounds_toArray, List.set_cons_zero, List.set_cons_succ, List.getElem_toArray, List.getElem_cons_succ, List.getElem_cons_zero]
        refine wpAnyZ_take (i := 2) (v := .pointer (some ⟨rb, 8, none⟩)) rfl (by kernel_rfl) (by kernel_rfl) (by kernel_rfl) (by kernel_rfl) (fun _ _ _ h => h) (Or.inl ⟨by rfl, fun w hSw => by go_simp⟩) hH ?_
        try simp only [Act.put, List.setIfInBounds_toArray, List.set_cons_zero, List.set_cons_succ, List.getElem_toArray, List.getElem_cons_succ, List.getElem_cons_zero]
        refine wpAnyZ_take (i := 3) (v := .map (some ub)) rfl (by kernel_rfl) (by kernel_rfl) (by kernel_rfl) (by kernel_rfl) (fun _ _ _ h => h) (Or.inl ⟨by rfl, fun w hSw => by have f0 := (HQ2.out w hSw).1.c8; go_simp⟩) hH ?_
        try simp only [Act.put, List.setIfInBounds_toArray, List.set_cons_zero, List.set_cons_succ, List.getElem_toArray, List.getElem_cons_succ, List.getElem_cons_zero]
        refine wpAnyZ_take (i := 4) (v := .iface (lotT a4) (.agg #[.string a0, .int .i64 a1, .int .i64 a2, .int .i64 a3, .bool a4])) rfl (by kernel_rfl) (by kernel_rfl) (by kernel_rfl) (by kernel_rfl) (fun _ _ _ h => h) (Or.inl ⟨by rfl, fun w hSw => by go_simp⟩) hH ?_
        try simp only [Act.put, List.setIfInBounds_toArray, List.set_cons_zero, List.set_cons_succ, List.getElem_toArray, List.getElem_cons_succ, List.getElem_cons_zero]
        refine wpAnyZ_take (i := 5) (v := .pointer (some ⟨rb, 0, none⟩)) rfl (by kernel_rfl) (by kernel_rfl) (by kernel_rfl) (by kernel_rfl) (fun _ _ _ h => h) (Or.inl ⟨by rfl, fun w hSw => by go_simp⟩) hH ?_
        try simp only [Act.put, List.setIfInBounds_toArray, List.set_cons_zero, List.set_cons_succ, List.getElem_toArray, List.getElem_cons_succ, List.getElem_cons_zero]
        refine wpAnyZ_take (i := 6) (v := .pointer (some ⟨rb, 0, none⟩)) rfl (by kernel_rfl) (by kernel_rfl) (by kernel_rfl) (by kernel_rfl) (fun _ _ _ h => h) (Or.inl ⟨by rfl, fun w hSw => by go_simp⟩) hH ?_
        try simp only [Act.put, List.setIfInBounds_toArray, List.set_cons_zero, List.set_cons_succ, List.getElem_toArray, List.getElem_cons_succ, List.getElem_cons_zero]
        refine wpAnyZ_take (i := 7) (v := .pointer (some ⟨rb, 0, none⟩)) rfl (by kernel_rfl) (by kernel_rfl) (by kernel_rfl) (by kernel_rfl) (fun _ _ _ h => h) (Or.inl ⟨by rfl, fun w hSw => by go_simp⟩) hH ?_
        try simp only [Act.put, List.setIfInBounds_toArray, List.set_cons_zero, List.set_cons_succ, List.getElem_toArray, List.getElem_cons_succ, List.getElem_cons_zero]
        refine wpAnyZ_take (i := 8) (v := .pointer (some ⟨rb, 0, none⟩)) rfl (by kernel_rfl) (by kernel_rfl) (by kernel_rfl) (by kernel_rfl) (fun _ _ _ h => h) (Or.inl ⟨by rfl, fun w hSw => by go_simp⟩) hH ?_
        try simp only [Act.put, List.setIfInBounds_toArray, List.set_cons_zero, List.set_cons_succ, List.getElem_toArray, List.getElem_cons_succ, List.getElem_cons_zero]
        refine wpAnyZ_take (i := 9) (v := .int .i64 σ.day) rfl (by kernel_rfl) (by kernel_rfl) (by kernel_rfl) (by kernel_rfl) (fun _ _ _ h => h) (Or.inl ⟨by rfl, fun w hSw => by have f0 := (HQ2.out w hSw).1.c0; go_simp⟩) hH ?_
        try simp only [Act.put, List.setIfInBounds_toArray, List.set_cons_zero, List.set_cons_succ, List.getElem_toArray, List.getElem_cons_succ, List.getElem_cons_zero]
        refine wpAnyZ_take (i := 10) (v := .func (.method "loop.example/g00067/impl.against") #[.iface (lotT a4) (.agg #[.string a0, .int .i64 a1, .int .i64 a2, .int .i64 a3, .bool a4])] #[]) rfl (by kernel_rfl) (by kernel_rfl) (by kernel_rfl) (by kernel_rfl) (fun _ _ _ h => h) (Or.inl ⟨by rfl, fun w hSw => by go_simp⟩) hH ?_
        try simp only [Act.put, List.setIfInBounds_toArray, List.set_cons_zero, List.set_cons_succ, List.getElem_toArray, List.getElem_cons_succ, List.getElem_cons_zero]
        refine wpAnyZ_take (i := 11) (v := .func (.method "loop.example/g00067/impl.against") #[.iface (lotT a4) (.agg #[.string a0, .int .i64 a1, .int .i64 a2, .int .i64 a3, .bool a4])] #[]) rfl (by kernel_rfl) (by kernel_rfl) (by kernel_rfl) (by kernel_rfl) (fun _ _ _ h => h) (Or.inl ⟨by rfl, fun w hSw => by go_simp⟩) hH ?_
        try simp only [Act.put, List.setIfInBounds_toArray, List.set_cons_zero, List.set_cons_succ, List.getElem_toArray, List.getElem_cons_succ, List.getElem_cons_zero]
        refine wpAnyZ_take (i := 12) (v := .iface (lotT a4) (.agg #[.string a0, .int .i64 a1, .int .i64 a2, .int .i64 a3, .bool a4])) rfl (by kernel_rfl) (by kernel_rfl) (by kernel_rfl) (by kernel_rfl) (fun _ _ _ h => h) (Or.inl ⟨by rfl, fun w hSw => by go_simp⟩) hH ?_
        try simp only [Act.put, List.setIfInBounds_toArray, List.set_cons_zero, List.set_cons_succ, List.getElem_toArray, List.getElem_cons_succ, List.getElem_cons_zero]
        refine wpAnyZ_take (i := 15) (v := .iface (lotT a4) (.agg #[.string a0, .int .i64 a1, .int .i64 a2, .int .i64 a3, .bool a4])) rfl (by kernel_rfl) (by kernel_rfl) (by kernel_rfl) (by kernel_rfl) (fun _ _ _ h => h) (Or.inl ⟨by rfl, fun w hSw => by go_simp⟩) hH ?_
        try simp only [Act.put, List.setIfInBounds_toArray, List.set_cons_zero, List.set_cons_succ, List.getElem_toArray, List.getElem_cons_succ, List.getElem_cons_zero]
        refine wpAnyZ_ready (rs := [13]) (by kernel_rfl) (by simp) ?_
        refine AllReadyZ.cons rfl (fun K hK => ?_) AllReadyZ.nil
        go_simp
        refine (HAg.out _).mono ?_
        rintro e w3 ⟨rfl, hb3⟩
        have h3 := chain hH hb3
        refine hK.out _ _ (Or.inr h3) (fun _ => ?_)
        clear hK K
        try simp only [Act.put, List.setIfInBounds_toArray, List.set_cons_zero, List.set_cons_succ, List.getElem_toArray, List.getElem_cons_succ, List.getElem_cons_zero]
        clear hb3 hH
        refine wpAnyZ_take (i := 14) (v := .int .i64 ux) rfl (by kernel_rfl) (by kernel_rfl) (by kernel_rfl) (by kernel_rfl) (fun _ _ _ h => h) (Or.inl ⟨by rfl, fun w hSw => by have f0 := (HQ2.out w hSw).2.1; go_simp⟩) h3 ?_
        try simp only [Act.put, List.setIfInBounds_toArray, List.set_cons_zero, List.set_cons_succ, List.getElem_toArray, List.getElem_cons_succ, List.getElem_cons_zero]
        refine wpAnyZ_ready (rs := [16]) (by kernel_rfl) (by simp) ?_
        refine AllReadyZ.cons rfl (fun K hK => ?_) AllReadyZ.nil
        go_simp
        refine (told_any a0 a1 a2 a3 a4 _).mono ?_
        rintro e w4 ⟨rfl, hb4⟩
        have h4 := chain h3 hb4
        refine hK.out _ _ (Or.inr h4) (fun _ => ?_)
        clear hK K
        try simp only [Act.put, List.setIfInBounds_toArray, List.set_cons_zero, List.set_cons_succ, List.getElem_toArray, List.getElem_cons_succ, List.getElem_cons_zero]
        clear hb4 h3
        refine wpAnyZ_take (i := 17) (v := .int .i64 a2) rfl (by kernel_rfl) (by kernel_rfl) (by kernel_rfl) (by kernel_rfl) (fun _ _ _ h => h) (Or.inl ⟨by rfl, fun w hSw => by go_simp⟩) h4 ?_
        try simp only [Act.put, List.setIfInBounds_toArray, List.set_cons_zero, List.set_cons_succ, List.getElem_toArray, List.getElem_cons_succ, List.getElem_cons_zero]
        refine wpAnyZ_take (i := 18) (v := .int .i64 (ux + a2)) rfl (by kernel_rfl) (by kernel_rfl) (by kernel_rfl) (by kernel_rfl) (fun _ _ _ h => h) (Or.inl ⟨by rfl, fun w hSw => by go_simp⟩) h4 ?_
        try simp only [Act.put, List.setIfInBounds_toArray, List.set_cons_zero, List.set_cons_succ, List.getElem_toArray, List.getElem_cons_succ, List.getElem_cons_zero]
        obtain ⟨w5, hrun5, hm5, hg5⟩ := (HS.out.1.block ((HQ2.out w4 h4).2.2.block ub HS.out.1.lt)).put (by unfold maxLen; omega) hcw (ux + a2)
        have HE : Hid (MapI w5 ub (n + 1) (fun c => uN (pC ar σ.day c) (σ.L.take (k + 1))) ∧ Fr (fun q => q = ub) w w5) := by
          refine ⟨hm5.congr (fun c => ?_), (HS.out.2.trans (Fr.of (HQ2.out w4 h4).2.2)).trans ((fr_grown hg5).mono (fun q hq => by simpa using hq.symm))⟩
          rw [← HNx2.out c]
        clear hm5 hg5
        refine wpAnyZ_ready (rs := [19]) (by kernel_rfl) (by simp) ?_
        refine AllReadyZ.cons rfl (fun K hK => ?_) AllReadyZ.nil
        go_simp
        refine hK.out _ _ (Or.inl rfl) (fun _ => ?_)
        clear hK K
        try simp only [Act.put, List.setIfInBounds_toArray, List.set_cons_zero, List.set_cons_succ, List.getElem_toArray, List.getElem_cons_succ, List.getElem_cons_zero]
        refine wpAnyZ_done (by kernel_rfl) ?_ _
        clear hrun5 h4 HQ2 HAg t0 t1 t2 t3 t4 t5 HS HNx2
        go_wp2
        exact ⟨⟨k + 1, n + 1, by omega, by go_num, by omega, HE.out⟩, by simp [intOf]; omega⟩
    · obtain rfl : k = σ.L.length := by omega
      rw [List.take_length] at HS
      obtain ⟨W3, hW3⟩ : ∃ W3, W3 = wr.alloc (Obj.cells #[.int .i64 0, .int .i64 18, .int .i64 17] 3) := ⟨_, rfl⟩
      obtain ⟨sb, hsb⟩ : ∃ sb, sb = wr.heap.size := ⟨_, rfl⟩
      have H3 : Hid (Below wr.heap.size wr W3 ∧ W3.heap[sb]? = some (.cells #[.int .i64 0, .int .i64 18, .int .i64 17] 3 (0, 0))) := by rw [hW3, hsb]; exact ⟨below_alloc _ _, heapNew _ _⟩
      have HRr : Hid (Rn B rb mb ub σ (.slice oa σ.L.length oc) W3 ∧ Fr (fun q => q = ub) w W3) := ⟨(HRu.out wr _ _ HS.out.2 HS.out.1).later H3.out.1, HS.out.2.trans (Fr.of H3.out.1)⟩
      have HMi : Hid (MapI W3 ub n (fun c => uN (pC ar σ.day c) σ.L)) := HS.out.1.block (H3.out.1.block ub HS.out.1.lt)
      have HCd : Hid (∀ k, k < 3 → W3.cell? ⟨sb, k, none⟩ = some (.int .i64 (cdN k)) ∧ WfI (cdN k)) := fun k hk => by
        rcases (by omega : k = 0 ∨ k = 1 ∨ k = 2) with rfl | rfl | rfl
        · exact ⟨blkCell H3.out.2 0 _ rfl, wfI_of _ (by decide) (by decide)⟩
        · exact ⟨blkCell H3.out.2 1 _ rfl, wfI_of _ (by decide) (by decide)⟩
        · exact ⟨blkCell H3.out.2 2 _ rfl, wfI_of _ (by decide) (by decide)⟩
      have c8 := HRr.out.1.at.c8
      clear HS hmf HRu
      go_wp2
      rw [← hW3, ← hsb]
      clear hW3 hsb
      have HRr2 : Hid (Fr (fun q => q = ub) w W3 ∧ Rn B rb mb ub σ (.slice oa σ.L.length oc) W3) := ⟨HRr.out.2, HRr.out.1⟩
      clear HRr H3 HR
      go_loopw [10, 12, 58] (fun s _ x wx => ∃ (j : Nat), j ≤ 3 ∧ x = .int .i64 (j : Int) ∧ s = .int .i64 (sU ar σ.day σ.L j) ∧ (∀ i, 1 ≤ i → i ≤ j → ¬ m ≤ sU ar σ.day σ.L i) ∧ wx = W3) (fun _ _ x _ => 3 - (intOf x).toNat)
      case atStart => exact ⟨0, by omega, rfl, rfl, fun i h1 h2 => by omega, rfl⟩
      case round =>
        obtain ⟨j, hj, rfl, rfl, hno, rfl⟩ := hrel
        have HNo : Hid (∀ i, 1 ≤ i → i ≤ j → ¬ m ≤ sU ar σ.day σ.L i) := hno
        clear hno
        by_cases hl3 : j < 3
        · have hl3' : (j : Int) < 3 := by omega
          obtain ⟨d0, dw⟩ := HCd.out j hl3
          have hgt := HMi.out.get dw
          have hs1 := HSb.out j (by omega)
          have hs2 := HSb.out (j + 1) (by omega)
          have hsx : sU ar σ.day σ.L (j + 1) = sU ar σ.day σ.L j + uN (pC ar σ.day (cdN j)) σ.L := rfl
          have HSx : Hid (sU ar σ.day σ.L (j + 1) = sU ar σ.day σ.L j + uN (pC ar σ.day (cdN j)) σ.L) := hsx
          have HAt : Hid (m ≤ sU ar σ.day σ.L (j + 1) → selC σ ar m = cdN j) := fun q => sel_at hl3 HNo.out q
          have hws : IntKind.i64.wrap (sU ar σ.day σ.L j + uN (pC ar σ.day (cdN j)) σ.L) = sU ar σ.day σ.L j + uN (pC ar σ.day (cdN j)) σ.L := wrap_id _ (by omega) (by omega)
          rw [hsx] at hs2
          clear hsx dw
          generalize uN (pC ar σ.day (cdN j)) σ.L = uj at *
          generalize cdN j = cj at *
          by_cases hm : m ≤ sU ar σ.day σ.L j + uj
          · have HAt2 : Hid (selC σ ar m = cj) := HAt.out (by rw [HSx.out]; exact hm)
            generalize sU ar σ.day σ.L j = sj at *
            clear HAt
            go_wp2
            go_ret
            exact ⟨ret_int HAt2.out.symm, HRr2.out⟩
          · have HNo2 : Hid (∀ i, 1 ≤ i → i ≤ j + 1 → ¬ m ≤ sU ar σ.day σ.L i) := fun i h1 h2 => by
              rcases Nat.lt_or_ge i (j + 1) with q | q
              · exact HNo.out i h1 (by omega)
              · obtain rfl : i = j + 1 := by omega
                rw [HSx.out]; exact hm
            clear HAt HNo
            have HSx2 : Hid (sU ar σ.day σ.L j + uj = sU ar σ.day σ.L (j + 1)) := HSx.out.symm
            generalize sU ar σ.day σ.L j = sj at *
            go_wp2
            exact ⟨⟨j + 1, by omega, by go_num, by rw [← HSx2.out], HNo2.out, by first | rfl | trivial⟩, by simp [intOf]; omega⟩
        · obtain rfl : j = 3 := by omega
          have HE : Hid (selC σ ar m = 19) := sel_none HNo.out
          clear HNo
          go_wp2
          go_ret
          exact ⟨ret_int HE.out.symm, HRr2.out⟩
end Go.Proofs.Ytlfcaijhlgldnaa
