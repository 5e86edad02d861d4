/-
  The program's onSale, and the key of the lot that ends first.
-/
import Derived.Test.YtlfcaijhlgldnaaKmI
namespace Go.Proofs.Ytlfcaijhlgldnaa
open Go.ChangeShapes Go.WideShapes Go.ChangeAt Go.RowKit Go.Deep
set_option linter.unusedVariables false

/-- A row of keys of its own, from block B on, that nothing old is touched by. -/
def KyRow (w : World) (B : Nat) (v : Value) (F : List RSl) (wr : World) : Prop := wr.ownsRow B 82 2 v F.length (kyCells F) ∧ B ≤ wr.heap.size ∧ Below B w wr
theorem KyRow.alloc {w : World} {B : Nat} {v : Value} {F : List RSl} {wr : World} (h : KyRow w B v F wr) (o : Obj) : KyRow w B v F (wr.alloc o) :=
  ⟨h.1.alloc _, by have := h.2.1; simp; omega, h.2.2.alloc h.2.1 _⟩
theorem KyRow.later {w : World} {B : Nat} {v : Value} {F : List RSl} {wr w' : World} (h : KyRow w B v F wr) (hb : Below wr.heap.size wr w') : KyRow w B v F w' :=
  ⟨row_of h.1 (fun q hq => hb.block q (row_lt h.1 q hq).2), Nat.le_trans h.2.1 hb.size, h.2.2.trans (hb.mono h.2.1)⟩
theorem KyRow.push {w : World} {B : Nat} {v : Value} {F : List RSl} {wr w' : World} {g cp : Nat} {r : RSl} (h : KyRow w B v F wr)
    (ho : w'.ownsRow B 82 2 (.slice (some ⟨g, 0, none⟩) (F.length + 1) cp) (F.length + 1) (kyCells F ++ [.string r.ar, .int .i64 r.lt])) (hg : wr.grownBy w' v.ownBlock) : KyRow w B (.slice (some ⟨g, 0, none⟩) (F.length + 1) cp) (F ++ [r]) w' := by
  refine ⟨?_, Nat.le_trans h.2.1 hg.size, h.2.2.grown hg h.2.1 (fun q hq => (row_lt h.1 q hq).1)⟩
  rw [List.length_append, kyCells_append]; exact ho
theorem row_ky {W : World} {B g c : Nat} {L : List RSl} (h : W.ownsRow B 82 2 (.slice (some ⟨g, 0, none⟩) L.length c) L.length (kyCells L)) {k : Nat} (hk : k < L.length) : W.cell? ⟨g, k * 2, none⟩ = some (.string (gl L k).ar) ∧ W.cell? ⟨g, k * 2 + 1, none⟩ = some (.int .i64 (gl L k).lt) := by
  obtain ⟨q0, q1⟩ := kyCells_at L k hk
  exact ⟨by rw [h.cellAt (k * 2) (by omega), q0], by rw [h.cellAt (k * 2 + 1) (by omega), q1]⟩
theorem filt_next (p : RSl → Bool) (L : List RSl) (k : Nat) (h : k < L.length) : (L.take (k + 1)).filter p = if p (gl L k) = true then (L.take k).filter p ++ [gl L k] else (L.take k).filter p := by
  rw [List.take_succ_eq_append_getElem h, List.filter_append, gl_get h]
  by_cases hp : p L[k] = true
  · rw [if_pos hp, List.filter_cons_of_pos hp]; rfl
  · rw [if_neg hp, List.filter_cons_of_neg hp]; simp
set_option maxHeartbeats 8000000 in
theorem onSale_any {B rb mb ub : Nat} {σ : StS} {ov : Value} {w : World} (h : Rn B rb mb ub σ ov w) (hlen : σ.L.length ≤ 60) (hN : ∀ r ∈ σ.L, SlN r) (ar : ByteArray) :
    Calls Try.prog 65 #[.pointer (some ⟨rb, 0, none⟩), .string ar] w fun e w' => ∃ ka kc, e = .returned (.slice ka (σ.L.filter (pS ar σ.day)).length kc) ∧ KyRow w w.heap.size (.slice ka (σ.L.filter (pS ar σ.day)).length kc) (σ.L.filter (pS ar σ.day)) w' := by
  obtain ⟨oa, oc, rfl⟩ := row_slice h.ord
  have HR : Hid (Rn B rb mb ub σ (.slice oa σ.L.length oc) w) := h
  have HN : Hid (∀ r ∈ σ.L, SlN r) := hN
  have c7 := h.at.c7
  obtain ⟨i0, hi, hzz⟩ := Option.map_eq_some_iff.1 lkInfo
  simp only [Prod.mk.injEq] at hzz
  obtain ⟨hi0, hi1, hi2⟩ := hzz
  clear h hN
  go_enter Try.func65, Try.ntmps65
  go_wp2
  go_loopw [5, 7, 13] (fun v _ x wr => ∃ (k : Nat) (ka : Option Addr) (kc : Nat), k ≤ σ.L.length ∧ x = .int .i64 (k : Int) ∧ v = .slice ka ((σ.L.take k).filter (pS ar σ.day)).length kc ∧ KyRow w w.heap.size v ((σ.L.take k).filter (pS ar σ.day)) wr) (fun _ _ x _ => σ.L.length - (intOf x).toNat)
  case atStart => exact ⟨0, none, 0, Nat.zero_le _, rfl, rfl, ⟨World.ownsRow_nil _ _ _ _, Nat.le_refl _, Below.refl _ _⟩⟩
  case round =>
    obtain ⟨k, ka, kc, hk, rfl, rfl, hrow⟩ := hrel
    have HRw : Hid (KyRow w w.heap.size (.slice ka ((σ.L.take k).filter (pS ar σ.day)).length kc) ((σ.L.take k).filter (pS ar σ.day)) wr) := hrow
    clear hrow c7
    by_cases hlt : k < σ.L.length
    · have hlt' : (k : Int) < (σ.L.length : Int) := by omega
      have hRr := HR.out.later HRw.out.2.2
      obtain ⟨g, cp, hq⟩ := row_some hRr.ord (by omega)
      simp only [Value.slice.injEq, true_and] at hq
      obtain ⟨rfl, rfl⟩ := hq
      obtain ⟨q0, q1⟩ := row_ky hRr.ord hlt
      have HKn := filt_next (pS ar σ.day) σ.L k hlt
      have hkl : ((σ.L.take k).filter (pS ar σ.day)).length ≤ k := by
        have h1 := List.length_filter_le (pS ar σ.day) (σ.L.take k)
        rw [List.length_take] at h1
        omega
      obtain ⟨⟨a0, a1, a2, a3, a4⟩, hr⟩ : ∃ r, gl σ.L k = r := ⟨_, rfl⟩
      have HG : Hid (∀ W, Below wr.heap.size wr W → RnC rb mb ub σ (.slice (some ⟨g, 0, none⟩) σ.L.length oc) W ∧ (Instr.lookup 54 (.map (some mb)) (.agg #[.string a0, .int .i64 a1]) false).run Try.prog W = .ok (.iface (lotT a4) (.agg #[.string a0, .int .i64 a1, .int .i64 a2, .int .i64 a3, .bool a4])) W) := fun W hW => ⟨(HR.out.later (chain HRw.out.2.2 hW)).at, (HR.out.later (chain HRw.out.2.2 hW)).get HN.out hlt hr⟩
      rw [hr] at q0 q1 HKn
      dsimp only at q0 q1
      have HP : Hid (pS ar σ.day ⟨a0, a1, a2, a3, a4⟩ = ((a0.toList == ar.toList) && (cA σ.day ⟨a0, a1, a2, a3, a4⟩ == 0))) := by show _ = _; rw [← pC_zero]; rfl
      have HK : Hid ((σ.L.take (k + 1)).filter (pS ar σ.day) = if pS ar σ.day ⟨a0, a1, a2, a3, a4⟩ = true then (σ.L.take k).filter (pS ar σ.day) ++ [⟨a0, a1, a2, a3, a4⟩] else (σ.L.take k).filter (pS ar σ.day)) := HKn
      have HAg : Hid (∀ W, Calls Try.prog (agF a4) #[.agg #[.string a0, .int .i64 a1, .int .i64 a2, .int .i64 a3, .bool a4], .int .i64 σ.day] W fun e w' => e = .returned (.int .i64 (cA σ.day ⟨a0, a1, a2, a3, a4⟩)) ∧ Below W.heap.size W w') := fun W => against_any a0 a1 a2 a3 a4 σ.day W
      clear HKn hRr hr
      generalize (σ.L.take k).filter (pS ar σ.day) = K at *
      generalize cA σ.day ⟨a0, a1, a2, a3, a4⟩ = co at *
      obtain ⟨W1, hW1⟩ : ∃ W1, W1 = wr.alloc (Obj.cells #[.string a0, .int .i64 a1] 82) := ⟨_, rfl⟩
      have HW1 : Hid (KyRow w w.heap.size (.slice ka K.length kc) K W1 ∧ Below wr.heap.size wr W1 ∧ W1.heap[wr.heap.size]? = some (.cells #[.string a0, .int .i64 a1] 82 (0, 0))) := by
        rw [hW1]; exact ⟨HRw.out.alloc _, below_alloc _ _, heapNew _ _⟩
      have HQ : Hid (∀ W, Below W1.heap.size W1 W → Below wr.heap.size wr W ∧ W.heap[wr.heap.size]? = some (.cells #[.string a0, .int .i64 a1] 82 (0, 0))) := fun W hW => ⟨chain HW1.out.2.1 hW, (hW.block _ (blkLt HW1.out.2.2)).trans HW1.out.2.2⟩
      go_wp2_with fail
      rw [← hW1]
      clear hW1 q0 q1
      have t1 := na_agT
      have t2 := me_agT
      have t3 := cf_ag
      cases ea : (a0.toList == ar.toList) with
      | false =>
        have HK2 : Hid ((σ.L.take (k + 1)).filter (pS ar σ.day) = K) := by show _ = _; rw [HK.out, HP.out, ea]; rfl
        clear HK HP
        refine wp_region_held_drew (S := fun W => Below W1.heap.size W1 W) (by kernel_rfl) (below_drew _) (fun hH => ?_)
        refine wpAnyH_take (i := 0) (v := .pointer (some ⟨wr.heap.size, 0, none⟩)) rfl (by kernel_rfl) (by kernel_rfl) (by kernel_rfl) (fun _ _ _ h => h) (Or.inl ⟨by rfl, fun w hSw => by go_simp⟩) hH ?_
        refine wpAnyH_take (i := 1) (v := .string a0) rfl (by kernel_rfl) (by kernel_rfl) (by kernel_rfl) (fun _ _ _ h => h) (Or.inl ⟨by rfl, fun w hSw => by have f0 := blkCell (HQ.out w hSw).2 0 _ rfl; go_simp⟩) hH ?_
        try simp only [Act.put, List.setIfInBounds_toArray, List.set_cons_zero, List.set_cons_succ, List.getElem_toArray, List.getElem_cons_succ, List.getElem_cons_zero]
        refine wpAnyH_take (i := 2) (v := .string ar) rfl (by kernel_rfl) (by kernel_rfl) (by kernel_rfl) (fun _ _ _ h => h) (Or.inl ⟨by rfl, fun w hSw => by go_simp⟩) hH ?_
        try simp only [Act.put, List.setIfInBounds_toArray, List.set_cons_zero, List.set_cons_succ, List.getElem_toArray, List.getElem_cons_succ, List.getElem_cons_zero]
        refine wpAnyH_take (i := 3) (v := .bool false) rfl (by kernel_rfl) (by kernel_rfl) (by kernel_rfl) (fun _ _ _ h => h) (Or.inl ⟨by rfl, fun w hSw => by have f0 := ea; go_simp⟩) hH ?_
        try simp only [Act.put, List.setIfInBounds_toArray, List.set_cons_zero, List.set_cons_succ, List.getElem_toArray, List.getElem_cons_succ, List.getElem_cons_zero]
        refine wpAnyH_take (i := 4) (v := .bool false) rfl (by kernel_rfl) (by kernel_rfl) (by kernel_rfl) (fun _ _ _ h => h) (Or.inl ⟨by rfl, fun w hSw => by go_simp⟩) hH ?_
        try simp only [Act.put, List.setIfInBounds_toArray, List.set_cons_zero, List.set_cons_succ, List.getElem_toArray, List.getElem_cons_succ, List.getElem_cons_zero]
        refine wpAnyH_take (i := 5) (v := undef) rfl (by kernel_rfl) (by kernel_rfl) (by kernel_rfl) (fun _ _ _ h => h) (Or.inr ⟨by rfl, rfl⟩) hH ?_
        try simp only [Act.put, List.setIfInBounds_toArray, List.set_cons_zero, List.set_cons_succ, List.getElem_toArray, List.getElem_cons_succ, List.getElem_cons_zero]
        refine wpAnyH_take (i := 6) (v := undef) rfl (by kernel_rfl) (by kernel_rfl) (by kernel_rfl) (fun _ _ _ h => h) (Or.inr ⟨by rfl, rfl⟩) hH ?_
        try simp only [Act.put, List.setIfInBounds_toArray, List.set_cons_zero, List.set_cons_succ, List.getElem_toArray, List.getElem_cons_succ, List.getElem_cons_zero]
        refine wpAnyH_take (i := 7) (v := undef) rfl (by kernel_rfl) (by kernel_rfl) (by kernel_rfl) (fun _ _ _ h => h) (Or.inr ⟨by rfl, rfl⟩) hH ?_
        try simp only [Act.put, List.setIfInBounds_toArray, List.set_cons_zero, List.set_cons_succ, List.getElem_toArray, List.getElem_cons_succ, List.getElem_cons_zero]
        refine wpAnyH_take (i := 8) (v := undef) rfl (by kernel_rfl) (by kernel_rfl) (by kernel_rfl) (fun _ _ _ h => h) (Or.inr ⟨by rfl, rfl⟩) hH ?_
        try simp only [Act.put, List.setIfInBounds_toArray, List.set_cons_zero, List.set_cons_succ, List.getElem_toArray, List.getElem_cons_succ, List.getElem_cons_zero]
        refine wpAnyH_take (i := 9) (v := undef) rfl (by kernel_rfl) (by kernel_rfl) (by kernel_rfl) (fun _ _ _ h => h) (Or.inr ⟨by rfl, rfl⟩) hH ?_
        try simp only [Act.put, List.setIfInBounds_toArray, List.set_cons_zero, List.set_cons_succ, List.getElem_toArray, List.getElem_cons_succ, List.getElem_cons_zero]
        refine wpAnyH_take (i := 10) (v := undef) rfl (by kernel_rfl) (by kernel_rfl) (by kernel_rfl) (fun _ _ _ h => h) (Or.inr ⟨by rfl, rfl⟩) hH ?_
        try simp only [Act.put, List.setIfInBounds_toArray, List.set_cons_zero, List.set_cons_succ, List.getElem_toArray, List.getElem_cons_succ, List.getElem_cons_zero]
        refine wpAnyH_take (i := 11) (v := undef) rfl (by kernel_rfl) (by kernel_rfl) (by kernel_rfl) (fun _ _ _ h => h) (Or.inr ⟨by rfl, rfl⟩) hH ?_
        try simp only [Act.put, List.setIfInBounds_toArray, List.set_cons_zero, List.set_cons_succ, List.getElem_toArray, List.getElem_cons_succ, List.getElem_cons_zero]
        refine wpAnyH_take (i := 12) (v := undef) rfl (by kernel_rfl) (by kernel_rfl) (by kernel_rfl) (fun _ _ _ h => h) (Or.inr ⟨by rfl, rfl⟩) hH ?_
        try simp only [Act.put, List.setIfInBounds_toArray, List.set_cons_zero, List.set_cons_succ, List.getElem_toArray, List.getElem_cons_succ, List.getElem_cons_zero]
        refine wpAnyH_take (i := 13) (v := undef) rfl (by kernel_rfl) (by kernel_rfl) (by kernel_rfl) (fun _ _ _ h => h) (Or.inr ⟨by rfl, rfl⟩) hH ?_
        try simp only [Act.put, List.setIfInBounds_toArray, List.set_cons_zero, List.set_cons_succ, List.getElem_toArray, List.getElem_cons_succ, List.getElem_cons_zero]
        refine wpAnyH_take (i := 14) (v := undef) rfl (by kernel_rfl) (by kernel_rfl) (by kernel_rfl) (fun _ _ _ h => h) (Or.inr ⟨by rfl, rfl⟩) hH ?_
        try simp only [Act.put, List.setIfInBounds_toArray, List.set_cons_zero, List.set_cons_succ, List.getElem_toArray, List.getElem_cons_succ, List.getElem_cons_zero]
        refine wpAnyH_take (i := 15) (v := undef) rfl (by kernel_rfl) (by kernel_rfl) (by kernel_rfl) (fun _ _ _ h => h) (Or.inr ⟨by rfl, rfl⟩) hH ?_
        try simp only [Act.put, List.setIfInBounds_toArray, List.set_cons_zero, List.set_cons_succ, List.getElem_toArray, List.getElem_cons_succ, List.getElem_cons_zero]
        refine wpAnyH_take (i := 16) (v := undef) rfl (by kernel_rfl) (by kernel_rfl) (by kernel_rfl) (fun _ _ _ h => h) (Or.inr ⟨by rfl, rfl⟩) hH ?_
        try simp only [Act.put, List.setIfInBounds_toArray, List.set_cons_zero, List.set_cons_succ, List.getElem_toArray, List.getElem_cons_succ, List.getElem_cons_zero]
        refine wpAnyH_take (i := 17) (v := undef) rfl (by kernel_rfl) (by kernel_rfl) (by kernel_rfl) (fun _ _ _ h => h) (Or.inr ⟨by rfl, rfl⟩) hH ?_
        try simp only [Act.put, List.setIfInBounds_toArray, List.set_cons_zero, List.set_cons_succ, List.getElem_toArray, List.getElem_cons_succ, List.getElem_cons_zero]
        refine wpAnyH_take (i := 18) (v := undef) rfl (by kernel_rfl) (by kernel_rfl) (by kernel_rfl) (fun _ _ _ h => h) (Or.inr ⟨by rfl, rfl⟩) hH ?_
        try simp only [Act.put, List.setIfInBounds_toArray, List.set_cons_zero, List.set_cons_succ, List.getElem_toArray, List.getElem_cons_succ, List.getElem_cons_zero]
        refine wpAnyH_take (i := 19) (v := undef) rfl (by kernel_rfl) (by kernel_rfl) (by kernel_rfl) (fun _ _ _ h => h) (Or.inr ⟨by rfl, rfl⟩) hH ?_
        try simp only [Act.put, List.setIfInBounds_toArray, List.set_cons_zero, List.set_cons_succ, List.getElem_toArray, List.getElem_cons_succ, List.getElem_cons_zero]
        refine wpAnyH_take (i := 20) (v := .bool false) rfl (by kernel_rfl) (by kernel_rfl) (by kernel_rfl) (fun _ _ _ h => h) (Or.inl ⟨by rfl, fun w hSw => by go_simp⟩) hH ?_
        try simp only [Act.put, List.setIfInBounds_toArray, List.set_cons_zero, List.set_cons_succ, List.getElem_toArray, List.getElem_cons_succ, List.getElem_cons_zero]
        refine wpAnyH_done (by kernel_rfl) ?_ _
        have HF : Hid (KyRow w w.heap.size (.slice ka K.length kc) K W1.drew) := HW1.out.1.later (below_drew _)
        clear hH HQ HG HW1 ea t1 t2 t3
        generalize W1.drew = W3 at *
        go_wp2
        refine ⟨⟨k + 1, ka, kc, by omega, by go_num, by rw [HK2.out], ?_⟩, by simp [intOf]; omega⟩
        rw [HK2.out]; exact HF.out
      | true =>
        rw [ea] at HP
        refine wp_region_held_drew (S := fun W => Below W1.heap.size W1 W) (by kernel_rfl) (below_drew _) (fun hH => ?_)
        refine wpAnyH_take (i := 0) (v := .pointer (some ⟨wr.heap.size, 0, none⟩)) rfl (by kernel_rfl) (by kernel_rfl) (by kernel_rfl) (fun _ _ _ h => h) (Or.inl ⟨by rfl, fun w hSw => by go_simp⟩) hH ?_
        refine wpAnyH_take (i := 1) (v := .string a0) rfl (by kernel_rfl) (by kernel_rfl) (by kernel_rfl) (fun _ _ _ h => h) (Or.inl ⟨by rfl, fun w hSw => by have f0 := blkCell (HQ.out w hSw).2 0 _ rfl; go_simp⟩) hH ?_
        try simp only [Act.put, List.setIfInBounds_toArray, List.set_cons_zero, List.set_cons_succ, List.getElem_toArray, List.getElem_cons_succ, List.getElem_cons_zero]
        refine wpAnyH_take (i := 2) (v := .string ar) rfl (by kernel_rfl) (by kernel_rfl) (by kernel_rfl) (fun _ _ _ h => h) (Or.inl ⟨by rfl, fun w hSw => by go_simp⟩) hH ?_
        try simp only [Act.put, List.setIfInBounds_toArray, List.set_cons_zero, List.set_cons_succ, List.getElem_toArray, List.getElem_cons_succ, List.getElem_cons_zero]
        refine wpAnyH_take (i := 3) (v := .bool true) rfl (by kernel_rfl) (by kernel_rfl) (by kernel_rfl) (fun _ _ _ h => h) (Or.inl ⟨by rfl, fun w hSw => by have f0 := ea; go_simp⟩) hH ?_
        try simp only [Act.put, List.setIfInBounds_toArray, List.set_cons_zero, List.set_cons_succ, List.getElem_toArray, List.getElem_cons_succ, List.getElem_cons_zero]
        refine wpAnyH_take (i := 4) (v := .bool true) rfl (by kernel_rfl) (by kernel_rfl) (by kernel_rfl) (fun _ _ _ h => h) (Or.inl ⟨by rfl, fun w hSw => by go_simp⟩) hH ?_
        try simp only [Act.put, List.setIfInBounds_toArray, List.set_cons_zero, List.set_cons_succ, List.getElem_toArray, List.getElem_cons_succ, List.getElem_cons_zero]
        refine wpAnyH_take (i := 5) (v := .pointer (some ⟨rb, 0, none⟩)) rfl (by kernel_rfl) (by kernel_rfl) (by kernel_rfl) (fun _ _ _ h => h) (Or.inl ⟨by rfl, fun w hSw => by go_simp⟩) hH ?_
        try simp only [Act.put, List.setIfInBounds_toArray, List.set_cons_zero, List.set_cons_succ, List.getElem_toArray, List.getElem_cons_succ, List.getElem_cons_zero]
        refine wpAnyH_take (i := 6) (v := .pointer (some ⟨rb, 0, none⟩)) rfl (by kernel_rfl) (by kernel_rfl) (by kernel_rfl) (fun _ _ _ h => h) (Or.inl ⟨by rfl, fun w hSw => by go_simp⟩) hH ?_
        try simp only [Act.put, List.setIfInBounds_toArray, List.set_cons_zero, List.set_cons_succ, List.getElem_toArray, List.getElem_cons_succ, List.getElem_cons_zero]
        refine wpAnyH_take (i := 7) (v := .pointer (some ⟨rb, 6, none⟩)) rfl (by kernel_rfl) (by kernel_rfl) (by kernel_rfl) (fun _ _ _ h => h) (Or.inl ⟨by rfl, fun w hSw => by go_simp⟩) hH ?_
        try simp only [Act.put, List.setIfInBounds_toArray, List.set_cons_zero, List.set_cons_succ, List.getElem_toArray, List.getElem_cons_succ, List.getElem_cons_zero]
        refine wpAnyH_take (i := 8) (v := .map (some mb)) rfl (by kernel_rfl) (by kernel_rfl) (by kernel_rfl) (fun _ _ _ h => h) (Or.inl ⟨by rfl, fun w hSw => by have f0 := (HG.out w (HQ.out w hSw).1).1.c6; go_simp⟩) hH ?_
        try simp only [Act.put, List.setIfInBounds_toArray, List.set_cons_zero, List.set_cons_succ, List.getElem_toArray, List.getElem_cons_succ, List.getElem_cons_zero]
        refine wpAnyH_take (i := 9) (v := .agg #[.string a0, .int .i64 a1]) rfl (by kernel_rfl) (by kernel_rfl) (by kernel_rfl) (fun _ _ _ h => h) (Or.inl ⟨by rfl, fun w hSw => by have f0 := blkCell (HQ.out w hSw).2 0 _ rfl; have f1 := blkCell (HQ.out w hSw).2 1 _ rfl; go_simp⟩) hH ?_
        try simp only [Act.put, List.setIfInBounds_toArray, List.set_cons_zero, List.set_cons_succ, List.getElem_toArray, List.getElem_cons_succ, List.getElem_cons_zero]
        refine wpAnyH_take (i := 10) (v := .iface (lotT a4) (.agg #[.string a0, .int .i64 a1, .int .i64 a2, .int .i64 a3, .bool a4])) rfl (by kernel_rfl) (by kernel_rfl) (by kernel_rfl) (fun _ _ _ h => h) (Or.inl ⟨by rfl, fun w hSw => by have f0 := (HG.out w (HQ.out w hSw).1).2; go_simp⟩) hH ?_
        try simp only [Act.put, List.setIfInBounds_toArray, List.set_cons_zero, List.set_cons_succ, List.getElem_toArray, List.getElem_cons_succ, List.getElem_cons_zero]
        refine wpAnyH_take (i := 11) (v := .pointer (some ⟨rb, 0, none⟩)) rfl (by kernel_rfl) (by kernel_rfl) (by kernel_rfl) (fun _ _ _ h => h) (Or.inl ⟨by rfl, fun w hSw => by go_simp⟩) hH ?_
        try simp only [Act.put, List.setIfInBounds_toArray, List.set_cons_zero, List.set_cons_succ, List.getElem_toArray, List.getElem_cons_succ, List.getElem_cons_zero]
        refine wpAnyH_take (i := 12) (v := .pointer (some ⟨rb, 0, none⟩)) rfl (by kernel_rfl) (by kernel_rfl) (by kernel_rfl) (fun _ _ _ h => h) (Or.inl ⟨by rfl, fun w hSw => by go_simp⟩) hH ?_
        try simp only [Act.put, List.setIfInBounds_toArray, List.set_cons_zero, List.set_cons_succ, List.getElem_toArray, List.getElem_cons_succ, List.getElem_cons_zero]
        refine wpAnyH_take (i := 13) (v := .pointer (some ⟨rb, 0, none⟩)) rfl (by kernel_rfl) (by kernel_rfl) (by kernel_rfl) (fun _ _ _ h => h) (Or.inl ⟨by rfl, fun w hSw => by go_simp⟩) hH ?_
        try simp only [Act.put, List.setIfInBounds_toArray, List.set_cons_zero, List.set_cons_succ, List.getElem_toArray, List.getElem_cons_succ, List.getElem_cons_zero]
        refine wpAnyH_take (i := 14) (v := .pointer (some ⟨rb, 0, none⟩)) rfl (by kernel_rfl) (by kernel_rfl) (by kernel_rfl) (fun _ _ _ h => h) (Or.inl ⟨by rfl, fun w hSw => by go_simp⟩) hH ?_
        try simp only [Act.put, List.setIfInBounds_toArray, List.set_cons_zero, List.set_cons_succ, List.getElem_toArray, List.getElem_cons_succ, List.getElem_cons_zero]
        refine wpAnyH_take (i := 15) (v := .int .i64 σ.day) rfl (by kernel_rfl) (by kernel_rfl) (by kernel_rfl) (fun _ _ _ h => h) (Or.inl ⟨by rfl, fun w hSw => by have f0 := (HG.out w (HQ.out w hSw).1).1.c0; go_simp⟩) hH ?_
        try simp only [Act.put, List.setIfInBounds_toArray, List.set_cons_zero, List.set_cons_succ, List.getElem_toArray, List.getElem_cons_succ, List.getElem_cons_zero]
        refine wpAnyH_take (i := 16) (v := .iface (lotT a4) (.agg #[.string a0, .int .i64 a1, .int .i64 a2, .int .i64 a3, .bool a4])) rfl (by kernel_rfl) (by kernel_rfl) (by kernel_rfl) (fun _ _ _ h => h) (Or.inl ⟨by rfl, fun w hSw => by go_simp⟩) hH ?_
        try simp only [Act.put, List.setIfInBounds_toArray, List.set_cons_zero, List.set_cons_succ, List.getElem_toArray, List.getElem_cons_succ, List.getElem_cons_zero]
        refine wpAnyH_take (i := 17) (v := .iface (lotT a4) (.agg #[.string a0, .int .i64 a1, .int .i64 a2, .int .i64 a3, .bool a4])) rfl (by kernel_rfl) (by kernel_rfl) (by kernel_rfl) (fun _ _ _ h => h) (Or.inl ⟨by rfl, fun w hSw => by go_simp⟩) hH ?_
        try simp only [Act.put, List.setIfInBounds_toArray, List.set_cons_zero, List.set_cons_succ, List.getElem_toArray, List.getElem_cons_succ, List.getElem_cons_zero]
        refine wpAnyH_ready (rs := [18]) (by kernel_rfl) (by simp) ?_
        refine AllReadyH.cons rfl (fun K hK => ?_) AllReadyH.nil
        go_simp
        refine (HAg.out _).mono ?_
        rintro e w3 ⟨rfl, hb3⟩
        have h3 := chain hH hb3
        refine hK.out _ _ h3 (fun _ => ?_)
        clear hK K
        try simp only [Act.put, List.setIfInBounds_toArray, List.set_cons_zero, List.set_cons_succ, List.getElem_toArray, List.getElem_cons_succ, List.getElem_cons_zero]
        clear hb3 hH
        cases ec : (co == 0) with
        | false =>
          have HK2 : Hid ((σ.L.take (k + 1)).filter (pS ar σ.day) = K) := by show _ = _; rw [HK.out, HP.out, ec]; rfl
          clear HK HP
          refine wpAnyH_take (i := 19) (v := .bool false) rfl (by kernel_rfl) (by kernel_rfl) (by kernel_rfl) (fun _ _ _ h => h) (Or.inl ⟨by rfl, fun w hSw => by have f0 := ec; go_simp⟩) h3 ?_
          try simp only [Act.put, List.setIfInBounds_toArray, List.set_cons_zero, List.set_cons_succ, List.getElem_toArray, List.getElem_cons_succ, List.getElem_cons_zero]
          refine wpAnyH_take (i := 20) (v := .bool false) rfl (by kernel_rfl) (by kernel_rfl) (by kernel_rfl) (fun _ _ _ h => h) (Or.inl ⟨by rfl, fun w hSw => by go_simp⟩) h3 ?_
          try simp only [Act.put, List.setIfInBounds_toArray, List.set_cons_zero, List.set_cons_succ, List.getElem_toArray, List.getElem_cons_succ, List.getElem_cons_zero]
          refine wpAnyH_done (by kernel_rfl) ?_ _
          have HF : Hid (KyRow w w.heap.size (.slice ka K.length kc) K w3) := HW1.out.1.later h3
          clear h3 HQ HG HW1 ea t1 t2 t3 ec
          go_wp2
          refine ⟨⟨k + 1, ka, kc, by omega, by go_num, by rw [HK2.out], ?_⟩, by simp [intOf]; omega⟩
          rw [HK2.out]; exact HF.out
        | true =>
          have HK2 : Hid ((σ.L.take (k + 1)).filter (pS ar σ.day) = K ++ [⟨a0, a1, a2, a3, a4⟩]) := by show _ = _; rw [HK.out, HP.out, ec]; rfl
          clear HK HP
          refine wpAnyH_take (i := 19) (v := .bool true) rfl (by kernel_rfl) (by kernel_rfl) (by kernel_rfl) (fun _ _ _ h => h) (Or.inl ⟨by rfl, fun w hSw => by have f0 := ec; go_simp⟩) h3 ?_
          try simp only [Act.put, List.setIfInBounds_toArray, List.set_cons_zero, List.set_cons_succ, List.getElem_toArray, List.getElem_cons_succ, List.getElem_cons_zero]
          refine wpAnyH_take (i := 20) (v := .bool true) rfl (by kernel_rfl) (by kernel_rfl) (by kernel_rfl) (fun _ _ _ h => h) (Or.inl ⟨by rfl, fun w hSw => by go_simp⟩) h3 ?_
          try simp only [Act.put, List.setIfInBounds_toArray, List.set_cons_zero, List.set_cons_succ, List.getElem_toArray, List.getElem_cons_succ, List.getElem_cons_zero]
          refine wpAnyH_done (by kernel_rfl) ?_ _
          have HF : Hid (KyRow w w.heap.size (.slice ka K.length kc) K (w3.alloc (Obj.cells #[.string a0, .int .i64 a1] 82))) := (HW1.out.1.later h3).alloc _
          have HNw : Hid ((w3.alloc (Obj.cells #[.string a0, .int .i64 a1] 82)).heap[w3.heap.size]? = some (.cells #[.string a0, .int .i64 a1] 82 (0, 0))) := heapNew _ _
          have y0 := blkCell (HQ.out _ h3).2 0 _ rfl
          have y1 := blkCell (HQ.out _ h3).2 1 _ rfl
          clear h3 HQ HG HW1 ea t1 t2 t3 ec
          go_wp2_with (at_builtin; refine wpList_append_lies _ rfl _ _ 55 rfl w.heap.size 82 i0 (.agg #[.string ⟨#[]⟩, .int .i64 0]) 2 24 Try.underlying55 hi hi0 hi1 hi2 rfl (by decide) _ _ _ rfl HF.out.1 ⟨w3.heap.size, 0, none⟩ 1 1 [.string a0, .int .i64 a1] rfl rfl (World.news_of_block HNw.out) (by simp [Value.oneCell']) (by omega) (by unfold maxLen; omega) (by omega) HF.out.2.1 _ rfl ?_; intro g1 cp1 w9 hown1 hgrow1 hat1 hglt1; have HF9 : Hid (KyRow w w.heap.size (.slice (some ⟨g1, 0, none⟩) (K.length + 1) cp1) (K ++ [⟨a0, a1, a2, a3, a4⟩]) w9) := HF.out.push (r := ⟨a0, a1, a2, a3, a4⟩) hown1 hgrow1; clear hown1 hgrow1 hat1 hglt1)
          refine ⟨⟨k + 1, some ⟨g1, 0, none⟩, cp1, by omega, by go_num, by rw [HK2.out]; simp, ?_⟩, by simp [intOf]; omega⟩
          rw [HK2.out]; exact HF9.out
    · obtain rfl : k = σ.L.length := by omega
      rw [List.take_length] at HRw ⊢
      go_wp2
      go_ret
      exact ⟨ka, kc, rfl, HRw.out⟩
end Go.Proofs.Ytlfcaijhlgldnaa
