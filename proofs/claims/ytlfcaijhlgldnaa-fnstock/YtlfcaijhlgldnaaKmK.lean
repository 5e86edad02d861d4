/-
  slices.MinFunc over the keys on sale: the key of the lot that ends first.
-/
import Derived.Test.YtlfcaijhlgldnaaKmJ
namespace Go.Proofs.Ytlfcaijhlgldnaa
open Go.ChangeShapes Go.WideShapes Go.ChangeAt Go.RowKit Go.Deep
set_option linter.unusedVariables false

theorem gl_of_mem {L : List RSl} {r : RSl} (h : r ∈ L) : ∃ i, i < L.length ∧ gl L i = r := by
  obtain ⟨i, hi, rfl⟩ := List.getElem_of_mem h
  exact ⟨i, hi, gl_get hi⟩
theorem cmpRec_any {B rb mb ub : Nat} {σ : StS} {ov : Value} {w : World} (h : Rn B rb mb ub σ ov w) (hN : ∀ r ∈ σ.L, SlN r) (xb : Nat) (hx : w.cell? ⟨xb, 0, none⟩ = some (.pointer (some ⟨rb, 0, none⟩))) {r s : RSl} (hr : r ∈ σ.L) (hs : s ∈ σ.L) :
    Calls Try.prog 66 #[.agg #[.string r.ar, .int .i64 r.lt], .agg #[.string s.ar, .int .i64 s.lt], .pointer (some ⟨xb, 0, none⟩)] w fun e w' => e = .returned (.int .i64 (cmpV r.un s.un)) ∧ Below w.heap.size w w' := by
  obtain ⟨i, hi, rfl⟩ := gl_of_mem hr
  obtain ⟨j, hj, rfl⟩ := gl_of_mem hs
  exact cmpKeys_any h hN xb hx hi hj
theorem mn_next {F : List RSl} {k : Nat} (hk : k < F.length) {m : RSl} (hm : mn (F.take k) = some m) : mn (F.take (k + 1)) = some (if (gl F k).un < m.un then gl F k else m) := by
  rw [List.take_succ_eq_append_getElem hk, mn_snoc, hm, ← gl_get hk]
  unfold mnS
  dsimp only
  split <;> rfl
theorem mn_mem {F : List RSl} : ∀ {k : Nat} {m : RSl}, k ≤ F.length → mn (F.take k) = some m → m ∈ F
  | 0, m, _, h => by cases h
  | k + 1, m, hk, h => by
    rw [List.take_succ_eq_append_getElem (by omega), mn_snoc] at h
    cases hq : mn (F.take k) with
    | none => rw [hq] at h; cases h; exact List.getElem_mem _
    | some q =>
      rw [hq] at h
      unfold mnS at h
      dsimp only at h
      split at h
      · cases h; exact List.getElem_mem _
      · cases h; exact mn_mem (by omega) hq
theorem cut2 {W : World} {b : Nat} {u0 u1 : Value} {t : TypeId} (hb : W.heap[b]? = some (.cells #[u0, u1] t (0, 0))) (x y : Value) : ((W.setCell ⟨b, 0, none⟩ x).setCell ⟨b, 1, none⟩ y).heap[b]? = some (.cells #[x, y] t (0, 0)) := by
  have e1 := heap_setCell_same _ _ 0 _ _ x hb
  simp only [List.setIfInBounds_toArray, List.set_cons_zero] at e1
  have e2 := heap_setCell_same _ _ 1 _ _ y e1
  simp only [List.setIfInBounds_toArray, List.set_cons_zero, List.set_cons_succ] at e2
  exact e2
set_option maxHeartbeats 8000000 in
theorem minFunc_any {B rb mb ub : Nat} {σ : StS} {ov : Value} {w : World} (h : Rn B rb mb ub σ ov w) (hN : ∀ r ∈ σ.L, SlN r) (xb : Nat) (hx : w.cell? ⟨xb, 0, none⟩ = some (.pointer (some ⟨rb, 0, none⟩))) {B2 g kc : Nat} (F : List RSl) (hF : ∀ r ∈ F, r ∈ σ.L) (h1 : 1 ≤ F.length) (h2 : F.length ≤ 1000) (hr : w.ownsRow B2 82 2 (.slice (some ⟨g, 0, none⟩) F.length kc) F.length (kyCells F)) (m0 : RSl) (hm0 : mn F = some m0) :
    Calls Try.prog 64 #[.slice (some ⟨g, 0, none⟩) F.length kc, .func (.func 66) #[] #[.pointer (some ⟨xb, 0, none⟩)]] w fun e w' => e = .returned (.agg #[.string m0.ar, .int .i64 m0.lt]) ∧ Below w.heap.size w w' := by
  have HC : Hid (∀ W, Below w.heap.size w W → ∀ r s, r ∈ F → s ∈ F → Calls Try.prog 66 #[.agg #[.string r.ar, .int .i64 r.lt], .agg #[.string s.ar, .int .i64 s.lt], .pointer (some ⟨xb, 0, none⟩)] W fun e w' => e = .returned (.int .i64 (cmpV r.un s.un)) ∧ Below W.heap.size W w') := fun W hW r s h1 h2 => cmpRec_any (h.later hW) hN xb ((hW.cell (p := ⟨xb, 0, none⟩) (World.block_lt_of_cell? _ _ hx)).trans hx) (hF r h1) (hF s h2)
  have HK : Hid (∀ W, Below w.heap.size w W → ∀ k, k < F.length → W.cell? ⟨g, k * 2, none⟩ = some (.string (gl F k).ar) ∧ W.cell? ⟨g, k * 2 + 1, none⟩ = some (.int .i64 (gl F k).lt)) := fun W hW k hk => row_ky (row_of hr (fun q hq => hW.block q (row_lt hr q hq).2)) hk
  have HM0 : Hid (mn F = some m0) := hm0
  have hF1 : ¬ ((F.length : Int) < 1) := by omega
  have hF0 : (0 : Int) < (F.length : Int) := by omega
  have hfirst : mn (F.take 1) = some (gl F 0) := by
    have e : F.take 1 = [gl F 0] := by
      rw [gl_get (by omega : 0 < F.length)]
      cases F with
      | nil => simp at h1
      | cons a F => rfl
    rw [e]; rfl
  obtain ⟨q0, q1⟩ := HK.out (w.alloc (Obj.cells #[.string ⟨#[]⟩, .int .i64 0] 82)) (below_alloc _ _) 0 (by omega)
  simp only [Nat.zero_mul, Nat.zero_add] at q0 q1
  have HFi : Hid (mn (F.take 1) = some (gl F 0)) := hfirst
  obtain ⟨W2, hW2⟩ : ∃ W2, W2 = (w.alloc (Obj.cells #[.string ⟨#[]⟩, .int .i64 0] 82)).alloc (Obj.cells #[.string (gl F 0).ar, .int .i64 (gl F 0).lt] 82) := ⟨_, rfl⟩
  have H2 : Hid (Below w.heap.size w W2 ∧ W2.heap[w.heap.size]? = some (.cells #[.string ⟨#[]⟩, .int .i64 0] 82 (0, 0)) ∧ W2.heap[w.heap.size + 1]? = some (.cells #[.string (gl F 0).ar, .int .i64 (gl F 0).lt] 82 (0, 0))) := by
    rw [hW2]; exact ⟨chain (below_alloc _ _) (below_alloc _ _), heapTwo _ _ _⟩
  clear h hx hr hF hm0 hfirst
  go_enter Try.func64, Try.ntmps64
  go_wp2
  rw [← hW2]
  clear hW2 q0 q1
  go_loopw [6] (fun x wr => ∃ (k : Nat) (m : RSl), 1 ≤ k ∧ k ≤ F.length ∧ x = .int .i64 (k : Int) ∧ mn (F.take k) = some m ∧ Below w.heap.size w wr ∧ wr.heap[w.heap.size]? = some (.cells #[.string ⟨#[]⟩, .int .i64 0] 82 (0, 0)) ∧ wr.heap[w.heap.size + 1]? = some (.cells #[.string m.ar, .int .i64 m.lt] 82 (0, 0))) (fun x _ => F.length - (intOf x).toNat)
  case atStart => exact ⟨1, _, Nat.le_refl _, h1, rfl, HFi.out, H2.out⟩
  case round =>
    obtain ⟨k, m, hk1, hk, rfl, hm, hb, hz0, hz1⟩ := hrel
    have HS : Hid (Below w.heap.size w wr ∧ wr.heap[w.heap.size]? = some (.cells #[.string ⟨#[]⟩, .int .i64 0] 82 (0, 0)) ∧ wr.heap[w.heap.size + 1]? = some (.cells #[.string m.ar, .int .i64 m.lt] 82 (0, 0))) := ⟨hb, hz0, hz1⟩
    have HM : Hid (mn (F.take k) = some m) := hm
    clear hb hz0 hz1 hm H2 HFi
    by_cases hlt : k < F.length
    · have hlt' : (k : Int) < (F.length : Int) := by omega
      have HNx : Hid (mn (F.take (k + 1)) = some (if (gl F k).un < m.un then gl F k else m)) := mn_next hlt HM.out
      have HCm : Hid (∀ W, Below w.heap.size w W → Calls Try.prog 66 #[.agg #[.string (gl F k).ar, .int .i64 (gl F k).lt], .agg #[.string m.ar, .int .i64 m.lt], .pointer (some ⟨xb, 0, none⟩)] W fun e w' => e = .returned (.int .i64 (cmpV (gl F k).un m.un)) ∧ Below W.heap.size W w') := fun W hW => HC.out W hW _ _ (by rw [gl_get hlt]; exact List.getElem_mem _) (mn_mem hk HM.out)
      have HQ : Hid (∀ W, Below wr.heap.size wr W → Below w.heap.size w W ∧ W.heap[w.heap.size]? = some (.cells #[.string ⟨#[]⟩, .int .i64 0] 82 (0, 0)) ∧ W.heap[w.heap.size + 1]? = some (.cells #[.string m.ar, .int .i64 m.lt] 82 (0, 0)) ∧ W.cell? ⟨g, k * 2, none⟩ = some (.string (gl F k).ar) ∧ W.cell? ⟨g, k * 2 + 1, none⟩ = some (.int .i64 (gl F k).lt)) := fun W hW => ⟨chain HS.out.1 hW, (hW.block _ (blkLt HS.out.2.1)).trans HS.out.2.1, (hW.block _ (blkLt HS.out.2.2)).trans HS.out.2.2, HK.out W (chain HS.out.1 hW) k hlt⟩
      generalize gl F k = r at *
      obtain ⟨a0, a1, a2, a3, a4⟩ := r
      obtain ⟨b0, b1, b2, b3, b4⟩ := m
      dsimp only at HNx HCm HQ
      clear HM HC
      go_wp2_with fail
      refine wp_region_held_drew (S := fun W => Below wr.heap.size wr W) (by kernel_rfl) (below_drew _) (fun hH => ?_)
      refine wpAnyH_take (i := 0) (v := .func (.func 66) #[] #[.pointer (some ⟨xb, 0, none⟩)]) rfl (by kernel_rfl) (by kernel_rfl) (by kernel_rfl) (fun _ _ _ h => h) (Or.inl ⟨by rfl, fun w hSw => by go_simp⟩) hH ?_
      refine wpAnyH_take (i := 1) (v := .slice (some ⟨g, 0, none⟩) F.length kc) rfl (by kernel_rfl) (by kernel_rfl) (by kernel_rfl) (fun _ _ _ h => h) (Or.inl ⟨by rfl, fun w hSw => by go_simp⟩) hH ?_
      try simp only [Act.put, List.setIfInBounds_toArray, List.set_cons_zero, List.set_cons_succ, List.getElem_toArray, List.getElem_cons_succ, List.getElem_cons_zero]
      refine wpAnyH_take (i := 2) (v := .int .i64 (k : Int)) rfl (by kernel_rfl) (by kernel_rfl) (by kernel_rfl) (fun _ _ _ h => h) (Or.inl ⟨by rfl, fun w hSw => by go_simp⟩) hH ?_
      try simp only [Act.put, List.setIfInBounds_toArray, List.set_cons_zero, List.set_cons_succ, List.getElem_toArray, List.getElem_cons_succ, List.getElem_cons_zero]
      refine wpAnyH_take (i := 3) (v := .pointer (some ⟨g, k * 2, none⟩)) rfl (by kernel_rfl) (by kernel_rfl) (by kernel_rfl) (fun _ _ _ h => h) (Or.inl ⟨by rfl, fun w hSw => by go_simp⟩) hH ?_
      try simp only [Act.put, List.setIfInBounds_toArray, List.set_cons_zero, List.set_cons_succ, List.getElem_toArray, List.getElem_cons_succ, List.getElem_cons_zero]
      refine wpAnyH_take (i := 4) (v := .agg #[.string a0, .int .i64 a1]) rfl (by kernel_rfl) (by kernel_rfl) (by kernel_rfl) (fun _ _ _ h => h) (Or.inl ⟨by rfl, fun w hSw => by have f0 := (HQ.out w hSw).2.2.2.1; have f1 := (HQ.out w hSw).2.2.2.2; go_simp⟩) hH ?_
      try simp only [Act.put, List.setIfInBounds_toArray, List.set_cons_zero, List.set_cons_succ, List.getElem_toArray, List.getElem_cons_succ, List.getElem_cons_zero]
      refine wpAnyH_take (i := 5) (v := .agg #[.string b0, .int .i64 b1]) rfl (by kernel_rfl) (by kernel_rfl) (by kernel_rfl) (fun _ _ _ h => h) (Or.inl ⟨by rfl, fun w hSw => by have f0 := blkCell (HQ.out w hSw).2.2.1 0 _ rfl; have f1 := blkCell (HQ.out w hSw).2.2.1 1 _ rfl; go_simp⟩) hH ?_
      try simp only [Act.put, List.setIfInBounds_toArray, List.set_cons_zero, List.set_cons_succ, List.getElem_toArray, List.getElem_cons_succ, List.getElem_cons_zero]
      refine wpAnyH_ready (rs := [6]) (by kernel_rfl) (by simp) ?_
      refine AllReadyH.cons rfl (fun K hK => ?_) AllReadyH.nil
      go_simp
      go_at_call 66
      refine (HCm.out _ (HQ.out _ hH).1).mono ?_
      rintro e w3 ⟨rfl, hb3⟩
      have h3 := chain hH hb3
      refine hK.out _ _ h3 (fun _ => ?_)
      clear hK K
      try simp only [Act.put, List.setIfInBounds_toArray, List.set_cons_zero, List.set_cons_succ, List.getElem_toArray, List.getElem_cons_succ, List.getElem_cons_zero]
      clear hb3 hH
      by_cases hc : a3 < b3
      · have hcv : cmpV a3 b3 = -1 := if_pos hc
        rw [if_pos hc] at HNx
        rw [hcv]
        refine wpAnyH_take (i := 7) (v := .bool true) rfl (by kernel_rfl) (by kernel_rfl) (by kernel_rfl) (fun _ _ _ h => h) (Or.inl ⟨by rfl, fun w hSw => by go_simp⟩) h3 ?_
        try simp only [Act.put, List.setIfInBounds_toArray, List.set_cons_zero, List.set_cons_succ, List.getElem_toArray, List.getElem_cons_succ, List.getElem_cons_zero]
        refine wpAnyH_done (by kernel_rfl) ?_ _
        have H3 : Hid (Below wr.heap.size wr w3) := h3
        have y0 := (HQ.out _ h3).2.2.2.1
        have y1 := (HQ.out _ h3).2.2.2.2
        have m0 := blkCell (HQ.out _ h3).2.2.1 0 _ rfl
        have m1 := blkCell (HQ.out _ h3).2.2.1 1 _ rfl
        have f0 := blkFree (HQ.out _ h3).2.2.1 0
        have f1 := blkFree (HQ.out _ h3).2.2.1 1
        have HE : Hid (Below w.heap.size w ((w3.setCell ⟨w.heap.size + 1, 0, none⟩ (.string a0)).setCell ⟨w.heap.size + 1, 1, none⟩ (.int .i64 a1)) ∧ ((w3.setCell ⟨w.heap.size + 1, 0, none⟩ (.string a0)).setCell ⟨w.heap.size + 1, 1, none⟩ (.int .i64 a1)).heap[w.heap.size]? = some (.cells #[.string ⟨#[]⟩, .int .i64 0] 82 (0, 0)) ∧ ((w3.setCell ⟨w.heap.size + 1, 0, none⟩ (.string a0)).setCell ⟨w.heap.size + 1, 1, none⟩ (.int .i64 a1)).heap[w.heap.size + 1]? = some (.cells #[.string a0, .int .i64 a1] 82 (0, 0))) := by
          obtain ⟨k0, k1, k2, _⟩ := HQ.out _ h3
          exact ⟨(k0.setCell (by show w.heap.size ≤ w.heap.size + 1; omega) _).setCell (by show w.heap.size ≤ w.heap.size + 1; omega) _, ((Below.heap_setCell _ _ _ _ (by show w.heap.size ≠ w.heap.size + 1; omega)).trans (Below.heap_setCell _ _ _ _ (by show w.heap.size ≠ w.heap.size + 1; omega))).trans k1, cut2 k2 _ _⟩
        clear h3 HQ HCm hcv hc HS
        go_wp2
        exact ⟨⟨k + 1, _, by omega, by omega, by go_num, HNx.out, HE.out⟩, by simp [intOf]; omega⟩
      · have hcv : (cmpV a3 b3 < 0) = False := by
          unfold cmpV; rw [if_neg hc]; split <;> simp
        rw [if_neg hc] at HNx
        generalize cmpV a3 b3 = cv at *
        have hcv2 : ¬ cv < 0 := by simpa using hcv
        clear hcv
        refine wpAnyH_take (i := 7) (v := .bool false) rfl (by kernel_rfl) (by kernel_rfl) (by kernel_rfl) (fun _ _ _ h => h) (Or.inl ⟨by rfl, fun w hSw => by go_simp⟩) h3 ?_
        try simp only [Act.put, List.setIfInBounds_toArray, List.set_cons_zero, List.set_cons_succ, List.getElem_toArray, List.getElem_cons_succ, List.getElem_cons_zero]
        refine wpAnyH_done (by kernel_rfl) ?_ _
        have HE : Hid (Below w.heap.size w w3 ∧ w3.heap[w.heap.size]? = some (.cells #[.string ⟨#[]⟩, .int .i64 0] 82 (0, 0)) ∧ w3.heap[w.heap.size + 1]? = some (.cells #[.string b0, .int .i64 b1] 82 (0, 0))) := by
          obtain ⟨k0, k1, k2, _⟩ := HQ.out _ h3
          exact ⟨k0, k1, k2⟩
        clear h3 HQ HCm hcv2 hc HS
        go_wp2
        exact ⟨⟨k + 1, _, by omega, by omega, by go_num, HNx.out, HE.out⟩, by simp [intOf]; omega⟩
    · obtain rfl : k = F.length := by omega
      rw [List.take_length, HM0.out] at HM
      have hmm : m0 = m := Option.some.inj HM.out
      subst hmm
      have y0 := blkCell HS.out.2.2 0 _ rfl
      have y1 := blkCell HS.out.2.2 1 _ rfl
      have x0 := blkCell HS.out.2.1 0 _ rfl
      have x1 := blkCell HS.out.2.1 1 _ rfl
      have f0 := blkFree HS.out.2.1 0
      have f1 := blkFree HS.out.2.1 1
      have HE : Hid (Below w.heap.size w ((wr.setCell ⟨w.heap.size, 0, none⟩ (.string m0.ar)).setCell ⟨w.heap.size, 1, none⟩ (.int .i64 m0.lt)) ∧ ((wr.setCell ⟨w.heap.size, 0, none⟩ (.string m0.ar)).setCell ⟨w.heap.size, 1, none⟩ (.int .i64 m0.lt)).heap[w.heap.size]? = some (.cells #[.string m0.ar, .int .i64 m0.lt] 82 (0, 0))) := ⟨(HS.out.1.setCell (Nat.le_refl _) _).setCell (Nat.le_refl _) _, cut2 HS.out.2.1 _ _⟩
      clear HM HM0 HS HC HK
      go_wp2
      obtain ⟨k1, k2⟩ := HE.out
      generalize (wr.setCell ⟨w.heap.size, 0, none⟩ (.string m0.ar)).setCell ⟨w.heap.size, 1, none⟩ (.int .i64 m0.lt) = W9 at *
      have p0 := blkCell k2 0 _ rfl
      have p1 := blkCell k2 1 _ rfl
      exact bodyPost_ret (v := .agg #[.string m0.ar, .int .i64 m0.lt]) (by simp [results, Try.results64, go_sem, p0, p1]) rfl ⟨rfl, k1⟩
end Go.Proofs.Ytlfcaijhlgldnaa
