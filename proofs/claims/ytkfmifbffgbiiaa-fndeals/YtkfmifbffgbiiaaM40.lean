/-
  Texts of this claim laid together: BeF.
-/
import Derived.Test.YtkfmifbffgbiiaaM39
/-
  Taking further, unit by unit.
-/
namespace Go.Proofs.Ytkfmifbffgbiiaa
open Go.ChangeShapes Go.WideShapes Go.ChangeAt Go.RowKit Go.Deep
set_option linter.unusedVariables false

theorem RI.take {W : World} {a : Option Addr} {xs : List Nat} (h : RI W a xs) (k : Nat) : RI W a (xs.take k) := by
  rcases h with h | ⟨b, off, cur, ha, hb, hc⟩
  · left; rw [h]; simp
  · refine .inr ⟨b, off, cur, ha, hb, fun i hi => ?_⟩
    rw [List.length_take] at hi
    have := hc i (by omega)
    rwa [show (xs.take k).getD i 0 = xs.getD i 0 by simp [List.getD_eq_getElem?_getD, (by omega : i < k)]]
theorem RI.drop {W : World} {b off : Nat} {xs : List Nat} (h : RI W (some ⟨b, off, none⟩) xs) (k o' : Nat) (ho : k < xs.length → o' = off + k) : RI W (some ⟨b, o', none⟩) (xs.drop k) := by
  rcases h with h | ⟨b2, o2, cur, ha, hb, hc⟩
  · left; rw [h]; simp
  · simp only [Option.some.injEq, Addr.mk.injEq] at ha
    obtain ⟨rfl, rfl, _⟩ := ha
    refine .inr ⟨b, o', cur, rfl, hb, fun i hi => ?_⟩
    rw [List.length_drop] at hi
    have := hc (k + i) (by omega)
    rw [ho (by omega), Nat.add_assoc, this]
    simp [List.getD_eq_getElem?_getD, List.getElem?_drop]
theorem RI.at {W : World} {a : Option Addr} {xs : List Nat} (h : RI W a xs) (i : Nat) (hi : i < xs.length) : ∃ b off, a = some ⟨b, off, none⟩ ∧ W.cell? ⟨b, off + i, none⟩ = some (.int .i64 ((xs.getD i 0 : Nat) : Int)) := by
  rcases h with h | ⟨b, off, cur, ha, hb, hc⟩
  · rw [h] at hi; simp at hi
  · exact ⟨b, off, ha, blkCell hb _ _ (hc i hi)⟩
theorem pq_facts (p q : List Nat) (j : Nat) (hj : j < q.length) : (p ++ q).getD (p.length + j) 0 = q.getD j 0 ∧ (p ++ q).take (p.length + j) = p ++ q.take j ∧ (p ++ q).drop (p.length + j + 1) = q.drop (j + 1) ∧ q.drop j = q.getD j 0 :: q.drop (j + 1) ∧ p ++ q.take j ++ [q.getD j 0] = p ++ q.take (j + 1) := by
  have e : q.getD j 0 = q[j] := by simp [List.getD_eq_getElem?_getD, hj]
  refine ⟨?_, ?_, ?_, ?_, ?_⟩
  · simp [List.getD_eq_getElem?_getD, List.getElem?_append_right]
  · rw [List.take_append, List.take_of_length_le (by omega)]
    congr 2
    omega
  · rw [List.drop_append, List.drop_of_length_le (by omega), List.nil_append]
    congr 1
    omega
  · rw [e]; exact List.drop_eq_getElem_cons hj
  · rw [e, List.append_assoc, ← List.take_succ_eq_append_getElem hj]
set_option maxHeartbeats 16000000 in
set_option maxRecDepth 8000 in
theorem take_succ (C : Cx) (hC : CxOK C) (κ : Kx) (hk : κ.k < C.ds.length) (left : List Nat) (kk : Nat) (hkk : κ.nd ≤ 8) (IH : TkP C κ left kk) : TkP C κ left (kk + 1) := by
  intro q t p b ta ra tc rc W hnd ht1 htl hpl hx hmem htc hrc hrt hrr hS hT
  have HC : Hid (CxOK C) := hC
  have HIH : Hid (TkP C κ left kk) := IH
  have HR : Hid (RI W ta t ∧ RI W ra (p ++ q)) := ⟨hrt, hrr⟩
  have HX : Hid (∀ x ∈ p ++ q, x < C.us.length) := hx
  have HM : Hid (∀ c ∈ tkR (fitU C.us (C.ds.getD κ.k zDl)) q (kk + 1) t p, c ∈ takes C.us (C.ds.getD κ.k zDl) left) := hmem
  have HS0 : Hid (StK C κ b W ∧ TkB C κ W) := ⟨hS, hT⟩
  have HTyp : Hid (Typ W (XB C κ.bb)) := hS.typ
  have x0 : W.cell? ⟨κ.ndb, 0, none⟩ = some (.int .i64 (κ.nd : Int)) := blkCell hT.ndx 0 _ rfl
  have heq : ((t.length : Int) == (κ.nd : Int)) = false := by rw [beq_eq_false_iff_ne]; omega
  have hpq : (p ++ q).length = p.length + q.length := List.length_append
  have HPq : Hid ((p ++ q).length = p.length + q.length) := hpq
  clear hC IH hrt hrr hx hmem hS hT
  obtain ⟨n, hn⟩ : ∃ n, n = (p ++ q).length := ⟨_, rfl⟩
  rw [← hn] at hpl hrc hpq HPq ⊢
  have HN : Hid (n = (p ++ q).length) := hn
  have Hk : Hid (κ.k < C.ds.length) := hk
  have hpn : p.length ≤ n := by omega
  clear hn hpq hk
  go_enter Try.func57, Try.ntmps57
  go_wp2_with fail
  clear x0
  go_loopw [10] (fun x wr => ∃ (i : Nat) (b' : Wy), p.length ≤ i ∧ i ≤ n ∧ x = .int .i64 (i : Int) ∧ StK C κ b' wr ∧ TkB C κ wr ∧ Fr (XB C κ.bb) W wr ∧ (∀ c ∈ tkR (fitU C.us (C.ds.getD κ.k zDl)) (q.drop (i - p.length)) (kk + 1) t (p ++ q.take (i - p.length)), c ∈ takes C.us (C.ds.getD κ.k zDl) left) ∧ (tkR (fitU C.us (C.ds.getD κ.k zDl)) q (kk + 1) t p).foldl (stK C κ) b = (tkR (fitU C.us (C.ds.getD κ.k zDl)) (q.drop (i - p.length)) (kk + 1) t (p ++ q.take (i - p.length))).foldl (stK C κ) b') (fun x _ => n - (intOf x).toNat)
  case atStart => exact ⟨p.length, b, Nat.le_refl _, by omega, rfl, HS0.out.1, HS0.out.2, Fr.refl _ _, by have := HM.out; simpa using this, by simp⟩
  case round =>
    clear HS0 HM
    obtain ⟨i, b', hpi, hi, rfl, hS, hT, hF, hm, hfold⟩ := hrel
    by_cases hlt : i < n
    · have hjq : i - p.length < q.length := by have := HPq.out; omega
      obtain ⟨e1, e2, e3, e4, e5⟩ := pq_facts p q (i - p.length) hjq
      rw [show p.length + (i - p.length) = i by omega] at e1 e2 e3
      rw [e4, tkR, e5] at hm hfold
      rw [show i - p.length + 1 = i + 1 - p.length by omega] at hm hfold e3
      have hxx : q.getD (i - p.length) 0 < C.us.length := HX.out _ (List.mem_append_right _ (by rw [show q.getD (i - p.length) 0 = q[i - p.length] by simp [List.getD_eq_getElem?_getD, hjq]]; exact List.getElem_mem _))
      have hRt : RI wr ta t := HR.out.1.fr HTyp.out hF
      have hRr : RI wr ra (p ++ q) := HR.out.2.fr HTyp.out hF
      obtain ⟨rb, ro, rfl, hcell⟩ := hRr.at i (by rw [← HN.out]; omega)
      rw [e1] at hcell
      generalize hxe : q.getD (i - p.length) 0 = x at *
      clear e1 e4 e5 hxe
      obtain ⟨qd, hqe⟩ : ∃ qd, qd = q.drop (i + 1 - p.length) := ⟨_, rfl⟩
      rw [← hqe] at hm hfold e3
      have HQd : Hid (q.drop (i + 1 - p.length) = qd) := hqe.symm
      clear hqe
      have HSt : Hid (StK C κ b' wr ∧ TkB C κ wr ∧ Fr (XB C κ.bb) W wr ∧ RI wr ta t ∧ RI wr (some ⟨rb, ro, none⟩) (p ++ q)) := ⟨hS, hT, hF, hRt, hRr⟩
      have HQ : Hid (∀ W', Below wr.heap.size wr W' → W'.cell? ⟨κ.ftb, 0, none⟩ = some (.func (.func 39) #[] #[.pointer (some ⟨κ.dlb, 0, none⟩), .pointer (some ⟨C.ub, 0, none⟩)]) ∧ W'.cell? ⟨rb, ro + i, none⟩ = some (.int .i64 (x : Int)) ∧ W'.cell? ⟨κ.tkb, 0, none⟩ = some (.func (.func 57) #[] #[.pointer (some ⟨κ.ndb, 0, none⟩), .pointer (some ⟨κ.hdb, 0, none⟩), .pointer (some ⟨κ.ftb, 0, none⟩), .pointer (some ⟨κ.tkb, 0, none⟩)])) := fun W' hW => ⟨blkCell (hT.later hW).ftx 0 _ rfl, (World.cell?_of_block (w := wr) (a := ⟨rb, ro + i, none⟩) (hW.block _ (cell_lt hcell))).trans hcell, blkCell (hT.later hW).tkx 0 _ rfl⟩
      have HFt : Hid (∀ W', Below wr.heap.size wr W' → Calls Try.prog 39 #[.int .i64 (x : Int), .pointer (some ⟨κ.dlb, 0, none⟩), .pointer (some ⟨C.ub, 0, none⟩)] W' fun e w' => e = .returned (.bool (fitU C.us (C.ds.getD κ.k zDl) x)) ∧ Below W'.heap.size W' w') := fun W' hW => fits_any C HC.out κ.k κ.dlb x Hk.out hxx W' (hS.later HC.out hW).env (hS.later HC.out hW).dlx
      have hlt' : (i : Int) < (n : Int) := by omega
      clear hS hT hF hRt hRr hcell
      have HMm : Hid (∀ c ∈ (if fitU C.us (C.ds.getD κ.k zDl) x = true then tkR (fitU C.us (C.ds.getD κ.k zDl)) qd kk (t ++ [x]) (p ++ q.take (i - p.length)) else []) ++ tkR (fitU C.us (C.ds.getD κ.k zDl)) qd (kk + 1) t (p ++ q.take (i + 1 - p.length)), c ∈ takes C.us (C.ds.getD κ.k zDl) left) := hm
      have HFo : Hid ((tkR (fitU C.us (C.ds.getD κ.k zDl)) q (kk + 1) t p).foldl (stK C κ) b = ((if fitU C.us (C.ds.getD κ.k zDl) x = true then tkR (fitU C.us (C.ds.getD κ.k zDl)) qd kk (t ++ [x]) (p ++ q.take (i - p.length)) else []) ++ tkR (fitU C.us (C.ds.getD κ.k zDl)) qd (kk + 1) t (p ++ q.take (i + 1 - p.length))).foldl (stK C κ) b') := hfold
      have HTk : Hid ((p ++ q).take i = p ++ q.take (i - p.length) ∧ (p ++ q).drop (i + 1) = qd) := ⟨e2, e3⟩
      clear hm hfold e2 e3
      go_wp2_with fail
      refine wp_region_held_drew (S := fun W' => Below wr.heap.size wr W') (by kernel_rfl) (below_drew _) (fun hH => ?_)
      refine wpAnyH_take (i := 0) (v := .func (.func 39) #[] #[.pointer (some ⟨κ.dlb, 0, none⟩), .pointer (some ⟨C.ub, 0, none⟩)]) rfl (by kernel_rfl) (by kernel_rfl) (by kernel_rfl) (fun _ _ _ h => h) (Or.inl ⟨by rfl, fun w hSw => by have f0 := (HQ.out w hSw).1; go_simp⟩) hH ?_
      refine wpAnyH_take (i := 1) (v := .slice (some ⟨rb, ro, none⟩) n rc) rfl (by kernel_rfl) (by kernel_rfl) (by kernel_rfl) (fun _ _ _ h => h) (Or.inl ⟨by rfl, fun w hSw => by go_simp⟩) hH ?_
      try simp only [Act.put, List.setIfInBounds_toArray, List.set_cons_zero, List.set_cons_succ, List.getElem_toArray, List.getElem_cons_succ, List.getElem_cons_zero]
      refine wpAnyH_take (i := 2) (v := .int .i64 (i : Int)) rfl (by kernel_rfl) (by kernel_rfl) (by kernel_rfl) (fun _ _ _ h => h) (Or.inl ⟨by rfl, fun w hSw => by go_simp⟩) hH ?_
      try simp only [Act.put, List.setIfInBounds_toArray, List.set_cons_zero, List.set_cons_succ, List.getElem_toArray, List.getElem_cons_succ, List.getElem_cons_zero]
      refine wpAnyH_take (i := 3) (v := .pointer (some ⟨rb, ro + i, none⟩)) rfl (by kernel_rfl) (by kernel_rfl) (by kernel_rfl) (fun _ _ _ h => h) (Or.inl ⟨by rfl, fun w hSw => by go_simp⟩) hH ?_
      try simp only [Act.put, List.setIfInBounds_toArray, List.set_cons_zero, List.set_cons_succ, List.getElem_toArray, List.getElem_cons_succ, List.getElem_cons_zero]
      refine wpAnyH_take (i := 4) (v := .int .i64 (x : Int)) rfl (by kernel_rfl) (by kernel_rfl) (by kernel_rfl) (fun _ _ _ h => h) (Or.inl ⟨by rfl, fun w hSw => by have f0 := (HQ.out w hSw).2.1; go_simp⟩) hH ?_
      try simp only [Act.put, List.setIfInBounds_toArray, List.set_cons_zero, List.set_cons_succ, List.getElem_toArray, List.getElem_cons_succ, List.getElem_cons_zero]
      refine wpAnyH_ready (rs := [5]) (by kernel_rfl) (by simp) ?_
      refine AllReadyH.cons rfl (fun K hK => ?_) AllReadyH.nil
      go_simp
      go_at_call 39
      refine (HFt.out _ hH).mono ?_
      rintro e w2 ⟨rfl, hb2⟩
      have hw2 : Below wr.heap.size wr w2 := chain hH hb2
      clear hb2
      refine hK.out _ _ hw2 (fun _ => ?_)
      clear hK K
      try simp only [Act.put, List.setIfInBounds_toArray, List.set_cons_zero, List.set_cons_succ, List.getElem_toArray, List.getElem_cons_succ, List.getElem_cons_zero]
      refine wpAnyH_done (by kernel_rfl) ?_ _
      have H2 : Hid (Below wr.heap.size wr w2) := hw2
      clear hw2 hH HFt
      by_cases hfit : fitU C.us (C.ds.getD κ.k zDl) x = true
      · rw [hfit]
        rw [if_pos hfit] at HMm HFo
        obtain ⟨tb, to, rfl, _⟩ := HSt.out.2.2.2.1.at 0 ht1
        obtain ⟨o8, ho8⟩ : ∃ o8 : Nat, o8 = if rc = i + 1 then ro else ro + (i + 1) := ⟨_, rfl⟩
        have hof : (if rc = i + 1 then (some (⟨rb, ro, none⟩ : Addr)) else some ⟨rb, ro + (i + 1), none⟩) = some ⟨rb, o8, none⟩ := by rw [ho8]; split <;> rfl
        have hqd : qd.length = n - (i + 1) := by rw [← HTk.out.2, List.length_drop, ← HN.out]
        have hpd : (p ++ q.take (i - p.length)).length = i := by rw [← HTk.out.1, List.length_take, ← HN.out]; omega
        have HRI : Hid (∀ W', Below w2.heap.size w2 W' → StK C κ b' W' ∧ TkB C κ W' ∧ Fr (XB C κ.bb) W W' ∧ RI W' (some ⟨tb, to, none⟩) t ∧ RI W' (some ⟨rb, ro, none⟩) (p ++ q.take (i - p.length)) ∧ RI W' (some ⟨rb, o8, none⟩) qd) := fun W' hW => by
          have h0 : Below wr.heap.size wr W' := chain H2.out hW
          have hr := HSt.out.2.2.2.2.later h0
          refine ⟨HSt.out.1.later HC.out h0, HSt.out.2.1.later h0, HSt.out.2.2.1.trans (Fr.of h0), HSt.out.2.2.2.1.later h0, ?_, ?_⟩
          · have := hr.take i
            rwa [HTk.out.1] at this
          · have := hr.drop (i + 1) o8 (fun hh => by rw [← HN.out] at hh; rw [ho8, if_neg (by omega)])
            rwa [HTk.out.2] at this
        have HQ2 : Hid (∀ W', Below w2.heap.size w2 W' → W'.cell? ⟨rb, ro + i, none⟩ = some (.int .i64 (x : Int)) ∧ W'.cell? ⟨κ.tkb, 0, none⟩ = some (.func (.func 57) #[] #[.pointer (some ⟨κ.ndb, 0, none⟩), .pointer (some ⟨κ.hdb, 0, none⟩), .pointer (some ⟨κ.ftb, 0, none⟩), .pointer (some ⟨κ.tkb, 0, none⟩)])) := fun W' hW => (HQ.out W' (chain H2.out hW)).2
        have HXq : Hid (∀ y ∈ (p ++ q.take (i - p.length)) ++ qd, y < C.us.length) := fun y hy => by
          rcases List.mem_append.1 hy with h | h
          · exact HX.out y (List.mem_of_mem_take (by rw [HTk.out.1]; exact h : y ∈ (p ++ q).take i))
          · exact HX.out y (List.mem_of_mem_drop (by rw [HTk.out.2]; exact h : y ∈ (p ++ q).drop (i + 1)))
        have HLl : Hid (qd.length = n - (i + 1) ∧ (p ++ q.take (i - p.length)).length = i) := ⟨hqd, hpd⟩
        have Hhk : Hid (t.length + (kk + 1) = κ.nd) := hnd
        clear ho8 hqd hpd HSt HQ H2 HTk HX HR HN HPq hfit hnd
        generalize p ++ q.take (i - p.length) = pd at *
        have hick : i ≤ rc := by omega
        have hi1' : i + 1 ≤ n := by omega
        have hwi : IntKind.i64.wrap ((i : Int) + 1) = (i : Int) + 1 := wrap_id _ (by omega) (by omega)
        have hi2' : (i : Int) + 1 ≤ (n : Int) := by omega
        have hi3' : (0 : Int) ≤ (i : Int) + 1 := by omega
        have hi4' : ¬ ((i : Int) + 1 < 0) := by omega
        go_wp2_with fail
        refine wp_region_z (S := fun W' => Below w2.heap.size w2 W') 23 (by kernel_rfl) (below_drew _) (fun hH => ?_)
        refine wpAnyZ_take (i := 0) (v := .func (.func 57) #[] #[.pointer (some ⟨κ.ndb, 0, none⟩), .pointer (some ⟨κ.hdb, 0, none⟩), .pointer (some ⟨κ.ftb, 0, none⟩), .pointer (some ⟨κ.tkb, 0, none⟩)]) rfl (by kernel_rfl) (by kernel_rfl) (by kernel_rfl) (by kernel_rfl) (fun _ _ _ h => h) (Or.inl ⟨by rfl, fun w hSw => by have f0 := (HQ2.out w hSw).2; go_simp⟩) hH ?_
        refine wpAnyZ_take (i := 1) (v := .slice (some ⟨tb, to, none⟩) t.length tc) rfl (by kernel_rfl) (by kernel_rfl) (by kernel_rfl) (by kernel_rfl) (fun _ _ _ h => h) (Or.inl ⟨by rfl, fun w hSw => by go_simp⟩) hH ?_
        try simp only [Act.put, List.setIfInBounds_toArray, List.set_cons_zero, List.set_cons_succ, List.getElem_toArray, List.getElem_cons_succ, List.getElem_cons_zero]
        refine wpAnyZ_take (i := 2) (v := .slice (some ⟨tb, to, none⟩) t.length tc) rfl (by kernel_rfl) (by kernel_rfl) (by kernel_rfl) (by kernel_rfl) (fun _ _ _ h => h) (Or.inl ⟨by rfl, fun w hSw => by go_simp⟩) hH ?_
        try simp only [Act.put, List.setIfInBounds_toArray, List.set_cons_zero, List.set_cons_succ, List.getElem_toArray, List.getElem_cons_succ, List.getElem_cons_zero]
        refine wpAnyZ_take (i := 3) (v := .int .i64 (t.length : Int)) rfl (by kernel_rfl) (by kernel_rfl) (by kernel_rfl) (by kernel_rfl) (fun _ _ _ h => h) (Or.inl ⟨by rfl, fun w hSw => by go_simp⟩) hH ?_
        try simp only [Act.put, List.setIfInBounds_toArray, List.set_cons_zero, List.set_cons_succ, List.getElem_toArray, List.getElem_cons_succ, List.getElem_cons_zero]
        refine wpAnyZ_take (i := 4) (v := .slice (some ⟨tb, to, none⟩) t.length tc) rfl (by kernel_rfl) (by kernel_rfl) (by kernel_rfl) (by kernel_rfl) (fun _ _ _ h => h) (Or.inl ⟨by rfl, fun w hSw => by go_simp⟩) hH ?_
        try simp only [Act.put, List.setIfInBounds_toArray, List.set_cons_zero, List.set_cons_succ, List.getElem_toArray, List.getElem_cons_succ, List.getElem_cons_zero]
        refine wpAnyZ_take (i := 5) (v := .int .i64 (t.length : Int)) rfl (by kernel_rfl) (by kernel_rfl) (by kernel_rfl) (by kernel_rfl) (fun _ _ _ h => h) (Or.inl ⟨by rfl, fun w hSw => by go_simp⟩) hH ?_
        try simp only [Act.put, List.setIfInBounds_toArray, List.set_cons_zero, List.set_cons_succ, List.getElem_toArray, List.getElem_cons_succ, List.getElem_cons_zero]
        refine wpAnyZ_take (i := 6) (v := .slice (some ⟨tb, to, none⟩) t.length t.length) rfl (by kernel_rfl) (by kernel_rfl) (by kernel_rfl) (by kernel_rfl) (fun _ _ _ h => h) (Or.inl ⟨by rfl, fun w hSw => by go_simp⟩) hH ?_
        try simp only [Act.put, List.setIfInBounds_toArray, List.set_cons_zero, List.set_cons_succ, List.getElem_toArray, List.getElem_cons_succ, List.getElem_cons_zero]
        refine wpAnyZ_take (i := 7) (v := .slice (some ⟨rb, ro, none⟩) n rc) rfl (by kernel_rfl) (by kernel_rfl) (by kernel_rfl) (by kernel_rfl) (fun _ _ _ h => h) (Or.inl ⟨by rfl, fun w hSw => by go_simp⟩) hH ?_
        try simp only [Act.put, List.setIfInBounds_toArray, List.set_cons_zero, List.set_cons_succ, List.getElem_toArray, List.getElem_cons_succ, List.getElem_cons_zero]
        refine wpAnyZ_take (i := 8) (v := .int .i64 (i : Int)) rfl (by kernel_rfl) (by kernel_rfl) (by kernel_rfl) (by kernel_rfl) (fun _ _ _ h => h) (Or.inl ⟨by rfl, fun w hSw => by go_simp⟩) hH ?_
        try simp only [Act.put, List.setIfInBounds_toArray, List.set_cons_zero, List.set_cons_succ, List.getElem_toArray, List.getElem_cons_succ, List.getElem_cons_zero]
        refine wpAnyZ_take (i := 9) (v := .pointer (some ⟨rb, ro + i, none⟩)) rfl (by kernel_rfl) (by kernel_rfl) (by kernel_rfl) (by kernel_rfl) (fun _ _ _ h => h) (Or.inl ⟨by rfl, fun w hSw => by go_simp⟩) hH ?_
        try simp only [Act.put, List.setIfInBounds_toArray, List.set_cons_zero, List.set_cons_succ, List.getElem_toArray, List.getElem_cons_succ, List.getElem_cons_zero]
        refine wpAnyZ_take (i := 10) (v := .int .i64 (x : Int)) rfl (by kernel_rfl) (by kernel_rfl) (by kernel_rfl) (by kernel_rfl) (fun _ _ _ h => h) (Or.inl ⟨by rfl, fun w hSw => by have f0 := (HQ2.out w hSw).1; go_simp⟩) hH ?_
        try simp only [Act.put, List.setIfInBounds_toArray, List.set_cons_zero, List.set_cons_succ, List.getElem_toArray, List.getElem_cons_succ, List.getElem_cons_zero]
        refine wpAnyZ_take (i := 13) (v := .slice (some ⟨rb, ro, none⟩) n rc) rfl (by kernel_rfl) (by kernel_rfl) (by kernel_rfl) (by kernel_rfl) (fun _ _ _ h => h) (Or.inl ⟨by rfl, fun w hSw => by go_simp⟩) hH ?_
        try simp only [Act.put, List.setIfInBounds_toArray, List.set_cons_zero, List.set_cons_succ, List.getElem_toArray, List.getElem_cons_succ, List.getElem_cons_zero]
        refine wpAnyZ_take (i := 14) (v := .int .i64 (i : Int)) rfl (by kernel_rfl) (by kernel_rfl) (by kernel_rfl) (by kernel_rfl) (fun _ _ _ h => h) (Or.inl ⟨by rfl, fun w hSw => by go_simp⟩) hH ?_
        try simp only [Act.put, List.setIfInBounds_toArray, List.set_cons_zero, List.set_cons_succ, List.getElem_toArray, List.getElem_cons_succ, List.getElem_cons_zero]
        refine wpAnyZ_take (i := 15) (v := .int .i64 (i : Int)) rfl (by kernel_rfl) (by kernel_rfl) (by kernel_rfl) (by kernel_rfl) (fun _ _ _ h => h) (Or.inl ⟨by rfl, fun w hSw => by go_simp⟩) hH ?_
        try simp only [Act.put, List.setIfInBounds_toArray, List.set_cons_zero, List.set_cons_succ, List.getElem_toArray, List.getElem_cons_succ, List.getElem_cons_zero]
        refine wpAnyZ_take (i := 16) (v := .slice (some ⟨rb, ro, none⟩) i i) rfl (by kernel_rfl) (by kernel_rfl) (by kernel_rfl) (by kernel_rfl) (fun _ _ _ h => h) (Or.inl ⟨by rfl, fun w hSw => by go_simp⟩) hH ?_
        try simp only [Act.put, List.setIfInBounds_toArray, List.set_cons_zero, List.set_cons_succ, List.getElem_toArray, List.getElem_cons_succ, List.getElem_cons_zero]
        refine wpAnyZ_take (i := 17) (v := .slice (some ⟨rb, ro, none⟩) n rc) rfl (by kernel_rfl) (by kernel_rfl) (by kernel_rfl) (by kernel_rfl) (fun _ _ _ h => h) (Or.inl ⟨by rfl, fun w hSw => by go_simp⟩) hH ?_
        try simp only [Act.put, List.setIfInBounds_toArray, List.set_cons_zero, List.set_cons_succ, List.getElem_toArray, List.getElem_cons_succ, List.getElem_cons_zero]
        refine wpAnyZ_take (i := 18) (v := .int .i64 (i : Int)) rfl (by kernel_rfl) (by kernel_rfl) (by kernel_rfl) (by kernel_rfl) (fun _ _ _ h => h) (Or.inl ⟨by rfl, fun w hSw => by go_simp⟩) hH ?_
        try simp only [Act.put, List.setIfInBounds_toArray, List.set_cons_zero, List.set_cons_succ, List.getElem_toArray, List.getElem_cons_succ, List.getElem_cons_zero]
        refine wpAnyZ_take (i := 19) (v := .int .i64 ((i : Int) + 1)) rfl (by kernel_rfl) (by kernel_rfl) (by kernel_rfl) (by kernel_rfl) (fun _ _ _ h => h) (Or.inl ⟨by rfl, fun w hSw => by go_simp⟩) hH ?_
        try simp only [Act.put, List.setIfInBounds_toArray, List.set_cons_zero, List.set_cons_succ, List.getElem_toArray, List.getElem_cons_succ, List.getElem_cons_zero]
        refine wpAnyZ_take (i := 20) (v := .slice (some ⟨rb, o8, none⟩) (n - (i + 1)) (rc - (i + 1))) rfl (by kernel_rfl) (by kernel_rfl) (by kernel_rfl) (by kernel_rfl) (fun _ _ _ h => h) (Or.inl ⟨by rfl, fun w hSw => by go_simp⟩) hH ?_
        try simp only [Act.put, List.setIfInBounds_toArray, List.set_cons_zero, List.set_cons_succ, List.getElem_toArray, List.getElem_cons_succ, List.getElem_cons_zero]
        refine wpAnyZ_take (i := 22) (v := .int .i64 (i : Int)) rfl (by kernel_rfl) (by kernel_rfl) (by kernel_rfl) (by kernel_rfl) (fun _ _ _ h => h) (Or.inl ⟨by rfl, fun w hSw => by go_simp⟩) hH ?_
        try simp only [Act.put, List.setIfInBounds_toArray, List.set_cons_zero, List.set_cons_succ, List.getElem_toArray, List.getElem_cons_succ, List.getElem_cons_zero]
        refine wpAnyZ_ready (rs := [11]) (by kernel_rfl) (by simp) ?_
        refine AllReadyZ.cons rfl (fun K hK => ?_) AllReadyZ.nil
        go_simp
        have h3 : Below w2.heap.size w2 (w2.alloc (Obj.cells #[.int .i64 (x : Int)] 3)).drew := chain (below_alloc _ _) (below_drew _)
        have HBx : Hid (RI (w2.alloc (Obj.cells #[.int .i64 (x : Int)] 3)).drew (some ⟨w2.heap.size, 0, none⟩) [x]) := .inr ⟨w2.heap.size, 0, #[.int .i64 (x : Int)], rfl, heapNew w2 _, fun j hj => by have e : j = 0 := (by simpa using hj); subst e; rfl⟩
        refine hK.out _ _ (Or.inr h3) (fun _ => ?_)
        clear hK K
        try simp only [Act.put, List.setIfInBounds_toArray, List.set_cons_zero, List.set_cons_succ, List.getElem_toArray, List.getElem_cons_succ, List.getElem_cons_zero]
        generalize (w2.alloc (Obj.cells #[.int .i64 (x : Int)] 3)).drew = W3 at *
        refine wpAnyZ_ready (rs := [12]) (by kernel_rfl) (by simp) ?_
        refine AllReadyZ.cons rfl (fun K hK => ?_) AllReadyZ.nil
        refine step_ri rfl (.tmp 38) (.tmp 43) rfl (some ⟨tb, to, none⟩) (some ⟨w2.heap.size, 0, none⟩) t [x] 1 (by omega) (by simp) (by simp [Act.eval]) (by simp [Act.eval]) (HRI.out _ h3).2.2.2.1 HBx.out (fun va vc w4 hr4 hc4 hb4 => ?_)
        have h4 : Below w2.heap.size w2 w4 := chain h3 hb4
        have H4 : Hid (RI w4 va (t ++ [x]) ∧ (t ++ [x]).length ≤ vc) := ⟨hr4, hc4⟩
        clear hr4 hc4 hb4 HBx h3
        obtain ⟨m1, hm1⟩ : ∃ m1, m1 = (t ++ [x]).length := ⟨_, rfl⟩
        rw [← hm1]
        have HM1 : Hid (m1 = (t ++ [x]).length) := hm1
        clear hm1
        refine hK.out _ _ (Or.inr h4) (fun _ => ?_)
        clear hK K
        try simp only [Act.put, List.setIfInBounds_toArray, List.set_cons_zero, List.set_cons_succ, List.getElem_toArray, List.getElem_cons_succ, List.getElem_cons_zero]
        refine wpAnyZ_ready (rs := [21]) (by kernel_rfl) (by simp) ?_
        refine AllReadyZ.cons rfl (fun K hK => ?_) AllReadyZ.nil
        refine step_ri rfl (.tmp 48) (.tmp 52) rfl (some ⟨rb, ro, none⟩) (some ⟨rb, o8, none⟩) pd qd (rc - (i + 1)) (by rw [HLl.out.2]; omega) (by rw [HLl.out.1]; omega) (by rw [HLl.out.2]; simp [Act.eval]) (by rw [HLl.out.1]; simp [Act.eval]) (HRI.out _ h4).2.2.2.2.1 (HRI.out _ h4).2.2.2.2.2 (fun ua uc w5 hr5 hc5 hb5 => ?_)
        have h5 : Below w2.heap.size w2 w5 := chain h4 hb5
        have H5 : Hid (RI w5 va (t ++ [x]) ∧ RI w5 ua (pd ++ qd) ∧ (pd ++ qd).length ≤ uc) := ⟨H4.out.1.later hb5, hr5, hc5⟩
        have HVc : Hid ((t ++ [x]).length ≤ vc) := H4.out.2
        clear hr5 hc5 hb5 h4 H4
        obtain ⟨m2, hm2⟩ : ∃ m2, m2 = (pd ++ qd).length := ⟨_, rfl⟩
        rw [← hm2]
        have HM2 : Hid (m2 = (pd ++ qd).length) := hm2
        clear hm2
        have HCl : Hid (Calls Try.prog 57 #[.slice va m1 vc, .slice ua m2 uc, .int .i64 (i : Int), .pointer (some ⟨κ.ndb, 0, none⟩), .pointer (some ⟨κ.hdb, 0, none⟩), .pointer (some ⟨κ.ftb, 0, none⟩), .pointer (some ⟨κ.tkb, 0, none⟩)] w5 fun e w' => e = .returned (.tuple #[]) ∧ StK C κ ((tkR (fitU C.us (C.ds.getD κ.k zDl)) qd kk (t ++ [x]) pd).foldl (stK C κ) b') w' ∧ Fr (XB C κ.bb) w5 w') := by
          have := HIH.out qd (t ++ [x]) pd b' va ua vc uc w5 (by have := Hhk.out; simp; omega) (by simp) (by have := Hhk.out; simp; omega) (by have := HLl.out; simp; omega) HXq.out (fun c hc => HMm.out c (List.mem_append_left _ hc)) HVc.out H5.out.2.2 H5.out.1 H5.out.2.1 (HRI.out _ h5).1 (HRI.out _ h5).2.1
          rw [HM1.out, HM2.out]
          rwa [HLl.out.2] at this
        refine hK.out _ _ (Or.inr h5) (fun _ => ?_)
        clear hK K
        try simp only [Act.put, List.setIfInBounds_toArray, List.set_cons_zero, List.set_cons_succ, List.getElem_toArray, List.getElem_cons_succ, List.getElem_cons_zero]
        refine wpAnyZ_ready (rs := [23]) (by kernel_rfl) (by simp) ?_
        refine AllReadyZ.cons rfl (fun K hK => ?_) AllReadyZ.nil
        go_simp
        go_at_call 57
        refine HCl.out.mono ?_
        rintro e w6 ⟨rfl, hS6, hF6⟩
        have HSe : Hid (StK C κ ((tkR (fitU C.us (C.ds.getD κ.k zDl)) qd kk (t ++ [x]) pd).foldl (stK C κ) b') w6 ∧ TkB C κ w6 ∧ Fr (XB C κ.bb) W w6) := ⟨hS6, (HRI.out _ h5).2.1.fr (HRI.out _ h5).1.typ hF6, (HRI.out _ h5).2.2.1.trans hF6⟩
        clear hS6 hF6 HCl
        refine hK.out _ _ (Or.inl rfl) (fun _ => ?_)
        clear hK K
        try simp only [Act.put, List.setIfInBounds_toArray, List.set_cons_zero, List.set_cons_succ, List.getElem_toArray, List.getElem_cons_succ, List.getElem_cons_zero]
        refine wpAnyZ_done (by kernel_rfl) ?_ _
        clear hH h5 HQ2 HRI HIH
        go_wp2
        exact ⟨⟨i + 1, (tkR (fitU C.us (C.ds.getD κ.k zDl)) qd kk (t ++ [x]) pd).foldl (stK C κ) b', by omega, by omega, by go_num, HSe.out.1, HSe.out.2.1, HSe.out.2.2, by rw [HQd.out]; exact fun c hc => HMm.out c (List.mem_append_right _ hc), by rw [HQd.out, HFo.out, List.foldl_append]⟩, by simp [intOf]; omega⟩
      · rw [if_neg hfit, List.nil_append] at HMm HFo
        have hfit' : fitU C.us (C.ds.getD κ.k zDl) x = false := by simpa using hfit
        rw [hfit']
        have HSe : Hid (StK C κ b' w2 ∧ TkB C κ w2 ∧ Fr (XB C κ.bb) W w2) := ⟨HSt.out.1.later HC.out H2.out, HSt.out.2.1.later H2.out, HSt.out.2.2.1.trans (Fr.of H2.out)⟩
        clear HSt HQ hfit hfit' HIH HTyp HR HX
        have hwi : IntKind.i64.wrap ((i : Int) + 1) = ((i + 1 : Nat) : Int) := by rw [wrap_id _ (by omega) (by omega)]; omega
        go_wp2
        exact ⟨⟨i + 1, b', by omega, by omega, by go_num, HSe.out.1, HSe.out.2.1, HSe.out.2.2, by rw [HQd.out]; exact HMm.out, by rw [HQd.out]; exact HFo.out⟩, by simp [intOf]; omega⟩
    · obtain rfl : i = n := by omega
      have hde : q.drop (i - p.length) = [] := List.drop_of_length_le (by have := HPq.out; omega)
      rw [hde, tkR, List.foldl_nil] at hfold
      have HEn : Hid (StK C κ ((tkR (fitU C.us (C.ds.getD κ.k zDl)) q (kk + 1) t p).foldl (stK C κ) b) wr ∧ Fr (XB C κ.bb) W wr) := by rw [hfold]; exact ⟨hS, hF⟩
      clear hS hT hF hm hfold hde
      have hnn : ¬ ((i : Int) < (i : Int)) := by omega
      go_wp2
      go_end0
      exact ⟨rfl, HEn.out.1, HEn.out.2⟩
end Go.Proofs.Ytkfmifbffgbiiaa
