/-
  The contract of the program's markSearch.choose; the whole search by the days that are left.
-/
import Derived.Test.YtlcnhkhkhlpghaaMrC
namespace Go.Proofs.Ytlcnhkhkhlpghaa
open Go.ChangeShapes Go.WideShapes Go.ChangeAt Go.RowKit Go.Deep
set_option linter.unusedVariables false

theorem fr_drop {X : Nat → Prop} {E : Nat} {W W1 w' : World} (h : Fr X W W1) (k : Fr (fun q => X q ∨ q = E) W1 w') (hE : W.heap.size ≤ E) : Fr X W w' :=
  ⟨k.os.trans h.os, k.tape.trans h.tape, k.output.trans h.output, Nat.le_trans h.size k.size, fun i hi hx => (k.block i (Nat.lt_of_lt_of_le hi h.size) (fun q => by rcases q with q | q; exact hx q; omega)).trans (h.block i hi hx)⟩
set_option maxHeartbeats 4000000 in
theorem choose_zero (C : Mx) (hN : C.N ≤ 5) (hm7 : C.cs.length ≤ 7) : ChP C 0 := fun d s l n W hd hs hl hl' hE hn => by
  have HE : Hid (Env C n W) := hE
  have hkb := hE.mm.lt
  obtain rfl : d = C.cs.length := by omega
  clear hE hd
  show Calls _ _ _ _ fun e w' => e = .returned (.agg #[.int .i64 0, .int .i64 0]) ∧ _
  unfold Mx.sv
  generalize C.cs.length = m at *
  obtain ⟨W0, hW0⟩ : ∃ W0, W0 = ((W.alloc (Obj.cells #[.slice (some ⟨C.pb, 0, none⟩) C.N C.pc, .slice C.da m C.dc, .map (some C.kb)] 83)).alloc (Obj.cells #[.int .i64 (m : Int), .int .i64 (s : Int), .int .i64 l] 79)).alloc (Obj.cells #[.int .i64 0, .int .i64 0] 81) := ⟨_, rfl⟩
  obtain ⟨D, hD⟩ : ∃ D, D = W.heap.size := ⟨_, rfl⟩
  have HW0 : Hid (W0 = ((W.alloc (Obj.cells #[.slice (some ⟨C.pb, 0, none⟩) C.N C.pc, .slice C.da m C.dc, .map (some C.kb)] 83)).alloc (Obj.cells #[.int .i64 (m : Int), .int .i64 (s : Int), .int .i64 l] 79)).alloc (Obj.cells #[.int .i64 0, .int .i64 0] 81) ∧ D = W.heap.size) := ⟨hW0, hD⟩
  have HB0 : Hid (Below W.heap.size W W0) := by show Below _ _ _; rw [hW0]; exact chain (chain (below_alloc _ _) (below_alloc _ _)) (below_alloc _ _)
  have f := three_alloc W (Obj.cells #[.slice (some ⟨C.pb, 0, none⟩) C.N C.pc, .slice C.da m C.dc, .map (some C.kb)] 83) (Obj.cells #[.int .i64 (m : Int), .int .i64 (s : Int), .int .i64 l] 79) (Obj.cells #[.int .i64 0, .int .i64 0] 81)
  rw [← hW0, ← hD] at f
  obtain ⟨f1, f2, f3⟩ := f
  have x1 := blkCell f1 1 _ rfl
  have k0 := blkCell f2 0 _ rfl
  have z0 := blkCell f3 0 _ rfl
  have z1 := blkCell f3 1 _ rfl
  have y0 := blkFree f3 0
  have y1 := blkFree f3 1
  simp only [List.getElem_toArray, List.getElem_cons_zero, List.getElem_cons_succ] at x1 k0 z0 z1
  have hDw : W.heap.size ≤ D := by rw [hD]; exact Nat.le_refl _
  have hkD : C.kb < D := by rw [hD]; exact hkb
  clear hW0 hD f1 f2 f3
  go_enter Try.func62, Try.ntmps62
  go_upto_region 1 with fail
  rw [← HW0.out.1, ← HW0.out.2]
  clear HW0
  go_wp2_with fail
  refine bodyPost_ret (v := .agg #[.int .i64 0, .int .i64 0]) (by simp [results, Try.results62, go_sem, z0, z1]) rfl ⟨rfl, n, by show n + 1 ≤ n + 1; omega, ?_, ?_⟩
  · exact ((HE.out.later HB0.out).but (by omega) _ _).but (by omega) _ _
  · exact (((Fr.of HB0.out).setNew (by omega) _ _).setNew (by omega) _ _)
set_option maxHeartbeats 8000000 in
theorem choose_succ (C : Mx) (k : Nat) (hok : MrOK C.prs C.cs C.N) (hC : CcP C k) : ChP C (k + 1) := fun d s l n W hd hs hl hl' hE hn => by
  have hN5 := hok.n1.2
  have hc7 := hok.cl.2
  have HC : Hid (∀ (t : Nat) n W, t < C.N → Env C n W → n + cB k ≤ 9000000 → Calls Try.prog 65 #[C.sv, .agg #[.int .i64 (d : Int), .int .i64 (s : Int), .int .i64 l], .int .i64 (t : Int)] W fun e w' => e = .returned (.agg #[.int .i64 (t : Int), .int .i64 (wo C.prs C.cs C.N k t l)]) ∧ ∃ n', n' ≤ n + cB k ∧ Env C n' w' ∧ Fr (fun q => q = C.kb) W w') := fun t n W h1 h2 h3 => hC d t (s : Int) l n W hd h1 hl hl' h2 h3
  have HWb : Hid (∀ t, t < C.N → 0 ≤ wo C.prs C.cs C.N k t l ∧ wo C.prs C.cs C.N k t l ≤ 1400000000) := fun t ht => by have := wo_bounds hok (k := k) (by omega) ht hl hl'; omega
  have HE : Hid (Env C n W) := hE
  have hkb := hE.mm.lt
  have hdm : ¬ (d : Int) = (C.cs.length : Int) := by omega
  have hcB : cB (k + 1) = 5 * cB k + 1 := rfl
  have hcP := cB_pos k
  rw [hcB] at hn ⊢
  clear hE hC hok hcB
  rw [chz_next]
  generalize hg : (fun t => wo C.prs C.cs C.N k t l) = g at *
  have HG : Hid (∀ t, wo C.prs C.cs C.N k t l = g t) := fun t => by rw [← hg]
  have HC2 : Hid (∀ (t : Nat) n W, t < C.N → Env C n W → n + cB k ≤ 9000000 → Calls Try.prog 65 #[C.sv, .agg #[.int .i64 (d : Int), .int .i64 (s : Int), .int .i64 l], .int .i64 (t : Int)] W fun e w' => e = .returned (.agg #[.int .i64 (t : Int), .int .i64 (g t)]) ∧ ∃ n', n' ≤ n + cB k ∧ Env C n' w' ∧ Fr (fun q => q = C.kb) W w') := fun t n W h1 h2 h3 => by rw [← HG.out t]; exact HC.out t n W h1 h2 h3
  clear hg HG HC HWb
  unfold chV
  unfold Mx.sv at HC2 ⊢
  generalize hck : cB k = ck at *
  generalize hmm : C.cs.length = m at *
  clear hck hmm
  obtain ⟨W0, hW0⟩ : ∃ W0, W0 = ((W.alloc (Obj.cells #[.slice (some ⟨C.pb, 0, none⟩) C.N C.pc, .slice C.da m C.dc, .map (some C.kb)] 83)).alloc (Obj.cells #[.int .i64 (d : Int), .int .i64 (s : Int), .int .i64 l] 79)).alloc (Obj.cells #[.int .i64 0, .int .i64 0] 81) := ⟨_, rfl⟩
  obtain ⟨D, hD⟩ : ∃ D, D = W.heap.size := ⟨_, rfl⟩
  have HW0 : Hid (W0 = ((W.alloc (Obj.cells #[.slice (some ⟨C.pb, 0, none⟩) C.N C.pc, .slice C.da m C.dc, .map (some C.kb)] 83)).alloc (Obj.cells #[.int .i64 (d : Int), .int .i64 (s : Int), .int .i64 l] 79)).alloc (Obj.cells #[.int .i64 0, .int .i64 0] 81) ∧ D = W.heap.size) := ⟨hW0, hD⟩
  have HB0 : Hid (Below W.heap.size W W0) := by show Below _ _ _; rw [hW0]; exact chain (chain (below_alloc _ _) (below_alloc _ _)) (below_alloc _ _)
  have hz0 : W0.heap.size = D + 3 := by rw [hW0, hD]; simp
  have HQ : Hid (∀ E X, D + 3 ≤ E → Fr (fun q => q = C.kb ∨ q = E) W0 X → (X.cell? ⟨D, 0, none⟩ = some (.slice (some ⟨C.pb, 0, none⟩) C.N C.pc) ∧ X.cell? ⟨D, 1, none⟩ = some (.slice C.da m C.dc) ∧ X.cell? ⟨D, 2, none⟩ = some (.map (some C.kb))) ∧ (X.cell? ⟨D + 1, 0, none⟩ = some (.int .i64 (d : Int)) ∧ X.cell? ⟨D + 1, 1, none⟩ = some (.int .i64 (s : Int)) ∧ X.cell? ⟨D + 1, 2, none⟩ = some (.int .i64 l)) ∧ X.heap[D + 1 + 1]? = some (.cells #[.int .i64 0, .int .i64 0] 81 (0, 0))) := fun E X hEe hf => by
    obtain ⟨f1, f2, f3⟩ := three_alloc W (Obj.cells #[.slice (some ⟨C.pb, 0, none⟩) C.N C.pc, .slice C.da m C.dc, .map (some C.kb)] 83) (Obj.cells #[.int .i64 (d : Int), .int .i64 (s : Int), .int .i64 l] 79) (Obj.cells #[.int .i64 0, .int .i64 0] 81)
    rw [← hW0, ← hD] at f1 f2 f3
    have g1 := (hf.block _ (blkLt f1) (by omega)).trans f1
    have g2 := (hf.block _ (blkLt f2) (by omega)).trans f2
    exact ⟨⟨blkCell g1 0 _ rfl, blkCell g1 1 _ rfl, blkCell g1 2 _ rfl⟩, ⟨blkCell g2 0 _ rfl, blkCell g2 1 _ rfl, blkCell g2 2 _ rfl⟩, (hf.block _ (blkLt f3) (by omega)).trans f3⟩
  have HE0 : Hid (Env C n W0) := HE.out.later HB0.out
  have hDw : W.heap.size ≤ D := by rw [hD]; exact Nat.le_refl _
  have hkD : C.kb < D := by rw [hD]; exact hkb
  clear hW0 hD HE
  go_enter Try.func62, Try.ntmps62
  go_upto_region 1 with fail
  rw [← HW0.out.1, ← HW0.out.2]
  clear HW0
  obtain ⟨⟨x0, x1, x2⟩, ⟨k0, k1, k2⟩, _⟩ := HQ.out (D + 3) W0 (by omega) (Fr.refl _ _)
  go_wp2_with fail
  (first | go_at_call 65 | skip)
  refine (HC2.out s n W0 hs HE0.out (by omega)).mono ?_
  rintro e w1 ⟨rfl, n1, hn1, hE1, hf1⟩
  clear x0 x1 x2 k0 k1 k2
  obtain ⟨W2, hW2⟩ : ∃ W2, W2 = w1.alloc (Obj.cells #[.int .i64 (s : Int), .int .i64 (g s)] 81) := ⟨_, rfl⟩
  obtain ⟨E, hEe⟩ : ∃ E, E = w1.heap.size := ⟨_, rfl⟩
  have HW2 : Hid (W2 = w1.alloc (Obj.cells #[.int .i64 (s : Int), .int .i64 (g s)] 81) ∧ E = w1.heap.size) := ⟨hW2, hEe⟩
  have hb2 : Below w1.heap.size w1 W2 := by rw [hW2]; exact below_alloc _ _
  have HE2 : Hid (Env C n1 W2) := hE1.later hb2
  have HF2 : Hid (Fr (fun q => q = C.kb) W0 W2) := hf1.trans (Fr.of hb2)
  have HX2 : Hid (W2.heap[E]? = some (.cells #[.int .i64 (s : Int), .int .i64 (g s)] 81 (0, 0))) := by show _ = _; rw [hW2, hEe]; exact heapNew _ _
  have hED : D + 3 ≤ E := by rw [hEe, ← hz0]; exact hf1.size
  clear hW2 hEe hb2 hE1 hf1 HE0
  go_upto_region 4 with fail
  rw [← HW2.out.1, ← HW2.out.2]
  clear HW2
  obtain ⟨_, ⟨_, k1, _⟩, _⟩ := HQ.out E W2 hED (HF2.out.mono (fun q h => .inl h))
  have hw1 : IntKind.i64.wrap ((s : Int) + 1) = ((s + 1 : Nat) : Int) := by rw [wrap_id _ (by omega) (by omega)]; omega
  go_upto_region 5 with fail
  clear k1
  go_loopw [6, 7] (fun c _ wr => ∃ (j t nj : Nat), t = s + 1 + j ∧ t ≤ C.N ∧ c = .int .i64 (t : Int) ∧ nj ≤ n + (j + 1) * ck ∧ wr.heap[E]? = some (.cells #[.int .i64 ((pick g s j).1 : Int), .int .i64 (pick g s j).2] 81 (0, 0)) ∧ Env C nj wr ∧ Fr (fun q => q = C.kb ∨ q = E) W2 wr) (fun c _ _ => C.N - (intOf c).toNat)
  case atStart => exact ⟨0, s + 1, n1, rfl, by omega, by go_num, by omega, HX2.out, HE2.out, Fr.refl _ _⟩
  case round =>
    clear HX2 HE2
    obtain ⟨j, t, nj, hjt, htN, rfl, hnj, hx, hEn, hfr⟩ := hrel
    have HX : Hid (wr.heap[E]? = some (.cells #[.int .i64 ((pick g s j).1 : Int), .int .i64 (pick g s j).2] 81 (0, 0))) := hx
    have HEn : Hid (Env C nj wr) := hEn
    have HFr : Hid (Fr (fun q => q = C.kb ∨ q = E) W2 wr) := hfr
    have HJt : Hid (t = s + 1 + j) := hjt
    have HNj : Hid (nj ≤ n + (j + 1) * ck) := hnj
    clear hx hEn hfr hjt hnj
    obtain ⟨⟨x0, x1, x2⟩, ⟨k0, k1, k2⟩, hres⟩ := HQ.out E wr hED ((HF2.out.mono (fun q h => .inl h)).trans HFr.out)
    have HRes : Hid (wr.heap[D + 1 + 1]? = some (.cells #[.int .i64 0, .int .i64 0] 81 (0, 0))) := hres
    clear hres
    by_cases hlt : t < C.N
    · have hlt' : (t : Int) < (C.N : Int) := by omega
      have hj5 : j ≤ 3 := by have := HJt.out; omega
      have hnk : nj + ck ≤ 9000000 := by
        have h1 := HNj.out
        have h2 : (j + 1) * ck ≤ 4 * ck := Nat.mul_le_mul_right _ (by omega)
        omega
      have HPk : Hid (pick g s (j + 1) = if (pick g s j).2 < g t then (t, g t) else pick g s j) := by show _ = _; rw [pick_next, ← HJt.out]
      go_wp2_with fail
      (first | go_at_call 65 | skip)
      refine (HC2.out t nj wr hlt HEn.out hnk).mono ?_
      rintro e w3 ⟨rfl, n3, hn3, hE3, hf3⟩
      clear x0 x1 x2 k0 k1 k2
      obtain ⟨W4, hW4⟩ : ∃ W4, W4 = w3.alloc (Obj.cells #[.int .i64 (t : Int), .int .i64 (g t)] 81) := ⟨_, rfl⟩
      obtain ⟨O, hO⟩ : ∃ O, O = w3.heap.size := ⟨_, rfl⟩
      have HW4 : Hid (W4 = w3.alloc (Obj.cells #[.int .i64 (t : Int), .int .i64 (g t)] 81) ∧ O = w3.heap.size) := ⟨hW4, hO⟩
      have hb4 : Below w3.heap.size w3 W4 := by rw [hW4]; exact below_alloc _ _
      have HE4 : Hid (Env C n3 W4) := hE3.later hb4
      have HF4 : Hid (Fr (fun q => q = C.kb ∨ q = E) W2 W4) := HFr.out.trans ((hf3.trans (Fr.of hb4)).mono (fun q h => .inl h))
      have hkE : E ≠ C.kb := by omega
      have hx4 := (hb4.block E (Nat.lt_of_lt_of_le (blkLt HX.out) hf3.size)).trans ((hf3.block E (blkLt HX.out) hkE).trans HX.out)
      have HX4 : Hid (W4.heap[E]? = some (.cells #[.int .i64 ((pick g s j).1 : Int), .int .i64 (pick g s j).2] 81 (0, 0))) := hx4
      have HN4 : Hid (n3 ≤ n + (j + 1 + 1) * ck) := by
        have h1 := HNj.out
        have h2 : (j + 1 + 1) * ck = (j + 1) * ck + ck := Nat.succ_mul _ _
        show _ ≤ _
        omega
      have o0 : W4.cell? ⟨O, 0, none⟩ = some (.int .i64 (t : Int)) := by rw [hW4, hO]; exact cellNew _ _ _ _ rfl rfl
      have o1 : W4.cell? ⟨O, 1, none⟩ = some (.int .i64 (g t)) := by rw [hW4, hO]; exact cellNew _ _ _ _ rfl rfl
      have e0 := blkCell hx4 0 _ rfl
      have e1 := blkCell hx4 1 _ rfl
      have f0 := blkFree hx4 0
      have f1 := blkFree hx4 1
      simp only [List.getElem_toArray, List.getElem_cons_zero, List.getElem_cons_succ] at e0 e1
      have hEO : E ≠ O := by rw [hO]; have := Nat.lt_of_lt_of_le (blkLt HX.out) hf3.size; omega
      clear hW4 hO hb4 hE3 hf3 hx4 HEn HFr HX HNj
      go_upto_region 8 with fail
      rw [← HW4.out.1, ← HW4.out.2]
      clear HW4
      have hwt : IntKind.i64.wrap ((t : Int) + 1) = ((t + 1 : Nat) : Int) := by rw [wrap_id _ (by omega) (by omega)]; omega
      generalize hpk : pick g s j = pj at *
      obtain ⟨p1, p2⟩ := pj
      dsimp only at *
      by_cases hc : p2 < g t
      · rw [if_pos hc] at HPk
        have HX5 : Hid (((W4.setCell ⟨E, 0, none⟩ (.int .i64 (t : Int))).setCell ⟨E, 1, none⟩ (.int .i64 (g t))).heap[E]? = some (.cells #[.int .i64 (t : Int), .int .i64 (g t)] 81 (0, 0))) := two_set HX4.out _ _
        generalize g t = gt at *
        go_wp2_with fail
        go_roundw
        case rel => exact ⟨j + 1, t + 1, n3, by have := HJt.out; omega, by omega, by go_num, HN4.out, by rw [HPk.out]; exact HX5.out, (HE4.out.but (by omega) _ _).but (by omega) _ _, (HF4.out.set (.inr rfl) _ _).set (.inr rfl) _ _⟩
        case measure => simp [intOf]; omega
      · rw [if_neg hc] at HPk
        generalize g t = gt at *
        go_wp2_with fail
        go_roundw
        case rel => exact ⟨j + 1, t + 1, n3, by have := HJt.out; omega, by omega, by go_num, HN4.out, by rw [HPk.out]; exact HX4.out, HE4.out, HF4.out⟩
        case measure => simp [intOf]; omega
    · obtain rfl : t = C.N := by omega
      have hjN : C.N - 1 - s = j := by have := HJt.out; omega
      have e0 := blkCell HX.out 0 _ rfl
      have e1 := blkCell HX.out 1 _ rfl
      have z0 := blkCell HRes.out 0 _ rfl
      have z1 := blkCell HRes.out 1 _ rfl
      have y0 := blkFree HRes.out 0
      have y1 := blkFree HRes.out 1
      simp only [List.getElem_toArray, List.getElem_cons_zero, List.getElem_cons_succ] at e0 e1 z0 z1
      have HJN : Hid (C.N - 1 - s = j) := hjN
      have hER : D + 1 + 1 ≠ E := by omega
      have hj5 : j ≤ 4 := by omega
      clear hjN
      go_wp2_with fail
      refine bodyPost_ret (v := .agg #[.int .i64 ((pick g s j).1 : Int), .int .i64 (pick g s j).2]) (by simp [results, Try.results62, go_sem, z0, z1]) rfl ⟨by rw [HJN.out], nj, ?_, ?_, ?_⟩
      · have h1 := HNj.out
        have h2 : (j + 1) * ck ≤ 5 * ck := Nat.mul_le_mul_right _ (by omega)
        omega
      · exact (HEn.out.but (by omega) _ _).but (by omega) _ _
      · exact ((fr_drop ((Fr.of HB0.out).trans HF2.out) HFr.out (by omega)).setNew (by omega) _ _).setNew (by omega) _ _
/-- The whole search. -/
theorem search_all (C : Mx) (hok : MrOK C.prs C.cs C.N) : ∀ k, BsP C k
  | 0 => best_of C 0 (of_any C 0 hok.n1.2 hok.cl.2 (choose_zero C hok.n1.2 hok.cl.2))
  | k + 1 => best_of C (k + 1) (of_any C (k + 1) hok.n1.2 hok.cl.2 (choose_succ C k hok (choice_of C k hok (search_all C hok k))))
end Go.Proofs.Ytlcnhkhkhlpghaa
