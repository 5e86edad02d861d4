/-
  Contract of the specification's PowerOf, for all arguments.
-/
import Derived.Test.YtillkllkekhmfaaPwQ
import Derived.Test.YtillkllkekhmfaaPwY
namespace Go.Proofs.Ytillkllkekhmfaa
open Go.ChangeShapes Go.WideShapes Go.ChangeAt Go.RowKit Go.Joins Go.Deep
set_option linter.unusedVariables false
attribute [local go_sem] run_store_float

theorem mul_any {x y u v : Nat} (hx : FinW (FloatKind.format .f64) 1094 x) (hy : FinW (FloatKind.format .f64) 1094 y) (hu : FinW (FloatKind.format .f64) 1094 u) (hv : FinW (FloatKind.format .f64) 1094 v) (w : World) :
    Calls Try.prog 49 #[.agg #[.float .f64 x, .float .f64 y], .agg #[.float .f64 u, .float .f64 v]] w fun e' w' => e' = .returned (.agg #[.float .f64 (prR x y u v), .float .f64 (prI x y u v)]) ∧ Below w.heap.size w w' := by
  obtain ⟨e1, e2, e3, e4, ⟨e5, _⟩, e6, _⟩ := pr_some hx hy hu hv
  have r1 := fun t W => run_float_arith (P := Try.prog) W .mul t .f64 _ _ _ e1
  have r2 := fun t W => run_float_arith (P := Try.prog) W .mul t .f64 _ _ _ e2
  have r3 := fun t W => run_float_arith (P := Try.prog) W .mul t .f64 _ _ _ e3
  have r4 := fun t W => run_float_arith (P := Try.prog) W .mul t .f64 _ _ _ e4
  have r5 := fun t W => run_float_arith (P := Try.prog) W .sub t .f64 _ _ _ e5
  have r6 := fun t W => run_float_arith (P := Try.prog) W .add t .f64 _ _ _ e6
  clear e1 e2 e3 e4 e5 e6 hx hy hu hv
  generalize prR x y u v = p at *
  generalize prI x y u v = q at *
  generalize fmul x u = m1 at *
  generalize fmul y v = m2 at *
  generalize fmul x v = m3 at *
  generalize fmul y u = m4 at *
  obtain ⟨W0, hW0⟩ : ∃ W0, W0 = ((w.alloc (Obj.cells #[.float .f64 x, .float .f64 y] 43)).alloc (Obj.cells #[.float .f64 u, .float .f64 v] 43)).alloc (Obj.cells #[.float .f64 0, .float .f64 0] 43) := ⟨_, rfl⟩
  have HB : Hid (Below w.heap.size w W0) := by show Below _ _ _; rw [hW0]; exact chain (chain (below_alloc _ _) (below_alloc _ _)) (below_alloc _ _)
  have g0 : W0.heap[w.heap.size]? = some (.cells #[.float .f64 x, .float .f64 y] 43 (0, 0)) := by rw [hW0, Below.heap_alloc _ _ _ (by simp; omega), Below.heap_alloc _ _ _ (by simp)]; exact heapNew _ _
  have g1 : W0.heap[w.heap.size + 1]? = some (.cells #[.float .f64 u, .float .f64 v] 43 (0, 0)) := by
    rw [hW0, Below.heap_alloc _ _ _ (by simp)]
    have := heapNew (w.alloc (Obj.cells #[.float .f64 x, .float .f64 y] 43)) (Obj.cells #[.float .f64 u, .float .f64 v] 43)
    rwa [World.size_alloc] at this
  have g2 : W0.heap[w.heap.size + 1 + 1]? = some (.cells #[.float .f64 0, .float .f64 0] 43 (0, 0)) := by
    rw [hW0]
    have := heapNew ((w.alloc (Obj.cells #[.float .f64 x, .float .f64 y] 43)).alloc (Obj.cells #[.float .f64 u, .float .f64 v] 43)) (Obj.cells #[.float .f64 0, .float .f64 0] 43)
    rwa [World.size_alloc, World.size_alloc] at this
  have HW0 : Hid (W0 = ((w.alloc (Obj.cells #[.float .f64 x, .float .f64 y] 43)).alloc (Obj.cells #[.float .f64 u, .float .f64 v] 43)).alloc (Obj.cells #[.float .f64 0, .float .f64 0] 43)) := hW0
  clear hW0
  obtain ⟨⟨a0, _⟩, a1, _⟩ := two_cells g0
  obtain ⟨⟨b0, _⟩, b1, _⟩ := two_cells g1
  obtain ⟨⟨c0, f0⟩, c1, f1⟩ := two_cells g2
  go_enter Try.func49, Try.ntmps49
  go_upto_region 1 with fail
  rw [← HW0.out]
  go_wp2
  refine bodyPost_ret (v := .agg #[.float .f64 p, .float .f64 q]) (by simp [results, Try.results49, go_sem, c0, c1]) rfl ⟨rfl, ?_⟩
  exact (HB.out.setCell (p := ⟨w.heap.size + 1 + 1, 0, none⟩) (by show w.heap.size ≤ w.heap.size + 1 + 1; omega) _).setCell (p := ⟨w.heap.size + 1 + 1, 1, none⟩) (by show w.heap.size ≤ w.heap.size + 1 + 1; omega) _
theorem specPow_long (a : Option Addr) (cap : Nat) (vs : List RPw) (b : Option Addr) (cb : Nat) (ss : List RPw) (h : 4096 < vs.length ∨ vs.length ≤ 4096 ∧ 4096 < ss.length) (w : World) :
    Calls Try.prog 17 #[.slice a vs.length cap, .slice b ss.length cb] w (AnsPw w (0, 0) 2) := by
  unfold AnsPw
  rcases h with h | ⟨h0, h⟩
  · have h' : (4096 : Int) < (vs.length : Int) := by omega
    go_enter Try.func17, Try.ntmps17
    go_wp2
    refine bodyPost_ret (v := .tuple #[.agg #[.float .f64 0, .float .f64 0], .int .i64 2]) (by simp [results, Try.results17, go_sem]) rfl ⟨rfl, ?_⟩
    repeat (first | exact Below.refl _ _ | exact below_alloc _ _ | refine chain ?_ (below_alloc _ _) | refine Below.setCell ?_ (by dsimp only; omega) _)
  · have h' : ¬ (4096 : Int) < (vs.length : Int) := by omega
    have h2 : (4096 : Int) < (ss.length : Int) := by omega
    go_enter Try.func17, Try.ntmps17
    go_wp2
    refine bodyPost_ret (v := .tuple #[.agg #[.float .f64 0, .float .f64 0], .int .i64 2]) (by simp [results, Try.results17, go_sem]) rfl ⟨rfl, ?_⟩
    repeat (first | exact Below.refl _ _ | exact below_alloc _ _ | refine chain ?_ (below_alloc _ _) | refine Below.setCell ?_ (by dsimp only; omega) _)
set_option maxHeartbeats 4000000 in
theorem specPow_bad (a : Option Addr) (cap : Nat) (vs : List RPw) (b : Option Addr) (cb : Nat) (ss : List RPw) (hl : vs.length ≤ 4096) (hm : ss.length ≤ 4096) (w : World) (hr : ReadsPw w.heap.size w a vs) (hs : ReadsPw w.heap.size w b ss) (c : Int)
    (h : (pwR vs = false ∧ c = 1) ∨ (pwR vs = true ∧ pwR ss = false ∧ c = 1) ∨ (pwR vs = true ∧ pwR ss = true ∧ vs.length ≠ ss.length ∧ c = 3)) :
    Calls Try.prog 17 #[.slice a vs.length cap, .slice b ss.length cb] w (AnsPw w (0, 0) c) := by
  have HP : Hid (∀ W, Below w.heap.size w W → Calls Try.prog 48 #[.slice a vs.length cap] W fun e w' => e = .returned (.bool (pwR vs)) ∧ Below W.heap.size W w') := fun W hb => specPower_any a cap vs (by omega) W ((hr.below hb).mono hb.size)
  have HS : Hid (∀ W, Below w.heap.size w W → Calls Try.prog 48 #[.slice b ss.length cb] W fun e w' => e = .returned (.bool (pwR ss)) ∧ Below W.heap.size W w') := fun W hb => specPower_any b cb ss (by omega) W ((hs.below hb).mono hb.size)
  have h1' : ¬ (4096 : Int) < (vs.length : Int) := by omega
  have h2' : ¬ (4096 : Int) < (ss.length : Int) := by omega
  have HH : Hid ((pwR vs = false ∧ c = 1) ∨ (pwR vs = true ∧ pwR ss = false ∧ c = 1) ∨ (pwR vs = true ∧ pwR ss = true ∧ vs.length ≠ ss.length ∧ c = 3)) := h
  clear hr hs h
  unfold AnsPw
  generalize pwR vs = b1 at *
  generalize pwR ss = b2 at *
  go_enter Try.func17, Try.ntmps17
  go_wp2_with fail
  (first | go_at_call 48 | skip)
  refine (HP.out _ (below_alloc _ _)).mono ?_
  rintro e w1 ⟨rfl, hb1⟩
  have q := hb1.block w.heap.size (by simp)
  rw [heapNew] at q
  have HB : Hid (Below w.heap.size w w1) := chain (below_alloc _ _) hb1
  have HQ : Hid (w1.heap[w.heap.size]? = some (.cells #[.float .f64 0, .float .f64 0] 43 (0, 0))) := q
  clear q hb1
  cases b1
  · obtain rfl : c = 1 := by
      rcases HH.out with h | h | h
      · exact h.2
      · exact absurd h.1 (by simp)
      · exact absurd h.1 (by simp)
    obtain ⟨⟨q0, f0⟩, q1, f1⟩ := two_cells HQ.out
    go_wp2
    refine bodyPost_ret (v := .tuple #[.agg #[.float .f64 0, .float .f64 0], .int .i64 1]) (by simp [results, Try.results17, go_sem, q0, q1]) rfl ⟨rfl, ?_⟩
    exact (HB.out.setCell (p := ⟨w.heap.size, 0, none⟩) (Nat.le_refl _) _).setCell (p := ⟨w.heap.size, 1, none⟩) (Nat.le_refl _) _
  · go_wp2_with fail
    (first | go_at_call 48 | skip)
    refine (HS.out _ HB.out).mono ?_
    rintro e w2 ⟨rfl, hb2⟩
    have HB2 : Hid (Below w.heap.size w w2) := chain HB.out hb2
    obtain ⟨⟨q0, f0⟩, q1, f1⟩ := two_cells ((hb2.block _ (blkLt HQ.out)).trans HQ.out)
    clear hb2
    cases b2
    · obtain rfl : c = 1 := by
        rcases HH.out with h | h | h
        · exact h.2
        · exact h.2.2
        · exact absurd h.2.1 (by simp)
      go_wp2
      refine bodyPost_ret (v := .tuple #[.agg #[.float .f64 0, .float .f64 0], .int .i64 1]) (by simp [results, Try.results17, go_sem, q0, q1]) rfl ⟨rfl, ?_⟩
      exact (HB2.out.setCell (p := ⟨w.heap.size, 0, none⟩) (Nat.le_refl _) _).setCell (p := ⟨w.heap.size, 1, none⟩) (Nat.le_refl _) _
    · obtain ⟨hne, rfl⟩ : vs.length ≠ ss.length ∧ c = 3 := by
        rcases HH.out with h | h | h
        · exact absurd h.1 (by simp)
        · exact absurd h.2.1 (by simp)
        · exact h.2.2
      have hne' : ((vs.length : Int) != (ss.length : Int)) = true := by simp; omega
      go_wp2
      refine bodyPost_ret (v := .tuple #[.agg #[.float .f64 0, .float .f64 0], .int .i64 3]) (by simp [results, Try.results17, go_sem, q0, q1]) rfl ⟨rfl, ?_⟩
      exact (HB2.out.setCell (p := ⟨w.heap.size, 0, none⟩) (Nat.le_refl _) _).setCell (p := ⟨w.heap.size, 1, none⟩) (Nat.le_refl _) _
set_option maxHeartbeats 16000000 in
theorem specPow_right (a : Option Addr) (cap : Nat) (vs : List RPw) (b : Option Addr) (cb : Nat) (ss : List RPw) (hl : vs.length ≤ 12) (he : vs.length = ss.length) (hv : pwR vs = true) (hs : pwR ss = true) (w : World) (hr : ReadsPw w.heap.size w a vs) (hq : ReadsPw w.heap.size w b ss) :
    Calls Try.prog 17 #[.slice a vs.length cap, .slice b ss.length cb] w (AnsPw w (poT vs ss vs.length) 0) := by
  have HP : Hid (∀ W, Below w.heap.size w W → Calls Try.prog 48 #[.slice a vs.length cap] W fun e w' => e = .returned (.bool true) ∧ Below W.heap.size W w') := fun W hb => by rw [← hv]; exact specPower_any a cap vs (by omega) W ((hr.below hb).mono hb.size)
  have HS : Hid (∀ W, Below w.heap.size w W → Calls Try.prog 48 #[.slice b ss.length cb] W fun e w' => e = .returned (.bool true) ∧ Below W.heap.size W w') := fun W hb => by rw [← hs]; exact specPower_any b cb ss (by omega) W ((hq.below hb).mono hb.size)
  have h1' : ¬ (4096 : Int) < (vs.length : Int) := by omega
  have h2' : ¬ (4096 : Int) < (ss.length : Int) := by omega
  have hne' : ((vs.length : Int) != (ss.length : Int)) = false := by simp; omega
  have HE : Hid (vs.length = ss.length) := he
  have hpv := (pwR_right hv).2
  have hps := (pwR_right hs).2
  have HR : Hid (ReadsPw w.heap.size w a vs) := hr
  have HR2 : Hid (ReadsPw w.heap.size w b ss) := hq
  clear hr hq hv hs he
  unfold AnsPw
  go_enter Try.func17, Try.ntmps17
  go_wp2_with fail
  (first | go_at_call 48 | skip)
  refine (HP.out _ (below_alloc _ _)).mono ?_
  rintro e w0 ⟨rfl, hb0⟩
  have q := hb0.block w.heap.size (by simp)
  rw [heapNew] at q
  have HB0 : Hid (Below w.heap.size w w0) := chain (below_alloc _ _) hb0
  have HQ0 : Hid (w0.heap[w.heap.size]? = some (.cells #[.float .f64 0, .float .f64 0] 43 (0, 0))) := q
  clear q hb0 HP
  go_wp2_with fail
  (first | go_at_call 48 | skip)
  refine (HS.out _ HB0.out).mono ?_
  rintro e w1 ⟨rfl, hb1⟩
  have HB1 : Hid (Below w.heap.size w w1) := chain HB0.out hb1
  have HQ : Hid (w1.heap[w.heap.size]? = some (.cells #[.float .f64 0, .float .f64 0] 43 (0, 0))) := (hb1.block _ (blkLt HQ0.out)).trans HQ0.out
  have hlow : w.heap.size < w1.heap.size := blkLt HQ.out
  clear hb1 HB0 HQ0 HS
  go_wp2
  go_loopw [7] (fun i wr => ∃ k : Nat, k ≤ vs.length ∧ i = .int .i64 (k : Int) ∧ BsI w w1.heap.size (poT vs ss k).1 (poT vs ss k).2 wr) (fun i _ => vs.length - (intOf i).toNat)
  case atStart => exact ⟨0, Nat.zero_le _, rfl, ⟨hlow, heapNew _ _, (Below.heap_alloc _ _ _ hlow).trans HQ.out, chain HB1.out (below_alloc _ _)⟩⟩
  case round =>
    obtain ⟨k, hk, rfl, hb⟩ := hrel
    have HI : Hid (BsI w w1.heap.size (poT vs ss k).1 (poT vs ss k).2 wr) := hb
    clear hb HQ HB1
    generalize w1.heap.size = D at *
    have HBw : Hid (Below w.heap.size w wr) := HI.out.bel
    by_cases hlt : k < vs.length
    · have hlt' : (k : Int) < (vs.length : Int) := by omega
      have hlt2 : (k : Int) < (ss.length : Int) := by have := HE.out; omega
      rcases HR.out with h | ⟨b0, o0, ha, hB0, ia⟩
      · rw [h] at hlt; simp at hlt
      rcases HR2.out with h | ⟨b1, o1, ha1, hB1, ia1⟩
      · rw [h] at hlt2; simp at hlt2; omega
      have HC0 : Hid (∀ W, Below wr.heap.size wr W → PwAt W b0 (o0 + k * 2) (vs.getD k zPw)) := fun W hb => (ia.below (chain HBw.out hb) hB0) k hlt
      have HC1 : Hid (∀ W, Below wr.heap.size wr W → PwAt W b1 (o1 + k * 2) (ss.getD k zPw)) := fun W hb => (ia1.below (chain HBw.out hb) hB1) k (by omega)
      obtain ⟨q1, q2, q3, q4⟩ := po_pr hpv hps (k := k) hlt (by omega)
      have HMul : Hid (∀ W, Calls Try.prog 49 #[.agg #[.float .f64 (vs.getD k zPw).re, .float .f64 (vs.getD k zPw).im], .agg #[.float .f64 (ss.getD k zPw).re, .float .f64 (negF (ss.getD k zPw).im)]] W fun e' w' => e' = .returned (.agg #[.float .f64 (prR (vs.getD k zPw).re (vs.getD k zPw).im (ss.getD k zPw).re (negF (ss.getD k zPw).im)), .float .f64 (prI (vs.getD k zPw).re (vs.getD k zPw).im (ss.getD k zPw).re (negF (ss.getD k zPw).im))]) ∧ Below W.heap.size W w') := fun W => mul_any q1 q2 q3 q4 W
      obtain ⟨_, e7, e8⟩ := poT_add hpv hps HE.out hlt (by omega)
      have r7 := fun t W => run_float_arith (P := Try.prog) W .add t .f64 _ _ _ e7
      have r9 := fun t W => run_float_arith (P := Try.prog) W .add t .f64 _ _ _ e8
      have r8 := fun W => neg_run (P := Try.prog) (ss.getD k zPw).im W
      rw [ha, ha1]
      clear ia ia1 e7 e8 q1 q2 q3 q4
      generalize prR (vs.getD k zPw).re (vs.getD k zPw).im (ss.getD k zPw).re (negF (ss.getD k zPw).im) = d1 at *
      generalize prI (vs.getD k zPw).re (vs.getD k zPw).im (ss.getD k zPw).re (negF (ss.getD k zPw).im) = d2 at *
      generalize negF (ss.getD k zPw).im = nv at *
      generalize ss.getD k zPw = r2 at *
      generalize vs.getD k zPw = r1 at *
      obtain ⟨u, v⟩ := r2
      obtain ⟨x, y⟩ := r1
      dsimp only at HMul r8
      generalize hs1 : (poT vs ss (k + 1)).1 = s1 at *
      generalize hs2 : (poT vs ss (k + 1)).2 = s2 at *
      generalize (poT vs ss k).1 = t1 at *
      generalize (poT vs ss k).2 = t2 at *
      have HRel : Hid (∀ (m : Nat) (W : World), BsI w D s1 s2 W → ∃ k' : Nat, k' ≤ vs.length ∧ Value.int .i64 ((k : Int) + 1) = .int .i64 (k' : Int) ∧ BsI w D (poT vs ss k').1 (poT vs ss k').2 W) := fun _ W h => ⟨k + 1, by omega, by go_num, by rw [hs1, hs2]; exact h⟩
      clear hs1 hs2
      go_upto_region 11 with fail
      refine wp_region_held_drew (S := fun W' => Below wr.heap.size wr W') (by kernel_rfl) (below_drew _) (fun hH => ?_)
      refine wpAnyH_take (i := 0) (v := .slice (some ⟨b0, o0, none⟩) vs.length cap) rfl (by kernel_rfl) (by kernel_rfl) (by kernel_rfl) (fun _ _ _ h => h) (Or.inl ⟨by rfl, fun w hSw => by clear hSw; go_simp⟩) hH ?_
      try simp only [Act.put, List.setIfInBounds_toArray, List.set_cons_zero, List.set_cons_succ, List.getElem_toArray, List.getElem_cons_zero]
      refine wpAnyH_take (i := 1) (v := .int .i64 (k : Int)) rfl (by kernel_rfl) (by kernel_rfl) (by kernel_rfl) (fun _ _ _ h => h) (Or.inl ⟨by rfl, fun w hSw => by clear hSw; go_simp⟩) hH ?_
      try simp only [Act.put, List.setIfInBounds_toArray, List.set_cons_zero, List.set_cons_succ, List.getElem_toArray, List.getElem_cons_succ, List.getElem_cons_zero]
      refine wpAnyH_take (i := 2) (v := .pointer (some ⟨b0, o0 + k * 2, none⟩)) rfl (by kernel_rfl) (by kernel_rfl) (by kernel_rfl) (fun _ _ _ h => h) (Or.inl ⟨by rfl, fun w hSw => by clear hSw; go_simp⟩) hH ?_
      try simp only [Act.put, List.setIfInBounds_toArray, List.set_cons_zero, List.set_cons_succ, List.getElem_toArray, List.getElem_cons_succ, List.getElem_cons_zero]
      refine wpAnyH_take (i := 3) (v := .agg #[.float .f64 x, .float .f64 y]) rfl (by kernel_rfl) (by kernel_rfl) (by kernel_rfl) (fun _ _ _ h => h) (Or.inl ⟨by rfl, fun w hSw => by obtain ⟨f0, f1⟩ := HC0.out _ hSw; clear hSw; go_simp⟩) hH ?_
      try simp only [Act.put, List.setIfInBounds_toArray, List.set_cons_zero, List.set_cons_succ, List.getElem_toArray, List.getElem_cons_succ, List.getElem_cons_zero]
      refine wpAnyH_take (i := 4) (v := .slice (some ⟨b1, o1, none⟩) ss.length cb) rfl (by kernel_rfl) (by kernel_rfl) (by kernel_rfl) (fun _ _ _ h => h) (Or.inl ⟨by rfl, fun w hSw => by clear hSw; go_simp⟩) hH ?_
      try simp only [Act.put, List.setIfInBounds_toArray, List.set_cons_zero, List.set_cons_succ, List.getElem_toArray, List.getElem_cons_succ, List.getElem_cons_zero]
      refine wpAnyH_take (i := 5) (v := .int .i64 (k : Int)) rfl (by kernel_rfl) (by kernel_rfl) (by kernel_rfl) (fun _ _ _ h => h) (Or.inl ⟨by rfl, fun w hSw => by clear hSw; go_simp⟩) hH ?_
      try simp only [Act.put, List.setIfInBounds_toArray, List.set_cons_zero, List.set_cons_succ, List.getElem_toArray, List.getElem_cons_succ, List.getElem_cons_zero]
      refine wpAnyH_take (i := 6) (v := .pointer (some ⟨b1, o1 + k * 2, none⟩)) rfl (by kernel_rfl) (by kernel_rfl) (by kernel_rfl) (fun _ _ _ h => h) (Or.inl ⟨by rfl, fun w hSw => by clear hSw; go_simp⟩) hH ?_
      try simp only [Act.put, List.setIfInBounds_toArray, List.set_cons_zero, List.set_cons_succ, List.getElem_toArray, List.getElem_cons_succ, List.getElem_cons_zero]
      refine wpAnyH_take (i := 7) (v := .pointer (some ⟨b1, o1 + k * 2, none⟩)) rfl (by kernel_rfl) (by kernel_rfl) (by kernel_rfl) (fun _ _ _ h => h) (Or.inl ⟨by rfl, fun w hSw => by clear hSw; go_simp⟩) hH ?_
      try simp only [Act.put, List.setIfInBounds_toArray, List.set_cons_zero, List.set_cons_succ, List.getElem_toArray, List.getElem_cons_succ, List.getElem_cons_zero]
      refine wpAnyH_take (i := 8) (v := .float .f64 u) rfl (by kernel_rfl) (by kernel_rfl) (by kernel_rfl) (fun _ _ _ h => h) (Or.inl ⟨by rfl, fun w hSw => by obtain ⟨f0, f1⟩ := HC1.out _ hSw; clear hSw; go_simp⟩) hH ?_
      try simp only [Act.put, List.setIfInBounds_toArray, List.set_cons_zero, List.set_cons_succ, List.getElem_toArray, List.getElem_cons_succ, List.getElem_cons_zero]
      refine wpAnyH_take (i := 9) (v := .slice (some ⟨b1, o1, none⟩) ss.length cb) rfl (by kernel_rfl) (by kernel_rfl) (by kernel_rfl) (fun _ _ _ h => h) (Or.inl ⟨by rfl, fun w hSw => by clear hSw; go_simp⟩) hH ?_
      try simp only [Act.put, List.setIfInBounds_toArray, List.set_cons_zero, List.set_cons_succ, List.getElem_toArray, List.getElem_cons_succ, List.getElem_cons_zero]
      refine wpAnyH_take (i := 10) (v := .int .i64 (k : Int)) rfl (by kernel_rfl) (by kernel_rfl) (by kernel_rfl) (fun _ _ _ h => h) (Or.inl ⟨by rfl, fun w hSw => by clear hSw; go_simp⟩) hH ?_
      try simp only [Act.put, List.setIfInBounds_toArray, List.set_cons_zero, List.set_cons_succ, List.getElem_toArray, List.getElem_cons_succ, List.getElem_cons_zero]
      refine wpAnyH_take (i := 11) (v := .pointer (some ⟨b1, o1 + k * 2, none⟩)) rfl (by kernel_rfl) (by kernel_rfl) (by kernel_rfl) (fun _ _ _ h => h) (Or.inl ⟨by rfl, fun w hSw => by clear hSw; go_simp⟩) hH ?_
      try simp only [Act.put, List.setIfInBounds_toArray, List.set_cons_zero, List.set_cons_succ, List.getElem_toArray, List.getElem_cons_succ, List.getElem_cons_zero]
      refine wpAnyH_take (i := 12) (v := .pointer (some ⟨b1, o1 + k * 2 + 1, none⟩)) rfl (by kernel_rfl) (by kernel_rfl) (by kernel_rfl) (fun _ _ _ h => h) (Or.inl ⟨by rfl, fun w hSw => by clear hSw; go_simp⟩) hH ?_
      try simp only [Act.put, List.setIfInBounds_toArray, List.set_cons_zero, List.set_cons_succ, List.getElem_toArray, List.getElem_cons_succ, List.getElem_cons_zero]
      refine wpAnyH_take (i := 13) (v := .float .f64 v) rfl (by kernel_rfl) (by kernel_rfl) (by kernel_rfl) (fun _ _ _ h => h) (Or.inl ⟨by rfl, fun w hSw => by obtain ⟨f0, f1⟩ := HC1.out _ hSw; clear hSw; go_simp⟩) hH ?_
      try simp only [Act.put, List.setIfInBounds_toArray, List.set_cons_zero, List.set_cons_succ, List.getElem_toArray, List.getElem_cons_succ, List.getElem_cons_zero]
      refine wpAnyH_take (i := 14) (v := .float .f64 nv) rfl (by kernel_rfl) (by kernel_rfl) (by kernel_rfl) (fun _ _ _ h => h) (Or.inl ⟨by rfl, fun w hSw => by clear hSw; go_simp⟩) hH ?_
      try simp only [Act.put, List.setIfInBounds_toArray, List.set_cons_zero, List.set_cons_succ, List.getElem_toArray, List.getElem_cons_succ, List.getElem_cons_zero]
      refine wpAnyH_take (i := 15) (v := .agg #[.float .f64 u, .float .f64 nv]) rfl (by kernel_rfl) (by kernel_rfl) (by kernel_rfl) (fun _ _ _ h => h) (Or.inl ⟨by rfl, fun w hSw => by clear hSw; go_simp⟩) hH ?_
      try simp only [Act.put, List.setIfInBounds_toArray, List.set_cons_zero, List.set_cons_succ, List.getElem_toArray, List.getElem_cons_succ, List.getElem_cons_zero]
      refine wpAnyH_ready (rs := [16, 17]) (by kernel_rfl) (by simp) ?_
      refine AllReadyH.cons rfl (fun K hK => ?_) (AllReadyH.cons rfl (fun K hK => ?_) AllReadyH.nil)
      · skip
        go_simp
        go_at_call 49
        refine (HMul.out _).mono ?_
        rintro e V1 ⟨rfl, hk⟩
        have L1 : Hid (Below wr.heap.size wr V1) := chain hH hk
        clear hk
        refine hK.out _ _ L1.out (fun _ => ?_)
        clear hK K
        try simp only [Act.put, List.setIfInBounds_toArray, List.set_cons_zero, List.set_cons_succ, List.getElem_toArray, List.getElem_cons_succ, List.getElem_cons_zero]
        refine wpAnyH_ready (rs := [17]) (by kernel_rfl) (by simp) ?_
        refine AllReadyH.cons rfl (fun K hK => ?_) AllReadyH.nil
        go_simp
        have L2 : Hid (Below wr.heap.size wr (V1.alloc (Obj.cells #[.float .f64 0, .float .f64 0] 43))) := chain L1.out (below_alloc _ _)
        have Z2 : Hid ((V1.alloc (Obj.cells #[.float .f64 0, .float .f64 0] 43)).heap[V1.heap.size]? = some (.cells #[.float .f64 0, .float .f64 0] 43 (0, 0)) ∧ wr.heap.size ≤ V1.heap.size) := ⟨heapNew _ _, L1.out.size⟩
        generalize V1.alloc (Obj.cells #[.float .f64 0, .float .f64 0] 43) = V2 at *
        generalize V1.heap.size = B at *
        refine hK.out _ _ L2.out (fun _ => ?_)
        clear hK K
        try simp only [Act.put, List.setIfInBounds_toArray, List.set_cons_zero, List.set_cons_succ, List.getElem_toArray, List.getElem_cons_succ, List.getElem_cons_zero]
        refine wpAnyH_ready (rs := [18]) (by kernel_rfl) (by simp) ?_
        refine AllReadyH.cons rfl (fun K hK => ?_) AllReadyH.nil
        obtain ⟨⟨w0, k0⟩, w1', k1⟩ := two_cells Z2.out.1
        go_simp
        clear w0 k0 w1' k1
        have L3 : Hid (Below wr.heap.size wr ((V2.setCell ⟨B, 0, none⟩ (.float .f64 d1)).setCell ⟨B, 1, none⟩ (.float .f64 d2))) := (L2.out.setCell (p := ⟨B, 0, none⟩) Z2.out.2 _).setCell (p := ⟨B, 1, none⟩) Z2.out.2 _
        have R : Hid (Below wr.heap.size wr ((V2.setCell ⟨B, 0, none⟩ (.float .f64 d1)).setCell ⟨B, 1, none⟩ (.float .f64 d2)) ∧ ((V2.setCell ⟨B, 0, none⟩ (.float .f64 d1)).setCell ⟨B, 1, none⟩ (.float .f64 d2)).heap[B]? = some (.cells #[.float .f64 d1, .float .f64 d2] 43 (0, 0)) ∧ wr.heap.size ≤ B) := ⟨L3.out, p2_set1 (p2_set0 Z2.out.1 _) _, Z2.out.2⟩
        generalize (V2.setCell ⟨B, 0, none⟩ (.float .f64 d1)).setCell ⟨B, 1, none⟩ (.float .f64 d2) = V3 at *
        refine hK.out _ _ L3.out (fun _ => ?_)
        clear hK K
        try simp only [Act.put, List.setIfInBounds_toArray, List.set_cons_zero, List.set_cons_succ, List.getElem_toArray, List.getElem_cons_succ, List.getElem_cons_zero]
        refine wpAnyH_done (by kernel_rfl) ?_ _
        clear hH
        have HJ : Hid (BsI w D t1 t2 V3) := HI.out.later R.out.1
        obtain ⟨⟨z0, g0⟩, z1, g1⟩ := two_cells R.out.2.1
        obtain ⟨⟨y0, f0⟩, y1, f1⟩ := two_cells HJ.out.box
        obtain ⟨⟨y0', f0'⟩, y1', f1'⟩ := two_cells (HJ.out.s0 s1).box
        have hDB : B ≠ D := by
          have h1 := blkLt HI.out.box
          have h2 := R.out.2.2
          omega
        have z1' : (V3.setCell ⟨D, 0, none⟩ (.float .f64 s1)).cell? ⟨B, 1, none⟩ = some (.float .f64 d2) := by rw [World.cell?_setCell_far _ _ _ _ (Ne.symm hDB)]; exact z1
        have HFin : Hid (BsI w D s1 s2 ((V3.setCell ⟨D, 0, none⟩ (.float .f64 s1)).setCell ⟨D, 1, none⟩ (.float .f64 s2))) := (HJ.out.s0 s1).s1 s2
        clear R HJ
        go_wp2
        exact ⟨HRel.out 0 _ HFin.out, by simp [intOf]; omega⟩
      · skip
        go_simp
        have L1 : Hid (Below wr.heap.size wr ((wr.alloc (Obj.cells #[.float .f64 0, .float .f64 0] 43)).drew)) := (below_alloc _ _).drew
        have Z1 : Hid (((wr.alloc (Obj.cells #[.float .f64 0, .float .f64 0] 43)).drew).heap[wr.heap.size]? = some (.cells #[.float .f64 0, .float .f64 0] 43 (0, 0))) := heapNew _ _
        generalize (wr.alloc (Obj.cells #[.float .f64 0, .float .f64 0] 43)).drew = V1 at *
        refine hK.out _ _ L1.out (fun _ => ?_)
        clear hK K
        try simp only [Act.put, List.setIfInBounds_toArray, List.set_cons_zero, List.set_cons_succ, List.getElem_toArray, List.getElem_cons_succ, List.getElem_cons_zero]
        refine wpAnyH_ready (rs := [16]) (by kernel_rfl) (by simp) ?_
        refine AllReadyH.cons rfl (fun K hK => ?_) AllReadyH.nil
        go_simp
        go_at_call 49
        refine (HMul.out _).mono ?_
        rintro e V2 ⟨rfl, hk⟩
        have L2 : Hid (Below wr.heap.size wr V2) := chain L1.out hk
        have Z2 : Hid (V2.heap[wr.heap.size]? = some (.cells #[.float .f64 0, .float .f64 0] 43 (0, 0)) ∧ wr.heap.size ≤ wr.heap.size) := ⟨(hk.block _ (blkLt Z1.out)).trans Z1.out, Nat.le_refl _⟩
        clear hk
        refine hK.out _ _ L2.out (fun _ => ?_)
        clear hK K
        try simp only [Act.put, List.setIfInBounds_toArray, List.set_cons_zero, List.set_cons_succ, List.getElem_toArray, List.getElem_cons_succ, List.getElem_cons_zero]
        refine wpAnyH_ready (rs := [18]) (by kernel_rfl) (by simp) ?_
        refine AllReadyH.cons rfl (fun K hK => ?_) AllReadyH.nil
        obtain ⟨⟨w0, k0⟩, w1', k1⟩ := two_cells Z2.out.1
        go_simp
        clear w0 k0 w1' k1
        have L3 : Hid (Below wr.heap.size wr ((V2.setCell ⟨wr.heap.size, 0, none⟩ (.float .f64 d1)).setCell ⟨wr.heap.size, 1, none⟩ (.float .f64 d2))) := (L2.out.setCell (p := ⟨wr.heap.size, 0, none⟩) Z2.out.2 _).setCell (p := ⟨wr.heap.size, 1, none⟩) Z2.out.2 _
        have R : Hid (Below wr.heap.size wr ((V2.setCell ⟨wr.heap.size, 0, none⟩ (.float .f64 d1)).setCell ⟨wr.heap.size, 1, none⟩ (.float .f64 d2)) ∧ ((V2.setCell ⟨wr.heap.size, 0, none⟩ (.float .f64 d1)).setCell ⟨wr.heap.size, 1, none⟩ (.float .f64 d2)).heap[wr.heap.size]? = some (.cells #[.float .f64 d1, .float .f64 d2] 43 (0, 0)) ∧ wr.heap.size ≤ wr.heap.size) := ⟨L3.out, p2_set1 (p2_set0 Z2.out.1 _) _, Z2.out.2⟩
        generalize (V2.setCell ⟨wr.heap.size, 0, none⟩ (.float .f64 d1)).setCell ⟨wr.heap.size, 1, none⟩ (.float .f64 d2) = V3 at *
        refine hK.out _ _ L3.out (fun _ => ?_)
        clear hK K
        try simp only [Act.put, List.setIfInBounds_toArray, List.set_cons_zero, List.set_cons_succ, List.getElem_toArray, List.getElem_cons_succ, List.getElem_cons_zero]
        refine wpAnyH_done (by kernel_rfl) ?_ _
        clear hH
        have HJ : Hid (BsI w D t1 t2 V3) := HI.out.later R.out.1
        obtain ⟨⟨z0, g0⟩, z1, g1⟩ := two_cells R.out.2.1
        obtain ⟨⟨y0, f0⟩, y1, f1⟩ := two_cells HJ.out.box
        obtain ⟨⟨y0', f0'⟩, y1', f1'⟩ := two_cells (HJ.out.s0 s1).box
        have hDB : wr.heap.size ≠ D := by
          have h1 := blkLt HI.out.box
          have h2 := R.out.2.2
          omega
        have z1' : (V3.setCell ⟨D, 0, none⟩ (.float .f64 s1)).cell? ⟨wr.heap.size, 1, none⟩ = some (.float .f64 d2) := by rw [World.cell?_setCell_far _ _ _ _ (Ne.symm hDB)]; exact z1
        have HFin : Hid (BsI w D s1 s2 ((V3.setCell ⟨D, 0, none⟩ (.float .f64 s1)).setCell ⟨D, 1, none⟩ (.float .f64 s2))) := (HJ.out.s0 s1).s1 s2
        clear R HJ
        go_wp2
        exact ⟨HRel.out 0 _ HFin.out, by simp [intOf]; omega⟩
    · have hle : ¬ (k : Int) < (vs.length : Int) := by omega
      obtain rfl : k = vs.length := by omega
      obtain ⟨⟨q0, f0⟩, q1, f1⟩ := two_cells HI.out.res
      obtain ⟨⟨p0, g0⟩, p1, g1⟩ := two_cells HI.out.box
      go_wp2
      refine bodyPost_ret (v := .tuple #[.agg #[.float .f64 (poT vs ss vs.length).1, .float .f64 (poT vs ss vs.length).2], .int .i64 0]) (by simp [results, Try.results17, go_sem, q0, q1]) rfl ⟨rfl, ?_⟩
      exact ((HBw.out.setCell (p := ⟨w.heap.size, 0, none⟩) (Nat.le_refl _) _).setCell (p := ⟨w.heap.size, 1, none⟩) (Nat.le_refl _) _)
theorem specPow_any (a : Option Addr) (cap : Nat) (vs : List RPw) (b : Option Addr) (cb : Nat) (ss : List RPw) (w : World) (hr : ReadsPw w.heap.size w a vs) (hq : ReadsPw w.heap.size w b ss) :
    Calls Try.prog 17 #[.slice a vs.length cap, .slice b ss.length cb] w (AnsPw w (poA vs ss) (poC vs ss)) := by
  rcases po_ways vs ss with ⟨h1, h2, h3⟩ | ⟨h0, h1, h2, h3⟩ | ⟨h0, h1, h4, h2, h3⟩ | ⟨h0, h1, h4, h5, h2, h3⟩ | ⟨h0, h1, h4, h5, h6, h2, h3⟩ | ⟨h0, h1, h4, h5, h6, h2, h3⟩
  · rw [h2, h3]; exact specPow_long a cap vs b cb ss (.inl h1) w
  · rw [h2, h3]; exact specPow_long a cap vs b cb ss (.inr ⟨h0, h1⟩) w
  · rw [h2, h3]; exact specPow_bad a cap vs b cb ss h0 h1 w hr hq 1 (.inl ⟨h4, rfl⟩)
  · rw [h2, h3]; exact specPow_bad a cap vs b cb ss h0 h1 w hr hq 1 (.inr (.inl ⟨h4, h5, rfl⟩))
  · rw [h2, h3]; exact specPow_bad a cap vs b cb ss (by omega) (by omega) w hr hq 3 (.inr (.inr ⟨h4, h5, h6, rfl⟩))
  · rw [h2, h3]; exact specPow_right a cap vs b cb ss h0 h6 h4 h5 w hr hq
end Go.Proofs.Ytillkllkekhmfaa
