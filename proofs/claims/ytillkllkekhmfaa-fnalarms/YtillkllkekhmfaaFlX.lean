/-
  Contract of the program's WarmMinutes, for all arguments.
-/
import Derived.Test.YtillkllkekhmfaaFlE
import Derived.Test.YtillkllkekhmfaaFlV
namespace Go.Proofs.Ytillkllkekhmfaa
open Go.ChangeShapes Go.WideShapes Go.ChangeAt Go.RowKit Go.Joins Go.Deep Go.Shelf
set_option linter.unusedVariables false
attribute [local go_sem] Oper.semAt_some run_store_float

theorem withinG_any (x lo hi : Nat) (w : World) : Calls Try.prog 38 #[.float .f32 x, .float .f32 lo, .float .f32 hi] w fun e w' => e = .returned (.bool (inG x lo hi)) ∧ Below w.heap.size w w' := by
  have h1 := w_le (FloatKind.format .f32) lo x
  have h2 := w_le (FloatKind.format .f32) x hi
  unfold inG
  generalize leW (FloatKind.format .f32) lo x = b at *
  generalize leW (FloatKind.format .f32) x hi = c at *
  go_enter Try.func38, Try.ntmps38
  cases b
  all_goals
    go_wp2
    go_ret
    exact ⟨rfl, Below.refl _ _⟩
def AnsWm (w : World) (m : Nat) (c : Int) (e : Ending) (w' : World) : Prop := e = .returned (.tuple #[.float .f32 m, .int .i64 c]) ∧ Below w.heap.size w w'
/-- What the loop holds: the limit and the base in their boxes, the minutes in block D. -/
structure WmI (w : World) (D : Nat) (lim bs m : Nat) (W : World) : Prop where
  low : w.heap.size + 1 < D
  bl : W.heap[w.heap.size]? = some (.cells #[.float .f64 lim] 24 (0, 0))
  bb : W.heap[w.heap.size + 1]? = some (.cells #[.float .f32 bs] 31 (0, 0))
  bm : W.heap[D]? = some (.cells #[.float .f32 m] 31 (0, 0))
  bel : Below w.heap.size w W
theorem WmI.later {w : World} {D lim bs m : Nat} {W W' : World} (h : WmI w D lim bs m W) (hb : Below W.heap.size W W') : WmI w D lim bs m W' :=
  ⟨h.low, (hb.block _ (blkLt h.bl)).trans h.bl, (hb.block _ (blkLt h.bb)).trans h.bb, (hb.block _ (blkLt h.bm)).trans h.bm, chain h.bel hb⟩
theorem WmI.kept {w : World} {D N lim bs m : Nat} {W W' : World} (h : WmI w D lim bs m W) (hN : w.heap.size ≤ N) {row : Option Nat} (hg : W.grownBy W' row) (hr : ∀ r, row = some r → N ≤ r ∧ ∃ o : Obj, W.heap[r]? = some o ∧ o.isCells = false) : WmI w D lim bs m W' :=
  ⟨h.low, blk_keptF h.bl hg (fun r e => (hr r e).2), blk_keptF h.bb hg (fun r e => (hr r e).2), blk_keptF h.bm hg (fun r e => (hr r e).2), h.bel.grown hg (by have := h.bel.size; omega) (fun k e => Nat.le_trans hN (hr k e).1)⟩
theorem WmI.set {w : World} {D lim bs m : Nat} {W : World} (h : WmI w D lim bs m W) (x : Nat) : WmI w D lim bs x (W.setCell ⟨D, 0, none⟩ (.float .f32 x)) := by
  have := h.low
  exact ⟨h.low, (Below.heap_setCell _ _ _ _ (by show w.heap.size ≠ D; omega)).trans h.bl, (Below.heap_setCell _ _ _ _ (by show w.heap.size + 1 ≠ D; omega)).trans h.bb, by
    have e := heap_setCell_same _ _ 0 _ _ (.float .f32 x) h.bm
    simp only [List.setIfInBounds_toArray, List.set_cons_zero] at e
    exact e, h.bel.setCell (p := ⟨D, 0, none⟩) (by show w.heap.size ≤ D; omega) _⟩
theorem warm_ways (xs : List Nat) (lim bs : Nat) : (trC xs ≠ 0 ∧ wmC xs lim bs = trC xs ∧ wmA xs lim bs = 0) ∨ (trC xs = 0 ∧ dgF lim = false ∧ wmC xs lim bs = 1 ∧ wmA xs lim bs = 0) ∨ (trC xs = 0 ∧ dgF lim = true ∧ bsG bs = false ∧ wmC xs lim bs = 1 ∧ wmA xs lim bs = 0) ∨ (trC xs = 0 ∧ dgF lim = true ∧ bsG bs = true ∧ wmC xs lim bs = 0 ∧ wmA xs lim bs = wmS lim bs (thT xs xs.length)) := by
  unfold wmA wmC
  by_cases h : trC xs = 0
  · rw [if_pos h]
    cases h1 : dgF lim
    · exact .inr (.inl ⟨h, rfl, rfl, rfl⟩)
    · cases h2 : bsG bs
      · exact .inr (.inr (.inl ⟨h, rfl, rfl, rfl, rfl⟩))
      · exact .inr (.inr (.inr ⟨h, rfl, rfl, rfl, rfl⟩))
  · rw [if_neg h]
    exact .inl ⟨h, rfl, if_neg h⟩
set_option maxHeartbeats 4000000 in
theorem implWarm_bad (a : Option Addr) (cap : Nat) (xs : List Nat) (lim bs : Nat) (hl : xs.length ≤ 100000000) (w : World) (hr : ReadsF w.heap.size w a xs) (c : Int)
    (h : (trC xs ≠ 0 ∧ c = trC xs) ∨ (trC xs = 0 ∧ dgF lim = false ∧ c = 1) ∨ (trC xs = 0 ∧ dgF lim = true ∧ bsG bs = false ∧ c = 1)) :
    Calls Try.prog 12 #[.slice a xs.length cap, .float .f64 lim, .float .f32 bs] w (AnsWm w 0 c) := by
  have HT : Hid (∀ W, Below w.heap.size w W → Calls Try.prog 33 #[.slice a xs.length cap] W fun e w' => e = .returned (.int .i64 (trC xs)) ∧ Below W.heap.size W w') := fun W hb => traceFault_any a cap xs hl W (hr.later hb)
  have HD : Hid (∀ W, Calls Try.prog 37 #[.float .f64 lim] W fun e w' => e = .returned (.bool (dgF lim)) ∧ Below W.heap.size W w') := fun W => degree_any lim W
  have HG : Hid (∀ W, Calls Try.prog 38 #[.float .f32 bs, .float .f32 1065353216, .float .f32 1082130432] W fun e w' => e = .returned (.bool (bsG bs)) ∧ Below W.heap.size W w') := fun W => withinG_any bs loG hiG W
  have HH : Hid ((trC xs ≠ 0 ∧ c = trC xs) ∨ (trC xs = 0 ∧ dgF lim = false ∧ c = 1) ∨ (trC xs = 0 ∧ dgF lim = true ∧ bsG bs = false ∧ c = 1)) := h
  clear hr h
  unfold AnsWm
  generalize trC xs = d at *
  generalize dgF lim = b1 at *
  generalize bsG bs = b2 at *
  obtain ⟨W0, hW0⟩ : ∃ W0, W0 = (w.alloc (Obj.cells #[.float .f64 lim] 24)).alloc (Obj.cells #[.float .f32 bs] 31) := ⟨_, rfl⟩
  have HW0 : Hid (W0 = (w.alloc (Obj.cells #[.float .f64 lim] 24)).alloc (Obj.cells #[.float .f32 bs] 31)) := hW0
  have HB0 : Hid (Below w.heap.size w W0) := by show Below _ _ _; rw [hW0]; exact chain (below_alloc _ _) (below_alloc _ _)
  have HC : Hid (∀ W, Below W0.heap.size W0 W → W.cell? ⟨w.heap.size, 0, none⟩ = some (.float .f64 lim) ∧ W.cell? ⟨w.heap.size + 1, 0, none⟩ = some (.float .f32 bs)) := fun W hb => by
    have g0 : W0.heap[w.heap.size]? = some (.cells #[.float .f64 lim] 24 (0, 0)) := by rw [hW0]; exact (Below.heap_alloc _ _ _ (by simp)).trans (heapNew _ _)
    have g1 : W0.heap[w.heap.size + 1]? = some (.cells #[.float .f32 bs] 31 (0, 0)) := by
      rw [hW0]
      have := heapNew (w.alloc (Obj.cells #[.float .f64 lim] 24)) (Obj.cells #[.float .f32 bs] 31)
      rwa [World.size_alloc] at this
    exact ⟨blkCell ((hb.block _ (blkLt g0)).trans g0) 0 _ rfl, blkCell ((hb.block _ (blkLt g1)).trans g1) 0 _ rfl⟩
  clear hW0
  go_enter Try.func12, Try.ntmps12
  go_upto_region 1 with fail
  rw [← HW0.out]
  go_wp2_with fail
  (first | go_at_call 33 | skip)
  refine (HT.out _ HB0.out).mono ?_
  rintro e w1 ⟨rfl, hb1⟩
  have H1 : Hid (Below W0.heap.size W0 w1) := hb1
  obtain ⟨c0, c1⟩ := HC.out w1 hb1
  clear hb1
  by_cases hd : d = 0
  · subst hd
    go_wp2_with fail
    (first | go_at_call 37 | skip)
    refine (HD.out _).mono ?_
    rintro e w2 ⟨rfl, hb2⟩
    have H2 : Hid (Below W0.heap.size W0 w2) := chain H1.out hb2
    clear hb2 c0 c1
    obtain ⟨c0, c1⟩ := HC.out w2 H2.out
    cases b1
    · obtain rfl : c = 1 := by
        rcases HH.out with h | h | h
        · exact absurd rfl h.1
        · exact h.2.2
        · exact absurd h.2.1 (by simp)
      go_wp2
      go_ret2
      exact ⟨rfl, chain HB0.out H2.out⟩
    · obtain ⟨hb2, rfl⟩ : b2 = false ∧ c = 1 := by
        rcases HH.out with h | h | h
        · exact absurd rfl h.1
        · exact absurd h.2.1 (by simp)
        · exact h.2.2
      subst hb2
      go_wp2_with fail
      (first | go_at_call 38 | skip)
      refine (HG.out _).mono ?_
      rintro e w3 ⟨rfl, hb3⟩
      go_wp2
      go_ret2
      exact ⟨rfl, chain HB0.out (chain H2.out hb3)⟩
  · obtain rfl : c = d := by
      rcases HH.out with h | h | h
      · exact h.2
      · exact absurd h.1 hd
      · exact absurd h.1 hd
    have hc : (c != 0) = true := by simp [hd]
    go_wp2
    go_ret2
    exact ⟨rfl, chain HB0.out H1.out⟩
set_option maxRecDepth 100000 in
set_option maxHeartbeats 16000000 in
theorem implWarm_right (a : Option Addr) (cap : Nat) (xs : List Nat) (lim bs : Nat) (h : trC xs = 0) (hlim : dgF lim = true) (hbs : bsG bs = true) (w : World) (hr : ReadsF w.heap.size w a xs) :
    Calls Try.prog 12 #[.slice a xs.length cap, .float .f64 lim, .float .f32 bs] w (AnsWm w (wmS lim bs (thT xs xs.length)) 0) := by
  obtain ⟨hlen, hok⟩ := trC_right h
  have HT : Hid (∀ W, Below w.heap.size w W → Calls Try.prog 33 #[.slice a xs.length cap] W fun e w' => e = .returned (.int .i64 0) ∧ Below W.heap.size W w') := fun W hb => by rw [← h]; exact traceFault_any a cap xs (by omega) W (hr.later hb)
  have HD : Hid (∀ W, Calls Try.prog 37 #[.float .f64 lim] W fun e w' => e = .returned (.bool true) ∧ Below W.heap.size W w') := fun W => by rw [← hlim]; exact degree_any lim W
  have HG : Hid (∀ W, Calls Try.prog 38 #[.float .f32 bs, .float .f32 1065353216, .float .f32 1082130432] W fun e w' => e = .returned (.bool true) ∧ Below W.heap.size W w') := fun W => by rw [← hbs]; exact withinG_any bs loG hiG W
  have HR : Hid (ReadsF w.heap.size w a xs) := hr
  clear hr h
  obtain ⟨W0, hW0⟩ : ∃ W0, W0 = (w.alloc (Obj.cells #[.float .f64 lim] 24)).alloc (Obj.cells #[.float .f32 bs] 31) := ⟨_, rfl⟩
  have HW0 : Hid (W0 = (w.alloc (Obj.cells #[.float .f64 lim] 24)).alloc (Obj.cells #[.float .f32 bs] 31)) := hW0
  have HB0 : Hid (Below w.heap.size w W0) := by show Below _ _ _; rw [hW0]; exact chain (below_alloc _ _) (below_alloc _ _)
  have g0 : W0.heap[w.heap.size]? = some (.cells #[.float .f64 lim] 24 (0, 0)) := by rw [hW0]; exact (Below.heap_alloc _ _ _ (by simp)).trans (heapNew _ _)
  have g1 : W0.heap[w.heap.size + 1]? = some (.cells #[.float .f32 bs] 31 (0, 0)) := by
    rw [hW0]
    have := heapNew (w.alloc (Obj.cells #[.float .f64 lim] 24)) (Obj.cells #[.float .f32 bs] 31)
    rwa [World.size_alloc] at this
  have HC : Hid (∀ W, Below W0.heap.size W0 W → W.heap[w.heap.size]? = some (.cells #[.float .f64 lim] 24 (0, 0)) ∧ W.heap[w.heap.size + 1]? = some (.cells #[.float .f32 bs] 31 (0, 0)) ∧ W.cell? ⟨w.heap.size, 0, none⟩ = some (.float .f64 lim) ∧ W.cell? ⟨w.heap.size + 1, 0, none⟩ = some (.float .f32 bs)) := fun W hb => by
    have k0 := (hb.block _ (blkLt g0)).trans g0
    have k1 := (hb.block _ (blkLt g1)).trans g1
    exact ⟨k0, k1, blkCell k0 0 _ rfl, blkCell k1 0 _ rfl⟩
  clear hW0 g0 g1
  refine (callsIn_wide (n := 9)).1 ?_
  refine callsIn_of_wp_marks Try.func12 rfl trivial ?_ rfl
  simp only [Try.ntmps12, List.size_toArray, List.length_cons, List.length_nil, Nat.reduceAdd, Nat.reduceSub, Array.replicate_succ, Array.replicate_zero, List.push_toArray, List.append_toArray, List.nil_append, List.cons_append]
  gi_wp2_with fail
  rw [← HW0.out]
  refine ⟨trivial, (callsIn_wide.2 (HT.out _ HB0.out)).mono ?_⟩
  rintro e w1 ⟨rfl, hb1⟩
  have H1 : Hid (Below W0.heap.size W0 w1) := hb1
  obtain ⟨_, _, c0, c1⟩ := HC.out w1 hb1
  clear hb1
  gi_wp2_with fail
  refine ⟨trivial, (callsIn_wide.2 (HD.out _)).mono ?_⟩
  rintro e w2 ⟨rfl, hb2⟩
  have H2 : Hid (Below W0.heap.size W0 w2) := chain H1.out hb2
  clear hb2 c0 c1
  obtain ⟨_, _, c0, c1⟩ := HC.out w2 H2.out
  gi_wp2_with fail
  refine ⟨trivial, (callsIn_wide.2 (HG.out _)).mono ?_⟩
  rintro e w3 ⟨rfl, hb3⟩
  have H3 : Hid (Below W0.heap.size W0 w3) := chain H2.out hb3
  clear hb3 c0 c1
  gi_wp2_with fail
  refine ⟨trivial, (callsIn_wide.2 (thereF_any _ _ _ _)).mono ?_⟩
  rintro e w5 ⟨rfl, hw5⟩
  obtain ⟨w4, hw4⟩ : ∃ w4, w4 = w3.alloc (Obj.cells #[.float .f32 0] 31) := ⟨_, rfl⟩
  have hz4 : w4.heap.size = w3.heap.size + 1 := by rw [hw4]; simp
  have hI4 : WmI w w3.heap.size lim bs 0 w4 := by
    obtain ⟨k0, k1, _, _⟩ := HC.out w3 H3.out
    rw [hw4]
    exact ⟨blkLt k1, (Below.heap_alloc _ _ _ (blkLt k0)).trans k0, (Below.heap_alloc _ _ _ (blkLt k1)).trans k1, heapNew _ _, chain (chain HB0.out H3.out) (below_alloc _ _)⟩
  rw [← hw4] at hw5 ⊢
  have hI5 : WmI w w3.heap.size lim bs 0 w5 := by rw [hw5]; exact hI4.later (below_alloc _ _)
  have hl5 : w5.heap[w3.heap.size + 1]? = some (.cells #[.slice a xs.length cap] 23 (0, 0)) := by
    rw [hw5]
    have := heapNew w4 (Obj.cells #[.slice a xs.length cap] 23)
    rwa [hz4] at this
  rw [hz4]
  have hz5 : w5.heap.size = w3.heap.size + 1 + 1 := by rw [hw5]; simp [hz4]
  clear hw5 hw4 hI4 H1 H2 H3
  gi_wp2_with fail
  have hlow := hI5.low
  generalize w3.heap.size = D at *
  refine wpIn_rangeFunc_ownG rfl (by decide) (gf := 54) (lb := #[.pointer (some ⟨D + 1, 0, none⟩)]) rfl trivial (enters_of Try.func54 (by kernel_rfl) rfl)
    (there1_stops (9 - 1) (D + 1) w.heap.size a cap xs (by omega) hok w5 (by omega) hl5 (HR.out.below hI5.bel)) (fun h k => h.trans k) (Kp1.put (by omega) (by omega)) (Below.refl _ _) (fun _ => rfl)
    (fun pre W => WmI w D lim bs (wmS lim bs pre) W)
    (fun _ _ _ => False)
    (fun pre A B row hs hg hr => hs.kept (by omega) hg hr)
    (fun _ _ _ _ _ hs _ _ => hs)
    hI5
    ?a1 ?assign ?body ?done ?stop
  case assign =>
    intro l x W K hK
    gi_wp2
    exact hK
  case body =>
    rintro l pre x W hI hlt
    have HF0 : Hid (∀ W', WmI w D lim bs (wmN lim bs (wmS lim bs pre) x.1.2) W' → WmI w D lim bs (wmS lim bs (pre ++ [x])) W') := fun W' h => by
      rw [wmS_snoc]
      exact h
    have hG := o_gt x.1.2 lim
    have q0 := blkCell hI.bl 0 _ rfl
    have q1 := blkCell hI.bb 0 _ rfl
    have q2 := blkCell hI.bm 0 _ rfl
    have f2 := blkFree hI.bm 0
    simp only [List.getElem_toArray, List.getElem_cons_zero] at q0 q1 q2
    have hD : w.heap.size + 1 < D := hI.low
    unfold wmN at HF0
    by_cases hb : ltF lim x.1.2 = true
    · obtain ⟨e1, e2, e3, e4⟩ := wm_step hlim hbs (wmS_nonneg hlim hbs pre) x.2.2 hb
      have r1 := fun t W => run_float_arith (P := Try.prog) W .sub t .f64 _ _ _ e1
      have r2 := fun W => run_convert_float_float (P := Try.prog) W 24 31 .f64 .f32 _ _ (by rw [Try.underlying24]; rfl) Try.underlying31 e2
      have r3 := fun t W => run_float_arith (P := Try.prog) W .mul t .f32 _ _ _ e3
      have r4 := fun t W => run_float_arith (P := Try.prog) W .add t .f32 _ _ _ e4
      rw [if_pos hb] at HF0
      rw [hb] at hG
      clear e1 e2 e3 e4 hb
      generalize gadd (wmS lim bs pre) (gmul (toG (fsub x.1.2 lim)) bs) = s4 at *
      generalize gmul (toG (fsub x.1.2 lim)) bs = s3 at *
      generalize toG (fsub x.1.2 lim) = s2 at *
      generalize fsub x.1.2 lim = s1 at *
      generalize wmS lim bs pre = m at *
      generalize x.1.2 = xv at *
      have HF := HF0.out _ (hI.set s4)
      clear HF0
      gi_wp2
      exact ⟨(KeepsOthers.setCell _ _ _).from _, (Kp1.refl _ _ _).set (b := D) (by omega) (by omega) 0 _, HF⟩
    · rw [if_neg hb] at HF0
      have hb' : ltF lim x.1.2 = false := by simpa using hb
      rw [hb'] at hG
      clear hb hb'
      generalize wmS lim bs pre = m at *
      generalize x.1.2 = xv at *
      have HF := HF0.out _ hI
      clear HF0
      gi_wp2
      exact ⟨(KeepsOthers.refl _).from _, Kp1.refl _ _ _, HF⟩
  case done =>
    rintro F ys W hF rfl hI hK
    have q2 := blkCell hI.bm 0 _ rfl
    simp only [List.getElem_toArray, List.getElem_cons_zero] at q2
    have hbel := hI.bel
    generalize wmS lim bs (thT xs xs.length) = m at *
    gi_wp2
    refine ⟨by simp, .inl ⟨_, _, rfl, run_takeDeferred hK, ?_⟩⟩
    exact ⟨_, results_tmp2 rfl _ _ _, rfl, hbel.trans (belowK_b (w := w) (Nat.le_refl _) _ F _ _ (by omega) hK rfl rfl)⟩
  case stop =>
    rintro F c pre W _ _ h _
    exact h.elim
theorem implWarm_any (a : Option Addr) (cap : Nat) (xs : List Nat) (lim bs : Nat) (hl : xs.length ≤ 100000000) (w : World) (hr : ReadsF w.heap.size w a xs) :
    Calls Try.prog 12 #[.slice a xs.length cap, .float .f64 lim, .float .f32 bs] w (AnsWm w (wmA xs lim bs) (wmC xs lim bs)) := by
  rcases warm_ways xs lim bs with ⟨h1, h2, h3⟩ | ⟨h1, h2, h3, h4⟩ | ⟨h1, h2, h3, h4, h5⟩ | ⟨h1, h2, h3, h4, h5⟩
  · rw [h2, h3]; exact implWarm_bad a cap xs lim bs hl w hr _ (.inl ⟨h1, rfl⟩)
  · rw [h3, h4]; exact implWarm_bad a cap xs lim bs hl w hr _ (.inr (.inl ⟨h1, h2, rfl⟩))
  · rw [h4, h5]; exact implWarm_bad a cap xs lim bs hl w hr _ (.inr (.inr ⟨h1, h2, h3, rfl⟩))
  · rw [h4, h5]; exact implWarm_right a cap xs lim bs h1 h2 h3 w hr
end Go.Proofs.Ytillkllkekhmfaa
