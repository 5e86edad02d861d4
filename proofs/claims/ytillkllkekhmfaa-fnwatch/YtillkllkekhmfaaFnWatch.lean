/-
  For every list of bytes the law FnWatch answers true: of a drawn trace the program's watch counts as the specification's, no number lies outside of its least and most, both are among the numbers, the trace turned round tells the same, and there are warm minutes just where the most is above the limit; with no condition.
-/
import Derived.Test.YtillkllkekhmfaaWtF
import Derived.Test.YtillkllkekhmfaaFlF
import Derived.Test.YtillkllkekhmfaaFlX
import Derived.BigQuiet
namespace Go.Proofs.Ytillkllkekhmfaa
open Go.ChangeShapes Go.WideShapes Go.ChangeAt Go.RowKit Go.Joins Go.Deep
set_option linter.unusedVariables false
attribute [local go_sem] run_store_float
namespace FnWatch
theorem w5_cells {W : World} {b : Nat} {v0 v1 v2 v3 v4 : Value} {t : TypeId} (h : W.heap[b]? = some (.cells #[v0, v1, v2, v3, v4] t (0, 0))) :
    W.cell? ⟨b, 0, none⟩ = some v0 ∧ W.cell? ⟨b, 1, none⟩ = some v1 ∧ W.cell? ⟨b, 2, none⟩ = some v2 ∧ W.cell? ⟨b, 3, none⟩ = some v3 ∧ W.cell? ⟨b, 4, none⟩ = some v4 :=
  ⟨blkCell h 0 _ rfl, blkCell h 1 _ rfl, blkCell h 2 _ rfl, blkCell h 3 _ rfl, blkCell h 4 _ rfl⟩
/-- What the law reads, and the row that it turns round into. -/
structure Wl (w V : World) (v : Value) (M : List Nat) (wr : World) : Prop where
  low : Below w.heap.size w wr
  ap : ∀ k, k < V.heap.size → wr.heap[k]? = V.heap[k]?
  sz : V.heap.size ≤ wr.heap.size
  wv : w.heap.size ≤ V.heap.size
  row : wr.ownsRow V.heap.size 24 1 v M.length (M.map fV)
theorem Wl.start {w V : World} (h : Below w.heap.size w V) : Wl w V (.slice (some ⟨V.heap.size, 0, none⟩) 0 0) [] (V.alloc (Obj.cells #[] 24)) :=
  ⟨chain h (below_alloc _ _), fun k hk => Below.heap_alloc _ _ _ hk, by simp, h.size, ⟨rfl, .inr ⟨V.heap.size, 0, #[], rfl, Nat.le_refl _, heapNew V _, Nat.le_refl _, by unfold maxLen; omega, rfl, rfl⟩⟩⟩
theorem Wl.later {w V : World} {v : Value} {M : List Nat} {wr w' : World} (h : Wl w V v M wr) (hb : Below wr.heap.size wr w') : Wl w V v M w' := by
  have hz := h.sz
  exact ⟨chain h.low hb, fun k hk => (hb.block k (by omega)).trans (h.ap k hk), Nat.le_trans hz hb.size, h.wv, ownsRow_sameW h.row (fun k hk => hb.block k (h.row.lt k hk).2)⟩
theorem Wl.push {w V : World} {v : Value} {M : List Nat} {wr w' : World} {x g c : Nat} (h : Wl w V v M wr) (ho : w'.ownsRow V.heap.size 24 1 (.slice (some ⟨g, 0, none⟩) (M.length + 1) c) (M.length + 1) (M.map fV ++ [.float .f64 x])) (hg : wr.grownBy w' v.ownBlock) : Wl w V (.slice (some ⟨g, 0, none⟩) (M.length + 1) c) (M ++ [x]) w' := by
  have hz := h.sz
  have hwv := h.wv
  exact ⟨h.low.grown hg (by omega) (fun k e => by have := (h.row.lt k e).1; omega), fun k hk => (hg.block k (by omega) (fun e => by have := (h.row.lt k e.symm).1; omega)).trans (h.ap k hk), Nat.le_trans hz hg.size, hwv, by rw [List.length_append, List.map_append]; exact ho⟩
theorem Wl.reads {w V : World} {g n c : Nat} {M : List Nat} {wr : World} (h : Wl w V (.slice (some ⟨g, 0, none⟩) n c) M wr) (hn : n = M.length) : ReadsF wr.heap.size wr (some ⟨g, 0, none⟩) M := by
  subst hn
  exact .inr ⟨g, 0, rfl, (h.row.lt g rfl).2, fun i hi => by
    rw [Nat.zero_add, h.row.cellAt _ (by omega)]
    simp [fV, List.getD_eq_getElem?_getD, hi]⟩
theorem cnt_snoc (v : Nat) (xs : List Nat) (x : Nat) : cnt v (xs ++ [x]) = cnt v xs + (if eqF x v = true then 1 else 0) := by
  unfold cnt
  rw [List.countP_append]
  simp [List.countP_cons]
theorem cnt_le (v : Nat) (xs : List Nat) : cnt v xs ≤ xs.length := List.countP_le_length
set_option maxHeartbeats 16000000 in
set_option maxRecDepth 8000 in
theorem walk (a0 : Option Addr) (len0 cap0 : Nat) (z0 : List Int) (w : World) (r0 : RowB w.heap.size w a0 len0 z0) :
    Calls Try.prog 3 #[.slice a0 len0 cap0] w fun e w' => e = .returned (.bool true) ∧ Below w.heap.size w w' := by
  by_cases hbig : (1048576 : Int) < (len0 : Int)
  · clear r0
    go_enter Try.func3, Try.ntmps3
    go_wp2
    go_ret
    exact ⟨rfl, Below.refl _ _⟩
  have hT := TraceOf_any a0 len0 cap0 z0 w r0
  clear r0
  unfold PostTraceOf at hT
  go_enter Try.func3, Try.ntmps3
  go_wp2_with fail
  (first | go_at_call 9 | skip)
  refine hT.mono ?_
  rintro e w1 ⟨L, g, cp, hi, lo, hold, rfl, hlL, hdL, hhi, hhold, hcp, hg1, hfl, hb1⟩
  have B1 : Hid (Below w.heap.size w w1) := hb1
  have F1 : Hid (g < w1.heap.size ∧ FltsAt w1 g 0 L) := ⟨hg1, hfl⟩
  have HRd : Hid (∀ W, Below w1.heap.size w1 W → ReadsF W.heap.size W (some ⟨g, 0, none⟩) L) := fun W hb => .inr ⟨g, 0, rfl, Nat.lt_of_lt_of_le hg1 hb.size, hfl.below hb hg1⟩
  have HI : Hid (∀ W, Below w1.heap.size w1 W → Calls Try.prog 10 #[.slice (some ⟨g, 0, none⟩) L.length cp] W (AnsWt W (wtA L))) := fun W hb => implWatch_any _ _ L (by omega) W (HRd.out W hb)
  have HS : Hid (∀ W, Below w1.heap.size w1 W → Calls Try.prog 11 #[.slice (some ⟨g, 0, none⟩) L.length cp] W (AnsWt W (wtA L))) := fun W hb => specWatch_any _ _ L (by omega) W (HRd.out W hb)
  have HRev : Hid (∀ W a c, ReadsF W.heap.size W a L.reverse → Calls Try.prog 10 #[.slice a L.length c] W (AnsWt W (wtA L.reverse))) := fun W a c hr => by
    have := implWatch_any a c L.reverse (by simp; omega) W hr
    rwa [List.length_reverse] at this
  have HWm : Hid (∀ W lim bs, ReadsF W.heap.size W (some ⟨g, 0, none⟩) L → Calls Try.prog 12 #[.slice (some ⟨g, 0, none⟩) L.length cp, .float .f64 lim, .float .f32 bs] W (AnsWm W (wmA L lim bs) (wmC L lim bs))) := fun W lim bs hb => implWarm_any _ _ L lim bs (by omega) W hb
  have hF := facts hlL hdL hhi
  have HF : Hid (wtA L = ⟨0, 0, 0, 0, 0, 8⟩ ∨ WF L hi (wtA L) (wtA L.reverse)) := hF
  clear hT hb1 hg1 hfl hdL hhi hF HRd
  unfold AnsWt at HI HS HRev
  unfold AnsWm at HWm
  generalize wtA L = t at *
  generalize wtA L.reverse = u at *
  obtain ⟨tn, tg, tm, tlo, thi, tc⟩ := t
  obtain ⟨un, ug, um, ulo, uhi, uc⟩ := u
  dsimp only at HI HS HRev
  have hcc : ∀ x : Int, (x != x) = false := fun x => by simp
  have hcc1 := hcc tc
  have hcc2 := hcc tn
  have hcc3 := hcc tg
  clear hcc
  go_wp2_with fail
  (first | go_at_call 10 | skip)
  refine (HI.out w1 (Below.refl _ _)).mono ?_
  rintro e w2 ⟨rfl, hb2⟩
  have B2 : Hid (Below w1.heap.size w1 w2) := hb2
  clear hb2 HI
  go_upto_region 5 with fail
  have n3 := heapNew w2 (Obj.cells #[.int .i64 tn, .int .i64 tg, .float .f64 tm, .float .f64 tlo, .float .f64 thi] 28)
  have b3 := below_alloc w2 (Obj.cells #[.int .i64 tn, .int .i64 tg, .float .f64 tm, .float .f64 tlo, .float .f64 thi] 28)
  generalize w2.alloc (Obj.cells #[.int .i64 tn, .int .i64 tg, .float .f64 tm, .float .f64 tlo, .float .f64 thi] 28) = w3 at *
  have B3 : Hid (Below w1.heap.size w1 w3) := chain B2.out b3
  have N3 : Hid (w3.heap[w2.heap.size]? = some (.cells #[.int .i64 tn, .int .i64 tg, .float .f64 tm, .float .f64 tlo, .float .f64 thi] 28 (0, 0))) := n3
  clear n3 b3 B2
  generalize w2.heap.size = p7 at *
  go_wp2_with fail
  (first | go_at_call 11 | skip)
  refine (HS.out w3 B3.out).mono ?_
  rintro e w4 ⟨rfl, hb4⟩
  have B4 : Hid (Below w1.heap.size w1 w4) := chain B3.out hb4
  have N4 : Hid (w4.heap[p7]? = some (.cells #[.int .i64 tn, .int .i64 tg, .float .f64 tm, .float .f64 tlo, .float .f64 thi] 28 (0, 0))) := (hb4.block _ (blkLt N3.out)).trans N3.out
  clear hb4 B3 N3 HS
  go_upto_region 6 with fail
  have n5 := heapNew w4 (Obj.cells #[.int .i64 tn, .int .i64 tg, .float .f64 tm, .float .f64 tlo, .float .f64 thi] 28)
  have b5 := below_alloc w4 (Obj.cells #[.int .i64 tn, .int .i64 tg, .float .f64 tm, .float .f64 tlo, .float .f64 thi] 28)
  have q5 := (b5.block _ (blkLt N4.out)).trans N4.out
  generalize w4.alloc (Obj.cells #[.int .i64 tn, .int .i64 tg, .float .f64 tm, .float .f64 tlo, .float .f64 thi] 28) = w5 at *
  have B5 : Hid (Below w1.heap.size w1 w5) := chain B4.out b5
  have N5 : Hid (w5.heap[p7]? = some (.cells #[.int .i64 tn, .int .i64 tg, .float .f64 tm, .float .f64 tlo, .float .f64 thi] 28 (0, 0)) ∧ w5.heap[w4.heap.size]? = some (.cells #[.int .i64 tn, .int .i64 tg, .float .f64 tm, .float .f64 tlo, .float .f64 thi] 28 (0, 0))) := ⟨q5, n5⟩
  clear n5 b5 q5 B4 N4
  generalize w4.heap.size = p9 at *
  obtain ⟨x0, x1, x2, x3, x4⟩ := w5_cells N5.out.1
  obtain ⟨y0, y1, y2, y3, y4⟩ := w5_cells N5.out.2
  go_upto_region 8 with fail
  clear x0 x1 x2 x3 x4 y0 y1 y2 y3 y4
  rcases HF.out with h8 | hW
  · injection h8 with e1 e2 e3 e4 e5 e6
    subst e6
    clear HF
    go_wp2
    go_ret
    exact ⟨rfl, chain B1.out B5.out⟩
  clear HF
  have hWc := hW.c
  dsimp only at hWc
  subst hWc
  have HW : Hid (WF L hi ⟨tn, tg, tm, tlo, thi, 0⟩ ⟨un, ug, um, ulo, uhi, uc⟩) := hW
  clear hW
  go_upto_region 11 with fail
  have hS0 : Wl w w5 (.slice (some ⟨w5.heap.size, 0, none⟩) 0 0) [] (w5.alloc (Obj.cells #[] 24)) := Wl.start (chain B1.out B5.out)
  generalize w5.alloc (Obj.cells #[] 24) = w6 at *
  have S0 : Hid (Wl w w5 (.slice (some ⟨w5.heap.size, 0, none⟩) 0 0) [] w6) := hS0
  clear hS0
  have HFl : Hid (∀ (W : World) (i : Nat), (∀ k, k < w5.heap.size → W.heap[k]? = w5.heap[k]?) → i < L.length → W.cell? ⟨g, i, none⟩ = some (.float .f64 (L.getD i 0))) := fun W i hb hi => by
    have h1 : g < w5.heap.size := Nat.lt_of_lt_of_le F1.out.1 B5.out.size
    have h2 := F1.out.2 i hi
    rw [Nat.zero_add] at h2
    rw [World.cell?_of_block (w := w1) (a := ⟨g, i, none⟩) ((hb g h1).trans (B5.out.block g F1.out.1))]
    exact h2
  have hw0 : IntKind.i64.wrap ((L.length : Int) - 1) = (L.length : Int) - 1 := wrap_id _ (by omega) (by omega)
  go_wp2_with fail
  go_loopw [11, 12, 13, 14] (fun v c1 c2 iv wr => ∃ (M : List Nat) (gb cb : Nat), v = .slice (some ⟨gb, 0, none⟩) M.length cb ∧ M.length ≤ L.length ∧ M = L.reverse.take M.length ∧ c1 = .int .i64 ((cnt tlo M : Nat) : Int) ∧ c2 = .int .i64 ((cnt thi M : Nat) : Int) ∧ iv = .int .i64 ((L.length : Int) - 1 - (M.length : Int)) ∧ Wl w w5 (.slice (some ⟨gb, 0, none⟩) M.length cb) M wr) (fun _ _ _ iv _ => (intOf iv + 1).toNat)
  case atStart => exact ⟨[], w5.heap.size, 0, rfl, Nat.zero_le _, rfl, rfl, rfl, by simp, S0.out⟩
  case round =>
    clear S0
    obtain ⟨M, gb, cb, rfl, hk, hM, rfl, rfl, rfl, hS⟩ := hrel
    have HM : Hid (M = L.reverse.take M.length) := hM
    have HS6 : Hid (Wl w w5 (.slice (some ⟨gb, 0, none⟩) M.length cb) M wr) := hS
    clear hM hS
    by_cases hc : M.length < L.length
    · obtain ⟨j, hj, hjk⟩ : ∃ j : Nat, (L.length : Int) - 1 - (M.length : Int) = (j : Int) ∧ j + 1 + M.length = L.length := ⟨L.length - 1 - M.length, by omega, by omega⟩
      rw [hj]
      have HJ : Hid ((L.length : Int) - 1 - (M.length : Int) = (j : Int)) := hj
      have hjl : j < L.length := by omega
      have hwj : IntKind.i64.wrap ((j : Int) - 1) = (j : Int) - 1 := wrap_id _ (by omega) (by omega)
      have hjL : (j : Int) < (L.length : Int) := by omega
      have HMn : Hid (M ++ [L.getD j 0] = L.reverse.take (M.length + 1)) := by
        refine (show _ = _ from ?_)
        have h1 : M.length < L.reverse.length := by rw [List.length_reverse]; exact hc
        rw [List.take_succ_eq_append_getElem h1, ← HM.out]
        congr 2
        rw [List.getElem_reverse]
        simp [List.getD_eq_getElem?_getD, hjl, show L.length - 1 - M.length = j by omega]
      obtain ⟨en1, en2⟩ := HW.out.ends j hjl
      dsimp only at en1 en2
      have cx := HFl.out wr j HS6.out.ap hjl
      have HCx : Hid (∀ W : World, (∀ k, k < w5.heap.size → W.heap[k]? = w5.heap[k]?) → W.cell? ⟨g, j, none⟩ = some (.float .f64 (L.getD j 0)) ∧ W.cell? ⟨p7, 3, none⟩ = some (.float .f64 tlo) ∧ W.cell? ⟨p7, 4, none⟩ = some (.float .f64 thi)) := fun W hb => by
        have q := w5_cells ((hb p7 (blkLt N5.out.1)).trans N5.out.1)
        exact ⟨HFl.out W j hb hjl, q.2.2.2.1, q.2.2.2.2⟩
      clear hj
      generalize L.getD j 0 = x at *
      have o1 : ((FloatKind.format .f64).order x tlo == some .lt) = false := by rw [o_lt, en1]
      have o2 : ((FloatKind.format .f64).order x thi == some .gt) = false := by rw [o_gt, en2]
      have o3 := o_eq x tlo
      have o4 := o_eq x thi
      have HK1 : Hid (cnt tlo (M ++ [x]) = cnt tlo M + (if eqF x tlo = true then 1 else 0)) := cnt_snoc tlo M x
      have HK2 : Hid (cnt thi (M ++ [x]) = cnt thi M + (if eqF x thi = true then 1 else 0)) := cnt_snoc thi M x
      have hl1 := cnt_le tlo M
      have hl2 := cnt_le thi M
      have hwc1 : IntKind.i64.wrap (((cnt tlo M : Nat) : Int) + 1) = ((cnt tlo M : Nat) : Int) + 1 := wrap_id _ (by omega) (by omega)
      have hwc2 : IntKind.i64.wrap (((cnt thi M : Nat) : Int) + 1) = ((cnt thi M : Nat) : Int) + 1 := wrap_id _ (by omega) (by omega)
      clear en1 en2 hl1 hl2
      have HLen : Hid ((M ++ [x]).length = M.length + 1) := by show _ = _; simp
      obtain ⟨i0, hi0', hzz⟩ := Option.map_eq_some_iff.1 flInfo2
      simp only [Prod.mk.injEq] at hzz
      obtain ⟨hz0, hz1, hz2⟩ := hzz
      have HS7 : Hid (Wl w w5 (.slice (some ⟨gb, 0, none⟩) M.length cb) M (wr.alloc (Obj.cells #[.float .f64 x] 24))) := HS6.out.later (below_alloc _ _)
      have HNw : Hid (∀ j u, [Value.float .f64 x][j]? = some u → (wr.alloc (Obj.cells #[.float .f64 x] 24)).cell? ((⟨wr.heap.size, 0, none⟩ : Addr).add j) = some u) := World.news_of_block (heapNew wr (Obj.cells #[.float .f64 x] 24))
      have HZb : Hid (w5.heap.size ≤ (wr.alloc (Obj.cells #[.float .f64 x] 24)).heap.size) := HS7.out.sz
      clear HS6
      generalize hb1 : eqF x tlo = e1 at *
      generalize hb2 : eqF x thi = e2 at *
      clear hb1 hb2
      go_wp2_with (at_builtin; refine wpList_append_lies _ rfl _ _ 23 rfl w5.heap.size 24 i0 (.float .f64 0) 1 8 Try.underlying23 hi0' hz0 hz1 hz2 rfl (by decide) _ _ _ rfl HS7.out.row ⟨wr.heap.size, 0, none⟩ 1 1 [.float .f64 x] rfl rfl HNw.out (by intro u hu; simp at hu; rcases hu with rfl; rfl) (by omega) (by unfold maxLen; omega) (by omega) HZb.out _ rfl ?_; intro g1' cp1 w7 hown1 hgrow1 hat1 hglt1; have HS8 : Hid (Wl w w5 (.slice (some ⟨g1', 0, none⟩) (M.length + 1) cp1) (M ++ [x]) w7) := HS7.out.push hown1 hgrow1; clear hown1 hgrow1 hat1)
      clear cx HS7 HNw HZb hz0 hz1 hz2 hi0'
      obtain ⟨cx, cl, ch⟩ := HCx.out w7 HS8.out.ap
      go_quiet (fail)
      go_upto_region 19 with fail
      have HS9 : Hid (Wl w w5 (.slice (some ⟨g1', 0, none⟩) (M.length + 1) cp1) (M ++ [x]) (w7.drewN nq)) := HS8.out.later (below_drewN (Below.refl _ _) _)
      generalize w7.drewN nq = w8 at *
      clear cx cl ch HS8 o1 o2
      obtain ⟨cx, cl, ch⟩ := HCx.out w8 HS9.out.ap
      cases e1 <;> cases e2
      all_goals
        go_quiet (fail)
        go_upto_region 21 with fail
        have HS10 : Hid (Wl w w5 (.slice (some ⟨g1', 0, none⟩) (M.length + 1) cp1) (M ++ [x]) (w8.drewN nq)) := HS9.out.later (below_drewN (Below.refl _ _) _)
        generalize w8.drewN nq = w9 at *
        clear cx cl ch HS9
        obtain ⟨cx, cl, ch⟩ := HCx.out w9 HS10.out.ap
        go_quiet (fail)
        go_wp2_with fail
        have HS11 : Hid (Wl w w5 (.slice (some ⟨g1', 0, none⟩) (M.length + 1) cp1) (M ++ [x]) (w9.drewN nq)) := HS10.out.later (below_drewN (Below.refl _ _) _)
        generalize w9.drewN nq = w10 at *
        clear cx cl ch HS10
        go_roundw
        case rel => exact ⟨M ++ [x], g1', cp1, by rw [HLen.out], by rw [HLen.out]; omega, by rw [HLen.out]; exact HMn.out, congrArg (Value.int .i64) (by rw [HK1.out]; simp), congrArg (Value.int .i64) (by rw [HK2.out]; simp), congrArg (Value.int .i64) (by rw [HLen.out]; have := HJ.out; omega), by rw [HLen.out]; exact HS11.out⟩
        case measure => first | (simp [intOf]; done) | (simp [intOf]; omega)
    · have hk2 : M.length = L.length := by omega
      have hM2 : M = L.reverse := by
        have := HM.out
        rw [hk2, List.take_of_length_le (by simp)] at this
        exact this
      subst hM2
      clear HM hc hk hk2
      simp only [List.length_reverse] at HS6 ⊢
      have hm1 : ¬ ((0 : Int) ≤ (L.length : Int) - 1 - (L.length : Int)) := by omega
      have hm2 : (L.length : Int) - 1 - (L.length : Int) < 0 := by omega
      have hcl1 : cnt tlo L.reverse = cnt tlo L := by unfold cnt; rw [List.countP_reverse]
      have hcl2 : cnt thi L.reverse = cnt thi L := by unfold cnt; rw [List.countP_reverse]
      rw [hcl1, hcl2]
      clear hcl1 hcl2
      generalize (L.length : Int) - 1 - (L.length : Int) = iv at *
      have hp1 := HW.out.least
      have hp2 := HW.out.most
      dsimp only at hp1 hp2
      obtain ⟨cu, el, eh, en, eall, emean⟩ := (show uc = 0 ∧ eqF ulo tlo = true ∧ eqF uhi thi = true ∧ un = tn ∧ tn + tg = (L.length : Int) ∧ eqF tm tm = true from ⟨HW.out.c', HW.out.el, HW.out.eh, HW.out.n, HW.out.all, HW.out.mean⟩)
      subst cu en
      have z1 : (((cnt tlo L : Nat) : Int) == 0) = false := by simp; omega
      have z2 : (((cnt thi L : Nat) : Int) == 0) = false := by simp; omega
      have o1 : ((FloatKind.format .f64).order ulo tlo != some .eq) = false := by rw [o_ne, el]; rfl
      have o2 : ((FloatKind.format .f64).order uhi thi != some .eq) = false := by rw [o_ne, eh]; rfl
      have o3 : ((FloatKind.format .f64).order tm tm != some .eq) = false := by rw [o_ne, emean]; rfl
      have hw9 : IntKind.i64.wrap (un + tg) = un + tg := wrap_id _ (by omega) (by omega)
      have hw10 : ((un + tg) != (L.length : Int)) = false := by simp; omega
      generalize cnt tlo L = k1 at *
      generalize cnt thi L = k2 at *
      have HRr := HS6.out.reads (by simp)
      clear el eh emean hp1 hp2
      go_wp2_with fail
      (first | go_at_call 10 | skip)
      refine (HRev.out wr _ cb HRr).mono ?_
      rintro e w12 ⟨rfl, hb12⟩
      go_upto_region 24 with fail
      have n13 := heapNew w12 (Obj.cells #[.int .i64 un, .int .i64 ug, .float .f64 um, .float .f64 ulo, .float .f64 uhi] 28)
      have b13 := below_alloc w12 (Obj.cells #[.int .i64 un, .int .i64 ug, .float .f64 um, .float .f64 ulo, .float .f64 uhi] 28)
      have S13 : Hid (Wl w w5 (.slice (some ⟨gb, 0, none⟩) L.length cb) L.reverse (w12.alloc (Obj.cells #[.int .i64 un, .int .i64 ug, .float .f64 um, .float .f64 ulo, .float .f64 uhi] 28))) := HS6.out.later (chain hb12 b13)
      generalize w12.alloc (Obj.cells #[.int .i64 un, .int .i64 ug, .float .f64 um, .float .f64 ulo, .float .f64 uhi] 28) = w13 at *
      generalize w12.heap.size = p15 at *
      obtain ⟨x0, x1, x2, x3, x4⟩ := w5_cells n13
      obtain ⟨y0, y1, y2, y3, y4⟩ := w5_cells ((S13.out.ap p7 (blkLt N5.out.1)).trans N5.out.1)
      obtain ⟨v0, v1, v2, v3, v4⟩ := w5_cells ((S13.out.ap p9 (blkLt N5.out.2)).trans N5.out.2)
      clear n13 b13 hb12 HRr HS6
      go_upto_region 26 with fail
      clear x0 x1 x2 x3 x4 y0 y1 y2 y3 y4 v0 v1 v2 v3 v4
      have HRL : Hid (∀ W : World, (∀ k, k < w5.heap.size → W.heap[k]? = w5.heap[k]?) → w5.heap.size ≤ W.heap.size → ReadsF W.heap.size W (some ⟨g, 0, none⟩) L) := fun W hb hz => .inr ⟨g, 0, rfl, Nat.lt_of_lt_of_le F1.out.1 (Nat.le_trans B5.out.size hz), fun i hi => by rw [Nat.zero_add]; exact HFl.out W i hb hi⟩
      go_wp2_with fail
      (first | go_at_call 12 | skip)
      refine (HWm.out w13 hi 1065353216 (HRL.out w13 S13.out.ap S13.out.sz)).mono ?_
      rintro e w14 ⟨rfl, hb14⟩
      have S14 : Hid (Wl w w5 (.slice (some ⟨gb, 0, none⟩) L.length cb) L.reverse w14) := S13.out.later hb14
      clear hb14 S13
      have f1 : wmC L hi 1065353216 = 0 := HW.out.wc
      have f2 : ((FloatKind.format .f32).order (wmA L hi 1065353216) 0 == some .lt) = false := HW.out.wlt
      have f3 : ((FloatKind.format .f32).order (wmA L hi 1065353216) 0 == some .gt) = ltF hi thi := HW.out.wgt
      have f4 : wmC L thi 1073741824 = 0 := HW.out.vc
      have f5 : wmA L thi 1073741824 = 0 := HW.out.v0
      have f6 := o_gt thi hi
      have f7 := zero_eq32
      rw [f1]
      generalize wmA L hi 1065353216 = wm at *
      generalize ltF hi thi = bb at *
      clear f1
      obtain ⟨y0, y1, y2, y3, y4⟩ := w5_cells ((S14.out.ap p7 (blkLt N5.out.1)).trans N5.out.1)
      cases bb
      all_goals
        go_upto_region 29 with fail
        go_wp2_with fail
        (first | go_at_call 12 | skip)
        refine (HWm.out w14 thi 1073741824 (HRL.out w14 S14.out.ap S14.out.sz)).mono ?_
        rintro e w15 ⟨rfl, hb15⟩
        have S15 : Hid (Wl w w5 (.slice (some ⟨gb, 0, none⟩) L.length cb) L.reverse w15) := S14.out.later hb15
        clear hb15 S14 y0 y1 y2 y3 y4
        rw [f4, f5]
        go_wp2
        go_ret
        exact ⟨rfl, S15.out.low⟩

theorem own : ownKnob Try.prog.godebug = none := by kernel_rfl
theorem laidOut : laidOutB Try.prog = true := by kernel_rfl

set_option maxRecDepth 100000 in
theorem lifted (os : Os) (started : os.Started) (H : Type) (enc : TypeId × Value → H) :
    ReturnsInHanded {} Try.checked os 3 .any (Rows.fnWatchSpec.pre6 enc Try.prog Try.f3 Rows.fnWatchRow.domain false) (Rows.fnWatchSpec.post enc Try.prog Try.f3 false true false false) := by
  refine returnsInHanded_of_change (C := Try.checked) own started (by kernel_rfl) Try.func3
    (ChangeSpec.witness6 (enc := enc) (C := Try.checked) false ⟨#[], #[.slice none 0 0], []⟩ 8 (by kernel_rfl) (by kernel_rfl) (by kernel_rfl) (by kernel_rfl)) ?_
  intro W base args ds gs before hval0 hW hcnd _
  have hval : ∀ (j : Nat) t v, Try.f3.params[j]? = some t → args[j]? = some v → Value.okWide Try.prog W .any base t v := hval0
  have hW' := hW
  obtain ⟨p, q, hA0, hV, rfl, hfz, hnd⟩ := hW
  have hA : DataW.TrodAll enc Try.prog W 0 (fun _ => true) true Try.f3.params.toList args.toList ds p := hA0
  rw [Try.params3] at hA hval
  obtain ⟨v0, vs0, d0, ds0, p0, q0, hargs, rfl, rfl, h0, r0⟩ := trodAll_cons hA
  obtain ⟨rfl, rfl, rfl⟩ := trodAll_nil r0
  obtain rfl : args = #[v0] := by cases args; simp_all
  obtain ⟨rfl, rfl⟩ := trodVars_none hV
  have k0 := h0
  have lt0 : ∀ x ∈ p0, x.block < W.heap.size := by obtain ⟨m, hm⟩ := k0; exact DataW.trod_lt m _ _ _ hm
  obtain ⟨a0, len0, cap0, rfl⟩ := okWide_slice Try.underlying22 (hval 0 22 v0 rfl rfl)
  obtain ⟨z0, w0⟩ : ∃ zs, IsRow .u8 W a0 len0 cap0 zs := by
    obtain ⟨fuel, hf⟩ := h0
    rcases open_ints Try.underlying22 Try.underlying5 (by kernel_rfl) hf with ⟨hcs, _⟩ | ⟨x, l, c, zs, hcs, _, hl, hm, hz, _, hcell, hwz⟩
    · simp [Value.cells] at hcs
      obtain ⟨rfl, rfl, rfl⟩ := hcs
      exact ⟨[], .inl ⟨rfl, rfl, rfl, rfl⟩⟩
    · simp [Value.cells] at hcs
      obtain ⟨rfl, rfl, rfl⟩ := hcs
      exact ⟨zs, .inr ⟨_, rfl, hl, hm, by simpa using hz, hcell, hwz⟩⟩
  clear hA0 hval0
  refine (walk a0 len0 cap0 z0 W (rowB_of _ _ _ _ _ w0)).mono fun e W' ⟨he, bel⟩ => ?_
  subst he
  exact ⟨_, rfl, _, _, _, [], _, [], hW', trodAll_mk1 (shut_bool Try.underlying4 _), (trodAll_cons_mk (Below.trod laidOut (by kernel_rfl) (of_decide_eq_true (by kernel_rfl)) k0 bel lt0) trodAll_mk0), rfl, bel.frame _, fun h => by cases h⟩

theorem over : Rows.fnWatchRow.holds Try.pinned (OpenSpec.ofChange Rows.fnWatchSpec) :=
  OpenClaim.holds_of_wide 3 Try.f3 rfl rfl rfl rfl rfl rfl rfl ⟨rfl, rfl, rfl, rfl, rfl⟩ rfl rfl rfl rfl rfl (by kernel_rfl) Try.func3 (by kernel_rfl)
    (of_decide_eq_true (by kernel_rfl)) (by unfold Func.isWrapper; first | (rw [if_pos (by decide +kernel)]; kernel_rfl) | (rw [if_neg (by decide +kernel)]; exact ⟨rfl, rfl⟩))
    (fun os started H enc _ => lifted os started H enc)
end FnWatch

theorem fnWatch_holds : Rows.FnWatchSaid := FnWatch.over
end Go.Proofs.Ytillkllkekhmfaa
