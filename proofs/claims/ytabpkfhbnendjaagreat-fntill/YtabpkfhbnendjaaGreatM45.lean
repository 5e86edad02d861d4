/-
  Texts of this claim laid together: SpI.
-/
import Derived.Test.YtabpkfhbnendjaaGreatM37
import Derived.Test.YtabpkfhbnendjaaGreatM33
/-
  The specification's pay.
-/
namespace Go.Proofs.YtabpkfhbnendjaaGreat
open Go.ChangeShapes Go.WideShapes Go.ChangeAt Go.RowKit Go.Deep
set_option linter.unusedVariables false

/-- Of a row of numbers one has turned. -/
theorem rowSet {W : World} {B cg c n : Nat} {cs : List Int} (h : W.ownsRow B 3 1 (.slice (some ⟨cg, 0, none⟩) n c) cs.length (cs.map (Value.int .i64))) (hn : n = cs.length) (j : Nat) (hj : j < cs.length) (x : Int) : (W.setCell ⟨cg, j, none⟩ (.int .i64 x)).ownsRow B 3 1 (.slice (some ⟨cg, 0, none⟩) n c) (cs.set j x).length ((cs.set j x).map (Value.int .i64)) := by
  subst hn
  obtain ⟨h1, h2⟩ := h
  rcases h2 with ⟨e, _⟩ | ⟨g, cap, cur, e, hB, hg, hc, hm, hs, ht⟩
  · simp at e
  · simp at e
    obtain ⟨rfl, rfl⟩ := e
    refine ⟨by simp, .inr ⟨cg, c, cur.setIfInBounds j (.int .i64 x), by rw [List.length_set], hB, heap_setCell_same _ _ _ _ _ _ hg, by rw [List.length_set]; exact hc, hm, by simpa using hs, ?_⟩⟩
    rw [List.length_set, Array.toList_setIfInBounds, List.take_set, ht, List.map_set]
theorem Sg.sold {B rb : Nat} {iv lv : Value} {ls : List RLi} {sh : Int} {kv : Value} {ks : List Kb} {sl tk dp : Int} {cv : Value} {cs : List Int} {W W' : World} {dp' : Int} {cs' : List Int} (h : Sg B rb iv lv ls sh kv ks sl tk dp cv cs W) (hf : Fr (fun k => k = rb ∨ cv.ownBlock = some k) W W') (hr : SpIs W' rb iv lv sh kv sl tk dp' cv) (hc : W'.ownsRow B 3 1 cv cs'.length (cs'.map (Value.int .i64))) : Sg B rb iv lv ls sh kv ks sl tk dp' cv cs' W' := by
  obtain ⟨f1, f2, f3, _⟩ := h.far
  refine ⟨hr, row_of h.lrow (fun q hq => hf.block q (row_lt h.lrow q hq).2 ?_), row_of h.krow (fun q hq => hf.block q (row_lt h.krow q hq).2 ?_), fun k hk => row_of (h.rows k hk) (fun q hq => hf.block q (row_lt (h.rows k hk) q hq).2 ?_), h.dist, h.low, hc⟩
  · rintro (e | e)
    · exact f1 (by rw [hq, e])
    · exact (h.cnot e).2.1 hq
  · rintro (e | e)
    · exact f2 (by rw [hq, e])
    · exact (h.cnot e).2.2 hq
  · rintro (e | e)
    · exact f3 k hk (by rw [hq, e])
    · obtain ⟨cur, hc1⟩ := row_type h.crow e
      obtain ⟨cur', hc2⟩ := row_type (h.rows k hk) hq
      rw [hc1] at hc2
      simp at hc2
set_option maxHeartbeats 4000000 in
set_option maxRecDepth 8000 in
theorem payS_none (ia : Option Addr) (ic : Nat) (its : List RIt) (B rb : Nat) (la : Option Addr) (lc : Nat) (ls : List RLi) (hN : ∀ l ∈ ls, LiN l) (hl50 : ls.length ≤ 50) (sh : Int) (kv : Value) (ks : List Kb) (sl tk dp : Int) (cv : Value) (cs : List Int) (n : Int) (w : World) (hg : Sg B rb (.slice ia its.length ic) (.slice la ls.length lc) ls sh kv ks sl tk dp cv cs w) (hn : ls.length = 0) :
    Calls Tryz.prog 35 #[.pointer (some ⟨rb, 0, none⟩), .int .i64 n] w fun e w' => e = .returned (.tuple #[.int .i64 0, .int .i64 12]) ∧ Below w.heap.size w w' := by
  have HTt := specTotal_any la lc ls hN (by omega) sh w (rowLn_reads hg.lrow).2
  have ht0 := totL_nn hN
  have c1 := hg.reg.cells.2.1
  have c2 := hg.reg.cells.2.2.1
  have HG : Hid (Sg B rb (.slice ia its.length ic) (.slice la ls.length lc) ls sh kv ks sl tk dp cv cs w) := hg
  have hq : ((ls.length : Int) == 0) = true := by rw [beq_iff_eq]; omega
  clear hn
  clear hg hN
  generalize totL ls = tot at *
  go_enter Tryz.func35, Tryz.ntmps35
  go_wp2_with fail
  (first | go_at_call 34 | skip)
  refine HTt.mono ?_
  rintro e w1 ⟨rfl, hb1⟩
  have HG1 : Hid (Sg B rb (.slice ia its.length ic) (.slice la ls.length lc) ls sh kv ks sl tk dp cv cs w1) := HG.out.later hb1
  have HB1 : Hid (Below w.heap.size w w1) := hb1
  have d1 := HG1.out.reg.cells.2.1
  clear HTt c1 c2 hb1
  go_wp2
  go_ret2
  exact ⟨rfl, HB1.out⟩
set_option maxHeartbeats 4000000 in
set_option maxRecDepth 8000 in
theorem payS_short (ia : Option Addr) (ic : Nat) (its : List RIt) (B rb : Nat) (la : Option Addr) (lc : Nat) (ls : List RLi) (hN : ∀ l ∈ ls, LiN l) (hl50 : ls.length ≤ 50) (sh : Int) (kv : Value) (ks : List Kb) (sl tk dp : Int) (cv : Value) (cs : List Int) (n : Int) (w : World) (hg : Sg B rb (.slice ia its.length ic) (.slice la ls.length lc) ls sh kv ks sl tk dp cv cs w) (hn0 : ls.length ≠ 0) (hn : n < totL ls) :
    Calls Tryz.prog 35 #[.pointer (some ⟨rb, 0, none⟩), .int .i64 n] w fun e w' => e = .returned (.tuple #[.int .i64 0, .int .i64 19]) ∧ Below w.heap.size w w' := by
  have HTt := specTotal_any la lc ls hN (by omega) sh w (rowLn_reads hg.lrow).2
  have ht0 := totL_nn hN
  have c1 := hg.reg.cells.2.1
  have c2 := hg.reg.cells.2.2.1
  have HG : Hid (Sg B rb (.slice ia its.length ic) (.slice la ls.length lc) ls sh kv ks sl tk dp cv cs w) := hg
  have hq : ((ls.length : Int) == 0) = false := by rw [beq_eq_false_iff_ne]; omega
  clear hg hN
  generalize totL ls = tot at *
  go_enter Tryz.func35, Tryz.ntmps35
  go_wp2_with fail
  (first | go_at_call 34 | skip)
  refine HTt.mono ?_
  rintro e w1 ⟨rfl, hb1⟩
  have HG1 : Hid (Sg B rb (.slice ia its.length ic) (.slice la ls.length lc) ls sh kv ks sl tk dp cv cs w1) := HG.out.later hb1
  have HB1 : Hid (Below w.heap.size w w1) := hb1
  have d1 := HG1.out.reg.cells.2.1
  clear HTt c1 c2 hb1
  go_wp2
  go_ret2
  exact ⟨rfl, HB1.out⟩
set_option maxHeartbeats 4000000 in
set_option maxRecDepth 8000 in
theorem payS_much (ia : Option Addr) (ic : Nat) (its : List RIt) (B rb : Nat) (la : Option Addr) (lc : Nat) (ls : List RLi) (hN : ∀ l ∈ ls, LiN l) (hl50 : ls.length ≤ 50) (sh : Int) (kv : Value) (ks : List Kb) (sl tk dp : Int) (cv : Value) (cs : List Int) (n : Int) (w : World) (hg : Sg B rb (.slice ia its.length ic) (.slice la ls.length lc) ls sh kv ks sl tk dp cv cs w) (hn0 : ls.length ≠ 0) (hn1 : totL ls ≤ n) (hn : 1000000000 < n) :
    Calls Tryz.prog 35 #[.pointer (some ⟨rb, 0, none⟩), .int .i64 n] w fun e w' => e = .returned (.tuple #[.int .i64 0, .int .i64 5]) ∧ Below w.heap.size w w' := by
  have HTt := specTotal_any la lc ls hN (by omega) sh w (rowLn_reads hg.lrow).2
  have ht0 := totL_nn hN
  have c1 := hg.reg.cells.2.1
  have c2 := hg.reg.cells.2.2.1
  have HG : Hid (Sg B rb (.slice ia its.length ic) (.slice la ls.length lc) ls sh kv ks sl tk dp cv cs w) := hg
  have hq : ((ls.length : Int) == 0) = false := by rw [beq_eq_false_iff_ne]; omega
  clear hg hN
  generalize totL ls = tot at *
  go_enter Tryz.func35, Tryz.ntmps35
  go_wp2_with fail
  (first | go_at_call 34 | skip)
  refine HTt.mono ?_
  rintro e w1 ⟨rfl, hb1⟩
  have HG1 : Hid (Sg B rb (.slice ia its.length ic) (.slice la ls.length lc) ls sh kv ks sl tk dp cv cs w1) := HG.out.later hb1
  have HB1 : Hid (Below w.heap.size w w1) := hb1
  have d1 := HG1.out.reg.cells.2.1
  clear HTt c1 c2 hb1
  go_wp2
  go_ret2
  exact ⟨rfl, HB1.out⟩
set_option maxHeartbeats 16000000 in
set_option maxRecDepth 8000 in
theorem payS_ok (ia : Option Addr) (ic : Nat) (its : List RIt) (B rb : Nat) (la : Option Addr) (lc : Nat) (ls : List RLi) (hN : ∀ l ∈ ls, LiN l) (hl50 : ls.length ≤ 50) (sh : Int) (kv : Value) (ks : List Kb) (sl tk dp : Int) (cv : Value) (cs : List Int) (n : Int) (w : World) (hg : Sg B rb (.slice ia its.length ic) (.slice la ls.length lc) ls sh kv ks sl tk dp cv cs w) (hok : ∀ r ∈ its, ItN r) (hil : its.length ≤ 40) (hls : ∀ l ∈ ls, LiI its l) (hI : ReadsIt B w ia its) (hB : B ≤ w.heap.size) (hb1 : 0 ≤ sl ∧ sl ≤ 1000000) (hb2 : 0 ≤ tk ∧ tk ≤ 1000000000000) (hb3 : 0 ≤ dp ∧ dp ≤ 1000000000000) (hcs : CsB cs 1000000000000) (hn0 : ls.length ≠ 0) (hn1 : totL ls ≤ n) (hn2 : n ≤ 1000000000) :
    Calls Tryz.prog 35 #[.pointer (some ⟨rb, 0, none⟩), .int .i64 n] w fun e w' => e = .returned (.tuple #[.int .i64 (n - totL ls), .int .i64 0]) ∧ Fr (fun k => k = rb ∨ cv.ownBlock = some k) w w' ∧ Sg B rb (.slice ia its.length ic) (.slice none 0 0) [] 0 kv ks (sl + 1) (tk + totL ls) (depM dp ls) cv (clsM its cs ls) w' := by
  have HTt := specTotal_any la lc ls hN (by omega) sh w (rowLn_reads hg.lrow).2
  have ht0 := totL_nn hN
  have c1 := hg.reg.cells.2.1
  have c2 := hg.reg.cells.2.2.1
  have HG : Hid (Sg B rb (.slice ia its.length ic) (.slice la ls.length lc) ls sh kv ks sl tk dp cv cs w) := hg
  obtain ⟨cg, cc, hcv⟩ := row_some hg.crow (by rw [hcs.1]; omega)
  rw [hcs.1] at hcv
  subst hcv
  obtain ⟨g0, cp0, hgv⟩ := row_some hg.lrow (by omega)
  injection hgv with hla0 _ hcp0
  subst hla0
  subst hcp0
  have hlow := hg.low
  have hcgl := (row_lt hg.crow cg rfl).1
  have hn0' : ((ls.length : Int) == 0) = false := by rw [beq_eq_false_iff_ne]; omega
  have HI : Hid (ReadsIt B w ia its) := hI
  have HOK : Hid (∀ r ∈ its, ItN r) := hok
  have HLs : Hid (∀ l ∈ ls, LiI its l) := hls
  have HDb : Hid (∀ k, k ≤ ls.length → dp ≤ depM dp (ls.take k) ∧ depM dp (ls.take k) ≤ dp + 1000000000 * (k : Int)) := depM_B hN dp
  have HCb : Hid (∀ k, k ≤ ls.length → CsB (clsM its cs (ls.take k)) (1000000000000 + 1000000000 * (k : Int))) := clsM_B hok hcs ls hls
  have hw1 : IntKind.i64.wrap (sl + 1) = sl + 1 := wrap_id _ (by omega) (by omega)
  have hw2 : IntKind.i64.wrap (tk + totL ls) = tk + totL ls := wrap_id _ (by omega) (by omega)
  have hw3 : IntKind.i64.wrap (n - totL ls) = n - totL ls := wrap_id _ (by omega) (by omega)
  have HE1 : Hid (depM dp (ls.take ls.length) = depM dp ls ∧ clsM its cs (ls.take ls.length) = clsM its cs ls) := by rw [List.take_length]; exact ⟨rfl, rfl⟩
  have HX : Hid (∀ k, (fun k => k = rb ∨ (Value.slice (some ⟨cg, 0, none⟩) 9 cc).ownBlock = some k) k → B ≤ k) := fun k hk => by
    rcases hk with hk | hk
    · omega
    · have : k = cg := by simpa [Value.ownBlock] using hk.symm
      omega
  have HBB : Hid (B ≤ w.heap.size) := hB
  clear hg hN hI hok hls hcs hB
  generalize totL ls = tot at *
  go_enter Tryz.func35, Tryz.ntmps35
  go_wp2_with fail
  (first | go_at_call 34 | skip)
  refine HTt.mono ?_
  rintro e w1 ⟨rfl, hb1⟩
  have HG1 : Hid (Sg B rb (.slice ia its.length ic) (.slice (some ⟨g0, 0, none⟩) ls.length lc) ls sh kv ks sl tk dp (Value.slice (some ⟨cg, 0, none⟩) 9 cc) cs w1) := HG.out.later hb1
  have HB1 : Hid (Below w.heap.size w w1) := hb1
  have d1 := HG1.out.reg.cells.2.1
  clear HTt c1 c2 hb1
  go_wp2
  go_loopw [7, 8] (fun iv _ wr => ∃ k : Nat, k ≤ ls.length ∧ iv = .int .i64 (k : Int) ∧ Fr (fun k => k = rb ∨ (Value.slice (some ⟨cg, 0, none⟩) 9 cc).ownBlock = some k) w wr ∧ Sg B rb (.slice ia its.length ic) (.slice (some ⟨g0, 0, none⟩) ls.length lc) ls sh kv ks sl tk (depM dp (ls.take k)) (Value.slice (some ⟨cg, 0, none⟩) 9 cc) (clsM its cs (ls.take k)) wr) (fun iv _ _ => ls.length - (intOf iv).toNat)
  case atStart => exact ⟨0, Nat.zero_le _, rfl, Fr.of HB1.out, HG1.out⟩
  case round =>
    clear HG1 HB1 d1
    obtain ⟨k, hk, rfl, hfr, hrg⟩ := hrel
    have HF : Hid (Fr (fun k => k = rb ∨ (Value.slice (some ⟨cg, 0, none⟩) 9 cc).ownBlock = some k) w wr) := hfr
    have HGr : Hid (Sg B rb (.slice ia its.length ic) (.slice (some ⟨g0, 0, none⟩) ls.length lc) ls sh kv ks sl tk (depM dp (ls.take k)) (Value.slice (some ⟨cg, 0, none⟩) 9 cc) (clsM its cs (ls.take k)) wr) := hrg
    clear hfr hrg
    have d1 := HGr.out.reg.cells.2.1
    by_cases hlt : k < ls.length
    · have hlt' : (k : Int) < (ls.length : Int) := by omega
      have e0 : wr.cell? ⟨g0, k * 4 + 0, none⟩ = (lnC (ls.getD k zLi))[0]? := by rw [HGr.out.lrow.cellAt _ (by omega), lnCells_at _ _ _ hlt (by omega)]
      have e1 : wr.cell? ⟨g0, k * 4 + 1, none⟩ = (lnC (ls.getD k zLi))[1]? := by rw [HGr.out.lrow.cellAt _ (by omega), lnCells_at _ _ _ hlt (by omega)]
      have e2 : wr.cell? ⟨g0, k * 4 + 2, none⟩ = (lnC (ls.getD k zLi))[2]? := by rw [HGr.out.lrow.cellAt _ (by omega), lnCells_at _ _ _ hlt (by omega)]
      have e3 : wr.cell? ⟨g0, k * 4 + 3, none⟩ = (lnC (ls.getD k zLi))[3]? := by rw [HGr.out.lrow.cellAt _ (by omega), lnCells_at _ _ _ hlt (by omega)]
      have hq := getLi HLs.out hlt
      obtain ⟨j9, jcl⟩ := clN_lt HOK.out hq
      obtain ⟨⟨n1, n2, n3, n4⟩, m1, m2⟩ := hq
      have hD := HDb.out k hk
      have hC := (HCb.out k hk).get _ j9
      have hCl := (HCb.out k hk).1
      have HNd : Hid (depM dp (ls.take k) + (ls.getD k zLi).dp = depM dp (ls.take (k + 1))) := (depM_next dp ls k hlt).symm
      have HNc : Hid ((clsM its cs (ls.take k)).set (clN its (ls.getD k zLi)) ((clsM its cs (ls.take k)).getD (clN its (ls.getD k zLi)) 0 + (ls.getD k zLi).am) = clsM its cs (ls.take (k + 1))) := (clsM_next its cs ls k hlt).symm
      generalize clN its (ls.getD k zLi) = j at *
      generalize ls.getD k zLi = q at *
      obtain ⟨x1, x2, x3, x4⟩ := q
      dsimp only [lnC, List.getElem?_cons_zero, List.getElem?_cons_succ, Nat.add_zero] at e0 e1 e2 e3
      dsimp only at n1 n2 n3 n4 m1 m2 jcl HNd HNc
      obtain ⟨m, rfl⟩ : ∃ m : Nat, x1 = (m : Int) := ⟨x1.toNat, by omega⟩
      rw [Int.toNat_natCast] at jcl
      have hm : m < its.length := by omega
      have hm' : (m : Int) < (its.length : Int) := by omega
      have HItc : Hid (∀ W, Below B w W → ∃ b0 o0, ia = some ⟨b0, o0, none⟩ ∧ W.cell? ⟨b0, o0 + m * 5 + 3, none⟩ = some (.int .i64 (its.getD m zIt).cl)) := fun W hW => by
        rcases HI.out with h | ⟨b0, o0, ha, hlo, ii⟩
        · rw [h] at hm; simp at hm
        · exact ⟨b0, o0, ha, (hW.cell (p := ⟨b0, o0 + m * 5 + 3, none⟩) hlo).trans (ii m hm).2.2.2.1⟩
      generalize depM dp (ls.take k) = dk at *
      generalize clsM its cs (ls.take k) = ck at *
      have HCC : Hid (wr.cell? ⟨cg, j, none⟩ = some (.int .i64 (ck.getD j 0))) := by
        have hcr := HGr.out.crow
        rw [hCl] at hcr
        have := hcr.cellAt j (by omega)
        have hjl : j < ck.length := by omega
        exact this.trans (by simp [List.getD_eq_getElem?_getD, hjl])
      generalize hcj : ck.getD j 0 = cj at *
      have hwd : IntKind.i64.wrap (dk + x4) = dk + x4 := wrap_id _ (by omega) (by omega)
      have hwc : IntKind.i64.wrap (cj + x3) = cj + x3 := wrap_id _ (by omega) (by omega)
      have HBr : Hid (Below B w wr) := Fr.below (Below.refl _ _) HF.out HBB.out HX.out
      obtain ⟨b0, o0, hia, hic⟩ := HItc.out wr HBr.out
      subst hia
      clear HItc
      generalize (its.getD m zIt).cl = icl at *
      have hwj : IntKind.i64.wrap (icl - 1) = (j : Int) := by rw [← jcl]; exact wrap_id _ (by omega) (by omega)
      have HIc : Hid (wr.cell? ⟨b0, o0 + m * 5 + 3, none⟩ = some (.int .i64 icl) ∧ icl - 1 = (j : Int)) := ⟨hic, jcl.symm⟩
      clear hic hcj jcl
      have HBx : Hid ((wr.alloc (Obj.cells #[.int .i64 (m : Int), .int .i64 x2, .int .i64 x3, .int .i64 x4] 82)).heap[wr.heap.size]? = some (.cells #[.int .i64 (m : Int), .int .i64 x2, .int .i64 x3, .int .i64 x4] 82 (0, 0)) ∧ Below wr.heap.size wr (wr.alloc (Obj.cells #[.int .i64 (m : Int), .int .i64 x2, .int .i64 x3, .int .i64 x4] 82))) := ⟨heapNew _ _, below_alloc _ _⟩
      go_wp2_with fail
      clear d1 e0 e1 e2 e3
      generalize wr.alloc (Obj.cells #[.int .i64 (m : Int), .int .i64 x2, .int .i64 x3, .int .i64 x4] 82) = Wl at *
      have hlb : rb < wr.heap.size := HGr.out.reg.lt
      have hj9 : (j : Int) < 9 := by omega
      have hj0 : (0 : Int) ≤ (j : Int) := by omega
      have hcgb : cg < wr.heap.size := (row_lt HGr.out.crow cg rfl).2
      have hcgr : cg ≠ rb := (HGr.out.cnot (q := cg) rfl).1
      have HGl : Hid (Sg B rb (.slice (some ⟨b0, o0, none⟩) its.length ic) (.slice (some ⟨g0, 0, none⟩) ls.length lc) ls sh kv ks sl tk dk (Value.slice (some ⟨cg, 0, none⟩) 9 cc) ck Wl.drew) := (HGr.out.later HBx.out.2).later (below_drew _)
      have HCF : Hid (∀ j, Wl.drew.frozen? ⟨cg, j, none⟩ = false) := fun j => by
        have hcr := HGl.out.crow
        rw [hCl] at hcr
        exact hcr.frozenAt j
      have HFl : Hid (Fr (fun k => k = rb ∨ (Value.slice (some ⟨cg, 0, none⟩) 9 cc).ownBlock = some k) w Wl.drew) := (HF.out.trans (Fr.of HBx.out.2)).trans (Fr.of (below_drew _))
      have HQ : Hid (∀ W, W = Wl.drew → SpIs W rb (.slice (some ⟨b0, o0, none⟩) its.length ic) (.slice (some ⟨g0, 0, none⟩) ls.length lc) sh kv sl tk dk (Value.slice (some ⟨cg, 0, none⟩) 9 cc) ∧ W.cell? ⟨wr.heap.size, 0, none⟩ = some (.int .i64 (m : Int)) ∧ W.cell? ⟨wr.heap.size, 2, none⟩ = some (.int .i64 x3) ∧ W.cell? ⟨b0, o0 + m * 5 + 3, none⟩ = some (.int .i64 icl) ∧ W.cell? ⟨cg, j, none⟩ = some (.int .i64 cj) ∧ W.frozen? ⟨cg, j, none⟩ = false ∧ W.heap[wr.heap.size]? = some (.cells #[.int .i64 (m : Int), .int .i64 x2, .int .i64 x3, .int .i64 x4] 82 (0, 0))) := fun W hW => by
        subst hW
        exact ⟨HGl.out.reg, blkCell HBx.out.1 0 _ rfl, blkCell HBx.out.1 2 _ rfl, (HBx.out.2.cell (p := ⟨b0, o0 + m * 5 + 3, none⟩) (World.block_lt_of_cell? _ _ HIc.out.1)).trans HIc.out.1, (HBx.out.2.cell (p := ⟨cg, j, none⟩) hcgb).trans HCC.out, HCF.out j, HBx.out.1⟩
      refine wp_region_z (S := fun W => W = Wl.drew) 21 (by kernel_rfl) rfl (fun hH => ?_)
      generalize Wl.drew = Wd at *
      clear HBx
      refine wpAnyZ_take (i := 0) (v := .pointer (some ⟨rb, 0, none⟩)) rfl (by kernel_rfl) (by kernel_rfl) (by kernel_rfl) (by kernel_rfl) (fun _ _ _ h => h) (Or.inl ⟨by rfl, fun w hSw => by go_simp⟩) hH ?_
      refine wpAnyZ_take (i := 1) (v := .pointer (some ⟨rb, 0, none⟩)) rfl (by kernel_rfl) (by kernel_rfl) (by kernel_rfl) (by kernel_rfl) (fun _ _ _ h => h) (Or.inl ⟨by rfl, fun w hSw => by go_simp⟩) hH ?_
      try simp only [Act.put, List.setIfInBounds_toArray, List.set_cons_zero, List.set_cons_succ, List.getElem_toArray, List.getElem_cons_succ, List.getElem_cons_zero]
      refine wpAnyZ_take (i := 2) (v := .pointer (some ⟨rb, 1, none⟩)) rfl (by kernel_rfl) (by kernel_rfl) (by kernel_rfl) (by kernel_rfl) (fun _ _ _ h => h) (Or.inl ⟨by rfl, fun w hSw => by go_simp⟩) hH ?_
      try simp only [Act.put, List.setIfInBounds_toArray, List.set_cons_zero, List.set_cons_succ, List.getElem_toArray, List.getElem_cons_succ, List.getElem_cons_zero]
      refine wpAnyZ_take (i := 3) (v := .pointer (some ⟨rb, 7, none⟩)) rfl (by kernel_rfl) (by kernel_rfl) (by kernel_rfl) (by kernel_rfl) (fun _ _ _ h => h) (Or.inl ⟨by rfl, fun w hSw => by go_simp⟩) hH ?_
      try simp only [Act.put, List.setIfInBounds_toArray, List.set_cons_zero, List.set_cons_succ, List.getElem_toArray, List.getElem_cons_succ, List.getElem_cons_zero]
      refine wpAnyZ_take (i := 4) (v := (Value.slice (some ⟨cg, 0, none⟩) 9 cc)) rfl (by kernel_rfl) (by kernel_rfl) (by kernel_rfl) (by kernel_rfl) (fun _ _ _ h => h) (Or.inl ⟨by rfl, fun w hSw => by have f0 := (HQ.out w hSw).1.cells.2.2.2.2.2.2.2; clear hSw; go_simp⟩) hH ?_
      try simp only [Act.put, List.setIfInBounds_toArray, List.set_cons_zero, List.set_cons_succ, List.getElem_toArray, List.getElem_cons_succ, List.getElem_cons_zero]
      refine wpAnyZ_take (i := 5) (v := .pointer (some ⟨rb, 0, none⟩)) rfl (by kernel_rfl) (by kernel_rfl) (by kernel_rfl) (by kernel_rfl) (fun _ _ _ h => h) (Or.inl ⟨by rfl, fun w hSw => by go_simp⟩) hH ?_
      try simp only [Act.put, List.setIfInBounds_toArray, List.set_cons_zero, List.set_cons_succ, List.getElem_toArray, List.getElem_cons_succ, List.getElem_cons_zero]
      refine wpAnyZ_take (i := 6) (v := .pointer (some ⟨rb, 0, none⟩)) rfl (by kernel_rfl) (by kernel_rfl) (by kernel_rfl) (by kernel_rfl) (fun _ _ _ h => h) (Or.inl ⟨by rfl, fun w hSw => by go_simp⟩) hH ?_
      try simp only [Act.put, List.setIfInBounds_toArray, List.set_cons_zero, List.set_cons_succ, List.getElem_toArray, List.getElem_cons_succ, List.getElem_cons_zero]
      refine wpAnyZ_take (i := 7) (v := .pointer (some ⟨rb, 0, none⟩)) rfl (by kernel_rfl) (by kernel_rfl) (by kernel_rfl) (by kernel_rfl) (fun _ _ _ h => h) (Or.inl ⟨by rfl, fun w hSw => by go_simp⟩) hH ?_
      try simp only [Act.put, List.setIfInBounds_toArray, List.set_cons_zero, List.set_cons_succ, List.getElem_toArray, List.getElem_cons_succ, List.getElem_cons_zero]
      refine wpAnyZ_take (i := 8) (v := .slice (some ⟨b0, o0, none⟩) its.length ic) rfl (by kernel_rfl) (by kernel_rfl) (by kernel_rfl) (by kernel_rfl) (fun _ _ _ h => h) (Or.inl ⟨by rfl, fun w hSw => by have f0 := (HQ.out w hSw).1.cells.1; clear hSw; go_simp⟩) hH ?_
      try simp only [Act.put, List.setIfInBounds_toArray, List.set_cons_zero, List.set_cons_succ, List.getElem_toArray, List.getElem_cons_succ, List.getElem_cons_zero]
      refine wpAnyZ_take (i := 9) (v := .pointer (some ⟨wr.heap.size, 0, none⟩)) rfl (by kernel_rfl) (by kernel_rfl) (by kernel_rfl) (by kernel_rfl) (fun _ _ _ h => h) (Or.inl ⟨by rfl, fun w hSw => by go_simp⟩) hH ?_
      try simp only [Act.put, List.setIfInBounds_toArray, List.set_cons_zero, List.set_cons_succ, List.getElem_toArray, List.getElem_cons_succ, List.getElem_cons_zero]
      refine wpAnyZ_take (i := 10) (v := .int .i64 (m : Int)) rfl (by kernel_rfl) (by kernel_rfl) (by kernel_rfl) (by kernel_rfl) (fun _ _ _ h => h) (Or.inl ⟨by rfl, fun w hSw => by have f0 := (HQ.out w hSw).2.1; clear hSw; go_simp⟩) hH ?_
      try simp only [Act.put, List.setIfInBounds_toArray, List.set_cons_zero, List.set_cons_succ, List.getElem_toArray, List.getElem_cons_succ, List.getElem_cons_zero]
      refine wpAnyZ_take (i := 11) (v := .pointer (some ⟨b0, o0 + m * 5, none⟩)) rfl (by kernel_rfl) (by kernel_rfl) (by kernel_rfl) (by kernel_rfl) (fun _ _ _ h => h) (Or.inl ⟨by rfl, fun w hSw => by go_simp⟩) hH ?_
      try simp only [Act.put, List.setIfInBounds_toArray, List.set_cons_zero, List.set_cons_succ, List.getElem_toArray, List.getElem_cons_succ, List.getElem_cons_zero]
      refine wpAnyZ_take (i := 12) (v := .pointer (some ⟨b0, o0 + m * 5 + 3, none⟩)) rfl (by kernel_rfl) (by kernel_rfl) (by kernel_rfl) (by kernel_rfl) (fun _ _ _ h => h) (Or.inl ⟨by rfl, fun w hSw => by go_simp⟩) hH ?_
      try simp only [Act.put, List.setIfInBounds_toArray, List.set_cons_zero, List.set_cons_succ, List.getElem_toArray, List.getElem_cons_succ, List.getElem_cons_zero]
      refine wpAnyZ_take (i := 13) (v := .int .i64 icl) rfl (by kernel_rfl) (by kernel_rfl) (by kernel_rfl) (by kernel_rfl) (fun _ _ _ h => h) (Or.inl ⟨by rfl, fun w hSw => by have f0 := (HQ.out w hSw).2.2.2.1; clear hSw; go_simp⟩) hH ?_
      try simp only [Act.put, List.setIfInBounds_toArray, List.set_cons_zero, List.set_cons_succ, List.getElem_toArray, List.getElem_cons_succ, List.getElem_cons_zero]
      refine wpAnyZ_take (i := 14) (v := .int .i64 (j : Int)) rfl (by kernel_rfl) (by kernel_rfl) (by kernel_rfl) (by kernel_rfl) (fun _ _ _ h => h) (Or.inl ⟨by rfl, fun w hSw => by go_simp⟩) hH ?_
      try simp only [Act.put, List.setIfInBounds_toArray, List.set_cons_zero, List.set_cons_succ, List.getElem_toArray, List.getElem_cons_succ, List.getElem_cons_zero]
      refine wpAnyZ_take (i := 15) (v := .pointer (some ⟨cg, j, none⟩)) rfl (by kernel_rfl) (by kernel_rfl) (by kernel_rfl) (by kernel_rfl) (fun _ _ _ h => h) (Or.inl ⟨by rfl, fun w hSw => by go_simp⟩) hH ?_
      try simp only [Act.put, List.setIfInBounds_toArray, List.set_cons_zero, List.set_cons_succ, List.getElem_toArray, List.getElem_cons_succ, List.getElem_cons_zero]
      refine wpAnyZ_take (i := 16) (v := .int .i64 cj) rfl (by kernel_rfl) (by kernel_rfl) (by kernel_rfl) (by kernel_rfl) (fun _ _ _ h => h) (Or.inl ⟨by rfl, fun w hSw => by have f0 := (HQ.out w hSw).2.2.2.2.1; clear hSw; go_simp⟩) hH ?_
      try simp only [Act.put, List.setIfInBounds_toArray, List.set_cons_zero, List.set_cons_succ, List.getElem_toArray, List.getElem_cons_succ, List.getElem_cons_zero]
      refine wpAnyZ_take (i := 17) (v := .pointer (some ⟨wr.heap.size, 2, none⟩)) rfl (by kernel_rfl) (by kernel_rfl) (by kernel_rfl) (by kernel_rfl) (fun _ _ _ h => h) (Or.inl ⟨by rfl, fun w hSw => by go_simp⟩) hH ?_
      try simp only [Act.put, List.setIfInBounds_toArray, List.set_cons_zero, List.set_cons_succ, List.getElem_toArray, List.getElem_cons_succ, List.getElem_cons_zero]
      refine wpAnyZ_take (i := 18) (v := .int .i64 x3) rfl (by kernel_rfl) (by kernel_rfl) (by kernel_rfl) (by kernel_rfl) (fun _ _ _ h => h) (Or.inl ⟨by rfl, fun w hSw => by have f0 := (HQ.out w hSw).2.2.1; clear hSw; go_simp⟩) hH ?_
      try simp only [Act.put, List.setIfInBounds_toArray, List.set_cons_zero, List.set_cons_succ, List.getElem_toArray, List.getElem_cons_succ, List.getElem_cons_zero]
      refine wpAnyZ_take (i := 19) (v := .int .i64 (cj + x3)) rfl (by kernel_rfl) (by kernel_rfl) (by kernel_rfl) (by kernel_rfl) (fun _ _ _ h => h) (Or.inl ⟨by rfl, fun w hSw => by go_simp⟩) hH ?_
      try simp only [Act.put, List.setIfInBounds_toArray, List.set_cons_zero, List.set_cons_succ, List.getElem_toArray, List.getElem_cons_succ, List.getElem_cons_zero]
      refine wpAnyZ_take (i := 20) (v := .pointer (some ⟨cg, j, none⟩)) rfl (by kernel_rfl) (by kernel_rfl) (by kernel_rfl) (by kernel_rfl) (fun _ _ _ h => h) (Or.inl ⟨by rfl, fun w hSw => by go_simp⟩) hH ?_
      try simp only [Act.put, List.setIfInBounds_toArray, List.set_cons_zero, List.set_cons_succ, List.getElem_toArray, List.getElem_cons_succ, List.getElem_cons_zero]
      refine wpAnyZ_ready (rs := [21]) (by kernel_rfl) (by simp) ?_
      refine AllReadyZ.cons rfl (fun K hK => ?_) AllReadyZ.nil
      have z1 := (HQ.out Wd rfl).2.2.2.2.1
      have zf := (HQ.out Wd rfl).2.2.2.2.2.1
      go_simp
      have HFe : Hid (Fr (fun k => k = rb ∨ (Value.slice (some ⟨cg, 0, none⟩) 9 cc).ownBlock = some k) w (Wd.setCell ⟨cg, j, none⟩ (.int .i64 (cj + x3))) ∧ Fr (fun k => k = rb ∨ (Value.slice (some ⟨cg, 0, none⟩) 9 cc).ownBlock = some k) Wd (Wd.setCell ⟨cg, j, none⟩ (.int .i64 (cj + x3))) ∧ SpIs (Wd.setCell ⟨cg, j, none⟩ (.int .i64 (cj + x3))) rb (.slice (some ⟨b0, o0, none⟩) its.length ic) (.slice (some ⟨g0, 0, none⟩) ls.length lc) sh kv sl tk dk (Value.slice (some ⟨cg, 0, none⟩) 9 cc) ∧ (Wd.setCell ⟨cg, j, none⟩ (.int .i64 (cj + x3))).ownsRow B 3 1 (Value.slice (some ⟨cg, 0, none⟩) 9 cc) (ck.set j (cj + x3)).length ((ck.set j (cj + x3)).map (Value.int .i64)) ∧ (Wd.setCell ⟨cg, j, none⟩ (.int .i64 (cj + x3))).heap[wr.heap.size]? = some (.cells #[.int .i64 (m : Int), .int .i64 x2, .int .i64 x3, .int .i64 x4] 82 (0, 0))) := by
        refine ⟨HFl.out.set (b := cg) (.inr rfl) _ _, (Fr.refl _ _).set (b := cg) (.inr rfl) _ _, (Below.heap_setCell _ _ _ _ (Ne.symm hcgr)).trans HGl.out.reg, rowSet HGl.out.crow (by omega) j (by omega) _, (Below.heap_setCell _ _ _ _ (by show wr.heap.size ≠ cg; omega)).trans (HQ.out Wd rfl).2.2.2.2.2.2⟩
      refine hK.out _ _ (Or.inl rfl) (fun _ => ?_)
      clear hK K
      try simp only [Act.put, List.setIfInBounds_toArray, List.set_cons_zero, List.set_cons_succ, List.getElem_toArray, List.getElem_cons_succ, List.getElem_cons_zero]
      refine wpAnyZ_done (by kernel_rfl) ?_ _
      try simp
      clear z1 zf
      generalize (Wd.setCell ⟨cg, j, none⟩ (.int .i64 (cj + x3))) = We at *
      go_wp2_with fail
      have HQ2 : Hid (∀ W, W = We.drew → SpIs W rb (.slice (some ⟨b0, o0, none⟩) its.length ic) (.slice (some ⟨g0, 0, none⟩) ls.length lc) sh kv sl tk dk (Value.slice (some ⟨cg, 0, none⟩) 9 cc) ∧ W.cell? ⟨wr.heap.size, 3, none⟩ = some (.int .i64 x4)) := fun W hW => by
        subst hW
        exact ⟨HFe.out.2.2.1.later (below_drew _), blkCell HFe.out.2.2.2.2 3 _ rfl⟩
      have HFd : Hid (Fr (fun k => k = rb ∨ (Value.slice (some ⟨cg, 0, none⟩) 9 cc).ownBlock = some k) w We.drew ∧ Fr (fun k => k = rb ∨ (Value.slice (some ⟨cg, 0, none⟩) 9 cc).ownBlock = some k) Wd We.drew ∧ We.drew.ownsRow B 3 1 (Value.slice (some ⟨cg, 0, none⟩) 9 cc) (ck.set j (cj + x3)).length ((ck.set j (cj + x3)).map (Value.int .i64))) := ⟨HFe.out.1.trans (Fr.of (below_drew _)), HFe.out.2.1.trans (Fr.of (below_drew _)), row_of HFe.out.2.2.2.1 (fun q hq => rfl)⟩
      refine wp_region_z (S := fun W => W = We.drew) 11 (by kernel_rfl) rfl (fun hH2 => ?_)
      generalize We.drew = Wf at *
      clear HFe
      refine wpAnyZ_take (i := 0) (v := .pointer (some ⟨rb, 0, none⟩)) rfl (by kernel_rfl) (by kernel_rfl) (by kernel_rfl) (by kernel_rfl) (fun _ _ _ h => h) (Or.inl ⟨by rfl, fun w hSw => by go_simp⟩) hH2 ?_
      refine wpAnyZ_take (i := 1) (v := .pointer (some ⟨rb, 0, none⟩)) rfl (by kernel_rfl) (by kernel_rfl) (by kernel_rfl) (by kernel_rfl) (fun _ _ _ h => h) (Or.inl ⟨by rfl, fun w hSw => by go_simp⟩) hH2 ?_
      try simp only [Act.put, List.setIfInBounds_toArray, List.set_cons_zero, List.set_cons_succ, List.getElem_toArray, List.getElem_cons_succ, List.getElem_cons_zero]
      refine wpAnyZ_take (i := 2) (v := .pointer (some ⟨rb, 1, none⟩)) rfl (by kernel_rfl) (by kernel_rfl) (by kernel_rfl) (by kernel_rfl) (fun _ _ _ h => h) (Or.inl ⟨by rfl, fun w hSw => by go_simp⟩) hH2 ?_
      try simp only [Act.put, List.setIfInBounds_toArray, List.set_cons_zero, List.set_cons_succ, List.getElem_toArray, List.getElem_cons_succ, List.getElem_cons_zero]
      refine wpAnyZ_take (i := 3) (v := .pointer (some ⟨rb, 6, none⟩)) rfl (by kernel_rfl) (by kernel_rfl) (by kernel_rfl) (by kernel_rfl) (fun _ _ _ h => h) (Or.inl ⟨by rfl, fun w hSw => by go_simp⟩) hH2 ?_
      try simp only [Act.put, List.setIfInBounds_toArray, List.set_cons_zero, List.set_cons_succ, List.getElem_toArray, List.getElem_cons_succ, List.getElem_cons_zero]
      refine wpAnyZ_take (i := 4) (v := .int .i64 dk) rfl (by kernel_rfl) (by kernel_rfl) (by kernel_rfl) (by kernel_rfl) (fun _ _ _ h => h) (Or.inl ⟨by rfl, fun w hSw => by have f0 := (HQ2.out w hSw).1.cells.2.2.2.2.2.2.1; clear hSw; go_simp⟩) hH2 ?_
      try simp only [Act.put, List.setIfInBounds_toArray, List.set_cons_zero, List.set_cons_succ, List.getElem_toArray, List.getElem_cons_succ, List.getElem_cons_zero]
      refine wpAnyZ_take (i := 5) (v := .pointer (some ⟨wr.heap.size, 3, none⟩)) rfl (by kernel_rfl) (by kernel_rfl) (by kernel_rfl) (by kernel_rfl) (fun _ _ _ h => h) (Or.inl ⟨by rfl, fun w hSw => by go_simp⟩) hH2 ?_
      try simp only [Act.put, List.setIfInBounds_toArray, List.set_cons_zero, List.set_cons_succ, List.getElem_toArray, List.getElem_cons_succ, List.getElem_cons_zero]
      refine wpAnyZ_take (i := 6) (v := .int .i64 x4) rfl (by kernel_rfl) (by kernel_rfl) (by kernel_rfl) (by kernel_rfl) (fun _ _ _ h => h) (Or.inl ⟨by rfl, fun w hSw => by have f0 := (HQ2.out w hSw).2; clear hSw; go_simp⟩) hH2 ?_
      try simp only [Act.put, List.setIfInBounds_toArray, List.set_cons_zero, List.set_cons_succ, List.getElem_toArray, List.getElem_cons_succ, List.getElem_cons_zero]
      refine wpAnyZ_take (i := 7) (v := .int .i64 (dk + x4)) rfl (by kernel_rfl) (by kernel_rfl) (by kernel_rfl) (by kernel_rfl) (fun _ _ _ h => h) (Or.inl ⟨by rfl, fun w hSw => by go_simp⟩) hH2 ?_
      try simp only [Act.put, List.setIfInBounds_toArray, List.set_cons_zero, List.set_cons_succ, List.getElem_toArray, List.getElem_cons_succ, List.getElem_cons_zero]
      refine wpAnyZ_take (i := 8) (v := .pointer (some ⟨rb, 0, none⟩)) rfl (by kernel_rfl) (by kernel_rfl) (by kernel_rfl) (by kernel_rfl) (fun _ _ _ h => h) (Or.inl ⟨by rfl, fun w hSw => by go_simp⟩) hH2 ?_
      try simp only [Act.put, List.setIfInBounds_toArray, List.set_cons_zero, List.set_cons_succ, List.getElem_toArray, List.getElem_cons_succ, List.getElem_cons_zero]
      refine wpAnyZ_take (i := 9) (v := .pointer (some ⟨rb, 1, none⟩)) rfl (by kernel_rfl) (by kernel_rfl) (by kernel_rfl) (by kernel_rfl) (fun _ _ _ h => h) (Or.inl ⟨by rfl, fun w hSw => by go_simp⟩) hH2 ?_
      try simp only [Act.put, List.setIfInBounds_toArray, List.set_cons_zero, List.set_cons_succ, List.getElem_toArray, List.getElem_cons_succ, List.getElem_cons_zero]
      refine wpAnyZ_take (i := 10) (v := .pointer (some ⟨rb, 6, none⟩)) rfl (by kernel_rfl) (by kernel_rfl) (by kernel_rfl) (by kernel_rfl) (fun _ _ _ h => h) (Or.inl ⟨by rfl, fun w hSw => by go_simp⟩) hH2 ?_
      try simp only [Act.put, List.setIfInBounds_toArray, List.set_cons_zero, List.set_cons_succ, List.getElem_toArray, List.getElem_cons_succ, List.getElem_cons_zero]
      refine wpAnyZ_ready (rs := [11]) (by kernel_rfl) (by simp) ?_
      refine AllReadyZ.cons rfl (fun K hK => ?_) AllReadyZ.nil
      have z1 := (HQ2.out Wf rfl).1.cells.2.2.2.2.2.2.1
      have zf := (HQ2.out Wf rfl).1.free 6
      go_simp
      have HFz : Hid (Fr (fun k => k = rb ∨ (Value.slice (some ⟨cg, 0, none⟩) 9 cc).ownBlock = some k) w (Wf.setCell ⟨rb, 6, none⟩ (.int .i64 (dk + x4))) ∧ Sg B rb (.slice (some ⟨b0, o0, none⟩) its.length ic) (.slice (some ⟨g0, 0, none⟩) ls.length lc) ls sh kv ks sl tk (dk + x4) (Value.slice (some ⟨cg, 0, none⟩) 9 cc) (ck.set j (cj + x3)) (Wf.setCell ⟨rb, 6, none⟩ (.int .i64 (dk + x4)))) := by
        refine ⟨HFd.out.1.set (b := rb) (.inl rfl) _ _, HGl.out.sold (HFd.out.2.1.set (b := rb) (.inl rfl) _ _) ((HQ2.out Wf rfl).1.set6 _) (row_of HFd.out.2.2 (fun q hq => Below.heap_setCell _ _ _ _ (by cases hq; exact hcgr)))⟩
      refine hK.out _ _ (Or.inl rfl) (fun _ => ?_)
      clear hK K
      try simp only [Act.put, List.setIfInBounds_toArray, List.set_cons_zero, List.set_cons_succ, List.getElem_toArray, List.getElem_cons_succ, List.getElem_cons_zero]
      refine wpAnyZ_done (by kernel_rfl) ?_ _
      try simp
      clear z1 zf HQ HQ2 HFd HGl HFl HF HGr
      generalize (Wf.setCell ⟨rb, 6, none⟩ (.int .i64 (dk + x4))) = Wz at *
      rw [HNd.out, HNc.out] at HFz
      go_wp2
      exact ⟨⟨k + 1, by omega, by go_num, HFz.out.1, HFz.out.2⟩, by simp [intOf]; omega⟩
    · obtain rfl : k = ls.length := by omega
      rw [HE1.out.1, HE1.out.2] at HGr
      have g0' := HGr.out.reg
      have g1' := g0'.set4 (sl + 1)
      have g2' := g1'.set5 (tk + tot)
      have g3' := g2'.set1 (.slice none 0 0)
      have g4' := g3'.set2 0
      have s4 := g0'.cells.2.2.2.2.1
      have f4 := g0'.free 4
      have s5 := g1'.cells.2.2.2.2.2.1
      have f5 := g1'.free 5
      have s1 := g2'.cells.2.1
      have f1 := g2'.free 1
      have s2 := g3'.cells.2.2.1
      have f2 := g3'.free 2
      have s2' := g2'.cells.2.2.1
      have HFi : Hid (Fr (fun k => k = rb ∨ (Value.slice (some ⟨cg, 0, none⟩) 9 cc).ownBlock = some k) w ((((wr.setCell ⟨rb, 4, none⟩ (.int .i64 (sl + 1))).setCell ⟨rb, 5, none⟩ (.int .i64 (tk + tot))).setCell ⟨rb, 1, none⟩ (.slice none 0 0)).setCell ⟨rb, 2, none⟩ (.int .i64 0)) ∧ Sg B rb (.slice ia its.length ic) (.slice none 0 0) [] 0 kv ks (sl + 1) (tk + tot) (depM dp ls) (Value.slice (some ⟨cg, 0, none⟩) 9 cc) (clsM its cs ls) ((((wr.setCell ⟨rb, 4, none⟩ (.int .i64 (sl + 1))).setCell ⟨rb, 5, none⟩ (.int .i64 (tk + tot))).setCell ⟨rb, 1, none⟩ (.slice none 0 0)).setCell ⟨rb, 2, none⟩ (.int .i64 0))) :=
        ⟨(((HF.out.set (b := rb) (.inl rfl) _ _).set (b := rb) (.inl rfl) _ _).set (b := rb) (.inl rfl) _ _).set (b := rb) (.inl rfl) _ _, HGr.out.blank (Fr.set (X := fun k => k = rb) (Fr.set (X := fun k => k = rb) (Fr.set (X := fun k => k = rb) (Fr.set (X := fun k => k = rb) (Fr.refl _ _) (b := rb) rfl _ _) (b := rb) rfl _ _) (b := rb) rfl _ _) (b := rb) rfl _ _) g4'⟩
      clear g0' g1' g2' g3' g4'
      go_wp2
      go_ret2
      exact ⟨rfl, HFi.out.1, HFi.out.2⟩
end Go.Proofs.YtabpkfhbnendjaaGreat
