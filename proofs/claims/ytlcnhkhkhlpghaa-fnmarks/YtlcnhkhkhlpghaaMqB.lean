/-
  What steps do, as mathematics: the units sold on each day, what is left, what all of them bring; contracts of the program's ladderOf, ladder.takes, ladder.sold, ladder.plan.
-/
import Derived.Test.YtlcnhkhkhlpghaaMqA
import Derived.Test.YtlcnhkhkhlpghaaRow1
namespace Go.Proofs.Ytlcnhkhkhlpghaa
open Go.ChangeShapes Go.WideShapes Go.ChangeAt Go.RowKit Go.Deep Go.Joins
set_option linter.unusedVariables false

/-- The demand of day d at step s. -/
def dA (cs : LL) (d : Nat) (s : Int) : Int := (cs.getD d []).getD s.toNat 0
/-- What is left behind d days. -/
def lfN (cs : LL) (ss : List Int) (st : Int) : Nat → Int
  | 0 => st
  | d + 1 => lfN cs ss st d - min (dA cs d (ss.getD d 0)) (lfN cs ss st d)
def sdN (cs : LL) (ss : List Int) (st : Int) (d : Nat) : Int := min (dA cs d (ss.getD d 0)) (lfN cs ss st d)
def rvN (prs : List Int) (cs : LL) (ss : List Int) (st : Int) : Nat → Int
  | 0 => 0
  | d + 1 => rvN prs cs ss st d + sdN cs ss st d * prs.getD (ss.getD d 0).toNat 0
def slN (cs : LL) (ss : List Int) (st : Int) : Nat → List Int
  | 0 => []
  | d + 1 => slN cs ss st d ++ [sdN cs ss st d]
theorem slN_len (cs : LL) (ss : List Int) (st : Int) : ∀ d, (slN cs ss st d).length = d
  | 0 => rfl
  | d + 1 => by rw [slN, List.length_append, slN_len cs ss st d]; rfl
def ahs (ss : List Int) : Nat → Int
  | 0 => 0
  | k + 1 => ss.getD k 0
def stAt (n : Nat) (ss : List Int) (i : Nat) : Bool := inB (ss.getD i 0) 0 ((n : Int) - 1) && decide (ahs ss i ≤ ss.getD i 0)
def stB (n m : Nat) (ss : List Int) : Bool := decide (ss.length = m) && upTo (stAt n ss) ss.length
theorem stAt_ways (n : Nat) (ss : List Int) (i : Nat) (h : upTo (stAt n ss) i = true) : inB (ss.getD i 0) (ahs ss i) ((n : Int) - 1) = stAt n ss i := by
  have h0 : 0 ≤ ahs ss i := by
    cases i with
    | zero => exact Int.le_refl _
    | succ k =>
      have := upTo_at h k (by omega)
      unfold stAt at this
      rw [Bool.and_eq_true] at this
      exact (of_decide_eq_true this.1).1
  unfold stAt inB
  rw [Bool.eq_iff_iff]
  simp
  omega
/-- What right arguments have. -/
structure MkOK (price stock : Int) (ps : List Int) (cs : LL) : Prop where
  pr : 0 ≤ price ∧ price ≤ 1000000
  st : 0 ≤ stock ∧ stock ≤ 200
  pl : 1 ≤ ps.length ∧ ps.length ≤ 5
  pv : ∀ k, k < ps.length → 0 ≤ ps.getD k 0 ∧ ps.getD k 0 ≤ 100
  cl : 1 ≤ cs.length ∧ cs.length ≤ 7
  cr : ∀ d, d < cs.length → (cs.getD d []).length = ps.length
  cv : ∀ d, d < cs.length → ∀ k, k < ps.length → 0 ≤ (cs.getD d []).getD k 0 ∧ (cs.getD d []).getD k 0 ≤ 200
theorem inB_iff (n lo hi : Int) : inB n lo hi = true ↔ lo ≤ n ∧ n ≤ hi := by unfold inB; exact decide_eq_true_iff
theorem mkOK_of {price stock : Int} {ps : List Int} {cs : LL} (h : mkR price stock ps cs = true) : MkOK price stock ps cs := by
  unfold mkR pcB dmB at h
  simp only [Bool.and_eq_true, inB_iff] at h
  obtain ⟨h1, h2, ⟨h3, h4⟩, h5, h6⟩ := h
  have hday : ∀ d, d < cs.length → daB ps.length (cs.getD d []) = true := fun d hd => by
    have e : cs.getD d [] = cs[d] := by simp [List.getD_eq_getElem?_getD, hd]
    rw [e]; exact List.all_eq_true.1 h6 _ (List.getElem_mem _)
  refine ⟨h1, h2, ⟨by omega, by omega⟩, fun k hk => ?_, ⟨by omega, by omega⟩, fun d hd => ?_, fun d hd k hk => ?_⟩
  · have := upTo_at h4 k hk
    unfold pcAt at this
    rw [Bool.and_eq_true, inB_iff] at this
    exact this.2
  · have := hday d hd
    unfold daB at this
    rw [Bool.and_eq_true] at this
    exact of_decide_eq_true this.1
  · have := hday d hd
    unfold daB daX at this
    rw [Bool.and_eq_true] at this
    have hl := of_decide_eq_true this.1
    have e : (cs.getD d []).getD k 0 = (cs.getD d [])[k]'(by omega) := by simp [List.getD_eq_getElem?_getD, show k < ((cs[d]?).getD []).length by have := hl; simp only [List.getD_eq_getElem?_getD] at this; omega]
    rw [e]
    exact (inB_iff _ _ _).1 (List.all_eq_true.1 this.2 _ (List.getElem_mem _))
def prL (price : Int) (ps : List Int) : List Int := ps.map (mkP price)
theorem prL_at {price : Int} {ps : List Int} {k : Nat} (h : k < ps.length) : (prL price ps).getD k 0 = mkP price (ps.getD k 0) := by
  unfold prL; simp [List.getD_eq_getElem?_getD, h]
theorem prL_len (price : Int) (ps : List Int) : (prL price ps).length = ps.length := by unfold prL; simp
theorem MkOK.prices {price stock : Int} {ps : List Int} {cs : LL} (h : MkOK price stock ps cs) {k : Nat} (hk : k < ps.length) : 0 ≤ (prL price ps).getD k 0 ∧ (prL price ps).getD k 0 ≤ 1000000 := by
  rw [prL_at hk]
  have a := h.pv k hk
  have b := mkP_facts h.pr.1 h.pr.2 a.1 a.2
  have := h.pr
  omega
/-- What right steps have. -/
def StOK (n m : Nat) (ss : List Int) : Prop := ss.length = m ∧ ∀ i, i < m → 0 ≤ ss.getD i 0 ∧ (ss.getD i 0).toNat < n
theorem stOK_of {n m : Nat} {ss : List Int} (h : stB n m ss = true) : StOK n m ss := by
  unfold stB at h
  rw [Bool.and_eq_true] at h
  have hl := of_decide_eq_true h.1
  refine ⟨hl, fun i hi => ?_⟩
  have := upTo_at h.2 i (by omega)
  unfold stAt at this
  rw [Bool.and_eq_true, inB_iff] at this
  omega
theorem min_of (a b : Int) : (min a b = a ∧ a ≤ b) ∨ (min a b = b ∧ b < a) := by omega
theorem plan_bounds {price stock : Int} {ps : List Int} {cs : LL} (h : MkOK price stock ps cs) {ss : List Int} (hs : StOK ps.length cs.length ss) : ∀ d, d ≤ cs.length → (0 ≤ lfN cs ss stock d ∧ lfN cs ss stock d ≤ 200) ∧ 0 ≤ rvN (prL price ps) cs ss stock d ∧ rvN (prL price ps) cs ss stock d ≤ 200000000 * (d : Int)
  | 0, _ => ⟨h.st, Int.le_refl _, by simp [rvN]⟩
  | d + 1, hd => by
    obtain ⟨⟨i1, i2⟩, i3, i4⟩ := plan_bounds h hs d (by omega)
    have hsd := hs.2 d (by omega)
    have hc := h.cv d (by omega) (ss.getD d 0).toNat hsd.2
    have hp := h.prices hsd.2
    have e : dA cs d (ss.getD d 0) = (cs.getD d []).getD (ss.getD d 0).toNat 0 := rfl
    rw [lfN, rvN]
    have hq : 0 ≤ sdN cs ss stock d ∧ sdN cs ss stock d ≤ 200 := by unfold sdN; rw [e]; omega
    have hm1 : 0 ≤ sdN cs ss stock d * (prL price ps).getD (ss.getD d 0).toNat 0 := Int.mul_nonneg hq.1 hp.1
    have hm2 : sdN cs ss stock d * (prL price ps).getD (ss.getD d 0).toNat 0 ≤ 200 * 1000000 := Int.mul_le_mul hq.2 hp.2 hp.1 (by omega)
    rw [e]
    refine ⟨⟨by omega, by omega⟩, by omega, by omega⟩
theorem sd_bounds {price stock : Int} {ps : List Int} {cs : LL} (h : MkOK price stock ps cs) {ss : List Int} (hs : StOK ps.length cs.length ss) {d : Nat} (hd : d < cs.length) : 0 ≤ sdN cs ss stock d ∧ sdN cs ss stock d ≤ 200 ∧ 0 ≤ sdN cs ss stock d * (prL price ps).getD (ss.getD d 0).toNat 0 ∧ sdN cs ss stock d * (prL price ps).getD (ss.getD d 0).toNat 0 ≤ 200000000 := by
  obtain ⟨⟨i1, i2⟩, i3, i4⟩ := plan_bounds h hs d (by omega)
  have hsd := hs.2 d (by omega)
  have hc := h.cv d (by omega) (ss.getD d 0).toNat hsd.2
  have hp := h.prices hsd.2
  have e : dA cs d (ss.getD d 0) = (cs.getD d []).getD (ss.getD d 0).toNat 0 := rfl
  have hq : 0 ≤ sdN cs ss stock d ∧ sdN cs ss stock d ≤ 200 := by unfold sdN; rw [e]; omega
  have hm2 : sdN cs ss stock d * (prL price ps).getD (ss.getD d 0).toNat 0 ≤ 200 * 1000000 := Int.mul_le_mul hq.2 hp.2 hp.1 (by omega)
  exact ⟨hq.1, hq.2, Int.mul_nonneg hq.1 hp.1, by omega⟩

set_option maxHeartbeats 2000000 in
theorem ladderOf_any (price : Int) (hp1 : 0 ≤ price) (hp2 : price ≤ 1000000) (a : Option Addr) (ca : Nat) (ps : List Int) (hl : ps.length ≤ 5) (hv : ∀ k, k < ps.length → 0 ≤ ps.getD k 0 ∧ ps.getD k 0 ≤ 100) (dv : Option Addr) (m dc : Nat) (w : World) (hr : Reads w.heap.size w a ps) :
    Calls Try.prog 31 #[.int .i64 price, .slice a ps.length ca, .slice dv m dc] w fun e w' => ∃ g cp, e = .returned (.agg #[.slice (some ⟨g, 0, none⟩) ps.length cp, .slice dv m dc]) ∧ Reads w'.heap.size w' (some ⟨g, 0, none⟩) (prL price ps) ∧ Below w.heap.size w w' := by
  have HR : Hid (Reads w.heap.size w a ps) := hr
  have HV : Hid (∀ k, k < ps.length → 0 ≤ ps.getD k 0 ∧ ps.getD k 0 ≤ 100) := hv
  clear hr hv
  obtain ⟨W0, hW0⟩ : ∃ W0, W0 = w.alloc (Obj.cells #[.slice none 0 0, .slice none 0 0] 55) := ⟨_, rfl⟩
  obtain ⟨R, hR⟩ : ∃ R, R = w.heap.size := ⟨_, rfl⟩
  have HW0 : Hid (W0 = w.alloc (Obj.cells #[.slice none 0 0, .slice none 0 0] 55) ∧ R = w.heap.size) := ⟨hW0, hR⟩
  have HB0 : Hid (Below w.heap.size w W0) := by show Below _ _ _; rw [hW0]; exact below_alloc _ _
  have HRx : Hid (W0.heap[R]? = some (.cells #[.slice none 0 0, .slice none 0 0] 55 (0, 0))) := by show _ = _; rw [hW0, hR]; exact heapNew _ _
  have hRw : w.heap.size ≤ R := by rw [hR]; exact Nat.le_refl _
  have hRz : R < W0.heap.size := by rw [hW0, hR]; simp
  clear hW0 hR
  have hmk : ∀ w, (Instr.makeSlice 23 (.int .i64 0) (.int .i64 (ps.length : Int))).run Try.prog w = .ok (.slice (some ⟨w.heap.size, 0, none⟩) 0 ps.length) (w.alloc (.cells (madeCells #[.int .i64 0] ps.length) 3)) := fun w => run_make_cap ps.length (by omega) w
  have H0 : Hid (One W0 W0.heap.size (.slice (some ⟨W0.heap.size, 0, none⟩) 0 ps.length) [] (W0.alloc (Obj.cells (madeCells #[.int .i64 0] ps.length) 3))) := One.made W0 W0.heap.size rfl ps.length (by omega)
  have HT : Hid (∀ k, k < ps.length → (ps.take k).map (mkP price) ++ [mkP price (ps.getD k 0)] = (ps.take (k + 1)).map (mkP price)) := fun k hk => by
    have e : ps.getD k 0 = ps[k] := by simp [List.getD_eq_getElem?_getD, hk]
    rw [List.take_succ_eq_append_getElem hk, List.map_append, e]; rfl
  obtain ⟨i0, hi, hzz⟩ := Option.map_eq_some_iff.1 intInfo1
  simp only [Prod.mk.injEq] at hzz
  obtain ⟨hi0, hi1, hi2⟩ := hzz
  go_enter Try.func31, Try.ntmps31
  go_upto_region 1 with fail
  rw [← HW0.out.1, ← HW0.out.2]
  clear HW0
  go_wp2_with fail
  go_loopw [7, 9, 15] (fun v _ c wr => ∃ k g cp : Nat, k ≤ ps.length ∧ c = .int .i64 (k : Int) ∧ v = .slice (some ⟨g, 0, none⟩) k cp ∧ One W0 W0.heap.size (.slice (some ⟨g, 0, none⟩) k cp) ((ps.take k).map (mkP price)) wr) (fun _ _ c _ => ps.length - (intOf c).toNat)
  case atStart => exact ⟨0, W0.heap.size, ps.length, Nat.zero_le _, rfl, rfl, by simpa using H0.out⟩
  case round =>
    clear H0 hmk
    obtain ⟨k, g, cp, hk, rfl, rfl, hO⟩ := hrel
    have HO : Hid (One W0 W0.heap.size (.slice (some ⟨g, 0, none⟩) k cp) ((ps.take k).map (mkP price)) wr) := hO
    have HB : Hid (Below W0.heap.size W0 wr) := hO.2.2
    clear hO
    by_cases hlt : k < ps.length
    · have hlt' : (k : Int) < (ps.length : Int) := by omega
      rcases HR.out with h | ⟨b1, o1, hb1, hB1, ib⟩
      · rw [h] at hlt; simp at hlt
      have d0 := (ib.below (chain HB0.out HB.out) hB1) k hlt
      have hx := HV.out k hlt
      have hlen : ((ps.take k).map (mkP price)).length = k := by rw [List.length_map, List.length_take]; omega
      have hm := fun W => marked_any price (ps.getD k 0) hp1 hp2 hx.1 hx.2 W
      have HN := HT.out k hlt
      have HN' : Hid ((ps.take k).map (mkP price) ++ [mkP price (ps.getD k 0)] = (ps.take (k + 1)).map (mkP price)) := HN
      clear HN
      rw [hb1]
      clear ib hx
      generalize mkP price (ps.getD k 0) = p at *
      generalize ps.getD k 0 = x at *
      have HW5 : Hid (One W0 W0.heap.size (.slice (some ⟨g, 0, none⟩) k cp) ((ps.take k).map (mkP price)) (wr.alloc (Obj.cells #[.int .i64 p] 3))) := HO.out.alloc _
      have HNw : Hid (∀ j u, [Value.int .i64 p][j]? = some u → (wr.alloc (Obj.cells #[.int .i64 p] 3)).cell? ((⟨wr.heap.size, 0, none⟩ : Addr).add j) = some u) := newsOne wr (.int .i64 p) 3
      generalize (ps.take k).map (mkP price) = L at *
      obtain rfl : L.length = k := hlen
      go_wp2_with (first | (go_at_call 41; refine (hm _).mono ?_; rintro e w6 ⟨rfl, rfl⟩) | (at_builtin; refine wpList_append_lies _ rfl _ _ 23 rfl W0.heap.size 3 i0 (.int .i64 0) 1 8 Try.underlying23 hi hi0 hi1 hi2 rfl (by decide) _ _ _ rfl HW5.out.1 ⟨w6.heap.size, 0, none⟩ 1 1 [.int .i64 p] rfl rfl HNw.out (by intro u hu; simp at hu; rcases hu with rfl; rfl) (by omega) (by unfold maxLen; omega) (by omega) HW5.out.2.1 _ rfl ?_; intro g1 cp1 w7 hown1 hgrow1 hat1 hglt1; have HO7 : Hid (One W0 W0.heap.size (.slice (some ⟨g1, 0, none⟩) (L.length + 1) cp1) (L ++ [p]) w7) := HW5.out.push hown1 hgrow1; clear hown1 hgrow1 hat1))
      have HO8 : Hid (One W0 W0.heap.size (.slice (some ⟨g1, 0, none⟩) (L.length + 1) cp1) ((ps.take (L.length + 1)).map (mkP price)) w7) := by have := HO7.out; rwa [HN'.out] at this
      go_roundw
      case rel => exact ⟨L.length + 1, g1, cp1, by omega, by go_num, rfl, HO8.out⟩
      case measure => simp [intOf]; omega
    · obtain rfl : k = ps.length := by omega
      have HE : Hid (Own2 W0.heap.size wr (some ⟨g, 0, none⟩) (prL price ps)) := by
        have := HO.out.own2 (by rw [List.length_map, List.take_length])
        rwa [List.take_length] at this
      have hrx := (HB.out.block R hRz).trans HRx.out
      have z0 := blkCell hrx 0 _ rfl
      have z1 := blkCell hrx 1 _ rfl
      have y0 := blkFree hrx 0
      have y1 := blkFree hrx 1
      simp only [List.getElem_toArray, List.getElem_cons_zero, List.getElem_cons_succ] at z0 z1
      clear hrx HRx
      go_wp2_with fail
      refine bodyPost_ret (v := .agg #[.slice (some ⟨g, 0, none⟩) ps.length cp, .slice dv m dc]) (by simp [results, Try.results31, go_sem, z0, z1]) rfl ⟨g, cp, rfl, ?_, ?_⟩
      · rcases HE.out with h | ⟨b, h1, h2, h3, h4, h5⟩
        · exact .inl h
        · cases h1
          refine .inr ⟨g, 0, rfl, by rw [World.size_setCell, World.size_setCell]; exact h3, ?_⟩
          repeat refine IntsAt.set ?_ (by omega) _ _
          exact h4
      · repeat refine Below.setCell ?_ (by dsimp only; omega) _
        exact chain HB0.out HB.out
theorem pair_set {W : World} {b : Nat} {v0 v1 : Value} {t : TypeId} (h : W.heap[b]? = some (.cells #[v0, v1] t (0, 0))) (v : Value) : (W.setCell ⟨b, 0, none⟩ v).heap[b]? = some (.cells #[v, v1] t (0, 0)) := by
  have e := heap_setCell_same _ _ 0 _ _ v h
  simp only [List.setIfInBounds_toArray, List.set_cons_zero] at e
  exact e
set_option maxHeartbeats 2000000 in
theorem takes_any (pa : Option Addr) (n pc : Nat) (hn : n ≤ 5) (da : Option Addr) (m dc : Nat) (hm : m ≤ 7) (b : Option Addr) (cb : Nat) (ss : List Int) (hl : ss.length ≤ 100000000) (w : World) (hr : Reads w.heap.size w b ss) :
    Calls Try.prog 32 #[.agg #[.slice pa n pc, .slice da m dc], .slice b ss.length cb] w fun e w' => e = .returned (.bool (stB n m ss)) ∧ Below w.heap.size w w' := by
  have HR : Hid (Reads w.heap.size w b ss) := hr
  have HE : Hid (stB n m ss = (decide (ss.length = m) && upTo (stAt n ss) ss.length)) := rfl
  clear hr
  generalize stB n m ss = sb at *
  obtain ⟨W0, hW0⟩ : ∃ W0, W0 = w.alloc (Obj.cells #[.slice pa n pc, .slice da m dc] 55) := ⟨_, rfl⟩
  obtain ⟨D, hD⟩ : ∃ D, D = w.heap.size := ⟨_, rfl⟩
  have HW0 : Hid (W0 = w.alloc (Obj.cells #[.slice pa n pc, .slice da m dc] 55) ∧ D = w.heap.size) := ⟨hW0, hD⟩
  have HB0 : Hid (Below w.heap.size w W0) := by show Below _ _ _; rw [hW0]; exact below_alloc _ _
  have HDx : Hid (W0.heap[D]? = some (.cells #[.slice pa n pc, .slice da m dc] 55 (0, 0))) := by show _ = _; rw [hW0, hD]; exact heapNew _ _
  clear hW0 hD
  have x0 := blkCell HDx.out 0 _ rfl
  have x1 := blkCell HDx.out 1 _ rfl
  simp only [List.getElem_toArray, List.getElem_cons_zero, List.getElem_cons_succ] at x0 x1
  by_cases hm' : ss.length = m
  case neg =>
    rw [decide_eq_false hm', Bool.false_and] at HE
    obtain rfl : sb = false := HE.out
    have hne : ¬ (ss.length : Int) = (m : Int) := by omega
    generalize ss.length = k at *
    go_enter Try.func32, Try.ntmps32
    go_upto_region 1 with fail
    rw [← HW0.out.1, ← HW0.out.2]
    clear HW0
    go_wp2_with fail
    go_ret
    exact ⟨rfl, HB0.out⟩
  rw [decide_eq_true hm', Bool.true_and] at HE
  subst hm'
  have hsb : sb = upTo (stAt n ss) ss.length := HE.out
  subst hsb
  clear HE
  obtain ⟨W1, hW1⟩ : ∃ W1, W1 = W0.alloc (Obj.cells #[.int .i64 0, .int .i64 ((n : Int) - 1)] 63) := ⟨_, rfl⟩
  obtain ⟨F, hF⟩ : ∃ F, F = W0.heap.size := ⟨_, rfl⟩
  have HW1 : Hid (W1 = W0.alloc (Obj.cells #[.int .i64 0, .int .i64 ((n : Int) - 1)] 63) ∧ F = W0.heap.size) := ⟨hW1, hF⟩
  have HB1 : Hid (Below w.heap.size w W1) := by show Below _ _ _; rw [hW1]; exact chain HB0.out (below_alloc _ _)
  have HFx : Hid (W1.heap[F]? = some (.cells #[.int .i64 (ahs ss 0), .int .i64 ((n : Int) - 1)] 63 (0, 0))) := by show _ = _; rw [hW1, hF]; exact heapNew _ _
  have hFw : w.heap.size ≤ F := by rw [hF]; exact HB0.out.size
  clear hW1 hF
  go_enter Try.func32, Try.ntmps32
  go_upto_region 1 with fail
  rw [← HW0.out.1, ← HW0.out.2]
  clear HW0
  go_upto_region 4 with fail
  rw [← HW1.out.1, ← HW1.out.2]
  clear HW1 x0 x1
  go_wp2_with fail
  go_loopw [7, 21] (fun _ c wr => ∃ k : Nat, k ≤ ss.length ∧ c = .int .i64 (k : Int) ∧ upTo (stAt n ss) k = true ∧ wr.heap[F]? = some (.cells #[.int .i64 (ahs ss k), .int .i64 ((n : Int) - 1)] 63 (0, 0)) ∧ Below w.heap.size w wr) (fun _ c _ => ss.length - (intOf c).toNat)
  case atStart => exact ⟨0, Nat.zero_le _, rfl, rfl, HFx.out, HB1.out⟩
  case round =>
    clear HFx HB1 HDx HB0
    obtain ⟨k, hk, rfl, hf, hx, hb⟩ := hrel
    have HF : Hid (upTo (stAt n ss) k = true) := hf
    have HB : Hid (Below w.heap.size w wr) := hb
    have HX : Hid (wr.heap[F]? = some (.cells #[.int .i64 (ahs ss k), .int .i64 ((n : Int) - 1)] 63 (0, 0))) := hx
    clear hf hb hx
    by_cases hlt : k < ss.length
    · have hlt' : (k : Int) < (ss.length : Int) := by omega
      rcases HR.out with h | ⟨b0, o0, ha, hB0, ia⟩
      · rw [h] at hlt; simp at hlt
      have c0 := (ia.below HB.out hB0) k hlt
      have HNo : Hid (stAt n ss k = false → upTo (stAt n ss) ss.length = false) := fun h => upTo_fail h _ hlt
      have HYe : Hid (stAt n ss k = true → upTo (stAt n ss) (k + 1) = true) := fun h => by show (upTo (stAt n ss) k && stAt n ss k) = true; rw [HF.out, h]; rfl
      have HA : Hid (ahs ss (k + 1) = ss.getD k 0) := rfl
      have HS : Hid (∀ W, Calls Try.prog 39 #[.agg #[.int .i64 (ahs ss k), .int .i64 ((n : Int) - 1)], .int .i64 (ss.getD k 0)] W fun e w' => e = .returned (.bool (stAt n ss k)) ∧ Below W.heap.size W w') := fun W => by rw [← stAt_ways n ss k HF.out]; exact mkSpan_any _ _ _ W
      have x0 := blkCell HX.out 0 _ rfl
      have x1 := blkCell HX.out 1 _ rfl
      simp only [List.getElem_toArray, List.getElem_cons_zero, List.getElem_cons_succ] at x0 x1
      rw [ha]
      clear ia
      generalize stAt n ss k = sk at *
      generalize ss.getD k 0 = s at *
      generalize ahs ss k = q at *
      go_wp2_with fail
      (first | go_at_call 39 | skip)
      refine (HS.out _).mono ?_
      rintro e w2 ⟨rfl, hb2⟩
      have hx2 := (hb2.block F (blkLt HX.out)).trans HX.out
      have y0 := blkCell hx2 0 _ rfl
      have f0 := blkFree hx2 0
      simp only [List.getElem_toArray, List.getElem_cons_zero] at y0
      have HX2 : Hid ((w2.setCell ⟨F, 0, none⟩ (.int .i64 s)).heap[F]? = some (.cells #[.int .i64 s, .int .i64 ((n : Int) - 1)] 63 (0, 0))) := pair_set hx2 _
      have HB2 : Hid (Below w.heap.size w w2) := chain HB.out hb2
      clear hb2 hx2 x0 x1 HX HB HS
      cases sk
      · go_wp2_with fail
        go_ret
        exact ⟨ret_bool (HNo.out trivial).symm, HB2.out⟩
      · have HY1 : Hid (upTo (stAt n ss) (k + 1) = true) := HYe.out rfl
        go_wp2_with fail
        exact ⟨⟨k + 1, by omega, by go_num, HY1.out, by rw [HA.out]; exact HX2.out, HB2.out.setCell hFw _⟩, by simp [intOf]; omega⟩
    · obtain rfl : k = ss.length := by omega
      go_wp2_with fail
      go_ret
      exact ⟨ret_bool HF.out.symm, HB.out⟩
theorem lsold_any (pa : Option Addr) (pn pc : Nat) (da : Option Addr) (dc : Nat) (cs : LL) (hc : cs.length ≤ 7) (d s : Nat) (hd : d < cs.length) (hs : s < (cs.getD d []).length) (hs5 : (cs.getD d []).length ≤ 5) (l : Int) (w : World) (hr : ReadsDm w.heap.size w da cs) :
    Calls Try.prog 53 #[.agg #[.slice pa pn pc, .slice da cs.length dc], .int .i64 (d : Int), .int .i64 (s : Int), .int .i64 l] w fun e w' => e = .returned (.int .i64 (min ((cs.getD d []).getD s 0) l)) ∧ Below w.heap.size w w' := by
  rcases hr with h | ⟨b0, o0, rfl, hB0, ia⟩
  · rw [h] at hd; simp at hd
  obtain ⟨h, cp, c0, _, hS⟩ := ia d hd
  rcases hS with hS | ⟨b1, o1, rfl, hB1, ib⟩
  · rw [hS] at hs; simp at hs
  have c1 := ib s hs
  have hd' : (d : Int) < (cs.length : Int) := by omega
  have hs' : (s : Int) < ((cs.getD d []).length : Int) := by omega
  have k0 := (cellOld w (Obj.cells #[.slice pa pn pc, .slice (some ⟨b0, o0, none⟩) cs.length dc] 55) (b := b0) (j := o0 + d) hB0).trans c0
  have k1 := (cellOld w (Obj.cells #[.slice pa pn pc, .slice (some ⟨b0, o0, none⟩) cs.length dc] 55) (b := b1) (j := o1 + s) hB1).trans c1
  clear ia ib c0 c1
  generalize (cs.getD d []).getD s 0 = x at *
  generalize (cs.getD d []).length = n at *
  generalize cs.length = m at *
  rcases min_of x l with ⟨e, h⟩ | ⟨e, h⟩
  all_goals
    rw [e]
    clear e
    go_enter Try.func53, Try.ntmps53
    go_wp2
    go_ret
    exact ⟨rfl, below_alloc _ _⟩
end Go.Proofs.Ytlcnhkhkhlpghaa
