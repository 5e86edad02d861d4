/-
  Texts of this claim laid together: BeD.
-/
import Derived.Test.YtkfmifbffgbiiaaM37
import Derived.Test.YtkfmifbffgbiiaaM18
import Derived.Test.YtkfmifbffgbiiaaM25
/-
  What is handed on: a taking and what it leaves, held against the best way so far.
-/
namespace Go.Proofs.Ytkfmifbffgbiiaa
open Go.ChangeShapes Go.WideShapes Go.ChangeAt Go.RowKit Go.Deep
set_option linter.unusedVariables false

theorem useAt.keep {W W' : World} {cur : Array Value} {o : Nat} {u : Nat × List Nat} (h : useAt W cur o u) (hk : ∀ (a : Option Addr) (xs : List Nat), RI W a xs → RI W' a xs) : useAt W' cur o u := by
  obtain ⟨g, c, h0, h1, h2, h3, h4⟩ := h
  exact ⟨g, c, h0, h1, h2, h3, hk _ _ h4⟩
theorem useAt.shift {W : World} {cur cur' : Array Value} {o o' : Nat} {u : Nat × List Nat} (h : useAt W cur o u) (hc : ∀ j, j < 3 → cur'[o' + j]? = cur[o + j]?) : useAt W cur' o' u := by
  obtain ⟨g, c, h0, h1, h2, h3, h4⟩ := h
  exact ⟨g, c, (hc 0 (by omega)).trans h0, (hc 1 (by omega)).trans h1, (hc 2 (by omega)).trans h2, h3, h4⟩
/-- What uses lay for an append. -/
theorem RU.news {W : World} {a : Option Addr} {U : List (Nat × List Nat)} (h : RU W a U) : ∃ news : List Value, news.length = U.length * 3 ∧ (0 < U.length → ∃ ad, a = some ad ∧ ∀ j u, news[j]? = some u → W.cell? (ad.add j) = some u) ∧ (∀ u ∈ news, u.oneCell' = true) ∧ ∀ i, i < U.length → useAt W news.toArray (i * 3) (U.getD i (0, [])) := by
  rcases h with h | ⟨b, off, cur, ha, hb, hc⟩
  · subst h
    exact ⟨[], rfl, fun h0 => absurd h0 (by simp), fun u hu => (by cases hu), fun i hi => absurd hi (by simp)⟩
  · have hat : ∀ j, j < U.length * 3 → ∃ u, cur[off + j]? = some u ∧ u.oneCell' = true := fun j hj => by
      obtain ⟨g, c, h0, h1, h2, _, _⟩ := hc (j / 3) (by omega)
      rcases (by omega : j % 3 = 0 ∨ j % 3 = 1 ∨ j % 3 = 2) with e | e | e
      · rw [show off + j = off + j / 3 * 3 by omega]; exact ⟨_, h0, rfl⟩
      · rw [show off + j = off + j / 3 * 3 + 1 by omega]; exact ⟨_, h1, rfl⟩
      · rw [show off + j = off + j / 3 * 3 + 2 by omega]; exact ⟨_, h2, rfl⟩
    have hget : ∀ j, j < U.length * 3 → ((cur.toList.drop off).take (U.length * 3))[j]? = cur[off + j]? := fun j hj => by
      rw [List.getElem?_take_of_lt hj, List.getElem?_drop, Array.getElem?_toList]
    have hlen : ((cur.toList.drop off).take (U.length * 3)).length = U.length * 3 := by
      rcases Nat.eq_zero_or_pos (U.length * 3) with h0 | h0
      · rw [h0]; simp
      · obtain ⟨u, hu, _⟩ := hat (U.length * 3 - 1) (by omega)
        have := (Array.getElem?_eq_some_iff.1 hu).1
        have h9 : cur.toList.length = cur.size := Array.length_toList
        rw [List.length_take, List.length_drop]
        omega
    refine ⟨(cur.toList.drop off).take (U.length * 3), hlen, fun h0 => ⟨_, ha, fun j u hj => ?_⟩, fun u hu => ?_, fun i hi => ?_⟩
    · have hjl := (List.getElem?_eq_some_iff.1 hj).1
      rw [hlen] at hjl
      rw [hget j hjl] at hj
      rw [Go.WideShapes.add_plain]
      exact blkCell hb _ _ hj
    · obtain ⟨j, hj, rfl⟩ := List.getElem_of_mem hu
      rw [hlen] at hj
      obtain ⟨v, hv, h1⟩ := hat j hj
      have e := hget j hj
      rw [hv, List.getElem?_eq_getElem (by rw [hlen]; exact hj)] at e
      injection e with e
      rw [e]; exact h1
    · refine (hc i hi).shift (fun j hj => ?_)
      rw [List.getElem?_toArray, hget _ (by omega), Nat.add_assoc]
theorem RU.ofRow {W : World} {B n vc : Nat} {va : Option Addr} {xs : List Value} {U : List (Nat × List Nat)} (h : W.ownsRow B 36 3 (.slice va n vc) n xs) (hU : U.length = n) (hx : ∀ i, i < n → useAt W xs.toArray (i * 3) (U.getD i (0, []))) : RU W va U := by
  rcases Nat.eq_zero_or_pos n with h0 | h0
  · exact .inl (List.eq_nil_of_length_eq_zero (by omega))
  · obtain ⟨h1, h2⟩ := h
    rcases h2 with ⟨q, h3⟩ | ⟨g, cap, cur, q, hB, hg, hc, hm, hs, ht⟩
    · omega
    · simp only [Value.slice.injEq] at q
      refine .inr ⟨g, 0, cur, q.1, hg, fun i hi => ?_⟩
      rw [hU] at hi
      refine (hx i hi).shift (fun j hj => ?_)
      have e9 : xs.toArray[i * 3 + j]? = xs[i * 3 + j]? := List.getElem?_toArray
      rw [e9, ← ht, List.getElem?_take_of_lt (by omega), Array.getElem?_toList, Nat.zero_add]
theorem cell_lt {W : World} {a : Addr} {v : Value} (h : W.cell? a = some v) : a.block < W.heap.size := by
  rcases Nat.lt_or_ge a.block W.heap.size with h1 | h1
  · exact h1
  · simp [World.cell?, Array.getElem?_eq_none h1] at h
theorem spD_lt {d : CDl} {sp k : Nat} (hs : sp < 64) (hk : k < 6) : spD d sp k < 64 := by
  unfold spD
  split
  · exact Nat.or_lt_two_pow (n := 6) hs (Nat.pow_lt_pow_right (by decide) hk)
  · exact hs
theorem sp_or (d : CDl) (sp k : Nat) (hs : sp < 64) (hk : k < 6) : bits .or .u64 (sp : Int) ((if d.on = true then 2 ^ k else 0 : Nat) : Int) = ((spD d sp k : Nat) : Int) := by
  have hp : 2 ^ k < 64 := Nat.pow_lt_pow_right (a := 2) (m := k) (n := 6) (by decide) hk
  unfold spD
  split
  · rw [orU _ _ (by omega) (by omega)]
  · rw [orU _ _ (by omega) (by omega)]; simp
theorem bb_set2 {W : World} {bb : Nat} {v0 v1 : Value} (h : W.heap[bb]? = some (.cells #[v0, v1] 73 (0, 0))) (x0 x1 : Value) : ((W.setCell ⟨bb, 0, none⟩ x0).setCell ⟨bb, 1, none⟩ x1).heap[bb]? = some (.cells #[x0, x1] 73 (0, 0)) := by
  have e := heap_setCell_same _ _ 1 _ _ x1 (heap_setCell_same _ _ 0 _ _ x0 h)
  simp only [List.setIfInBounds_toArray, List.set_cons_zero, List.set_cons_succ] at e
  exact e
theorem StB.setBest {C : Cx} (hC : CxOK C) {k sp bb spb cpb dlb nmb : Nat} {b : Wy} {W : World} (h : StB C k sp bb spb cpb dlb nmb b W) (b' : Wy) (a : Option Addr) (c : Nat) (hr : RU W a b'.us) : StB C k sp bb spb cpb dlb nmb b' ((W.setCell ⟨bb, 0, none⟩ (.int .i64 b'.sv)).setCell ⟨bb, 1, none⟩ (.slice a b'.us.length c)) ∧ Fr (XB C bb) W ((W.setCell ⟨bb, 0, none⟩ (.int .i64 b'.sv)).setCell ⟨bb, 1, none⟩ (.slice a b'.us.length c)) := by
  obtain ⟨a0, c0, hb, _⟩ := h.best
  have ht : Typ W (fun q => q = bb) := fun q cur t hq ht e => by
    rw [e, hb] at hq
    simp at hq
    exact ht hq.2.symm
  have hf : Fr (fun q => q = bb) W ((W.setCell ⟨bb, 0, none⟩ (.int .i64 b'.sv)).setCell ⟨bb, 1, none⟩ (.slice a b'.us.length c)) := Fr.set (X := fun q => q = bb) (Fr.set (X := fun q => q = bb) (Fr.refl _ _) (b := bb) rfl _ _) (b := bb) rfl _ _
  have hne : ¬ C.kb = bb := fun e => by
    obtain ⟨es, ck, hm⟩ := h.env.memo.is
    rw [← e, hm] at hb
    simp at hb
  refine ⟨⟨h.env.fr ht hf (fun q e => by rw [e]; exact h.hbb) (h.env.memo.fr ht hf hne), ⟨a, c, bb_set2 hb _ _, hr.fr ht hf⟩, (ht.keep hf h.spx (by decide)).trans h.spx, (ht.keep hf h.cpx (by decide)).trans h.cpx, h.dlx.fr ht hf, (ht.keep hf h.nmx (by decide)).trans h.nmx, h.hbb⟩, hf.mono (fun q e => .inr e)⟩
theorem hand_end {C : Cx} (hC : CxOK C) {k sp bb spb cpb dlb nmb : Nat} {b y : Wy} {st : Int} {t : List Nat} {ta va : Option Addr} {tc vc w4z : Nat} {W5 w6 : World} {news : List Value} (hS : StB C k sp bb spb cpb dlb nmb b W5) (hT : RI W5 ta t) (htc : t.length ≤ tc)
    (huse : ∀ i, i < y.us.length → useAt W5 news.toArray (i * 3) (y.us.getD i (0, [])))
    (hown : w6.ownsRow w4z 36 3 (.slice va (1 + y.us.length) vc) (1 + y.us.length) ([.int .i64 (k : Int), .int .i64 0, .slice ta t.length tc] ++ news)) (hnT : ∀ (a : Option Addr) (xs : List Nat), RI W5 a xs → RI w6 a xs) (hSt : StB C k sp bb spb cpb dlb nmb b w6) :
    StB C k sp bb spb cpb dlb nmb ⟨st + y.sv, (k, t) :: y.us⟩ ((w6.setCell ⟨bb, 0, none⟩ (.int .i64 (st + y.sv))).setCell ⟨bb, 1, none⟩ (.slice va (1 + y.us.length) vc)) ∧ Fr (XB C bb) w6 ((w6.setCell ⟨bb, 0, none⟩ (.int .i64 (st + y.sv))).setCell ⟨bb, 1, none⟩ (.slice va (1 + y.us.length) vc)) := by
  have hru : RU w6 va ((k, t) :: y.us) := by
    refine RU.ofRow hown (by simp; omega) (fun i hi => ?_)
    cases i with
    | zero => exact ⟨ta, tc, rfl, rfl, rfl, htc, hnT _ _ hT⟩
    | succ i =>
      have := (huse i (by omega)).keep hnT
      refine this.shift (fun j hj => ?_)
      have e1 : ([.int .i64 (k : Int), .int .i64 0, .slice ta t.length tc] ++ news : List Value).toArray[(i + 1) * 3 + j]? = ([.int .i64 (k : Int), .int .i64 0, .slice ta t.length tc] ++ news : List Value)[(i + 1) * 3 + j]? := List.getElem?_toArray
      have e2 : news.toArray[i * 3 + j]? = news[i * 3 + j]? := List.getElem?_toArray
      rw [e1, e2, List.getElem?_append_right (by simp; omega)]
      congr 1
      simp; omega
  have h := hSt.setBest hC ⟨st + y.sv, (k, t) :: y.us⟩ va vc hru
  rw [show 1 + y.us.length = ((k, t) :: y.us).length by simp; omega]
  exact h
set_option maxHeartbeats 8000000 in
set_option maxRecDepth 4000 in
theorem hand_any (C : Cx) (hC : CxOK C) (N : Nat) (HS : SrP C N) (k sp bb spb cpb dlb nmb : Nat) (hk : k < C.ds.length) (hsp : sp < 64) (left : List Nat) (hleft : Ris C.us.length left) (hN : left.length ≤ N) (t r : List Nat) (hc : (t, r) ∈ takes C.us (C.ds.getD k zDl) left) (b : Wy) (ta ra : Option Addr) (tc rc : Nat) (htc : t.length ≤ tc) (hrc : r.length ≤ rc) (W : World) (hS : StB C k sp bb spb cpb dlb nmb b W) (ht : RI W ta t) (hr : RI W ra r) :
    Calls Try.prog 42 #[.slice ta t.length tc, .slice ra r.length rc, .pointer (some ⟨C.sb, 0, none⟩), .pointer (some ⟨spb, 0, none⟩), .pointer (some ⟨cpb, 0, none⟩), .pointer (some ⟨dlb, 0, none⟩), .pointer (some ⟨C.ub, 0, none⟩), .pointer (some ⟨bb, 0, none⟩), .pointer (some ⟨nmb, 0, none⟩)] W fun e w' => e = .returned (.tuple #[]) ∧ StB C k sp bb spb cpb dlb nmb (stT (svU C.us (C.ds.getD k zDl)) (fun r => sr C.us C.ds r (spD (C.ds.getD k zDl) sp k)) k b (t, r)) w' ∧ Fr (XB C bb) W w' := by
  obtain ⟨hul, hup⟩ := unAll_yes hC.hu
  obtain ⟨hdl, _⟩ := dlAll_yes hC.hd
  obtain ⟨hr2', hl2'⟩ := takes_left hC.hd hleft hk hc
  have hr2 : Ris C.us.length r := hr2'
  have hl2 : r.length < left.length := hl2'
  clear hr2' hl2'
  have hspD := spD_lt (d := C.ds.getD k zDl) (k := k) hsp (by omega)
  have hcall := HS r (spD (C.ds.getD k zDl) sp k) ra rc W (by omega) hr2 hspD hrc hS.env hr
  have hor := sp_or (C.ds.getD k zDl) sp k hsp (by omega)
  have x0 : W.cell? ⟨C.sb, 0, none⟩ = some C.fn := blkCell hS.env.sbx 0 _ rfl
  have x1 : W.cell? ⟨spb, 0, none⟩ = some (.int .u64 (sp : Int)) := blkCell hS.spx 0 _ rfl
  have x2 : W.cell? ⟨cpb, 0, none⟩ = some (.int .u64 ((if (C.ds.getD k zDl).on = true then 2 ^ k else 0 : Nat) : Int)) := blkCell hS.cpx 0 _ rfl
  unfold Cx.fn at x0
  have hgood := good_of_use hC.hu hC.hd (takes_use hC.hd hleft hk hc)
  have hsv := takes_sv hC.hu hC.hd hleft hk hc
  have hfb := sr_bound hC.hu hC.hd r.length r (spD (C.ds.getD k zDl) sp k) (Nat.le_refl _) hr2
  have hrl : r.length ≤ 8 := by have := hr2.le; omega
  have hyl := sr_len (us := C.us) hC.hd (spD (C.ds.getD k zDl) sp k) hr2
  have htl : t.length ≤ 8 := by
    have := (hgood.2.2.1).1
    unfold cuOf at this
    dsimp only at this
    rw [List.length_map, zN_len] at this
    omega
  have HPs : Hid (PsOK ((zN t).map (prAt C.us)) ∧ TvOK (C.ds.getD k zDl).kd (C.ds.getD k zDl).vl ∧ InR C.us (zN t)) := by
    have hd : dlAt C.ds ((k : Nat) : Int) = C.ds.getD k zDl := by unfold dlAt; rw [Int.toNat_natCast]
    have h3 := hgood.2.2.2
    unfold cuOf at h3
    dsimp only at h3
    rw [hd] at h3
    exact ⟨hgood.2.2.1, h3, hgood.2.1⟩
  have HSt : Hid (StB C k sp bb spb cpb dlb nmb b W) := hS
  have HRt : Hid (RI W ta t) := ht
  have HC : Hid (CxOK C) := hC
  have HRes : Hid (stT (svU C.us (C.ds.getD k zDl)) (fun r => sr C.us C.ds r (spD (C.ds.getD k zDl) sp k)) k b (t, r) = if b.sv < svU C.us (C.ds.getD k zDl) t + (sr C.us C.ds r (spD (C.ds.getD k zDl) sp k)).sv then ⟨svU C.us (C.ds.getD k zDl) t + (sr C.us C.ds r (spD (C.ds.getD k zDl) sp k)).sv, (k, t) :: (sr C.us C.ds r (spD (C.ds.getD k zDl) sp k)).us⟩ else b) := rfl
  have HSvU : Hid (svU C.us (C.ds.getD k zDl) t = svB (C.ds.getD k zDl).kd (C.ds.getD k zDl).vl ((zN t).map (prAt C.us))) := rfl
  clear hS ht hr hgood hc hleft HS hC hr2
  generalize stT (svU C.us (C.ds.getD k zDl)) (fun r => sr C.us C.ds r (spD (C.ds.getD k zDl) sp k)) k b (t, r) = bn at *
  generalize (if (C.ds.getD k zDl).on = true then 2 ^ k else 0 : Nat) = cpn at *
  dsimp only at hsv
  generalize sr C.us C.ds r (spD (C.ds.getD k zDl) sp k) = y at *
  generalize spD (C.ds.getD k zDl) sp k = sp2 at *
  generalize svU C.us (C.ds.getD k zDl) t = st at *
  have HCall : Hid (Calls Try.prog 36 #[.slice ra r.length rc, .int .u64 (sp2 : Int), .pointer (some ⟨C.kx, 0, none⟩), .pointer (some ⟨C.sb, 0, none⟩), .pointer (some ⟨C.db, 0, none⟩), .pointer (some ⟨C.ub, 0, none⟩)] W fun e w' => ∃ v, e = .returned v ∧ HoldsW w' v y ∧ Fr (fun q => q = C.kb) W w' ∧ Memo C.us C.ds w' C.kb) := hcall
  clear hcall
  go_enter Try.func42, Try.ntmps42
  go_wp2_with fail
  (first | go_at_call 36 | skip)
  refine HCall.out.mono ?_
  rintro e w1 ⟨v, rfl, ⟨fa, fc, rfl, hfu⟩, hf1, hm1⟩
  have hS1 := HSt.out.fr HC.out hf1 hm1
  have ht1 := HRt.out.fr (typ_map HSt.out.env.memo.is) hf1
  obtain ⟨W2, hW2⟩ : ∃ W2, W2 = w1.alloc (Obj.cells #[.int .i64 y.sv, .slice fa y.us.length fc] 73) := ⟨_, rfl⟩
  have hz2 : W2.heap.size = w1.heap.size + 1 := by rw [hW2]; simp
  have hb2 : Below w1.heap.size w1 W2 := by rw [hW2]; exact below_alloc _ _
  have HN2 : Hid (W2.heap[w1.heap.size]? = some (.cells #[.int .i64 y.sv, .slice fa y.us.length fc] 73 (0, 0))) := by show _ = _; rw [hW2]; exact heapNew _ _
  have HQ : Hid (∀ W', Below W2.heap.size W2 W' → StB C k sp bb spb cpb dlb nmb b W' ∧ RI W' ta t ∧ RU W' fa y.us ∧ Fr (fun q => q = C.kb) W W' ∧ W'.heap[w1.heap.size]? = some (.cells #[.int .i64 y.sv, .slice fa y.us.length fc] 73 (0, 0))) := fun W' hW => by
    have h := chain hb2 hW
    exact ⟨hS1.later HC.out h, ht1.later h, hfu.later h, hf1.trans (Fr.of h), (hW.block _ (by omega)).trans HN2.out⟩
  clear hS1 ht1 hfu hf1 hm1 x0 x1 x2 HCall HSt HRt
  obtain ⟨dh, dcp, hdb, hrs⟩ := (HQ.out W2 (Below.refl _ _)).1.dlx
  have HDl : Hid (∀ W', Below W2.heap.size W2 W' → W'.heap[dlb]? = some (.cells #[.string (C.ds.getD k zDl).nm, .int .i64 (C.ds.getD k zDl).kd, .slice dh (C.ds.getD k zDl).arts.length dcp, .int .i64 (C.ds.getD k zDl).nd, .int .i64 (C.ds.getD k zDl).vl, .bool (C.ds.getD k zDl).on] 39 (0, 0)) ∧ W'.cell? ⟨C.ub, 0, none⟩ = some (.slice C.ua C.us.length C.uc) ∧ W'.cell? ⟨w1.heap.size, 0, none⟩ = some (.int .i64 y.sv)) := fun W' hW => ⟨(hW.block dlb (blkLt hdb)).trans hdb, blkCell (HQ.out W' hW).1.env.ubx 0 _ rfl, blkCell (HQ.out W' hW).2.2.2.2 0 _ rfl⟩
  have HPr : Hid (∀ W', Below W2.heap.size W2 W' → Calls Try.prog 34 #[.slice C.ua C.us.length C.uc, .slice ta t.length tc] W' fun e w' => ∃ g cp, e = .returned (.slice (some ⟨g, 0, none⟩) t.length cp) ∧ Reads w'.heap.size w' (some ⟨g, 0, none⟩) ((zN t).map (prAt C.us)) ∧ Below W'.heap.size W' w') := fun W' hW => by
    have hE := (HQ.out W' hW).1.env
    have := pricesOf_any C.ua C.uc C.us (by omega) ta tc (zN t) (by rw [zN_len]; omega) HPs.out.2.2 W' ((HC.out.ru.below hE.low).mono hE.top) (HQ.out W' hW).2.1.reads
    rwa [zN_len] at this
  have HSv : Hid (∀ W' g cp, Reads W'.heap.size W' (some ⟨g, 0, none⟩) ((zN t).map (prAt C.us)) → Calls Try.prog 33 #[.agg #[.string (C.ds.getD k zDl).nm, .int .i64 (C.ds.getD k zDl).kd, .slice dh (C.ds.getD k zDl).arts.length dcp, .int .i64 (C.ds.getD k zDl).nd, .int .i64 (C.ds.getD k zDl).vl, .bool (C.ds.getD k zDl).on], .slice (some ⟨g, 0, none⟩) t.length cp] W' fun e w' => e = .returned (.int .i64 st) ∧ Below W'.heap.size W' w') := fun W' g cp h => by
    have := saves_any (C.ds.getD k zDl) dh dcp (some ⟨g, 0, none⟩) cp _ HPs.out.1 HPs.out.2.1 W' h
    rw [List.length_map, zN_len, ← HSvU.out] at this
    exact this
  have hws : IntKind.i64.wrap (st + y.sv) = st + y.sv := wrap_id _ (by omega) (by omega)
  clear hdb hrs
  generalize C.ds.getD k zDl = d at HDl HSv
  go_wp2_with fail
  rw [← hW2]
  clear hW2
  refine wp_region_held_drew (S := fun W' => Below W2.heap.size W2 W') (by kernel_rfl) (below_drew _) (fun hH => ?_)
  refine wpAnyH_take (i := 0) (v := .agg #[.string d.nm, .int .i64 d.kd, .slice dh d.arts.length dcp, .int .i64 d.nd, .int .i64 d.vl, .bool d.on]) rfl (by kernel_rfl) (by kernel_rfl) (by kernel_rfl) (fun _ _ _ h => h) (Or.inl ⟨by rfl, fun w hSw => by have f := (HDl.out w hSw).1; have f0 := blkCell f 0 _ rfl; have f1 := blkCell f 1 _ rfl; have f2 := blkCell f 2 _ rfl; have f3 := blkCell f 3 _ rfl; have f4 := blkCell f 4 _ rfl; have f5 := blkCell f 5 _ rfl; clear f; go_simp⟩) hH ?_
  refine wpAnyH_take (i := 1) (v := .slice C.ua C.us.length C.uc) rfl (by kernel_rfl) (by kernel_rfl) (by kernel_rfl) (fun _ _ _ h => h) (Or.inl ⟨by rfl, fun w hSw => by have f0 := (HDl.out w hSw).2.1; go_simp⟩) hH ?_
  try simp only [Act.put, List.setIfInBounds_toArray, List.set_cons_zero, List.set_cons_succ, List.getElem_toArray, List.getElem_cons_succ, List.getElem_cons_zero]
  refine wpAnyH_take (i := 2) (v := .slice ta t.length tc) rfl (by kernel_rfl) (by kernel_rfl) (by kernel_rfl) (fun _ _ _ h => h) (Or.inl ⟨by rfl, fun w hSw => by go_simp⟩) hH ?_
  try simp only [Act.put, List.setIfInBounds_toArray, List.set_cons_zero, List.set_cons_succ, List.getElem_toArray, List.getElem_cons_succ, List.getElem_cons_zero]
  refine wpAnyH_take (i := 5) (v := .pointer (some ⟨w1.heap.size, 0, none⟩)) rfl (by kernel_rfl) (by kernel_rfl) (by kernel_rfl) (fun _ _ _ h => h) (Or.inl ⟨by rfl, fun w hSw => by go_simp⟩) hH ?_
  try simp only [Act.put, List.setIfInBounds_toArray, List.set_cons_zero, List.set_cons_succ, List.getElem_toArray, List.getElem_cons_succ, List.getElem_cons_zero]
  refine wpAnyH_take (i := 6) (v := .int .i64 y.sv) rfl (by kernel_rfl) (by kernel_rfl) (by kernel_rfl) (fun _ _ _ h => h) (Or.inl ⟨by rfl, fun w hSw => by have f0 := (HDl.out w hSw).2.2; go_simp⟩) hH ?_
  try simp only [Act.put, List.setIfInBounds_toArray, List.set_cons_zero, List.set_cons_succ, List.getElem_toArray, List.getElem_cons_succ, List.getElem_cons_zero]
  refine wpAnyH_ready (rs := [3]) (by kernel_rfl) (by simp) ?_
  refine AllReadyH.cons rfl (fun K hK => ?_) AllReadyH.nil
  go_simp
  go_at_call 34
  refine (HPr.out _ hH).mono ?_
  rintro e w3 ⟨g3, c3, rfl, hr3, hb3⟩
  have hw3 : Below W2.heap.size W2 w3 := chain hH hb3
  clear hb3
  refine hK.out _ _ hw3 (fun _ => ?_)
  clear hK K
  try simp only [Act.put, List.setIfInBounds_toArray, List.set_cons_zero, List.set_cons_succ, List.getElem_toArray, List.getElem_cons_succ, List.getElem_cons_zero]
  refine wpAnyH_ready (rs := [4]) (by kernel_rfl) (by simp) ?_
  refine AllReadyH.cons rfl (fun K hK => ?_) AllReadyH.nil
  go_simp
  go_at_call 33
  refine (HSv.out _ _ _ hr3).mono ?_
  rintro e w4 ⟨rfl, hb4⟩
  have hw4 : Below W2.heap.size W2 w4 := chain hw3 hb4
  clear hb4 hr3
  refine hK.out _ _ hw4 (fun _ => ?_)
  clear hK K
  try simp only [Act.put, List.setIfInBounds_toArray, List.set_cons_zero, List.set_cons_succ, List.getElem_toArray, List.getElem_cons_succ, List.getElem_cons_zero]
  refine wpAnyH_take (i := 7) (v := .int .i64 (st + y.sv)) rfl (by kernel_rfl) (by kernel_rfl) (by kernel_rfl) (fun _ _ _ h => h) (Or.inl ⟨by rfl, fun w hSw => by go_simp⟩) hw4 ?_
  try simp only [Act.put, List.setIfInBounds_toArray, List.set_cons_zero, List.set_cons_succ, List.getElem_toArray, List.getElem_cons_succ, List.getElem_cons_zero]
  refine wpAnyH_take (i := 8) (v := .int .i64 (st + y.sv)) rfl (by kernel_rfl) (by kernel_rfl) (by kernel_rfl) (fun _ _ _ h => h) (Or.inl ⟨by rfl, fun w hSw => by go_simp⟩) hw4 ?_
  try simp only [Act.put, List.setIfInBounds_toArray, List.set_cons_zero, List.set_cons_succ, List.getElem_toArray, List.getElem_cons_succ, List.getElem_cons_zero]
  refine wpAnyH_done (by kernel_rfl) ?_ _
  have H4 : Hid (Below W2.heap.size W2 w4) := hw4
  clear hw4 hw3 hH HPr HSv HDl
  obtain ⟨hS4, hT4, hU4, hF4, hN4⟩ := HQ.out w4 H4.out
  obtain ⟨ba, bc, hbb, hbu⟩ := hS4.best
  have z0 : w4.cell? ⟨bb, 0, none⟩ = some (.int .i64 b.sv) := blkCell hbb 0 _ rfl
  by_cases hgt : b.sv < st + y.sv
  · have HBn : Hid (bn = ⟨st + y.sv, (k, t) :: y.us⟩) := by show _ = _; rw [HRes.out, if_pos hgt]
    obtain ⟨i0, hi, hzz⟩ := Option.map_eq_some_iff.1 usInfo
    simp only [Prod.mk.injEq] at hzz
    obtain ⟨hi0, hi1, hi2⟩ := hzz
    obtain ⟨news, hnl, hnews, hone, huse⟩ := hU4.news
    have n0 : w4.cell? ⟨nmb, 0, none⟩ = some (.int .i64 (k : Int)) := blkCell hS4.nmx 0 _ rfl
    obtain ⟨W5, hW5⟩ : ∃ W5, W5 = w4.alloc (Obj.cells #[.int .i64 (k : Int), .int .i64 0, .slice ta t.length tc] 36) := ⟨_, rfl⟩
    have hb5 : Below w4.heap.size w4 W5 := by rw [hW5]; exact below_alloc _ _
    have hz5 : W5.heap.size = w4.heap.size + 1 := by rw [hW5]; simp
    have HOw : Hid (W5.ownsRow w4.heap.size 36 3 (.slice (some ⟨w4.heap.size, 0, none⟩) 1 1) 1 [.int .i64 (k : Int), .int .i64 0, .slice ta t.length tc]) := by
      rw [hW5]
      exact ⟨rfl, .inr ⟨w4.heap.size, 1, _, rfl, Nat.le_refl _, heapNew _ _, Nat.le_refl _, by unfold maxLen; omega, rfl, rfl⟩⟩
    have HNws : Hid ((0 < y.us.length → ∃ ad, fa = some ad ∧ ∀ j u, news[j]? = some u → W5.cell? (ad.add j) = some u) ∧ ∀ u ∈ news, u.oneCell' = true) := by
      refine ⟨fun h0 => ?_, hone⟩
      obtain ⟨ad, ha, hc⟩ := hnews h0
      refine ⟨ad, ha, fun j u hj => ?_⟩
      have h1 := hc j u hj
      have hlt : (ad.add j).block < w4.heap.size := cell_lt h1
      rw [← h1]
      exact World.cell?_of_block (w := w4) (a := ad.add j) (hb5.block _ hlt)
    have HEnd : Hid (∀ va vc w6, w6.ownsRow w4.heap.size 36 3 (.slice va (1 + y.us.length) vc) (1 + y.us.length) ([.int .i64 (k : Int), .int .i64 0, .slice ta t.length tc] ++ news) → W5.grownBy w6 (some w4.heap.size) → StB C k sp bb spb cpb dlb nmb bn ((w6.setCell ⟨bb, 0, none⟩ (.int .i64 (st + y.sv))).setCell ⟨bb, 1, none⟩ (.slice va (1 + y.us.length) vc)) ∧ Fr (XB C bb) W ((w6.setCell ⟨bb, 0, none⟩ (.int .i64 (st + y.sv))).setCell ⟨bb, 1, none⟩ (.slice va (1 + y.us.length) vc)) ∧ (∃ x0 x1, w6.heap[bb]? = some (.cells #[x0, x1] 73 (0, 0)))) := fun va vc w6 hown hg => by
      have hb6 : Below w4.heap.size w4 w6 := hb5.grown hg (by omega) (fun q hq => by injection hq with hq; omega)
      have hE := hand_end HC.out hS4 hT4 htc huse hown (fun a xs h => h.later hb6) (st := st) (hS4.later HC.out hb6)
      rw [HBn.out]
      exact ⟨hE.1, (hF4.mono (fun q e => .inl e)).trans ((Fr.of hb6).trans hE.2), _, _, (hb6.block bb (blkLt hbb)).trans hbb⟩
    have n1 : W5.cell? ⟨w1.heap.size, 1, none⟩ = some (.slice fa y.us.length fc) := blkCell ((hb5.block _ (blkLt hN4)).trans hN4) 1 _ rfl
    clear hnews hone huse hS4 hT4 hU4 hF4 hN4 hbb hbu HQ HBn
    rw [hW5] at HOw n1 HNws HEnd
    go_wp2_with (at_builtin; refine wpList_append_any rfl _ _ 25 rfl w4.heap.size 36 i0 (.agg #[.int .i64 0, .int .i64 0, .slice none 0 0]) 3 40 Try.underlying25 hi hi0 hi1 hi2 rfl (by decide) (.slice (some ⟨w4.heap.size, 0, none⟩) 1 1) 1 _ rfl HOw.out fa y.us.length fc news rfl hnl HNws.out.1 HNws.out.2 (by unfold maxLen; omega) (by omega) (by simp) ?_; intro va vc w6 hown hgrow hat; obtain ⟨e1, e2, u0, u1, hbx⟩ := HEnd.out va vc w6 hown hgrow; have HF : Hid (StB C k sp bb spb cpb dlb nmb bn ((w6.setCell ⟨bb, 0, none⟩ (.int .i64 (st + y.sv))).setCell ⟨bb, 1, none⟩ (.slice va (1 + y.us.length) vc)) ∧ Fr (XB C bb) W ((w6.setCell ⟨bb, 0, none⟩ (.int .i64 (st + y.sv))).setCell ⟨bb, 1, none⟩ (.slice va (1 + y.us.length) vc))) := ⟨e1, e2⟩; have b0 := blkCell hbx 0 _ rfl; have b1 := blkCell hbx 1 _ rfl; have g0 := blkFree hbx 0; have g1 := blkFree hbx 1; clear hown hgrow hat e1 e2 hbx)
    go_end0
    exact ⟨rfl, HF.out.1, HF.out.2⟩
  · have HBn : Hid (bn = b) := by show _ = _; rw [HRes.out, if_neg hgt]
    have HE : Hid (StB C k sp bb spb cpb dlb nmb bn w4 ∧ Fr (XB C bb) W w4) := by rw [HBn.out]; exact ⟨hS4, hF4.mono (fun q e => .inl e)⟩
    clear hS4 hT4 hU4 hF4 hN4 hbb hbu HQ
    go_wp2
    go_end0
    exact ⟨rfl, HE.out.1, HE.out.2⟩
end Go.Proofs.Ytkfmifbffgbiiaa
