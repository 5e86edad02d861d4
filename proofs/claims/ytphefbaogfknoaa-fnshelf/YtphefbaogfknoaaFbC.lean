/-
  Contracts of the specification's l13Gain and ShelfOf.
-/
import Derived.Test.YtphefbaogfknoaaFbB
import Derived.Test.YtphefbaogfknoaaFaC
import Derived.Test.YtphefbaogfknoaaRegZ
import Derived.Test.YtphefbaogfknoaaAppAny
namespace Go.Proofs.Ytphefbaogfknoaa
open Go.ChangeShapes Go.WideShapes Go.ChangeAt Go.RowKit Go.Deep
set_option linter.unusedVariables false

theorem usN_boundF {rs : List CFc} {cs : List Int} (hr : ∀ r ∈ rs, FcR r) : ∀ k, k ≤ rs.length → fitS rs cs k = true → 0 ≤ usN rs cs k ∧ usN rs cs k ≤ 12000 * (k : Int)
  | 0, _, _ => by simp [usN]
  | k + 1, hk, h => by
    have h0 := fit_at h k (by omega)
    have ih := usN_boundF hr k (by omega) h0.1
    have h1 := getFc hr (show k < rs.length by omega)
    have h2 := tk_bound h1 h0.2
    have h3 := mul_small ⟨h2.1, h2.2.1⟩ h1.2.1
    unfold usN
    push_cast
    omega
set_option maxHeartbeats 2000000 in
theorem specGain_any (r : CFc) (hr : FcR r) (h : Option Addr) (cp : Nat) (m : Nat) (hm : m ≤ r.gs.length) (w : World) (hR : Reads w.heap.size w h r.gs) :
    Calls Try.prog 41 #[.agg #[.string r.nm, .int .i64 r.wd, .int .i64 r.ls, .slice h r.gs.length cp], .int .i64 (m : Int)] w fun e w' => e = .returned (.int .i64 (gnN r.gs m)) ∧ Below w.heap.size w w' := by
  obtain ⟨b0, o0, ha, hB0, ia⟩ : ∃ b0 o0, h = some ⟨b0, o0, none⟩ ∧ b0 < w.heap.size ∧ IntsAt w b0 o0 r.gs := by
    rcases hR with hz | ⟨b0, o0, q⟩
    · have := hr.1.1; rw [hz] at this; simp at this
    · exact ⟨b0, o0, q⟩
  subst ha
  have HBd : Hid (∀ k, 0 ≤ gnN r.gs k ∧ gnN r.gs k ≤ 600000) := fun k => gnN_bound hr k
  have HGb : Hid (∀ g ∈ r.gs, 0 ≤ g ∧ g ≤ 100000) := hr.2.2.2
  have HI : Hid (IntsAt w b0 o0 r.gs) := ia
  have hm6 : m ≤ 6 := by have := hr.1.2; omega
  clear ia hR hr
  obtain ⟨nm, wd, ls, gs⟩ := r
  dsimp only at *
  generalize hN : gs.length = n at *
  have HN : Hid (gs.length = n) := hN
  clear hN
  go_enter Try.func41, Try.ntmps41
  go_wp2
  obtain ⟨W0, hW0⟩ : ∃ W0, W0 = w.alloc (Obj.cells #[.string nm, .int .i64 wd, .int .i64 ls, .slice (some ⟨b0, o0, none⟩) n cp] 51) := ⟨_, rfl⟩
  rw [← hW0]
  have HB0 : Hid (Below w.heap.size w W0) := by show Below _ _ _; rw [hW0]; exact below_alloc _ _
  have hbx : W0.heap[w.heap.size]? = some (.cells #[.string nm, .int .i64 wd, .int .i64 ls, .slice (some ⟨b0, o0, none⟩) n cp] 51 (0, 0)) := by rw [hW0]; exact heapNew _ _
  have d3 := blkCell hbx 3 _ rfl
  simp only [List.getElem_toArray, List.getElem_cons_zero, List.getElem_cons_succ] at d3
  clear hW0 hbx
  go_loop [5, 6] (fun s c => ∃ k : Nat, k ≤ m ∧ c = .int .i64 (k : Int) ∧ s = .int .i64 (gnN gs k)) (fun _ c => m - (intOf c).toNat)
  case atStart => exact ⟨0, Nat.zero_le _, rfl, rfl⟩
  case round =>
    obtain ⟨k, hk, rfl, rfl⟩ := hrel
    by_cases hlt : k < m
    · have hlt' : (k : Int) < (m : Int) := by omega
      have hln : (k : Int) < (n : Int) := by omega
      have hgl : k < gs.length := by have := HN.out; omega
      have c0 := (HI.out.below HB0.out hB0) k hgl
      have hb1 := HBd.out k
      have hb2 := getD_bound HGb.out k hgl
      have HE : Hid (gnN gs (k + 1) = gnN gs k + gs.getD k 0) := fsum_next gs k hgl
      generalize gnN gs k = s at *
      generalize gs.getD k 0 = x at *
      have hwr : IntKind.i64.wrap (s + x) = s + x := wrap_id _ (by omega) (by omega)
      go_wp2
      go_round
      case rel => exact ⟨k + 1, by omega, by go_num, by rw [HE.out]⟩
      case measure => simp [intOf]; omega
    · obtain rfl : k = m := by omega
      go_wp2
      go_ret
      exact ⟨rfl, HB0.out⟩
theorem ownsRow_sameF {w w' : World} {B : Nat} {e : TypeId} {size : Nat} {v : Value} {n : Nat} {xs : List Value} (h : w.ownsRow B e size v n xs) (hs : ∀ k, v.ownBlock = some k → w'.heap[k]? = w.heap[k]?) : w'.ownsRow B e size v n xs := by
  obtain ⟨h1, h2⟩ := h
  refine ⟨h1, ?_⟩
  rcases h2 with h2 | ⟨g, cap, cur, e, hB, hg, r⟩
  · exact .inl h2
  · exact .inr ⟨g, cap, cur, e, hB, (hs g (by rw [e]; rfl)).trans hg, r⟩
/-- The plan that is being made: its block P, the block R of the answer, its list in a row of its own. -/
structure PSt (w : World) (B P R : Nat) (cs : List Int) (q : Option Addr) (cq k : Nat) (us ga : Int) (W : World) : Prop where
  hP : W.heap[P]? = some (.cells #[.slice q k cq, .int .i64 us, .int .i64 ga] 28 (0, 0))
  hR : W.heap[R]? = some (.cells #[.slice none 0 0, .int .i64 0, .int .i64 0] 28 (0, 0))
  row : W.ownsRow B 3 1 (.slice q k cq) k ((cs.take k).map (.int .i64))
  bel : Below w.heap.size w W
  wB : w.heap.size ≤ B
  wP : w.heap.size ≤ P
  wR : w.heap.size ≤ R
  PR : P ≠ R
  BW : B ≤ W.heap.size
theorem PSt.later {w : World} {B P R : Nat} {cs : List Int} {q : Option Addr} {cq k : Nat} {us ga : Int} {W W' : World} (h : PSt w B P R cs q cq k us ga W) (hb : Below W.heap.size W W') : PSt w B P R cs q cq k us ga W' :=
  ⟨(hb.block P (blkLt h.hP)).trans h.hP, (hb.block R (blkLt h.hR)).trans h.hR, ownsRow_sameF h.row (fun k hk => hb.block k (h.row.lt k hk).2), chain h.bel hb, h.wB, h.wP, h.wR, h.PR, Nat.le_trans h.BW hb.size⟩
theorem PSt.set {w : World} {B P R : Nat} {cs : List Int} {q : Option Addr} {cq k : Nat} {us ga us' ga' : Int} {W : World} (h : PSt w B P R cs q cq k us ga W) (o : Nat) (v : Value) (hv : #[.slice q k cq, .int .i64 us, .int .i64 ga].setIfInBounds o v = #[.slice q k cq, .int .i64 us', .int .i64 ga']) : PSt w B P R cs q cq k us' ga' (W.setCell ⟨P, o, none⟩ v) := by
  have e := heap_setCell_same _ _ o _ _ v h.hP
  rw [hv] at e
  refine ⟨e, (Below.heap_setCell _ _ _ _ (Ne.symm h.PR)).trans h.hR, ownsRow_sameF h.row (fun k hk => Below.heap_setCell _ _ _ _ (fun e => ?_)), h.bel.setCell h.wP _, h.wB, h.wP, h.wR, h.PR, by rw [World.size_setCell]; exact h.BW⟩
  obtain ⟨cur, hc⟩ := row_type h.row hk
  have e' : k = P := e
  rw [e', h.hP] at hc
  simp at hc
theorem PSt.push {w : World} {B P R : Nat} {cs : List Int} {q q2 : Option Addr} {cq cq2 k : Nat} {us ga x : Int} {W W' : World} {o : Obj} (h : PSt w B P R cs q cq k us ga W) (hk : k < cs.length) (hx : cs.getD k 0 = x)
    (ho : W'.ownsRow B 3 1 (.slice q2 (k + 1) cq2) (k + 1) ((cs.take k).map (.int .i64) ++ [.int .i64 x])) (hg : (W.alloc o).grownBy W' (Value.ownBlock (.slice q k cq))) :
    W'.heap[P]? = some (.cells #[.slice q k cq, .int .i64 us, .int .i64 ga] 28 (0, 0)) ∧ Below w.heap.size w W' ∧ PSt w B P R cs q2 cq2 (k + 1) us ga (W'.setCell ⟨P, 0, none⟩ (.slice q2 (k + 1) cq2)) := by
  have hz : W.heap.size ≤ W'.heap.size := Nat.le_trans (by simp) hg.size
  have hne : ∀ {p : Nat} {cur : Array Value}, W.heap[p]? = some (.cells cur 28 (0, 0)) → W'.heap[p]? = W.heap[p]? := fun {p cur} hp => by
    refine (hg.block p (by have := blkLt hp; simp; omega) (fun e => ?_)).trans (Below.heap_alloc _ _ _ (blkLt hp))
    obtain ⟨c2, hc⟩ := row_type h.row e.symm
    rw [hp] at hc
    simp at hc
  have hp := (hne h.hP).trans h.hP
  have hr := (hne h.hR).trans h.hR
  have hb : Below w.heap.size w W' := (chain h.bel (below_alloc W o)).grown hg (by have := h.bel.size; simp; omega) (fun p e => Nat.le_trans h.wB (h.row.lt p e).1)
  have e := heap_setCell_same _ _ 0 _ _ (.slice q2 (k + 1) cq2) hp
  simp only [List.setIfInBounds_toArray, List.set_cons_zero] at e
  refine ⟨hp, hb, e, (Below.heap_setCell _ _ _ _ (Ne.symm h.PR)).trans hr, ?_, hb.setCell h.wP _, h.wB, h.wP, h.wR, h.PR, by rw [World.size_setCell]; exact Nat.le_trans h.BW hz⟩
  have e2 : (cs.take (k + 1)).map (Value.int .i64) = (cs.take k).map (.int .i64) ++ [.int .i64 x] := by
    have e1 : cs.getD k 0 = cs[k] := by simp [List.getD_eq_getElem?_getD, hk]
    rw [List.take_succ_eq_append_getElem hk, List.map_append, ← hx, e1]; rfl
  rw [e2]
  refine ownsRow_sameF ho (fun p hp2 => Below.heap_setCell _ _ _ _ (fun e => ?_))
  obtain ⟨cur, hc⟩ := row_type ho hp2
  have e' : p = P := e
  rw [e', hp] at hc
  simp at hc
theorem own2_row {B : Nat} {W : World} {q : Option Addr} {cq : Nat} {L : List Int} (h : W.ownsRow B 3 1 (.slice q L.length cq) L.length (L.map (.int .i64))) (hB : B ≤ W.heap.size) : Own2 B W q L := (show One W B (.slice q L.length cq) L W from ⟨h, hB, Below.refl _ _⟩).own2 rfl

set_option maxHeartbeats 16000000 in
set_option maxRecDepth 4000 in
theorem specShelf_any (a : Option Addr) (cap : Nat) (rs : List CFc) (hl : rs.length ≤ 100000000) (hp : ∀ r ∈ rs, FcOK r) (wd : Int) (b off cb : Nat) (cs : List Int) (hc : cs.length ≤ 100000000) (w : World) (hr : ReadsFc w.heap.size w a rs) (ks : Reads w.heap.size w (some ⟨b, off, none⟩) cs) :
    Calls Try.prog 16 #[.slice a rs.length cap, .int .i64 wd, .slice (some ⟨b, off, none⟩) cs.length cb] w (AnsSh rs wd cs w) := by
  have HNo : Hid (∀ (c : Int) (w' : World), shCode rs wd cs = c → c ≠ 0 → Below w.heap.size w w' → AnsSh rs wd cs w (.returned (.tuple #[.agg #[.slice none 0 0, .int .i64 0, .int .i64 0], .int .i64 c])) w') := fun c w' h1 h2 h3 => ansSh_none h1 h2 h3
  have HYe : Hid (∀ (q : Option Addr) (cq : Nat) (w' : World), shCode rs wd cs = 0 → Own2 w.heap.size w' q cs → Below w.heap.size w w' → AnsSh rs wd cs w (.returned (.tuple #[.agg #[.slice q cs.length cq, .int .i64 (usN rs cs rs.length), .int .i64 (gaN rs cs rs.length)], .int .i64 0])) w') := fun q cq w' h1 h2 h3 => ansSh_some h1 h2 h3
  have HCd : Hid (shCode rs wd cs = if 4096 < rs.length ∨ 4096 < cs.length then 2 else if shFault rs wd = 0 then (if (decide (rs.length = cs.length) && fitS rs cs rs.length) = true then (if wd < usN rs cs rs.length then 14 else 0) else 3) else shFault rs wd) := rfl
  obtain ⟨W0, hW0⟩ : ∃ W0, W0 = w.alloc (Obj.cells #[.slice none 0 0, .int .i64 0, .int .i64 0] 28) := ⟨_, rfl⟩
  obtain ⟨R, hR⟩ : ∃ R, R = w.heap.size := ⟨_, rfl⟩
  have HW0 : Hid (W0 = w.alloc (Obj.cells #[.slice none 0 0, .int .i64 0, .int .i64 0] 28) ∧ R = w.heap.size) := ⟨hW0, hR⟩
  have HB0 : Hid (Below w.heap.size w W0) := by show Below _ _ _; rw [hW0]; exact below_alloc _ _
  have HRx : Hid (W0.heap[R]? = some (.cells #[.slice none 0 0, .int .i64 0, .int .i64 0] 28 (0, 0))) := by show _ = _; rw [hW0, hR]; exact heapNew _ _
  have hRw : w.heap.size ≤ R := by rw [hR]; exact Nat.le_refl _
  have HF : Hid (∀ W, Below w.heap.size w W → Calls Try.prog 13 #[.slice a rs.length cap] W fun e w' => e = .returned (.bool (fcAll rs)) ∧ Below W.heap.size W w') := fun W hb => specFacings_any a cap rs hl hp W (hr.later hb)
  have HIw : Hid (∀ W, Calls Try.prog 40 #[.int .i64 wd, .int .i64 0, .int .i64 2000] W fun e w' => e = .returned (.bool (inB wd 0 2000)) ∧ w' = W) := fun W => in_any wd 0 2000 W
  have HR : Hid (ReadsFc w.heap.size w a rs) := hr
  have HK : Hid (Reads w.heap.size w (some ⟨b, off, none⟩) cs) := ks
  clear hr ks hp hW0 hR
  by_cases h4 : (4096 : Int) < (rs.length : Int)
  · have HC : Hid (shCode rs wd cs = 2) := by show _ = _; rw [HCd.out, if_pos (by omega)]
    clear HCd HF HIw HR HK HYe
    go_enter Try.func16, Try.ntmps16
    go_wp2
    refine bodyPost_ret (v := .tuple #[.agg #[.slice none 0 0, .int .i64 0, .int .i64 0], .int .i64 2]) (by simp [results, Try.results16, go_sem]) rfl ?_
    exact HNo.out 2 _ HC.out (by omega) (below_alloc _ _)
  by_cases h5 : (4096 : Int) < (cs.length : Int)
  · have HC : Hid (shCode rs wd cs = 2) := by show _ = _; rw [HCd.out, if_pos (by omega)]
    clear HCd HF HIw HR HK HYe
    go_enter Try.func16, Try.ntmps16
    go_wp2
    refine bodyPost_ret (v := .tuple #[.agg #[.slice none 0 0, .int .i64 0, .int .i64 0], .int .i64 2]) (by simp [results, Try.results16, go_sem]) rfl ?_
    exact HNo.out 2 _ HC.out (by omega) (below_alloc _ _)
  have HCd2 : Hid (shCode rs wd cs = if shFault rs wd = 0 then (if (decide (rs.length = cs.length) && fitS rs cs rs.length) = true then (if wd < usN rs cs rs.length then 14 else 0) else 3) else shFault rs wd) := by show _ = _; rw [HCd.out, if_neg (by omega)]
  have hc4 : cs.length ≤ 4096 := by omega
  clear HCd
  rcases shFault_ways rs wd with ⟨h1, h2⟩ | ⟨h1, h3, h2⟩ | ⟨h1, h3, h4', h2⟩ | ⟨h1, h3, h4', h2⟩
  · have HC : Hid (shCode rs wd cs = 1) := by show _ = _; rw [HCd2.out, h2]; rfl
    rw [h1] at HF
    clear HCd2 HR HK HYe h1 h2 HIw
    go_enter Try.func16, Try.ntmps16
    go_upto_region 3 with fail
    rw [← HW0.out.1, ← HW0.out.2]
    clear HW0
    go_wp2_with fail
    (first | go_at_call 13 | skip)
    refine (HF.out W0 HB0.out).mono ?_
    rintro e w1 ⟨rfl, hb1⟩
    have HB1 : Hid (Below W0.heap.size W0 w1) := hb1
    clear hb1 HF
    have hrx := (HB1.out.block R (blkLt HRx.out)).trans HRx.out
    have z0 := blkCell hrx 0 _ rfl
    have z1 := blkCell hrx 1 _ rfl
    have z2 := blkCell hrx 2 _ rfl
    have y0 := blkFree hrx 0
    have y1 := blkFree hrx 1
    have y2 := blkFree hrx 2
    simp only [List.getElem_toArray, List.getElem_cons_zero, List.getElem_cons_succ] at z0 z1 z2
    clear hrx
    go_wp2_with fail
    refine bodyPost_ret (v := .tuple #[.agg #[.slice none 0 0, .int .i64 0, .int .i64 0], .int .i64 1]) (by simp [results, Try.results16, go_sem, z0, z1, z2]) rfl ?_
    refine HNo.out 1 _ HC.out (by omega) ?_
    repeat refine Below.setCell ?_ (by dsimp only; omega) _
    exact chain HB0.out HB1.out
  · have HC : Hid (shCode rs wd cs = 5) := by show _ = _; rw [HCd2.out, h2]; rfl
    have hin : inB wd 0 2000 = false := decide_eq_false (by omega)
    rw [h1] at HF
    rw [hin] at HIw
    clear HCd2 HR HK HYe h1 h2 hin
    go_enter Try.func16, Try.ntmps16
    go_upto_region 3 with fail
    rw [← HW0.out.1, ← HW0.out.2]
    clear HW0
    go_wp2_with fail
    (first | go_at_call 13 | skip)
    refine (HF.out W0 HB0.out).mono ?_
    rintro e w1 ⟨rfl, hb1⟩
    have HB1 : Hid (Below W0.heap.size W0 w1) := hb1
    clear hb1 HF
    go_wp2_with fail
    (first | go_at_call 40 | skip)
    refine (HIw.out _).mono ?_
    rintro e w2 ⟨rfl, h⟩
    rw [h]
    clear h w2
    have hrx := (HB1.out.block R (blkLt HRx.out)).trans HRx.out
    have z0 := blkCell hrx 0 _ rfl
    have z1 := blkCell hrx 1 _ rfl
    have z2 := blkCell hrx 2 _ rfl
    have y0 := blkFree hrx 0
    have y1 := blkFree hrx 1
    have y2 := blkFree hrx 2
    simp only [List.getElem_toArray, List.getElem_cons_zero, List.getElem_cons_succ] at z0 z1 z2
    clear hrx
    go_wp2_with fail
    refine bodyPost_ret (v := .tuple #[.agg #[.slice none 0 0, .int .i64 0, .int .i64 0], .int .i64 5]) (by simp [results, Try.results16, go_sem, z0, z1, z2]) rfl ?_
    refine HNo.out 5 _ HC.out (by omega) ?_
    repeat refine Below.setCell ?_ (by dsimp only; omega) _
    exact chain HB0.out HB1.out
  · have HC : Hid (shCode rs wd cs = 5) := by show _ = _; rw [HCd2.out, h2]; rfl
    have hin : inB wd 0 2000 = false := decide_eq_false (by omega)
    rw [h1] at HF
    rw [hin] at HIw
    clear HCd2 HR HK HYe h1 h2 hin
    go_enter Try.func16, Try.ntmps16
    go_upto_region 3 with fail
    rw [← HW0.out.1, ← HW0.out.2]
    clear HW0
    go_wp2_with fail
    (first | go_at_call 13 | skip)
    refine (HF.out W0 HB0.out).mono ?_
    rintro e w1 ⟨rfl, hb1⟩
    have HB1 : Hid (Below W0.heap.size W0 w1) := hb1
    clear hb1 HF
    go_wp2_with fail
    (first | go_at_call 40 | skip)
    refine (HIw.out _).mono ?_
    rintro e w2 ⟨rfl, h⟩
    rw [h]
    clear h w2
    have hrx := (HB1.out.block R (blkLt HRx.out)).trans HRx.out
    have z0 := blkCell hrx 0 _ rfl
    have z1 := blkCell hrx 1 _ rfl
    have z2 := blkCell hrx 2 _ rfl
    have y0 := blkFree hrx 0
    have y1 := blkFree hrx 1
    have y2 := blkFree hrx 2
    simp only [List.getElem_toArray, List.getElem_cons_zero, List.getElem_cons_succ] at z0 z1 z2
    clear hrx
    go_wp2_with fail
    refine bodyPost_ret (v := .tuple #[.agg #[.slice none 0 0, .int .i64 0, .int .i64 0], .int .i64 5]) (by simp [results, Try.results16, go_sem, z0, z1, z2]) rfl ?_
    refine HNo.out 5 _ HC.out (by omega) ?_
    repeat refine Below.setCell ?_ (by dsimp only; omega) _
    exact chain HB0.out HB1.out
  have hin : inB wd 0 2000 = true := decide_eq_true (by omega)
  obtain ⟨hr12, hrr⟩ := fcAll_r h1
  have HRR : Hid (∀ r ∈ rs, FcR r) := hrr
  have HCd3 : Hid (shCode rs wd cs = if (decide (rs.length = cs.length) && fitS rs cs rs.length) = true then (if wd < usN rs cs rs.length then 14 else 0) else 3) := by show _ = _; rw [HCd2.out, if_pos h2]
  rw [h1] at HF
  rw [hin] at HIw
  clear HCd2 hin h1 h2 hrr
  go_enter Try.func16, Try.ntmps16
  go_upto_region 3 with fail
  rw [← HW0.out.1, ← HW0.out.2]
  have HRw2 : Hid (R = w.heap.size) := HW0.out.2
  clear HW0
  go_wp2_with fail
  (first | go_at_call 13 | skip)
  refine (HF.out W0 HB0.out).mono ?_
  rintro e w1 ⟨rfl, hb1⟩
  have HB1 : Hid (Below W0.heap.size W0 w1) := hb1
  clear hb1 HF
  go_wp2_with fail
  (first | go_at_call 40 | skip)
  refine (HIw.out _).mono ?_
  rintro e w2 ⟨rfl, h⟩
  rw [h]
  clear h w2
  by_cases hlen : rs.length = cs.length
  case neg =>
    have HC : Hid (shCode rs wd cs = 3) := by show _ = _; rw [HCd3.out, decide_eq_false hlen]; rfl
    have hnb : ((cs.length : Int) != (rs.length : Int)) = true := by simp; omega
    clear hlen
    have hrx := (HB1.out.block R (blkLt HRx.out)).trans HRx.out
    have z0 := blkCell hrx 0 _ rfl
    have z1 := blkCell hrx 1 _ rfl
    have z2 := blkCell hrx 2 _ rfl
    have y0 := blkFree hrx 0
    have y1 := blkFree hrx 1
    have y2 := blkFree hrx 2
    simp only [List.getElem_toArray, List.getElem_cons_zero, List.getElem_cons_succ] at z0 z1 z2
    clear hrx
    go_wp2_with fail
    refine bodyPost_ret (v := .tuple #[.agg #[.slice none 0 0, .int .i64 0, .int .i64 0], .int .i64 3]) (by simp [results, Try.results16, go_sem, z0, z1, z2]) rfl ?_
    refine HNo.out 3 _ HC.out (by omega) ?_
    repeat refine Below.setCell ?_ (by dsimp only; omega) _
    exact chain HB0.out HB1.out
  have hnb : ((cs.length : Int) != (rs.length : Int)) = false := by rw [hlen]; simp
  have HLn : Hid (rs.length = cs.length) := hlen
  have HCd4 : Hid (shCode rs wd cs = if fitS rs cs rs.length = true then (if wd < usN rs cs rs.length then 14 else 0) else 3) := by show _ = _; rw [HCd3.out, decide_eq_true hlen, Bool.true_and]
  clear hlen HCd3
  obtain ⟨i0, hti, hzz⟩ := Option.map_eq_some_iff.1 intInfo
  simp only [Prod.mk.injEq] at hzz
  obtain ⟨hi0, hi1, hi2⟩ := hzz
  obtain ⟨w2, hw2⟩ : ∃ w2, w2 = w1.alloc (Obj.cells #[.slice none 0 0, .int .i64 0, .int .i64 0] 28) := ⟨_, rfl⟩
  obtain ⟨P, hP⟩ : ∃ P, P = w1.heap.size := ⟨_, rfl⟩
  obtain ⟨B, hB⟩ : ∃ B, B = w2.heap.size := ⟨_, rfl⟩
  have HW2 : Hid (w2 = w1.alloc (Obj.cells #[.slice none 0 0, .int .i64 0, .int .i64 0] 28) ∧ P = w1.heap.size) := ⟨hw2, hP⟩
  have HP0 : Hid (PSt w B P R cs none 0 0 0 0 w2) := by
    have hb2 : Below w1.heap.size w1 w2 := by rw [hw2]; exact below_alloc _ _
    have hR1 := (HB1.out.block R (blkLt HRx.out)).trans HRx.out
    have hR2 := blkLt hR1
    have h0 := HB0.out.size
    have h1' := HB1.out.size
    have h2' := hb2.size
    refine ⟨?_, (hb2.block R hR2).trans hR1, ⟨rfl, .inl ⟨rfl, rfl⟩⟩, chain (chain HB0.out HB1.out) hb2, by omega, by omega, hRw, by omega, by omega⟩
    rw [hw2, hP]; exact heapNew _ _
  clear hw2 hP hB
  go_upto_region 10 with fail
  rw [← HW2.out.1, ← HW2.out.2]
  clear HW2 HB1 HRx HB0
  go_wp2_with fail
  go_loopw [9] (fun c wr => ∃ (k : Nat) (q : Option Addr) (cq : Nat), k ≤ rs.length ∧ c = .int .i64 (k : Int) ∧ fitS rs cs k = true ∧ PSt w B P R cs q cq k (usN rs cs k) (gaN rs cs k) wr) (fun c _ => rs.length - (intOf c).toNat)
  case atStart => exact ⟨0, none, 0, Nat.zero_le _, rfl, rfl, HP0.out⟩
  case round =>
    clear HP0
    obtain ⟨k, q, cq, hk, rfl, hf, hPs⟩ := hrel
    have HF0 : Hid (fitS rs cs k = true) := hf
    have HPw : Hid (PSt w B P R cs q cq k (usN rs cs k) (gaN rs cs k) wr) := hPs
    clear hf hPs
    by_cases hlt : k < rs.length
    · have hlt' : (k : Int) < (rs.length : Int) := by omega
      have hlc : k < cs.length := by have := HLn.out; omega
      have hlc' : (k : Int) < (cs.length : Int) := by omega
      rcases HR.out with h0 | ⟨b0, o0, ha, hB0, ia⟩
      · rw [h0] at hlt; simp at hlt
      rcases HK.out with h0 | ⟨b2, o2, hb, hB1, ib⟩
      · rw [h0] at hlc; simp at hlc
      cases hb
      subst ha
      obtain ⟨h, cp, hAt, hcp, hS⟩ := ia k hlt
      have hFr := getFc HRR.out hlt
      have HD1 : Hid (∀ W, Below w.heap.size w W → W.cell? ⟨b0, o0 + k * 4, none⟩ = some (.string (rs.getD k zFc).nm) ∧ W.cell? ⟨b0, o0 + k * 4 + 1, none⟩ = some (.int .i64 (rs.getD k zFc).wd) ∧ W.cell? ⟨b0, o0 + k * 4 + 2, none⟩ = some (.int .i64 (rs.getD k zFc).ls) ∧ W.cell? ⟨b0, o0 + k * 4 + 3, none⟩ = some (.slice h (rs.getD k zFc).gs.length cp)) := fun W hb => hAt.below hb hB0
      have HD0 : Hid (∀ W, Below w.heap.size w W → W.cell? ⟨b, off + k, none⟩ = some (.int .i64 (cs.getD k 0))) := fun W hb => (ib.below hb hB1) k hlc
      have HIn : Hid (∀ W, Calls Try.prog 40 #[.int .i64 (cs.getD k 0), .int .i64 (rs.getD k zFc).ls, .int .i64 ((rs.getD k zFc).gs.length : Int)] W fun e w' => e = .returned (.bool (tkB (rs.getD k zFc) (cs.getD k 0))) ∧ w' = W) := fun W => in_any _ _ _ W
      have HX : Hid (tkB (rs.getD k zFc) (cs.getD k 0) = false → fitS rs cs rs.length = false) := fun q => fit_stop hlt q
      have HN : Hid (tkB (rs.getD k zFc) (cs.getD k 0) = true → fitS rs cs (k + 1) = true) := fun q => by show fitS rs cs (k + 1) = true; unfold fitS; rw [HF0.out, q]; rfl
      have HGn0 : Hid (tkB (rs.getD k zFc) (cs.getD k 0) = true → ∀ W, Below w.heap.size w W → Calls Try.prog 41 #[.agg #[.string (rs.getD k zFc).nm, .int .i64 (rs.getD k zFc).wd, .int .i64 (rs.getD k zFc).ls, .slice h (rs.getD k zFc).gs.length cp], .int .i64 (cs.getD k 0)] W fun e w' => e = .returned (.int .i64 (gnN (rs.getD k zFc).gs (cs.getD k 0).toNat)) ∧ Below W.heap.size W w') := fun ht W hb => by
        have ht2 := tk_bound hFr ht
        have q := specGain_any (rs.getD k zFc) hFr h cp (cs.getD k 0).toNat (by omega) W (hS.later hb)
        rw [Int.toNat_of_nonneg ht2.1] at q
        exact q
      have HBs : Hid (tkB (rs.getD k zFc) (cs.getD k 0) = true → (0 ≤ usN rs cs k ∧ usN rs cs k ≤ 12000 * (k : Int)) ∧ (0 ≤ gaN rs cs k ∧ gaN rs cs k ≤ 600000 * (k : Int)) ∧ (0 ≤ cs.getD k 0 * (rs.getD k zFc).wd ∧ cs.getD k 0 * (rs.getD k zFc).wd ≤ 12000) ∧ (0 ≤ gnN (rs.getD k zFc).gs (cs.getD k 0).toNat ∧ gnN (rs.getD k zFc).gs (cs.getD k 0).toNat ≤ 600000)) := fun ht => by
        have ht2 := tk_bound hFr ht
        refine ⟨usN_boundF HRR.out k hk HF0.out, gaN_bound (cs := cs) HRR.out k hk, mul_small ⟨ht2.1, ht2.2.1⟩ hFr.2.1, gnN_bound hFr _⟩
      have HUn : Hid (usN rs cs (k + 1) = usN rs cs k + cs.getD k 0 * (rs.getD k zFc).wd) := rfl
      have HGa : Hid (gaN rs cs (k + 1) = gaN rs cs k + gnN (rs.getD k zFc).gs (cs.getD k 0).toNat) := rfl
      obtain ⟨x, hx⟩ : ∃ x, x = cs.getD k 0 := ⟨_, rfl⟩
      have HXx : Hid (cs.getD k 0 = x) := hx.symm
      rw [← hx] at HD0 HIn HX HN HGn0 HBs HUn HGa
      clear ia ib hS hAt hcp hFr HF0 hx
      generalize hgv : gnN (rs.getD k zFc).gs x.toNat = gv at *
      generalize htb : tkB (rs.getD k zFc) x = tb at *
      generalize rs.getD k zFc = r at *
      clear hgv htb
      obtain ⟨nm, wf, ls, gs⟩ := r
      dsimp only at *
      generalize gs.length = n at *
      generalize usN rs cs k = us at *
      generalize gaN rs cs k = ga at *
      have HQ : Hid (∀ W, Below wr.heap.size wr W → (W.cell? ⟨b0, o0 + k * 4, none⟩ = some (.string nm) ∧ W.cell? ⟨b0, o0 + k * 4 + 1, none⟩ = some (.int .i64 wf) ∧ W.cell? ⟨b0, o0 + k * 4 + 2, none⟩ = some (.int .i64 ls) ∧ W.cell? ⟨b0, o0 + k * 4 + 3, none⟩ = some (.slice h n cp)) ∧ W.cell? ⟨b, off + k, none⟩ = some (.int .i64 x)) := fun W hb => ⟨HD1.out W (chain HPw.out.bel hb), HD0.out W (chain HPw.out.bel hb)⟩
      go_upto_region 13 with fail
      refine wp_region_held_drew (S := fun W' => Below wr.heap.size wr W') (by kernel_rfl) (below_drew _) (fun hH => ?_)
      refine wpAnyH_take (i := 0) (v := .slice (some ⟨b, off, none⟩) cs.length cb) rfl (by kernel_rfl) (by kernel_rfl) (by kernel_rfl) (fun _ _ _ h => h) (Or.inl ⟨by rfl, fun w hSw => by go_simp⟩) hH ?_
      refine wpAnyH_take (i := 1) (v := .int .i64 (k : Int)) rfl (by kernel_rfl) (by kernel_rfl) (by kernel_rfl) (fun _ _ _ h => h) (Or.inl ⟨by rfl, fun w hSw => by go_simp⟩) hH ?_
      try simp only [Act.put, List.setIfInBounds_toArray, List.set_cons_zero, List.set_cons_succ, List.getElem_toArray, List.getElem_cons_succ, List.getElem_cons_zero]
      refine wpAnyH_take (i := 2) (v := .pointer (some ⟨b, off + k, none⟩)) rfl (by kernel_rfl) (by kernel_rfl) (by kernel_rfl) (fun _ _ _ h => h) (Or.inl ⟨by rfl, fun w hSw => by go_simp⟩) hH ?_
      try simp only [Act.put, List.setIfInBounds_toArray, List.set_cons_zero, List.set_cons_succ, List.getElem_toArray, List.getElem_cons_succ, List.getElem_cons_zero]
      refine wpAnyH_take (i := 3) (v := .int .i64 x) rfl (by kernel_rfl) (by kernel_rfl) (by kernel_rfl) (fun _ _ _ h => h) (Or.inl ⟨by rfl, fun w hSw => by have f := (HQ.out w hSw).2; clear hSw; go_simp⟩) hH ?_
      try simp only [Act.put, List.setIfInBounds_toArray, List.set_cons_zero, List.set_cons_succ, List.getElem_toArray, List.getElem_cons_succ, List.getElem_cons_zero]
      refine wpAnyH_take (i := 4) (v := .slice (some ⟨b0, o0, none⟩) rs.length cap) rfl (by kernel_rfl) (by kernel_rfl) (by kernel_rfl) (fun _ _ _ h => h) (Or.inl ⟨by rfl, fun w hSw => by go_simp⟩) hH ?_
      try simp only [Act.put, List.setIfInBounds_toArray, List.set_cons_zero, List.set_cons_succ, List.getElem_toArray, List.getElem_cons_succ, List.getElem_cons_zero]
      refine wpAnyH_take (i := 5) (v := .int .i64 (k : Int)) rfl (by kernel_rfl) (by kernel_rfl) (by kernel_rfl) (fun _ _ _ h => h) (Or.inl ⟨by rfl, fun w hSw => by go_simp⟩) hH ?_
      try simp only [Act.put, List.setIfInBounds_toArray, List.set_cons_zero, List.set_cons_succ, List.getElem_toArray, List.getElem_cons_succ, List.getElem_cons_zero]
      refine wpAnyH_take (i := 6) (v := .pointer (some ⟨b0, o0 + k * 4, none⟩)) rfl (by kernel_rfl) (by kernel_rfl) (by kernel_rfl) (fun _ _ _ h => h) (Or.inl ⟨by rfl, fun w hSw => by go_simp⟩) hH ?_
      try simp only [Act.put, List.setIfInBounds_toArray, List.set_cons_zero, List.set_cons_succ, List.getElem_toArray, List.getElem_cons_succ, List.getElem_cons_zero]
      refine wpAnyH_take (i := 7) (v := .pointer (some ⟨b0, o0 + k * 4 + 2, none⟩)) rfl (by kernel_rfl) (by kernel_rfl) (by kernel_rfl) (fun _ _ _ h => h) (Or.inl ⟨by rfl, fun w hSw => by go_simp⟩) hH ?_
      try simp only [Act.put, List.setIfInBounds_toArray, List.set_cons_zero, List.set_cons_succ, List.getElem_toArray, List.getElem_cons_succ, List.getElem_cons_zero]
      refine wpAnyH_take (i := 8) (v := .int .i64 ls) rfl (by kernel_rfl) (by kernel_rfl) (by kernel_rfl) (fun _ _ _ h => h) (Or.inl ⟨by rfl, fun w hSw => by have f := (HQ.out w hSw).1.2.2.1; clear hSw; go_simp⟩) hH ?_
      try simp only [Act.put, List.setIfInBounds_toArray, List.set_cons_zero, List.set_cons_succ, List.getElem_toArray, List.getElem_cons_succ, List.getElem_cons_zero]
      refine wpAnyH_take (i := 9) (v := .slice (some ⟨b0, o0, none⟩) rs.length cap) rfl (by kernel_rfl) (by kernel_rfl) (by kernel_rfl) (fun _ _ _ h => h) (Or.inl ⟨by rfl, fun w hSw => by go_simp⟩) hH ?_
      try simp only [Act.put, List.setIfInBounds_toArray, List.set_cons_zero, List.set_cons_succ, List.getElem_toArray, List.getElem_cons_succ, List.getElem_cons_zero]
      refine wpAnyH_take (i := 10) (v := .int .i64 (k : Int)) rfl (by kernel_rfl) (by kernel_rfl) (by kernel_rfl) (fun _ _ _ h => h) (Or.inl ⟨by rfl, fun w hSw => by go_simp⟩) hH ?_
      try simp only [Act.put, List.setIfInBounds_toArray, List.set_cons_zero, List.set_cons_succ, List.getElem_toArray, List.getElem_cons_succ, List.getElem_cons_zero]
      refine wpAnyH_take (i := 11) (v := .pointer (some ⟨b0, o0 + k * 4, none⟩)) rfl (by kernel_rfl) (by kernel_rfl) (by kernel_rfl) (fun _ _ _ h => h) (Or.inl ⟨by rfl, fun w hSw => by go_simp⟩) hH ?_
      try simp only [Act.put, List.setIfInBounds_toArray, List.set_cons_zero, List.set_cons_succ, List.getElem_toArray, List.getElem_cons_succ, List.getElem_cons_zero]
      refine wpAnyH_take (i := 12) (v := .pointer (some ⟨b0, o0 + k * 4 + 3, none⟩)) rfl (by kernel_rfl) (by kernel_rfl) (by kernel_rfl) (fun _ _ _ h => h) (Or.inl ⟨by rfl, fun w hSw => by go_simp⟩) hH ?_
      try simp only [Act.put, List.setIfInBounds_toArray, List.set_cons_zero, List.set_cons_succ, List.getElem_toArray, List.getElem_cons_succ, List.getElem_cons_zero]
      refine wpAnyH_take (i := 13) (v := .slice h n cp) rfl (by kernel_rfl) (by kernel_rfl) (by kernel_rfl) (fun _ _ _ h => h) (Or.inl ⟨by rfl, fun w hSw => by have f := (HQ.out w hSw).1.2.2.2; clear hSw; go_simp⟩) hH ?_
      try simp only [Act.put, List.setIfInBounds_toArray, List.set_cons_zero, List.set_cons_succ, List.getElem_toArray, List.getElem_cons_succ, List.getElem_cons_zero]
      refine wpAnyH_take (i := 14) (v := .int .i64 (n : Int)) rfl (by kernel_rfl) (by kernel_rfl) (by kernel_rfl) (fun _ _ _ h => h) (Or.inl ⟨by rfl, fun w hSw => by go_simp⟩) hH ?_
      try simp only [Act.put, List.setIfInBounds_toArray, List.set_cons_zero, List.set_cons_succ, List.getElem_toArray, List.getElem_cons_succ, List.getElem_cons_zero]
      refine wpAnyH_ready (rs := [15]) (by kernel_rfl) (by simp) ?_
      refine AllReadyH.cons rfl (fun K hK => ?_) AllReadyH.nil
      go_simp
      go_at_call 40
      refine (HIn.out _).mono ?_
      rintro e w2 ⟨rfl, hw2⟩
      have h2 : Below wr.heap.size wr w2 := by rw [hw2]; exact hH
      clear hw2
      refine hK.out _ _ h2 (fun _ => ?_)
      clear hK K
      try simp only [Act.put, List.setIfInBounds_toArray, List.set_cons_zero, List.set_cons_succ, List.getElem_toArray, List.getElem_cons_succ, List.getElem_cons_zero]
      cases tb
      · have HC : Hid (shCode rs wd cs = 3) := by show _ = _; rw [HCd4.out, HX.out rfl]; rfl
        refine wpAnyH_take (i := 16) (v := .bool true) rfl (by kernel_rfl) (by kernel_rfl) (by kernel_rfl) (fun _ _ _ h => h) (Or.inl ⟨by rfl, fun w hSw => by go_simp⟩) h2 ?_
        try simp only [Act.put, List.setIfInBounds_toArray, List.set_cons_zero, List.set_cons_succ, List.getElem_toArray, List.getElem_cons_succ, List.getElem_cons_zero]
        refine wpAnyH_done (by kernel_rfl) ?_ _
        have HPz : Hid (PSt w B P R cs q cq k us ga w2) := HPw.out.later h2
        clear h2 hH HQ
        have z0 := blkCell HPz.out.hR 0 _ rfl
        have z1 := blkCell HPz.out.hR 1 _ rfl
        have z2 := blkCell HPz.out.hR 2 _ rfl
        have y0 := blkFree HPz.out.hR 0
        have y1 := blkFree HPz.out.hR 1
        have y2 := blkFree HPz.out.hR 2
        simp only [List.getElem_toArray, List.getElem_cons_zero, List.getElem_cons_succ] at z0 z1 z2
        have hRw := HPz.out.wR
        go_wp2_with fail
        refine bodyPost_ret (v := .tuple #[.agg #[.slice none 0 0, .int .i64 0, .int .i64 0], .int .i64 3]) (by simp [results, Try.results16, go_sem, z0, z1, z2]) rfl ?_
        refine HNo.out 3 _ HC.out (by omega) ?_
        repeat refine Below.setCell ?_ (by dsimp only; omega) _
        exact HPz.out.bel
      · have HF1 : Hid (fitS rs cs (k + 1) = true) := HN.out rfl
        have HGn : Hid (∀ W, Below w.heap.size w W → Calls Try.prog 41 #[.agg #[.string nm, .int .i64 wf, .int .i64 ls, .slice h n cp], .int .i64 x] W fun e w' => e = .returned (.int .i64 gv) ∧ Below W.heap.size W w') := HGn0.out rfl
        obtain ⟨hb1, hb2, hb3, hb4⟩ := HBs.out rfl
        have hw1 : IntKind.i64.wrap (x * wf) = x * wf := wrap_id _ (by omega) (by omega)
        have hw2 : IntKind.i64.wrap (us + x * wf) = us + x * wf := wrap_id _ (by omega) (by omega)
        have hw3 : IntKind.i64.wrap (ga + gv) = ga + gv := wrap_id _ (by omega) (by omega)
        clear hb1 hb2 hb3 hb4 HGn0 HBs HX HN
        refine wpAnyH_take (i := 16) (v := .bool false) rfl (by kernel_rfl) (by kernel_rfl) (by kernel_rfl) (fun _ _ _ h => h) (Or.inl ⟨by rfl, fun w hSw => by go_simp⟩) h2 ?_
        try simp only [Act.put, List.setIfInBounds_toArray, List.set_cons_zero, List.set_cons_succ, List.getElem_toArray, List.getElem_cons_succ, List.getElem_cons_zero]
        refine wpAnyH_done (by kernel_rfl) ?_ _
        obtain ⟨wa, hwa⟩ : ∃ wa, wa = w2 := ⟨_, rfl⟩
        rw [← hwa] at h2 ⊢
        have HPa : Hid (PSt w B P R cs q cq k us ga wa) := HPw.out.later h2
        have HBa : Hid (Below wr.heap.size wr wa) := h2
        clear h2 hH HPw hwa
        go_upto_region 15 with fail
        have HS15 : Hid (∀ W, Below wa.heap.size wa W → W.heap[P]? = some (.cells #[.slice q k cq, .int .i64 us, .int .i64 ga] 28 (0, 0)) ∧ W.cell? ⟨b, off + k, none⟩ = some (.int .i64 x)) := fun W hb => ⟨(hb.block P (blkLt HPa.out.hP)).trans HPa.out.hP, (HQ.out W (chain HBa.out hb)).2⟩
        refine wp_region_z (S := fun W' => W'.heap[P]? = some (.cells #[.slice q k cq, .int .i64 us, .int .i64 ga] 28 (0, 0)) ∧ W'.cell? ⟨b, off + k, none⟩ = some (.int .i64 x)) 9 (by kernel_rfl) (HS15.out _ (below_drew _)) (fun hH => ?_)
        refine wpAnyZ_take (i := 0) (v := .pointer (some ⟨P, 0, none⟩)) rfl (by kernel_rfl) (by kernel_rfl) (by kernel_rfl) (by kernel_rfl) (fun _ _ _ h => h) (Or.inl ⟨by rfl, fun w hSw => by clear hSw; go_simp⟩) hH ?_
        refine wpAnyZ_take (i := 1) (v := .slice q k cq) rfl (by kernel_rfl) (by kernel_rfl) (by kernel_rfl) (by kernel_rfl) (fun _ _ _ h => h) (Or.inl ⟨by rfl, fun w hSw => by have f := blkCell hSw.1 0 _ rfl; simp only [List.getElem_toArray, List.getElem_cons_zero] at f; clear hSw; go_simp⟩) hH ?_
        try simp only [Act.put, List.setIfInBounds_toArray, List.set_cons_zero, List.set_cons_succ, List.getElem_toArray, List.getElem_cons_succ, List.getElem_cons_zero]
        refine wpAnyZ_take (i := 2) (v := .slice (some ⟨b, off, none⟩) cs.length cb) rfl (by kernel_rfl) (by kernel_rfl) (by kernel_rfl) (by kernel_rfl) (fun _ _ _ h => h) (Or.inl ⟨by rfl, fun w hSw => by clear hSw; go_simp⟩) hH ?_
        try simp only [Act.put, List.setIfInBounds_toArray, List.set_cons_zero, List.set_cons_succ, List.getElem_toArray, List.getElem_cons_succ, List.getElem_cons_zero]
        refine wpAnyZ_take (i := 3) (v := .int .i64 (k : Int)) rfl (by kernel_rfl) (by kernel_rfl) (by kernel_rfl) (by kernel_rfl) (fun _ _ _ h => h) (Or.inl ⟨by rfl, fun w hSw => by clear hSw; go_simp⟩) hH ?_
        try simp only [Act.put, List.setIfInBounds_toArray, List.set_cons_zero, List.set_cons_succ, List.getElem_toArray, List.getElem_cons_succ, List.getElem_cons_zero]
        refine wpAnyZ_take (i := 4) (v := .pointer (some ⟨b, off + k, none⟩)) rfl (by kernel_rfl) (by kernel_rfl) (by kernel_rfl) (by kernel_rfl) (fun _ _ _ h => h) (Or.inl ⟨by rfl, fun w hSw => by clear hSw; go_simp⟩) hH ?_
        try simp only [Act.put, List.setIfInBounds_toArray, List.set_cons_zero, List.set_cons_succ, List.getElem_toArray, List.getElem_cons_succ, List.getElem_cons_zero]
        refine wpAnyZ_take (i := 5) (v := .int .i64 x) rfl (by kernel_rfl) (by kernel_rfl) (by kernel_rfl) (by kernel_rfl) (fun _ _ _ h => h) (Or.inl ⟨by rfl, fun w hSw => by have f := hSw.2; clear hSw; go_simp⟩) hH ?_
        try simp only [Act.put, List.setIfInBounds_toArray, List.set_cons_zero, List.set_cons_succ, List.getElem_toArray, List.getElem_cons_succ, List.getElem_cons_zero]
        refine wpAnyZ_ready (rs := [6]) (by kernel_rfl) (by simp) ?_
        refine AllReadyZ.cons rfl (fun K hK => ?_) AllReadyZ.nil
        go_simp
        obtain ⟨w4, hw4⟩ : ∃ w4, w4 = wa.drew := ⟨_, rfl⟩
        have hb4 : Below wa.heap.size wa w4 := by rw [hw4]; exact below_drew _
        have e6 : (wa.alloc (Obj.cells #[.int .i64 x] 3)).drew = w4.alloc (Obj.cells #[.int .i64 x] 3) := by rw [hw4]; rfl
        have ez : wa.heap.size = w4.heap.size := by rw [hw4]; rfl
        rw [e6, ez]
        have hb5 : (w4.alloc (Obj.cells #[.int .i64 x] 3)).heap[w4.heap.size]? = some (.cells #[.int .i64 x] 3 (0, 0)) := heapNew w4 _
        have HP4 : Hid (PSt w B P R cs q cq k us ga w4) := HPa.out.later hb4
        have HP5 : Hid (PSt w B P R cs q cq k us ga (w4.alloc (Obj.cells #[.int .i64 x] 3))) := HP4.out.later (below_alloc _ _)
        have hS5 := HS15.out _ (chain hb4 (below_alloc w4 (Obj.cells #[.int .i64 x] 3)))
        clear e6 ez hw4
        refine hK.out _ _ (Or.inr hS5) (fun _ => ?_)
        clear hK K
        try simp only [Act.put, List.setIfInBounds_toArray, List.set_cons_zero, List.set_cons_succ, List.getElem_toArray, List.getElem_cons_succ, List.getElem_cons_zero]
        refine wpAnyZ_ready (rs := [7]) (by kernel_rfl) (by simp) ?_
        refine AllReadyZ.cons rfl (fun K hK => ?_) AllReadyZ.nil
        refine step_append_any rfl (.tmp 59) (.tmp 64) 24 rfl B 3 i0 (.int .i64 0) 1 8 Try.underlying24 hti hi0 hi1 hi2 rfl (by decide) (.slice q k cq) _ _ (by simp [Act.eval]) HP5.out.row (some ⟨w4.heap.size, 0, none⟩) 1 1 [.int .i64 x] (by simp [Act.eval]) rfl (fun _ => ⟨_, rfl, World.news_of_block hb5⟩) (by simp [Value.oneCell']) (by unfold maxLen; omega) (by omega) HP5.out.BW (fun q2 cq2 w9 hown hgrow hat => ?_)
        have H9 := HP4.out.push hlc HXx.out hown hgrow
        have hS9 : w9.heap[P]? = some (.cells #[.slice q k cq, .int .i64 us, .int .i64 ga] 28 (0, 0)) ∧ w9.cell? ⟨b, off + k, none⟩ = some (.int .i64 x) := ⟨H9.1, (HD0.out w9 H9.2.1)⟩
        have HP9 : Hid (PSt w B P R cs q2 cq2 (k + 1) us ga (w9.setCell ⟨P, 0, none⟩ (.slice q2 (k + 1) cq2))) := H9.2.2
        clear hown hgrow hat H9 hb5 hb4
        refine hK.out _ _ (Or.inr hS9) (fun _ => ?_)
        clear hK K
        try simp only [Act.put, List.setIfInBounds_toArray, List.set_cons_zero, List.set_cons_succ, List.getElem_toArray, List.getElem_cons_succ, List.getElem_cons_zero]
        refine wpAnyZ_take (i := 8) (v := .pointer (some ⟨P, 0, none⟩)) rfl (by kernel_rfl) (by kernel_rfl) (by kernel_rfl) (by kernel_rfl) (fun _ _ _ h => h) (Or.inl ⟨by rfl, fun w hSw => by clear hSw; go_simp⟩) hS9 ?_
        try simp only [Act.put, List.setIfInBounds_toArray, List.set_cons_zero, List.set_cons_succ, List.getElem_toArray, List.getElem_cons_succ, List.getElem_cons_zero]
        refine wpAnyZ_ready (rs := [9]) (by kernel_rfl) (by simp) ?_
        refine AllReadyZ.cons rfl (fun K hK => ?_) AllReadyZ.nil
        have y0 := blkCell hS9.1 0 _ rfl
        have y1 := blkFree hS9.1 0
        simp only [List.getElem_toArray, List.getElem_cons_zero] at y0
        clear hH hS5
        go_simp
        refine hK.out _ _ (Or.inl rfl) (fun _ => ?_)
        clear hK K
        try simp only [Act.put, List.setIfInBounds_toArray, List.set_cons_zero, List.set_cons_succ, List.getElem_toArray, List.getElem_cons_succ, List.getElem_cons_zero]
        refine wpAnyZ_done (by kernel_rfl) ?_ _
        clear y0 y1 hS9 HP4 HP5 HS15
        generalize w9.setCell ⟨P, 0, none⟩ (.slice q2 (k + 1) cq2) = wb at *
        go_upto_region 16 with fail
        have HC16 : Hid (wb.drew.cell? ⟨P, 1, none⟩ = some (.int .i64 us) ∧ wb.drew.frozen? ⟨P, 1, none⟩ = false ∧ wb.drew.cell? ⟨b, off + k, none⟩ = some (.int .i64 x) ∧ wb.drew.cell? ⟨b0, o0 + k * 4 + 1, none⟩ = some (.int .i64 wf)) := by
          have hp := (HP9.out.later (below_drew _)).hP
          have hb := (HP9.out.later (below_drew _)).bel
          have y := blkCell hp 1 _ rfl
          exact ⟨y, blkFree hp 1, HD0.out _ hb, (HD1.out _ hb).2.1⟩
        have HP16 : Hid (∀ Wd, Wd = wb.drew → PSt w B P R cs q2 cq2 (k + 1) (us + x * wf) ga (Wd.setCell ⟨P, 1, none⟩ (.int .i64 (us + x * wf)))) := fun Wd e => by
          rw [e]
          exact (HP9.out.later (below_drew _)).set 1 _ (by simp)
        refine wp_region_z (S := fun W => W = wb.drew) 14 (by kernel_rfl) rfl (fun hH => ?_)
        generalize wb.drew = Wd at *
        refine wpAnyZ_take (i := 0) (v := .pointer (some ⟨P, 1, none⟩)) rfl (by kernel_rfl) (by kernel_rfl) (by kernel_rfl) (by kernel_rfl) (fun _ _ _ h => h) (Or.inl ⟨by rfl, fun w hSw => by clear hSw; go_simp⟩) hH ?_
        refine wpAnyZ_take (i := 1) (v := .int .i64 us) rfl (by kernel_rfl) (by kernel_rfl) (by kernel_rfl) (by kernel_rfl) (fun _ _ _ h => h) (Or.inl ⟨by rfl, fun w hSw => by have f0 := HC16.out.1; subst hSw; go_simp⟩) hH ?_
        try simp only [Act.put, List.setIfInBounds_toArray, List.set_cons_zero, List.set_cons_succ, List.getElem_toArray, List.getElem_cons_succ, List.getElem_cons_zero]
        refine wpAnyZ_take (i := 2) (v := .slice (some ⟨b, off, none⟩) cs.length cb) rfl (by kernel_rfl) (by kernel_rfl) (by kernel_rfl) (by kernel_rfl) (fun _ _ _ h => h) (Or.inl ⟨by rfl, fun w hSw => by clear hSw; go_simp⟩) hH ?_
        try simp only [Act.put, List.setIfInBounds_toArray, List.set_cons_zero, List.set_cons_succ, List.getElem_toArray, List.getElem_cons_succ, List.getElem_cons_zero]
        refine wpAnyZ_take (i := 3) (v := .int .i64 (k : Int)) rfl (by kernel_rfl) (by kernel_rfl) (by kernel_rfl) (by kernel_rfl) (fun _ _ _ h => h) (Or.inl ⟨by rfl, fun w hSw => by clear hSw; go_simp⟩) hH ?_
        try simp only [Act.put, List.setIfInBounds_toArray, List.set_cons_zero, List.set_cons_succ, List.getElem_toArray, List.getElem_cons_succ, List.getElem_cons_zero]
        refine wpAnyZ_take (i := 4) (v := .pointer (some ⟨b, off + k, none⟩)) rfl (by kernel_rfl) (by kernel_rfl) (by kernel_rfl) (by kernel_rfl) (fun _ _ _ h => h) (Or.inl ⟨by rfl, fun w hSw => by clear hSw; go_simp⟩) hH ?_
        try simp only [Act.put, List.setIfInBounds_toArray, List.set_cons_zero, List.set_cons_succ, List.getElem_toArray, List.getElem_cons_succ, List.getElem_cons_zero]
        refine wpAnyZ_take (i := 5) (v := .int .i64 x) rfl (by kernel_rfl) (by kernel_rfl) (by kernel_rfl) (by kernel_rfl) (fun _ _ _ h => h) (Or.inl ⟨by rfl, fun w hSw => by have f0 := HC16.out.2.2.1; subst hSw; go_simp⟩) hH ?_
        try simp only [Act.put, List.setIfInBounds_toArray, List.set_cons_zero, List.set_cons_succ, List.getElem_toArray, List.getElem_cons_succ, List.getElem_cons_zero]
        refine wpAnyZ_take (i := 6) (v := .slice (some ⟨b0, o0, none⟩) rs.length cap) rfl (by kernel_rfl) (by kernel_rfl) (by kernel_rfl) (by kernel_rfl) (fun _ _ _ h => h) (Or.inl ⟨by rfl, fun w hSw => by clear hSw; go_simp⟩) hH ?_
        try simp only [Act.put, List.setIfInBounds_toArray, List.set_cons_zero, List.set_cons_succ, List.getElem_toArray, List.getElem_cons_succ, List.getElem_cons_zero]
        refine wpAnyZ_take (i := 7) (v := .int .i64 (k : Int)) rfl (by kernel_rfl) (by kernel_rfl) (by kernel_rfl) (by kernel_rfl) (fun _ _ _ h => h) (Or.inl ⟨by rfl, fun w hSw => by clear hSw; go_simp⟩) hH ?_
        try simp only [Act.put, List.setIfInBounds_toArray, List.set_cons_zero, List.set_cons_succ, List.getElem_toArray, List.getElem_cons_succ, List.getElem_cons_zero]
        refine wpAnyZ_take (i := 8) (v := .pointer (some ⟨b0, o0 + k * 4, none⟩)) rfl (by kernel_rfl) (by kernel_rfl) (by kernel_rfl) (by kernel_rfl) (fun _ _ _ h => h) (Or.inl ⟨by rfl, fun w hSw => by clear hSw; go_simp⟩) hH ?_
        try simp only [Act.put, List.setIfInBounds_toArray, List.set_cons_zero, List.set_cons_succ, List.getElem_toArray, List.getElem_cons_succ, List.getElem_cons_zero]
        refine wpAnyZ_take (i := 9) (v := .pointer (some ⟨b0, o0 + k * 4 + 1, none⟩)) rfl (by kernel_rfl) (by kernel_rfl) (by kernel_rfl) (by kernel_rfl) (fun _ _ _ h => h) (Or.inl ⟨by rfl, fun w hSw => by clear hSw; go_simp⟩) hH ?_
        try simp only [Act.put, List.setIfInBounds_toArray, List.set_cons_zero, List.set_cons_succ, List.getElem_toArray, List.getElem_cons_succ, List.getElem_cons_zero]
        refine wpAnyZ_take (i := 10) (v := .int .i64 wf) rfl (by kernel_rfl) (by kernel_rfl) (by kernel_rfl) (by kernel_rfl) (fun _ _ _ h => h) (Or.inl ⟨by rfl, fun w hSw => by have f0 := HC16.out.2.2.2; subst hSw; go_simp⟩) hH ?_
        try simp only [Act.put, List.setIfInBounds_toArray, List.set_cons_zero, List.set_cons_succ, List.getElem_toArray, List.getElem_cons_succ, List.getElem_cons_zero]
        refine wpAnyZ_take (i := 11) (v := .int .i64 (x * wf)) rfl (by kernel_rfl) (by kernel_rfl) (by kernel_rfl) (by kernel_rfl) (fun _ _ _ h => h) (Or.inl ⟨by rfl, fun w hSw => by have f0 := hw1; clear hSw; go_simp⟩) hH ?_
        try simp only [Act.put, List.setIfInBounds_toArray, List.set_cons_zero, List.set_cons_succ, List.getElem_toArray, List.getElem_cons_succ, List.getElem_cons_zero]
        refine wpAnyZ_take (i := 12) (v := .int .i64 (us + x * wf)) rfl (by kernel_rfl) (by kernel_rfl) (by kernel_rfl) (by kernel_rfl) (fun _ _ _ h => h) (Or.inl ⟨by rfl, fun w hSw => by have f0 := hw2; clear hSw; go_simp⟩) hH ?_
        try simp only [Act.put, List.setIfInBounds_toArray, List.set_cons_zero, List.set_cons_succ, List.getElem_toArray, List.getElem_cons_succ, List.getElem_cons_zero]
        refine wpAnyZ_take (i := 13) (v := .pointer (some ⟨P, 1, none⟩)) rfl (by kernel_rfl) (by kernel_rfl) (by kernel_rfl) (by kernel_rfl) (fun _ _ _ h => h) (Or.inl ⟨by rfl, fun w hSw => by clear hSw; go_simp⟩) hH ?_
        try simp only [Act.put, List.setIfInBounds_toArray, List.set_cons_zero, List.set_cons_succ, List.getElem_toArray, List.getElem_cons_succ, List.getElem_cons_zero]
        refine wpAnyZ_ready (rs := [14]) (by kernel_rfl) (by simp) ?_
        refine AllReadyZ.cons rfl (fun K hK => ?_) AllReadyZ.nil
        obtain ⟨y0, y1, y2, y3⟩ := HC16.out
        go_simp
        refine hK.out _ _ (Or.inl rfl) (fun _ => ?_)
        clear hK K
        try simp only [Act.put, List.setIfInBounds_toArray, List.set_cons_zero, List.set_cons_succ, List.getElem_toArray, List.getElem_cons_succ, List.getElem_cons_zero]
        refine wpAnyZ_done (by kernel_rfl) ?_ _
        clear y0 y1 y2 y3 HC16 hH
        have HPc : Hid (PSt w B P R cs q2 cq2 (k + 1) (us + x * wf) ga (Wd.setCell ⟨P, 1, none⟩ (.int .i64 (us + x * wf)))) := HP16.out _ rfl
        clear HP16 HP9
        generalize Wd.setCell ⟨P, 1, none⟩ (.int .i64 (us + x * wf)) = wc at *
        go_upto_region 17 with fail
        have HS17 : Hid (∀ W, Below wc.heap.size wc W → W.heap[P]? = some (.cells #[.slice q2 (k + 1) cq2, .int .i64 (us + x * wf), .int .i64 ga] 28 (0, 0)) ∧ (W.cell? ⟨b0, o0 + k * 4, none⟩ = some (.string nm) ∧ W.cell? ⟨b0, o0 + k * 4 + 1, none⟩ = some (.int .i64 wf) ∧ W.cell? ⟨b0, o0 + k * 4 + 2, none⟩ = some (.int .i64 ls) ∧ W.cell? ⟨b0, o0 + k * 4 + 3, none⟩ = some (.slice h n cp)) ∧ W.cell? ⟨b, off + k, none⟩ = some (.int .i64 x)) := fun W hb => by
          have h1 := HPc.out.later hb
          exact ⟨h1.hP, HD1.out W h1.bel, HD0.out W h1.bel⟩
        refine wp_region_z (S := fun W' => Below wc.heap.size wc W') 13 (by kernel_rfl) (below_drew _) (fun hH => ?_)
        refine wpAnyZ_take (i := 0) (v := .pointer (some ⟨P, 2, none⟩)) rfl (by kernel_rfl) (by kernel_rfl) (by kernel_rfl) (by kernel_rfl) (fun _ _ _ h => h) (Or.inl ⟨by rfl, fun w hSw => by clear hSw; go_simp⟩) hH ?_
        refine wpAnyZ_take (i := 1) (v := .int .i64 ga) rfl (by kernel_rfl) (by kernel_rfl) (by kernel_rfl) (by kernel_rfl) (fun _ _ _ h => h) (Or.inl ⟨by rfl, fun w hSw => by have f := blkCell (HS17.out w hSw).1 2 _ rfl; simp only [List.getElem_toArray, List.getElem_cons_zero, List.getElem_cons_succ] at f; clear hSw; go_simp⟩) hH ?_
        try simp only [Act.put, List.setIfInBounds_toArray, List.set_cons_zero, List.set_cons_succ, List.getElem_toArray, List.getElem_cons_succ, List.getElem_cons_zero]
        refine wpAnyZ_take (i := 2) (v := .slice (some ⟨b0, o0, none⟩) rs.length cap) rfl (by kernel_rfl) (by kernel_rfl) (by kernel_rfl) (by kernel_rfl) (fun _ _ _ h => h) (Or.inl ⟨by rfl, fun w hSw => by clear hSw; go_simp⟩) hH ?_
        try simp only [Act.put, List.setIfInBounds_toArray, List.set_cons_zero, List.set_cons_succ, List.getElem_toArray, List.getElem_cons_succ, List.getElem_cons_zero]
        refine wpAnyZ_take (i := 3) (v := .int .i64 (k : Int)) rfl (by kernel_rfl) (by kernel_rfl) (by kernel_rfl) (by kernel_rfl) (fun _ _ _ h => h) (Or.inl ⟨by rfl, fun w hSw => by clear hSw; go_simp⟩) hH ?_
        try simp only [Act.put, List.setIfInBounds_toArray, List.set_cons_zero, List.set_cons_succ, List.getElem_toArray, List.getElem_cons_succ, List.getElem_cons_zero]
        refine wpAnyZ_take (i := 4) (v := .pointer (some ⟨b0, o0 + k * 4, none⟩)) rfl (by kernel_rfl) (by kernel_rfl) (by kernel_rfl) (by kernel_rfl) (fun _ _ _ h => h) (Or.inl ⟨by rfl, fun w hSw => by clear hSw; go_simp⟩) hH ?_
        try simp only [Act.put, List.setIfInBounds_toArray, List.set_cons_zero, List.set_cons_succ, List.getElem_toArray, List.getElem_cons_succ, List.getElem_cons_zero]
        refine wpAnyZ_take (i := 5) (v := .agg #[.string nm, .int .i64 wf, .int .i64 ls, .slice h n cp]) rfl (by kernel_rfl) (by kernel_rfl) (by kernel_rfl) (by kernel_rfl) (fun _ _ _ h => h) (Or.inl ⟨by rfl, fun w hSw => by obtain ⟨_, ⟨f0, f1, f2, f3⟩, f4⟩ := HS17.out w hSw; clear hSw; go_simp⟩) hH ?_
        try simp only [Act.put, List.setIfInBounds_toArray, List.set_cons_zero, List.set_cons_succ, List.getElem_toArray, List.getElem_cons_succ, List.getElem_cons_zero]
        refine wpAnyZ_take (i := 6) (v := .slice (some ⟨b, off, none⟩) cs.length cb) rfl (by kernel_rfl) (by kernel_rfl) (by kernel_rfl) (by kernel_rfl) (fun _ _ _ h => h) (Or.inl ⟨by rfl, fun w hSw => by clear hSw; go_simp⟩) hH ?_
        try simp only [Act.put, List.setIfInBounds_toArray, List.set_cons_zero, List.set_cons_succ, List.getElem_toArray, List.getElem_cons_succ, List.getElem_cons_zero]
        refine wpAnyZ_take (i := 7) (v := .int .i64 (k : Int)) rfl (by kernel_rfl) (by kernel_rfl) (by kernel_rfl) (by kernel_rfl) (fun _ _ _ h => h) (Or.inl ⟨by rfl, fun w hSw => by clear hSw; go_simp⟩) hH ?_
        try simp only [Act.put, List.setIfInBounds_toArray, List.set_cons_zero, List.set_cons_succ, List.getElem_toArray, List.getElem_cons_succ, List.getElem_cons_zero]
        refine wpAnyZ_take (i := 8) (v := .pointer (some ⟨b, off + k, none⟩)) rfl (by kernel_rfl) (by kernel_rfl) (by kernel_rfl) (by kernel_rfl) (fun _ _ _ h => h) (Or.inl ⟨by rfl, fun w hSw => by clear hSw; go_simp⟩) hH ?_
        try simp only [Act.put, List.setIfInBounds_toArray, List.set_cons_zero, List.set_cons_succ, List.getElem_toArray, List.getElem_cons_succ, List.getElem_cons_zero]
        refine wpAnyZ_take (i := 9) (v := .int .i64 x) rfl (by kernel_rfl) (by kernel_rfl) (by kernel_rfl) (by kernel_rfl) (fun _ _ _ h => h) (Or.inl ⟨by rfl, fun w hSw => by obtain ⟨_, ⟨f0, f1, f2, f3⟩, f4⟩ := HS17.out w hSw; clear hSw; go_simp⟩) hH ?_
        try simp only [Act.put, List.setIfInBounds_toArray, List.set_cons_zero, List.set_cons_succ, List.getElem_toArray, List.getElem_cons_succ, List.getElem_cons_zero]
        refine wpAnyZ_ready (rs := [10]) (by kernel_rfl) (by simp) ?_
        refine AllReadyZ.cons rfl (fun K hK => ?_) AllReadyZ.nil
        go_simp
        go_at_call 41
        refine (HGn.out _ (HPc.out.later hH).bel).mono ?_
        rintro e w6 ⟨rfl, hb6⟩
        have h6 : Below wc.heap.size wc w6 := chain hH hb6
        clear hb6
        refine hK.out _ _ (Or.inr h6) (fun _ => ?_)
        clear hK K
        try simp only [Act.put, List.setIfInBounds_toArray, List.set_cons_zero, List.set_cons_succ, List.getElem_toArray, List.getElem_cons_succ, List.getElem_cons_zero]
        refine wpAnyZ_take (i := 11) (v := .int .i64 (ga + gv)) rfl (by kernel_rfl) (by kernel_rfl) (by kernel_rfl) (by kernel_rfl) (fun _ _ _ h => h) (Or.inl ⟨by rfl, fun w hSw => by have f0 := hw3; clear hSw; go_simp⟩) h6 ?_
        try simp only [Act.put, List.setIfInBounds_toArray, List.set_cons_zero, List.set_cons_succ, List.getElem_toArray, List.getElem_cons_succ, List.getElem_cons_zero]
        refine wpAnyZ_take (i := 12) (v := .pointer (some ⟨P, 2, none⟩)) rfl (by kernel_rfl) (by kernel_rfl) (by kernel_rfl) (by kernel_rfl) (fun _ _ _ h => h) (Or.inl ⟨by rfl, fun w hSw => by clear hSw; go_simp⟩) h6 ?_
        try simp only [Act.put, List.setIfInBounds_toArray, List.set_cons_zero, List.set_cons_succ, List.getElem_toArray, List.getElem_cons_succ, List.getElem_cons_zero]
        refine wpAnyZ_ready (rs := [13]) (by kernel_rfl) (by simp) ?_
        refine AllReadyZ.cons rfl (fun K hK => ?_) AllReadyZ.nil
        have hp6 := (HS17.out w6 h6).1
        have y0 := blkCell hp6 2 _ rfl
        have y1 := blkFree hp6 2
        simp only [List.getElem_toArray, List.getElem_cons_zero, List.getElem_cons_succ] at y0
        have HPd : Hid (PSt w B P R cs q2 cq2 (k + 1) (us + x * wf) (ga + gv) (w6.setCell ⟨P, 2, none⟩ (.int .i64 (ga + gv)))) := (HPc.out.later h6).set 2 _ (by simp)
        clear hp6 h6 hH
        go_simp
        refine hK.out _ _ (Or.inl rfl) (fun _ => ?_)
        clear hK K
        try simp only [Act.put, List.setIfInBounds_toArray, List.set_cons_zero, List.set_cons_succ, List.getElem_toArray, List.getElem_cons_succ, List.getElem_cons_zero]
        refine wpAnyZ_done (by kernel_rfl) ?_ _
        clear y0 y1 HS17
        generalize w6.setCell ⟨P, 2, none⟩ (.int .i64 (ga + gv)) = wd' at *
        go_wp2_with fail
        go_roundw
        case rel => exact ⟨k + 1, q2, cq2, by omega, by go_num, HF1.out, by rw [HUn.out, HGa.out]; exact HPd.out⟩
        case measure => simp [intOf]; omega
    · have hle : ¬ (k : Int) < (rs.length : Int) := by omega
      obtain rfl : k = rs.length := by omega
      have x0 := blkCell HPw.out.hP 0 _ rfl
      have x1 := blkCell HPw.out.hP 1 _ rfl
      have x2 := blkCell HPw.out.hP 2 _ rfl
      simp only [List.getElem_toArray, List.getElem_cons_zero, List.getElem_cons_succ] at x0 x1 x2
      by_cases hu : wd < usN rs cs rs.length
      · have HC : Hid (shCode rs wd cs = 14) := by show _ = _; rw [HCd4.out, if_pos HF0.out, if_pos hu]
        have z0 := blkCell HPw.out.hR 0 _ rfl
        have z1 := blkCell HPw.out.hR 1 _ rfl
        have z2 := blkCell HPw.out.hR 2 _ rfl
        have y0 := blkFree HPw.out.hR 0
        have y1 := blkFree HPw.out.hR 1
        have y2 := blkFree HPw.out.hR 2
        simp only [List.getElem_toArray, List.getElem_cons_zero, List.getElem_cons_succ] at z0 z1 z2
        have hRw := HPw.out.wR
        go_wp2_with fail
        refine bodyPost_ret (v := .tuple #[.agg #[.slice none 0 0, .int .i64 0, .int .i64 0], .int .i64 14]) (by simp [results, Try.results16, go_sem, z0, z1, z2]) rfl ?_
        refine HNo.out 14 _ HC.out (by omega) ?_
        repeat refine Below.setCell ?_ (by dsimp only; omega) _
        exact HPw.out.bel
      · have HC : Hid (shCode rs wd cs = 0) := by show _ = _; rw [HCd4.out, if_pos HF0.out, if_neg hu]
        have HLn2 : Hid (rs.length = cs.length) := HLn.out
        have z0 := blkCell HPw.out.hR 0 _ rfl
        have z1 := blkCell HPw.out.hR 1 _ rfl
        have z2 := blkCell HPw.out.hR 2 _ rfl
        have y0 := blkFree HPw.out.hR 0
        have y1 := blkFree HPw.out.hR 1
        have y2 := blkFree HPw.out.hR 2
        simp only [List.getElem_toArray, List.getElem_cons_zero, List.getElem_cons_succ] at z0 z1 z2
        have hRw := HPw.out.wR
        have HO : Hid (Own2 w.heap.size wr q cs) := by
          have h1 := HPw.out.row
          rw [HLn2.out, List.take_length] at h1
          exact own2_mono (own2_row h1 HPw.out.BW) HPw.out.wB
        have HNe : Hid (∀ c, q = some ⟨c, 0, none⟩ → R ≠ c ∨ cs = []) := fun c hc => by
          rcases HO.out with h | ⟨b, h1, h2, h3, h4, h5⟩
          · exact .inr h
          · refine .inl (fun e => ?_)
            obtain ⟨cur, hcu⟩ := row_type HPw.out.row (q := c) (by rw [hc]; rfl)
            rw [← e, HPw.out.hR] at hcu
            simp at hcu
        generalize hu1 : usN rs cs rs.length = uv at *
        generalize hg1 : gaN rs cs rs.length = gv at *
        clear hu1 hg1
        obtain ⟨nk, hnk⟩ : ∃ nk, nk = rs.length := ⟨_, rfl⟩
        go_wp2_with fail
        refine bodyPost_ret (v := .tuple #[.agg #[.slice q cs.length cq, .int .i64 uv, .int .i64 gv], .int .i64 0]) (by simp [results, Try.results16, go_sem, z0, z1, z2, HLn2.out]) rfl ?_
        refine HYe.out _ _ _ HC.out ?_ ?_
        · exact own2_set (own2_set (own2_set HO.out HNe.out _ _) HNe.out _ _) HNe.out _ _
        · repeat refine Below.setCell ?_ (by dsimp only; omega) _
          exact HPw.out.bel
end Go.Proofs.Ytphefbaogfknoaa
