/-
  What MarkOf answers, as a function of its arguments; the contract of the program's MarkOf.
-/
import Derived.Test.YtlcnhkhkhlpghaaMqC
import Derived.Test.YtlcnhkhkhlpghaaMqP
import Derived.Test.YtlcnhkhkhlpghaaShelf
namespace Go.Proofs.Ytlcnhkhkhlpghaa
open Go.ChangeShapes Go.WideShapes Go.ChangeAt Go.RowKit Go.Deep Go.Joins
set_option linter.unusedVariables false

def mkC (price stock : Int) (ps : List Int) (cs : LL) (ss : List Int) : Int := if 4096 < ss.length then 2 else if mkF price stock ps cs = 0 then (if stB ps.length cs.length ss = true then 0 else 3) else mkF price stock ps cs
/-- A plan and a code: its two lists lie in bands of memory of their own. -/
def AnsM (code : Int) (L S : List Int) (rv lf : Int) (w : World) (e : Ending) (w' : World) : Prop := ∃ q cq s cs mid, e = .returned (.tuple #[.agg #[.slice q L.length cq, .slice s S.length cs, .int .i64 rv, .int .i64 lf], .int .i64 code]) ∧ (w.heap.size ≤ mid ∧ mid ≤ w'.heap.size) ∧ RowI w.heap.size mid w' q L ∧ RowI mid w'.heap.size w' s S ∧ Below w.heap.size w w'
/-- The same, its lists anywhere behind what was there. -/
def AnsW (code : Int) (L S : List Int) (rv lf : Int) (w : World) (e : Ending) (w' : World) : Prop := ∃ q cq s cs, e = .returned (.tuple #[.agg #[.slice q L.length cq, .slice s S.length cs, .int .i64 rv, .int .i64 lf], .int .i64 code]) ∧ RowI w.heap.size w'.heap.size w' q L ∧ RowI w.heap.size w'.heap.size w' s S ∧ Below w.heap.size w w'
def mkL (price stock : Int) (ps : List Int) (cs : LL) (ss : List Int) : List Int := if mkC price stock ps cs ss = 0 then ss else []
def mkS' (price stock : Int) (ps : List Int) (cs : LL) (ss : List Int) : List Int := if mkC price stock ps cs ss = 0 then slN cs ss stock ss.length else []
def mkV (price stock : Int) (ps : List Int) (cs : LL) (ss : List Int) : Int := if mkC price stock ps cs ss = 0 then rvN (prL price ps) cs ss stock ss.length else 0
def mkE (price stock : Int) (ps : List Int) (cs : LL) (ss : List Int) : Int := if mkC price stock ps cs ss = 0 then lfN cs ss stock ss.length else 0
def AnsMk (price stock : Int) (ps : List Int) (cs : LL) (ss : List Int) (w : World) (e : Ending) (w' : World) : Prop := AnsM (mkC price stock ps cs ss) (mkL price stock ps cs ss) (mkS' price stock ps cs ss) (mkV price stock ps cs ss) (mkE price stock ps cs ss) w e w'
def AnsWk (price stock : Int) (ps : List Int) (cs : LL) (ss : List Int) (w : World) (e : Ending) (w' : World) : Prop := AnsW (mkC price stock ps cs ss) (mkL price stock ps cs ss) (mkS' price stock ps cs ss) (mkV price stock ps cs ss) (mkE price stock ps cs ss) w e w'
theorem ansM_none {w w' : World} {c : Int} (hb : Below w.heap.size w w') : AnsM c [] [] 0 0 w (.returned (.tuple #[.agg #[.slice none 0 0, .slice none 0 0, .int .i64 0, .int .i64 0], .int .i64 c])) w' :=
  ⟨none, 0, none, 0, w.heap.size, rfl, ⟨Nat.le_refl _, hb.size⟩, .inl rfl, .inl rfl, hb⟩
theorem ansW_none {w w' : World} {c : Int} (hb : Below w.heap.size w w') : AnsW c [] [] 0 0 w (.returned (.tuple #[.agg #[.slice none 0 0, .slice none 0 0, .int .i64 0, .int .i64 0], .int .i64 c])) w' :=
  ⟨none, 0, none, 0, rfl, .inl rfl, .inl rfl, hb⟩
theorem ansMk_none {price stock : Int} {ps : List Int} {cs : LL} {ss : List Int} {w w' : World} {c : Int} (h : mkC price stock ps cs ss = c) (hc : c ≠ 0) (hb : Below w.heap.size w w') : AnsMk price stock ps cs ss w (.returned (.tuple #[.agg #[.slice none 0 0, .slice none 0 0, .int .i64 0, .int .i64 0], .int .i64 c])) w' := by
  have hn : mkC price stock ps cs ss ≠ 0 := by rw [h]; exact hc
  unfold AnsMk mkL mkS' mkV mkE
  rw [if_neg hn, if_neg hn, if_neg hn, if_neg hn, h]
  exact ansM_none hb
theorem ansWk_none {price stock : Int} {ps : List Int} {cs : LL} {ss : List Int} {w w' : World} {c : Int} (h : mkC price stock ps cs ss = c) (hc : c ≠ 0) (hb : Below w.heap.size w w') : AnsWk price stock ps cs ss w (.returned (.tuple #[.agg #[.slice none 0 0, .slice none 0 0, .int .i64 0, .int .i64 0], .int .i64 c])) w' := by
  have hn : mkC price stock ps cs ss ≠ 0 := by rw [h]; exact hc
  unfold AnsWk mkL mkS' mkV mkE
  rw [if_neg hn, if_neg hn, if_neg hn, if_neg hn, h]
  exact ansW_none hb
theorem ansMk_some {price stock : Int} {ps : List Int} {cs : LL} {ss : List Int} {w w' : World} {q s : Option Addr} {cq cs' mid : Nat} (h : mkC price stock ps cs ss = 0) (hm : w.heap.size ≤ mid ∧ mid ≤ w'.heap.size) (h1 : RowI w.heap.size mid w' q ss) (h2 : RowI mid w'.heap.size w' s (slN cs ss stock ss.length)) (hb : Below w.heap.size w w') : AnsMk price stock ps cs ss w (.returned (.tuple #[.agg #[.slice q ss.length cq, .slice s ss.length cs', .int .i64 (rvN (prL price ps) cs ss stock ss.length), .int .i64 (lfN cs ss stock ss.length)], .int .i64 0])) w' := by
  unfold AnsMk mkL mkS' mkV mkE
  rw [if_pos h, if_pos h, if_pos h, if_pos h, h]
  exact ⟨q, cq, s, cs', mid, by rw [slN_len], hm, h1, h2, hb⟩
theorem ansWk_some {price stock : Int} {ps : List Int} {cs : LL} {ss : List Int} {w w' : World} {q s : Option Addr} {cq cs' : Nat} (h : mkC price stock ps cs ss = 0) (h1 : RowI w.heap.size w'.heap.size w' q ss) (h2 : RowI w.heap.size w'.heap.size w' s (slN cs ss stock ss.length)) (hb : Below w.heap.size w w') : AnsWk price stock ps cs ss w (.returned (.tuple #[.agg #[.slice q ss.length cq, .slice s ss.length cs', .int .i64 (rvN (prL price ps) cs ss stock ss.length), .int .i64 (lfN cs ss stock ss.length)], .int .i64 0])) w' := by
  unfold AnsWk mkL mkS' mkV mkE
  rw [if_pos h, if_pos h, if_pos h, if_pos h, h]
  exact ⟨q, cq, s, cs', by rw [slN_len], h1, h2, hb⟩
theorem mkF_zero {price stock : Int} {ps : List Int} {cs : LL} (h : mkF price stock ps cs = 0) : MkOK price stock ps cs := by
  unfold mkF at h
  split at h
  · cases h
  · split at h
    · exact mkOK_of (by assumption)
    · cases h
theorem cloneI_any (b : Nat) (off : Nat) (cb : Nat) (ns : List Int) (hn : ns.length ≤ 4096) (w : World) (ks : Reads w.heap.size w (some ⟨b, off, none⟩) ns) :
    Calls Try.prog 34 #[.slice (some ⟨b, off, none⟩) ns.length cb] w fun e w' => ∃ g cp, e = .returned (.slice (some ⟨g, 0, none⟩) ns.length cp) ∧ Own2 w.heap.size w' (some ⟨g, 0, none⟩) ns ∧ Below w.heap.size w w' := by
  have hI : ∀ j, j < ns.length → w.cell? ⟨b, off + j, none⟩ = some (.int .i64 (ns.getD j 0)) := fun j hj => by
    rcases ks with h | ⟨b1, o1, hb1, hB1, ib⟩
    · rw [h] at hj; simp at hj
    · cases hb1
      exact ib j hj
  refine (Try.slices_Clone_int b off ns.length cb ns w (Nat.le_refl _) (by omega) hI).mono ?_
  rintro e w' ⟨v', rfl, ho, hne, hb⟩
  rw [List.take_length] at ho
  have h2 := ho.2
  rcases h2 with ⟨h2, _⟩ | ⟨g, cap, cur, rfl, hB, hg, hle, _⟩
  · exact absurd h2 hne
  have hO : One w w.heap.size (.slice (some ⟨g, 0, none⟩) ns.length cap) ns w' := ⟨ho, hb.size, hb⟩
  exact ⟨g, cap, rfl, hO.own2 rfl, hb⟩
theorem own2_mono' {B B' : Nat} {w : World} {g : Option Addr} {L : List Int} (h : Own2 B w g L) (hB : B' ≤ B) : Own2 B' w g L := by
  rcases h with h | ⟨b, h1, h2, h3⟩
  · exact .inl h
  · exact .inr ⟨b, h1, by omega, h3⟩
theorem RowI.set {lo hi : Nat} {w : World} {g : Option Addr} {L : List Int} (h : RowI lo hi w g L) {c : Nat} (hc : c < lo) (o : Nat) (v : Value) : RowI lo hi (w.setCell ⟨c, o, none⟩ v) g L := by
  rcases h with h | ⟨b, h1, ⟨h2, h3, h4⟩, h5, h6⟩
  · exact .inl h
  · exact .inr ⟨b, h1, ⟨h2, h3, by rw [World.size_setCell]; exact h4⟩, IntsAt.set h5 (by omega) _ _, fun i hi => by rw [World.frozen?_setCell]; exact h6 i hi⟩
theorem RowI.wide {lo hi lo' hi' : Nat} {w : World} {g : Option Addr} {L : List Int} (h : RowI lo hi w g L) (h1 : lo' ≤ lo) (h2 : hi ≤ hi') (h3 : hi' ≤ w.heap.size) : RowI lo' hi' w g L := by
  rcases h with h | ⟨b, k1, ⟨k2, k3, k4⟩, k5, k6⟩
  · exact .inl h
  · exact .inr ⟨b, k1, ⟨by omega, by omega, h3⟩, k5, k6⟩

set_option maxHeartbeats 8000000 in
set_option maxRecDepth 4000 in
theorem implMarks_any (price stock : Int) (a : Option Addr) (ca : Nat) (ps : List Int) (hl : ps.length ≤ 100000000) (b : Option Addr) (cb : Nat) (cs : LL) (hk : cs.length ≤ 100000000) (hp : ∀ r ∈ cs, DmOK r) (sb so sc : Nat) (ss : List Int) (hsl : ss.length ≤ 100000000) (w : World) (hr : Reads w.heap.size w a ps) (ks : ReadsDm w.heap.size w b cs) (hs : Reads w.heap.size w (some ⟨sb, so, none⟩) ss) :
    Calls Try.prog 8 #[.int .i64 price, .int .i64 stock, .slice a ps.length ca, .slice b cs.length cb, .slice (some ⟨sb, so, none⟩) ss.length sc] w (AnsMk price stock ps cs ss w) := by
  have HNo : Hid (∀ (c : Int) (w' : World), mkC price stock ps cs ss = c → c ≠ 0 → Below w.heap.size w w' → AnsMk price stock ps cs ss w (.returned (.tuple #[.agg #[.slice none 0 0, .slice none 0 0, .int .i64 0, .int .i64 0], .int .i64 c])) w') := fun c w' h1 h2 h3 => ansMk_none h1 h2 h3
  have HYe : Hid (∀ (q s : Option Addr) (cq cs' mid : Nat) (w' : World), mkC price stock ps cs ss = 0 → (w.heap.size ≤ mid ∧ mid ≤ w'.heap.size) → RowI w.heap.size mid w' q ss → RowI mid w'.heap.size w' s (slN cs ss stock ss.length) → Below w.heap.size w w' → AnsMk price stock ps cs ss w (.returned (.tuple #[.agg #[.slice q ss.length cq, .slice s ss.length cs', .int .i64 (rvN (prL price ps) cs ss stock ss.length), .int .i64 (lfN cs ss stock ss.length)], .int .i64 0])) w') := fun q s cq cs' mid w' h1 h2 h3 h4 h5 => ansMk_some h1 h2 h3 h4 h5
  have HCd : Hid (mkC price stock ps cs ss = if 4096 < ss.length then 2 else if mkF price stock ps cs = 0 then (if stB ps.length cs.length ss = true then 0 else 3) else mkF price stock ps cs) := rfl
  obtain ⟨W0, hW0⟩ : ∃ W0, W0 = w.alloc (Obj.cells #[.slice none 0 0, .slice none 0 0, .int .i64 0, .int .i64 0] 28) := ⟨_, rfl⟩
  obtain ⟨R, hR⟩ : ∃ R, R = w.heap.size := ⟨_, rfl⟩
  have HW0 : Hid (W0 = w.alloc (Obj.cells #[.slice none 0 0, .slice none 0 0, .int .i64 0, .int .i64 0] 28) ∧ R = w.heap.size) := ⟨hW0, hR⟩
  have HB0 : Hid (Below w.heap.size w W0) := by show Below _ _ _; rw [hW0]; exact below_alloc _ _
  have HRx : Hid (W0.heap[R]? = some (.cells #[.slice none 0 0, .slice none 0 0, .int .i64 0, .int .i64 0] 28 (0, 0))) := by show _ = _; rw [hW0, hR]; exact heapNew _ _
  have hRw : w.heap.size ≤ R := by rw [hR]; exact Nat.le_refl _
  have hRz : R < W0.heap.size := by rw [hW0, hR]; simp
  have HF : Hid (∀ W, Below w.heap.size w W → Calls Try.prog 30 #[.int .i64 price, .int .i64 stock, .slice a ps.length ca, .slice b cs.length cb] W fun e w' => e = .returned (.int .i64 (mkF price stock ps cs)) ∧ Below W.heap.size W w') := fun W hb => marksFault_any price stock a ca ps hl b cb cs hk hp W (hr.later hb) (ks.later hb)
  have HR : Hid (Reads w.heap.size w a ps) := hr
  have HK : Hid (ReadsDm w.heap.size w b cs) := ks
  have HS : Hid (Reads w.heap.size w (some ⟨sb, so, none⟩) ss) := hs
  clear hr ks hs hp hW0 hR
  by_cases h4 : (4096 : Int) < (ss.length : Int)
  · have HC : Hid (mkC price stock ps cs ss = 2) := by show _ = _; rw [HCd.out, if_pos (by omega)]
    clear HCd HF HR HK HS HYe
    go_enter Try.func8, Try.ntmps8
    go_wp2
    refine bodyPost_ret (v := .tuple #[.agg #[.slice none 0 0, .slice none 0 0, .int .i64 0, .int .i64 0], .int .i64 2]) (by simp [results, Try.results8, go_sem]) rfl ?_
    exact HNo.out 2 _ HC.out (by omega) (below_alloc _ _)
  have HCd2 : Hid (mkC price stock ps cs ss = if mkF price stock ps cs = 0 then (if stB ps.length cs.length ss = true then 0 else 3) else mkF price stock ps cs) := by show _ = _; rw [HCd.out, if_neg (by omega)]
  have hc4 : ss.length ≤ 4096 := by omega
  clear HCd
  by_cases hf : mkF price stock ps cs = 0
  case neg =>
    have HC : Hid (mkC price stock ps cs ss = mkF price stock ps cs) := by show _ = _; rw [HCd2.out, if_neg hf]
    have HNz : Hid (mkF price stock ps cs ≠ 0) := hf
    have hfb : (mkF price stock ps cs != 0) = true := by simpa using hf
    clear HCd2 HR HK HS HYe hf
    generalize mkF price stock ps cs = fv at *
    go_enter Try.func8, Try.ntmps8
    go_upto_region 3 with fail
    rw [← HW0.out.1, ← HW0.out.2]
    clear HW0
    go_wp2_with fail
    (first | go_at_call 30 | skip)
    refine (HF.out W0 HB0.out).mono ?_
    rintro e w1 ⟨rfl, hb1⟩
    have HB1 : Hid (Below W0.heap.size W0 w1) := hb1
    clear hb1 HF
    have hrx := (HB1.out.block R (blkLt HRx.out)).trans HRx.out
    have z0 := blkCell hrx 0 _ rfl
    have z1 := blkCell hrx 1 _ rfl
    have z2 := blkCell hrx 2 _ rfl
    have z3 := blkCell hrx 3 _ rfl
    have y0 := blkFree hrx 0
    have y1 := blkFree hrx 1
    have y2 := blkFree hrx 2
    have y3 := blkFree hrx 3
    simp only [List.getElem_toArray, List.getElem_cons_zero, List.getElem_cons_succ] at z0 z1 z2 z3
    clear hrx
    go_wp2_with fail
    refine bodyPost_ret (v := .tuple #[.agg #[.slice none 0 0, .slice none 0 0, .int .i64 0, .int .i64 0], .int .i64 fv]) (by simp [results, Try.results8, go_sem, z0, z1, z2, z3]) rfl ?_
    refine HNo.out fv _ HC.out HNz.out ?_
    repeat refine Below.setCell ?_ (by dsimp only; omega) _
    exact chain HB0.out HB1.out
  have hok := mkF_zero hf
  have HOK : Hid (MkOK price stock ps cs) := hok
  have HCd3 : Hid (mkC price stock ps cs ss = if stB ps.length cs.length ss = true then 0 else 3) := by show _ = _; rw [HCd2.out, if_pos hf]
  have HLa : Hid (∀ W, Below w.heap.size w W → Calls Try.prog 31 #[.int .i64 price, .slice a ps.length ca, .slice b cs.length cb] W fun e w' => ∃ g cp, e = .returned (.agg #[.slice (some ⟨g, 0, none⟩) ps.length cp, .slice b cs.length cb]) ∧ Reads w'.heap.size w' (some ⟨g, 0, none⟩) (prL price ps) ∧ Below W.heap.size W w') := fun W hb => ladderOf_any price hok.pr.1 hok.pr.2 a ca ps hok.pl.2 hok.pv b cs.length cb W (HR.out.later hb)
  have HTa : Hid (∀ g cp W, Below w.heap.size w W → Calls Try.prog 32 #[.agg #[.slice (some ⟨g, 0, none⟩) ps.length cp, .slice b cs.length cb], .slice (some ⟨sb, so, none⟩) ss.length sc] W fun e w' => e = .returned (.bool (stB ps.length cs.length ss)) ∧ Below W.heap.size W w') := fun g cp W hb => takes_any _ _ _ hok.pl.2 _ _ _ hok.cl.2 _ _ ss hsl W (HS.out.later hb)
  have HCl : Hid (∀ W, Below w.heap.size w W → Calls Try.prog 34 #[.slice (some ⟨sb, so, none⟩) ss.length sc] W fun e w' => ∃ g cp, e = .returned (.slice (some ⟨g, 0, none⟩) ss.length cp) ∧ Own2 W.heap.size w' (some ⟨g, 0, none⟩) ss ∧ Below W.heap.size W w') := fun W hb => cloneI_any sb so sc ss hc4 W (HS.out.later hb)
  have HPl : Hid (∀ g cp q cq W, stB ps.length cs.length ss = true → Below w.heap.size w W → Reads W.heap.size W (some ⟨g, 0, none⟩) (prL price ps) → Reads W.heap.size W q ss → Calls Try.prog 33 #[.agg #[.slice (some ⟨g, 0, none⟩) ps.length cp, .slice b cs.length cb], .int .i64 stock, .slice q ss.length cq] W fun e w' => ∃ g cp, e = .returned (.agg #[.slice q ss.length cq, .slice (some ⟨g, 0, none⟩) ss.length cp, .int .i64 (rvN (prL price ps) cs ss stock ss.length), .int .i64 (lfN cs ss stock ss.length)]) ∧ Own2 W.heap.size w' (some ⟨g, 0, none⟩) (slN cs ss stock ss.length) ∧ Below W.heap.size W w') := fun g cp q cq W h1 hb h2 h3 => plan_any price stock ps cs HOK.out ss (stOK_of h1) g cp b cb q cq W h2 (HK.out.later hb) h3
  rw [hf] at HF
  clear HCd2 hf hok HOK
  go_enter Try.func8, Try.ntmps8
  go_upto_region 3 with fail
  rw [← HW0.out.1, ← HW0.out.2]
  clear HW0
  go_wp2_with fail
  (first | go_at_call 30 | skip)
  refine (HF.out W0 HB0.out).mono ?_
  rintro e w1 ⟨rfl, hb1⟩
  have HB1 : Hid (Below W0.heap.size W0 w1) := hb1
  clear hb1 HF
  go_wp2_with fail
  (first | go_at_call 31 | skip)
  refine (HLa.out w1 (chain HB0.out HB1.out)).mono ?_
  rintro e w2 ⟨g, cp, rfl, hrd, hb2⟩
  have HB2 : Hid (Below W0.heap.size W0 w2) := chain HB1.out hb2
  have HRd : Hid (Reads w2.heap.size w2 (some ⟨g, 0, none⟩) (prL price ps)) := hrd
  clear hb2 hrd HLa HB1
  obtain ⟨W3, hW3⟩ : ∃ W3, W3 = w2.alloc (Obj.cells #[.slice (some ⟨g, 0, none⟩) ps.length cp, .slice b cs.length cb] 55) := ⟨_, rfl⟩
  obtain ⟨D, hD⟩ : ∃ D, D = w2.heap.size := ⟨_, rfl⟩
  have HW3 : Hid (W3 = w2.alloc (Obj.cells #[.slice (some ⟨g, 0, none⟩) ps.length cp, .slice b cs.length cb] 55) ∧ D = w2.heap.size) := ⟨hW3, hD⟩
  have hb3 : Below w2.heap.size w2 W3 := by rw [hW3]; exact below_alloc _ _
  have HB3 : Hid (Below W0.heap.size W0 W3) := chain HB2.out hb3
  have HRd3 : Hid (Reads W3.heap.size W3 (some ⟨g, 0, none⟩) (prL price ps)) := HRd.out.later hb3
  have HDx : Hid (W3.heap[D]? = some (.cells #[.slice (some ⟨g, 0, none⟩) ps.length cp, .slice b cs.length cb] 55 (0, 0))) := by show _ = _; rw [hW3, hD]; exact heapNew _ _
  clear hW3 hD hb3 HRd HB2
  go_upto_region 7 with fail
  rw [← HW3.out.1, ← HW3.out.2]
  clear HW3
  have x0 := blkCell HDx.out 0 _ rfl
  have x1 := blkCell HDx.out 1 _ rfl
  simp only [List.getElem_toArray, List.getElem_cons_zero, List.getElem_cons_succ] at x0 x1
  go_wp2_with fail
  (first | go_at_call 32 | skip)
  refine (HTa.out g cp W3 (chain HB0.out HB3.out)).mono ?_
  rintro e w4 ⟨rfl, hb4⟩
  have HB4 : Hid (Below W0.heap.size W0 w4) := chain HB3.out hb4
  have HRd4 : Hid (Reads w4.heap.size w4 (some ⟨g, 0, none⟩) (prL price ps)) := HRd3.out.later hb4
  have HDx4 : Hid (w4.heap[D]? = some (.cells #[.slice (some ⟨g, 0, none⟩) ps.length cp, .slice b cs.length cb] 55 (0, 0))) := (hb4.block D (blkLt HDx.out)).trans HDx.out
  clear hb4 HRd3 HDx x0 x1 HTa HB3
  cases hst : stB ps.length cs.length ss
  · have HC : Hid (mkC price stock ps cs ss = 3) := by show _ = _; rw [HCd3.out, hst]; rfl
    clear HCd3 HPl HCl HYe hst
    have hrx := (HB4.out.block R hRz).trans HRx.out
    have z0 := blkCell hrx 0 _ rfl
    have z1 := blkCell hrx 1 _ rfl
    have z2 := blkCell hrx 2 _ rfl
    have z3 := blkCell hrx 3 _ rfl
    have y0 := blkFree hrx 0
    have y1 := blkFree hrx 1
    have y2 := blkFree hrx 2
    have y3 := blkFree hrx 3
    simp only [List.getElem_toArray, List.getElem_cons_zero, List.getElem_cons_succ] at z0 z1 z2 z3
    clear hrx
    go_wp2_with fail
    refine bodyPost_ret (v := .tuple #[.agg #[.slice none 0 0, .slice none 0 0, .int .i64 0, .int .i64 0], .int .i64 3]) (by simp [results, Try.results8, go_sem, z0, z1, z2, z3]) rfl ?_
    refine HNo.out 3 _ HC.out (by omega) ?_
    repeat refine Below.setCell ?_ (by dsimp only; omega) _
    exact chain HB0.out HB4.out
  · have HC : Hid (mkC price stock ps cs ss = 0) := by show _ = _; rw [HCd3.out, hst]; rfl
    have HPl2 : Hid (∀ q cq W, Below w.heap.size w W → Reads W.heap.size W (some ⟨g, 0, none⟩) (prL price ps) → Reads W.heap.size W q ss → Calls Try.prog 33 #[.agg #[.slice (some ⟨g, 0, none⟩) ps.length cp, .slice b cs.length cb], .int .i64 stock, .slice q ss.length cq] W fun e w' => ∃ g cp, e = .returned (.agg #[.slice q ss.length cq, .slice (some ⟨g, 0, none⟩) ss.length cp, .int .i64 (rvN (prL price ps) cs ss stock ss.length), .int .i64 (lfN cs ss stock ss.length)]) ∧ Own2 W.heap.size w' (some ⟨g, 0, none⟩) (slN cs ss stock ss.length) ∧ Below W.heap.size W w') := fun q cq W hb h2 h3 => HPl.out g cp q cq W hst hb h2 h3
    clear HCd3 HPl HNo hst
    generalize rvN (prL price ps) cs ss stock ss.length = rv at *
    generalize lfN cs ss stock ss.length = lf at *
    generalize slN cs ss stock ss.length = SL at *
    go_upto_region 9 with fail
    have x0 := blkCell HDx4.out 0 _ rfl
    have x1 := blkCell HDx4.out 1 _ rfl
    simp only [List.getElem_toArray, List.getElem_cons_zero, List.getElem_cons_succ] at x0 x1
    have hD4 := blkLt HDx4.out
    have HB4w : Hid (Below w.heap.size w w4) := chain HB0.out HB4.out
    have HRx4 : Hid (w4.heap[R]? = some (.cells #[.slice none 0 0, .slice none 0 0, .int .i64 0, .int .i64 0] 28 (0, 0))) := (HB4.out.block R hRz).trans HRx.out
    have hRz4 := blkLt HRx4.out
    clear HB4 HRx HB0
    go_region_with (first | (go_at_call 34; refine (HCl.out _ (by first | exact HB4w.out | exact HB4w.out.drew)).mono ?_; rintro e w5 ⟨q, cq, rfl, ho5, hb5⟩; have HO5 : Hid (Own2 w4.heap.size w5 (some ⟨q, 0, none⟩) ss) := ho5; have HB5 : Hid (Below w4.heap.size w4 w5) := (by first | exact hb5 | exact chain (below_drew w4) hb5); obtain ⟨hc5, hf5, hz5⟩ := bfacts HB5.out; clear ho5 hb5) | (go_at_call 33; refine (HPl2.out _ _ w5 (chain HB4w.out HB5.out) (HRd4.out.later HB5.out) HO5.out.reads).mono ?_; rintro e w6 ⟨sg, sp, rfl, ho6, hb6⟩; have HO6 : Hid (Own2 w5.heap.size w6 (some ⟨sg, 0, none⟩) SL) := ho6; have HB6 : Hid (Below w5.heap.size w5 w6) := hb6; have hrx : w6.heap[R]? = _ := ((chain HB5.out hb6).block R hRz4).trans HRx4.out; have z0 := blkCell hrx 0 _ rfl; have z1 := blkCell hrx 1 _ rfl; have z2 := blkCell hrx 2 _ rfl; have z3 := blkCell hrx 3 _ rfl; have y0 := blkFree hrx 0; have y1 := blkFree hrx 1; have y2 := blkFree hrx 2; have y3 := blkFree hrx 3; simp only [List.getElem_toArray, List.getElem_cons_zero, List.getElem_cons_succ] at z0 z1 z2 z3; clear hrx ho6 hb6 hc5 hf5 hz5))
    all_goals
      go_wp2_with fail
      refine bodyPost_ret (v := .tuple #[.agg #[.slice (some ⟨q, 0, none⟩) ss.length cq, .slice (some ⟨sg, 0, none⟩) ss.length sp, .int .i64 rv, .int .i64 lf], .int .i64 0]) (by simp [results, Try.results8, go_sem, z0, z1, z2, z3]) rfl ?_
      have hz6 := HB6.out.size
      have hz5 := HB5.out.size
      have hz4 := HB4w.out.size
      have r5 := HO5.out.rowI.later HB6.out
      have r6 := HO6.out.rowI
      refine HYe.out _ _ _ _ w5.heap.size _ HC.out ⟨by omega, by simp; omega⟩ ?_ ?_ ?_
      · refine RowI.wide (lo := w4.heap.size) (hi := w5.heap.size) ?_ hz4 (Nat.le_refl _) (by simp; omega)
        repeat (first | exact r5 | refine RowI.set ?_ (by omega) _ _ | refine RowI.later ?_ (below_drew _))
      · refine RowI.wide (lo := w5.heap.size) (hi := w6.heap.size) ?_ (Nat.le_refl _) (by simp) (Nat.le_refl _)
        repeat (first | exact r6 | refine RowI.set ?_ (by omega) _ _ | refine RowI.later ?_ (below_drew _))
      · repeat (first | exact chain (chain HB4w.out HB5.out) HB6.out | refine Below.setCell ?_ (by dsimp only; omega) _ | refine chain ?_ (below_drew _))
end Go.Proofs.Ytlcnhkhkhlpghaa
