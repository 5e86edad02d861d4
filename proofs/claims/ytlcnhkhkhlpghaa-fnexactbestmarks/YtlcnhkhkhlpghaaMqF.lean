/-
  The contract of the specification's MarkOf.
-/
import Derived.Test.YtlcnhkhkhlpghaaMqD
import Derived.Test.YtlcnhkhkhlpghaaMqE
import Derived.Test.YtlcnhkhkhlpghaaAppAny
import Derived.Test.YtlcnhkhkhlpghaaRegZ
namespace Go.Proofs.Ytlcnhkhkhlpghaa
open Go.ChangeShapes Go.WideShapes Go.ChangeAt Go.RowKit Go.Deep Go.Joins
set_option linter.unusedVariables false

/-- The state of the specification's plan: two rows that grow, apart from each other. -/
structure PnT (w : World) (P R : Nat) (v0 v1 : Value) (L0 L1 : List Int) (x y : Int) (wr : World) : Prop where
  pn : Pn w.heap.size P R w wr v0 v1 x y
  r0 : RwN w.heap.size (fun q => q = P ∨ q = R) wr v0 L0
  r1 : RwN w.heap.size (fun q => q = P ∨ q = R) wr v1 L1
  ap : ∀ q, v0.ownBlock = some q → v1.ownBlock ≠ some q
  sz : w.heap.size ≤ wr.heap.size
theorem PnT.later {w : World} {P R : Nat} {v0 v1 : Value} {L0 L1 : List Int} {x y : Int} {wr w' : World} (h : PnT w P R v0 v1 L0 L1 x y wr) (hb : Below wr.heap.size wr w') : PnT w P R v0 v1 L0 L1 x y w' :=
  ⟨h.pn.later hb h.sz, h.r0.later hb, h.r1.later hb, h.ap, Nat.le_trans h.sz hb.size⟩
theorem PnT.put2 {w : World} {P R : Nat} {v0 v1 : Value} {L0 L1 : List Int} {x y : Int} {wr : World} (h : PnT w P R v0 v1 L0 L1 x y wr) (u : Int) : PnT w P R v0 v1 L0 L1 u y (wr.setCell ⟨P, 2, none⟩ (.int .i64 u)) :=
  ⟨h.pn.put2 u, h.r0.set (.inl rfl) _ _, h.r1.set (.inl rfl) _ _, h.ap, by rw [World.size_setCell]; exact h.sz⟩
theorem PnT.put3 {w : World} {P R : Nat} {v0 v1 : Value} {L0 L1 : List Int} {x y : Int} {wr : World} (h : PnT w P R v0 v1 L0 L1 x y wr) (u : Int) : PnT w P R v0 v1 L0 L1 x u (wr.setCell ⟨P, 3, none⟩ (.int .i64 u)) :=
  ⟨h.pn.put3 u, h.r0.set (.inl rfl) _ _, h.r1.set (.inl rfl) _ _, h.ap, by rw [World.size_setCell]; exact h.sz⟩
theorem RwN.kept {B : Nat} {X : Nat → Prop} {wr w' : World} {v : Value} {L : List Int} (h : RwN B X wr v L) {o : Option Nat} (hg : wr.grownBy w' o) (hne : ∀ q, v.ownBlock = some q → o ≠ some q) : RwN B X w' v L :=
  ⟨row_of h.1 (fun q hq => hg.block q (row_lt h.1 q hq).2 (fun e => hne q hq e.symm)), h.2⟩
theorem RwN.pushA {B : Nat} {X : Nat → Prop} {wr w' : World} {v : Value} {L : List Int} {va : Option Addr} {cp : Nat} {x : Int} (h : RwN B X wr v L)
    (ho : w'.ownsRow B 3 1 (.slice va (L.length + 1) cp) (L.length + 1) (L.map (Value.int .i64) ++ [.int .i64 x])) (hat : ∀ q, Value.ownBlock (.slice va (L.length + 1) cp) = some q → v.ownBlock = some q ∨ wr.heap.size ≤ q) (hX : ∀ q, wr.heap.size ≤ q → ¬ X q) : RwN B X w' (.slice va (L.length + 1) cp) (L ++ [x]) := by
  refine ⟨?_, fun q hq => ?_⟩
  · rw [List.length_append, List.map_append]; exact ho
  · rcases hat q hq with h1 | h1
    · exact h.2 q h1
    · exact hX q h1
theorem PnT.push1 {w : World} {P R : Nat} {v0 v1 : Value} {L0 L1 : List Int} {x y : Int} {wr w' : World} (h : PnT w P R v0 v1 L0 L1 x y wr) {va : Option Addr} {cp : Nat} {z : Int}
    (ho : w'.ownsRow w.heap.size 3 1 (.slice va (L1.length + 1) cp) (L1.length + 1) (L1.map (Value.int .i64) ++ [.int .i64 z])) (hg : wr.grownBy w' v1.ownBlock) (hat : ∀ q, Value.ownBlock (.slice va (L1.length + 1) cp) = some q → v1.ownBlock = some q ∨ wr.heap.size ≤ q) :
    Pn w.heap.size P R w w' v0 v1 x y ∧ PnT w P R v0 (.slice va (L1.length + 1) cp) L0 (L1 ++ [z]) x y (w'.setCell ⟨P, 1, none⟩ (.slice va (L1.length + 1) cp)) := by
  have hne : ∀ q, v1.ownBlock = some q → q ≠ P ∧ q ≠ R ∧ w.heap.size ≤ q := fun q hq => ⟨fun e => h.r1.2 q hq (.inl e), fun e => h.r1.2 q hq (.inr e), (row_lt h.r1.1 q hq).1⟩
  have hP := blkLt h.pn.box
  have hR := blkLt h.pn.res
  have r := h.r1.pushA ho hat (fun q hq e => by rcases e with e | e <;> omega)
  have pn := h.pn.grown hg h.sz hne
  refine ⟨pn, pn.put1 _, (h.r0.kept hg (fun q hq e => h.ap q hq e)).set (.inl rfl) _ _, r.set (.inl rfl) _ _, fun q hq e => ?_, ?_⟩
  · rcases hat q e with h1 | h1
    · exact h.ap q hq h1
    · have := (row_lt h.r0.1 q hq).2; omega
  · rw [World.size_setCell]; exact Nat.le_trans h.sz hg.size
theorem PnT.push0 {w : World} {P R : Nat} {v0 v1 : Value} {L0 L1 : List Int} {x y : Int} {wr w' : World} (h : PnT w P R v0 v1 L0 L1 x y wr) {va : Option Addr} {cp : Nat} {z : Int}
    (ho : w'.ownsRow w.heap.size 3 1 (.slice va (L0.length + 1) cp) (L0.length + 1) (L0.map (Value.int .i64) ++ [.int .i64 z])) (hg : wr.grownBy w' v0.ownBlock) (hat : ∀ q, Value.ownBlock (.slice va (L0.length + 1) cp) = some q → v0.ownBlock = some q ∨ wr.heap.size ≤ q) :
    Pn w.heap.size P R w w' v0 v1 x y ∧ PnT w P R (.slice va (L0.length + 1) cp) v1 (L0 ++ [z]) L1 x y (w'.setCell ⟨P, 0, none⟩ (.slice va (L0.length + 1) cp)) := by
  have hne : ∀ q, v0.ownBlock = some q → q ≠ P ∧ q ≠ R ∧ w.heap.size ≤ q := fun q hq => ⟨fun e => h.r0.2 q hq (.inl e), fun e => h.r0.2 q hq (.inr e), (row_lt h.r0.1 q hq).1⟩
  have hP := blkLt h.pn.box
  have hR := blkLt h.pn.res
  have r := h.r0.pushA ho hat (fun q hq e => by rcases e with e | e <;> omega)
  have pn := h.pn.grown hg h.sz hne
  refine ⟨pn, pn.put0 _, r.set (.inl rfl) _ _, (h.r1.kept hg (fun q hq e => h.ap q e hq)).set (.inl rfl) _ _, fun q hq e => ?_, ?_⟩
  · rcases hat q hq with h1 | h1
    · exact h.ap q h1 e
    · have := (row_lt h.r1.1 q e).2; omega
  · rw [World.size_setCell]; exact Nat.le_trans h.sz hg.size

theorem plan_upto {price stock : Int} {ps : List Int} {cs : LL} (h : MkOK price stock ps cs) {ss : List Int} : ∀ d, d ≤ cs.length → (∀ i, i < d → 0 ≤ ss.getD i 0 ∧ (ss.getD i 0).toNat < ps.length) → (0 ≤ lfN cs ss stock d ∧ lfN cs ss stock d ≤ 200) ∧ 0 ≤ rvN (prL price ps) cs ss stock d ∧ rvN (prL price ps) cs ss stock d ≤ 200000000 * (d : Int)
  | 0, _, _ => ⟨h.st, Int.le_refl _, by simp [rvN]⟩
  | d + 1, hd, hs => by
    obtain ⟨⟨i1, i2⟩, i3, i4⟩ := plan_upto h d (by omega) (fun i hi => hs i (by omega))
    have hsd := hs d (by omega)
    have hc := h.cv d (by omega) (ss.getD d 0).toNat hsd.2
    have hp := h.prices hsd.2
    have e : dA cs d (ss.getD d 0) = (cs.getD d []).getD (ss.getD d 0).toNat 0 := rfl
    rw [lfN, rvN]
    have hq : 0 ≤ sdN cs ss stock d ∧ sdN cs ss stock d ≤ 200 := by unfold sdN; rw [e]; omega
    have hm1 : 0 ≤ sdN cs ss stock d * (prL price ps).getD (ss.getD d 0).toNat 0 := Int.mul_nonneg hq.1 hp.1
    have hm2 : sdN cs ss stock d * (prL price ps).getD (ss.getD d 0).toNat 0 ≤ 200 * 1000000 := Int.mul_le_mul hq.2 hp.2 hp.1 (by omega)
    rw [e]
    refine ⟨⟨by omega, by omega⟩, by omega, by omega⟩
theorem sd_upto {price stock : Int} {ps : List Int} {cs : LL} (h : MkOK price stock ps cs) {ss : List Int} {d : Nat} (hd : d < cs.length) (hs : ∀ i, i < d → 0 ≤ ss.getD i 0 ∧ (ss.getD i 0).toNat < ps.length) {s : Nat} (hse : ss.getD d 0 = (s : Int)) (hsn : s < ps.length) : (0 ≤ lfN cs ss stock d ∧ lfN cs ss stock d ≤ 200) ∧ (0 ≤ rvN (prL price ps) cs ss stock d ∧ rvN (prL price ps) cs ss stock d ≤ 1400000000) ∧ 0 ≤ sdN cs ss stock d * (prL price ps).getD s 0 ∧ sdN cs ss stock d * (prL price ps).getD s 0 ≤ 200000000 := by
  obtain ⟨⟨i1, i2⟩, i3, i4⟩ := plan_upto h d (by omega) hs
  have hc := h.cv d (by omega) s hsn
  have hp := h.prices hsn
  have hc7 := h.cl.2
  have e : dA cs d (ss.getD d 0) = (cs.getD d []).getD s 0 := by unfold dA; rw [hse]; rfl
  have hq : 0 ≤ sdN cs ss stock d ∧ sdN cs ss stock d ≤ 200 := by unfold sdN; rw [e]; omega
  have hm2 : sdN cs ss stock d * (prL price ps).getD s 0 ≤ 200 * 1000000 := Int.mul_le_mul hq.2 hp.2 hp.1 (by omega)
  exact ⟨⟨i1, i2⟩, ⟨i3, by omega⟩, Int.mul_nonneg hq.1 hp.1, by omega⟩
set_option maxHeartbeats 16000000 in
set_option maxRecDepth 8000 in
theorem specMarks_any (price stock : Int) (a : Option Addr) (ca : Nat) (ps : List Int) (hl : ps.length ≤ 100000000) (b : Option Addr) (cb : Nat) (cs : LL) (hk : cs.length ≤ 100000000) (hp : ∀ r ∈ cs, DmOK r) (sb so sc : Nat) (ss : List Int) (hsl : ss.length ≤ 100000000) (w : World) (hr : Reads w.heap.size w a ps) (ks : ReadsDm w.heap.size w b cs) (hs : Reads w.heap.size w (some ⟨sb, so, none⟩) ss) :
    Calls Try.prog 14 #[.int .i64 price, .int .i64 stock, .slice a ps.length ca, .slice b cs.length cb, .slice (some ⟨sb, so, none⟩) ss.length sc] w (AnsWk price stock ps cs ss w) := by
  have HNo : Hid (∀ (c : Int) (w' : World), mkC price stock ps cs ss = c → c ≠ 0 → Below w.heap.size w w' → AnsWk price stock ps cs ss w (.returned (.tuple #[.agg #[.slice none 0 0, .slice none 0 0, .int .i64 0, .int .i64 0], .int .i64 c])) w') := fun c w' h1 h2 h3 => ansWk_none h1 h2 h3
  have HYe : Hid (∀ (q s : Option Addr) (cq cs' : Nat) (w' : World), mkC price stock ps cs ss = 0 → RowI w.heap.size w'.heap.size w' q ss → RowI w.heap.size w'.heap.size w' s (slN cs ss stock ss.length) → Below w.heap.size w w' → AnsWk price stock ps cs ss w (.returned (.tuple #[.agg #[.slice q ss.length cq, .slice s ss.length cs', .int .i64 (rvN (prL price ps) cs ss stock ss.length), .int .i64 (lfN cs ss stock ss.length)], .int .i64 0])) w') := fun q s cq cs' w' h1 h3 h4 h5 => ansWk_some h1 h3 h4 h5
  have HCd : Hid (mkC price stock ps cs ss = if 4096 < ss.length then 2 else if mkF price stock ps cs = 0 then (if stB ps.length cs.length ss = true then 0 else 3) else mkF price stock ps cs) := rfl
  have HFe : Hid (mkF price stock ps cs = if 4096 < ps.length ∨ 4096 < cs.length then 2 else if mkR price stock ps cs = true then 0 else 1) := rfl
  have HLo : Hid (∀ W, Calls Try.prog 43 #[.slice a ps.length ca, .slice b cs.length cb] W fun e w' => e = .returned (.bool (decide (4096 < ps.length ∨ 4096 < cs.length))) ∧ w' = W) := fun W => l15Long_any a _ ca hl b _ cb hk W
  have HRi : Hid (∀ W, Below w.heap.size w W → Calls Try.prog 44 #[.int .i64 price, .int .i64 stock, .slice a ps.length ca, .slice b cs.length cb] W fun e w' => e = .returned (.bool (mkR price stock ps cs)) ∧ Below W.heap.size W w') := fun W hb => l15Right_any price stock a ca ps hl b cb cs hk hp W (hr.later hb) (ks.later hb)
  obtain ⟨W0, hW0⟩ : ∃ W0, W0 = w.alloc (Obj.cells #[.slice none 0 0, .slice none 0 0, .int .i64 0, .int .i64 0] 28) := ⟨_, rfl⟩
  obtain ⟨R, hR⟩ : ∃ R, R = w.heap.size := ⟨_, rfl⟩
  have HW0 : Hid (W0 = w.alloc (Obj.cells #[.slice none 0 0, .slice none 0 0, .int .i64 0, .int .i64 0] 28) ∧ R = w.heap.size) := ⟨hW0, hR⟩
  have HB0 : Hid (Below w.heap.size w W0) := by show Below _ _ _; rw [hW0]; exact below_alloc _ _
  have HRx : Hid (W0.heap[R]? = some (.cells #[.slice none 0 0, .slice none 0 0, .int .i64 0, .int .i64 0] 28 (0, 0))) := by show _ = _; rw [hW0, hR]; exact heapNew _ _
  have hRw : w.heap.size ≤ R := by rw [hR]; exact Nat.le_refl _
  have hRz : R < W0.heap.size := by rw [hW0, hR]; simp
  have HR : Hid (Reads w.heap.size w a ps) := hr
  have HK : Hid (ReadsDm w.heap.size w b cs) := ks
  have HS : Hid (Reads w.heap.size w (some ⟨sb, so, none⟩) ss) := hs
  clear hr ks hs hp hW0 hR
  have HRes : Hid (∀ W, Below W0.heap.size W0 W → W.heap[R]? = some (.cells #[.slice none 0 0, .slice none 0 0, .int .i64 0, .int .i64 0] 28 (0, 0))) := fun W hb => (hb.block R hRz).trans HRx.out
  have z0 := blkCell HRx.out 0 _ rfl
  have z1 := blkCell HRx.out 1 _ rfl
  have z2 := blkCell HRx.out 2 _ rfl
  have z3 := blkCell HRx.out 3 _ rfl
  have y0 := blkFree HRx.out 0
  have y1 := blkFree HRx.out 1
  have y2 := blkFree HRx.out 2
  have y3 := blkFree HRx.out 3
  simp only [List.getElem_toArray, List.getElem_cons_zero, List.getElem_cons_succ] at z0 z1 z2 z3
  by_cases hlo : 4096 < ps.length ∨ 4096 < cs.length
  · have HC : Hid (mkC price stock ps cs ss = 2) := by show _ = _; rw [HCd.out, HFe.out, if_pos hlo]; split <;> rfl
    rw [decide_eq_true hlo] at HLo
    clear HCd HFe HRi HR HK HS HYe hlo
    go_enter Try.func14, Try.ntmps14
    go_upto_region 1 with fail
    rw [← HW0.out.1, ← HW0.out.2]
    clear HW0
    go_wp2_with (go_at_call 43; refine (HLo.out _).mono ?_; rintro e w1 ⟨rfl, rfl⟩)
    refine bodyPost_ret (v := .tuple #[.agg #[.slice none 0 0, .slice none 0 0, .int .i64 0, .int .i64 0], .int .i64 2]) (by simp [results, Try.results14, go_sem, z0, z1, z2, z3]) rfl ?_
    refine HNo.out 2 _ HC.out (by omega) ?_
    repeat refine Below.setCell ?_ (by dsimp only; omega) _
    exact HB0.out
  rw [decide_eq_false hlo] at HLo
  have HFe2 : Hid (mkF price stock ps cs = if mkR price stock ps cs = true then 0 else 1) := by show _ = _; rw [HFe.out, if_neg hlo]
  clear hlo HFe
  by_cases h4 : (4096 : Int) < (ss.length : Int)
  · have HC : Hid (mkC price stock ps cs ss = 2) := by show _ = _; rw [HCd.out, if_pos (by omega)]
    clear HCd HFe2 HRi HR HK HS HYe
    go_enter Try.func14, Try.ntmps14
    go_upto_region 1 with fail
    rw [← HW0.out.1, ← HW0.out.2]
    clear HW0
    go_wp2_with (go_at_call 43; refine (HLo.out _).mono ?_; rintro e w1 ⟨rfl, rfl⟩)
    refine bodyPost_ret (v := .tuple #[.agg #[.slice none 0 0, .slice none 0 0, .int .i64 0, .int .i64 0], .int .i64 2]) (by simp [results, Try.results14, go_sem, z0, z1, z2, z3]) rfl ?_
    refine HNo.out 2 _ HC.out (by omega) ?_
    repeat refine Below.setCell ?_ (by dsimp only; omega) _
    exact HB0.out
  have HCd2 : Hid (mkC price stock ps cs ss = if mkF price stock ps cs = 0 then (if stB ps.length cs.length ss = true then 0 else 3) else mkF price stock ps cs) := by show _ = _; rw [HCd.out, if_neg (by omega)]
  clear HCd
  cases hri : mkR price stock ps cs
  · have HC : Hid (mkC price stock ps cs ss = 1) := by show _ = _; rw [HCd2.out, HFe2.out, hri]; rfl
    rw [hri] at HRi
    clear HCd2 HFe2 HR HK HS HYe hri z0 z1 z2 z3 y0 y1 y2 y3
    go_enter Try.func14, Try.ntmps14
    go_upto_region 1 with fail
    rw [← HW0.out.1, ← HW0.out.2]
    clear HW0
    go_wp2_with fail
    (first | go_at_call 43 | skip)
    refine (HLo.out _).mono ?_
    rintro e w1 ⟨rfl, rfl⟩
    go_wp2_with fail
    (first | go_at_call 44 | skip)
    refine (HRi.out _ HB0.out).mono ?_
    rintro e w2 ⟨rfl, hb2⟩
    have hrx := HRes.out w2 hb2
    have z0 := blkCell hrx 0 _ rfl
    have z1 := blkCell hrx 1 _ rfl
    have z2 := blkCell hrx 2 _ rfl
    have z3 := blkCell hrx 3 _ rfl
    have y0 := blkFree hrx 0
    have y1 := blkFree hrx 1
    have y2 := blkFree hrx 2
    have y3 := blkFree hrx 3
    simp only [List.getElem_toArray, List.getElem_cons_zero, List.getElem_cons_succ] at z0 z1 z2 z3
    have HB2 : Hid (Below w.heap.size w w2) := chain HB0.out hb2
    clear hrx hb2
    go_wp2_with fail
    refine bodyPost_ret (v := .tuple #[.agg #[.slice none 0 0, .slice none 0 0, .int .i64 0, .int .i64 0], .int .i64 1]) (by simp [results, Try.results14, go_sem, z0, z1, z2, z3]) rfl ?_
    refine HNo.out 1 _ HC.out (by omega) ?_
    repeat refine Below.setCell ?_ (by dsimp only; omega) _
    exact HB2.out
  have hok := mkOK_of hri
  have HOK : Hid (MkOK price stock ps cs) := hok
  have HCd3 : Hid (mkC price stock ps cs ss = if stB ps.length cs.length ss = true then 0 else 3) := by show _ = _; rw [HCd2.out, HFe2.out, hri]; rfl
  have HSt : Hid (stB ps.length cs.length ss = (decide (ss.length = cs.length) && upTo (stAt ps.length ss) ss.length)) := rfl
  have hp5 := hok.pl.2
  have hc7 := hok.cl.2
  rw [hri] at HRi
  clear HCd2 HFe2 hri z0 z1 z2 z3 y0 y1 y2 y3 hok
  go_enter Try.func14, Try.ntmps14
  go_upto_region 1 with fail
  rw [← HW0.out.1, ← HW0.out.2]
  clear HW0
  go_wp2_with fail
  (first | go_at_call 43 | skip)
  refine (HLo.out _).mono ?_
  rintro e w1 ⟨rfl, rfl⟩
  go_wp2_with fail
  (first | go_at_call 44 | skip)
  refine (HRi.out _ HB0.out).mono ?_
  rintro e w2 ⟨rfl, hb2⟩
  have HRx2 : Hid (w2.heap[R]? = some (.cells #[.slice none 0 0, .slice none 0 0, .int .i64 0, .int .i64 0] 28 (0, 0))) := HRes.out w2 hb2
  have HB2 : Hid (Below w.heap.size w w2) := chain HB0.out hb2
  clear hb2 HRi HLo HRes HRx HB0
  by_cases hle : ss.length = cs.length
  case neg =>
    have HC : Hid (mkC price stock ps cs ss = 3) := by show _ = _; rw [HCd3.out, HSt.out, decide_eq_false hle]; rfl
    have hne : ¬ (ss.length : Int) = (cs.length : Int) := by omega
    have z0 := blkCell HRx2.out 0 _ rfl
    have z1 := blkCell HRx2.out 1 _ rfl
    have z2 := blkCell HRx2.out 2 _ rfl
    have z3 := blkCell HRx2.out 3 _ rfl
    have y0 := blkFree HRx2.out 0
    have y1 := blkFree HRx2.out 1
    have y2 := blkFree HRx2.out 2
    have y3 := blkFree HRx2.out 3
    simp only [List.getElem_toArray, List.getElem_cons_zero, List.getElem_cons_succ] at z0 z1 z2 z3
    clear HCd3 HSt hle HYe
    go_wp2_with fail
    refine bodyPost_ret (v := .tuple #[.agg #[.slice none 0 0, .slice none 0 0, .int .i64 0, .int .i64 0], .int .i64 3]) (by simp [results, Try.results14, go_sem, z0, z1, z2, z3]) rfl ?_
    refine HNo.out 3 _ HC.out (by omega) ?_
    repeat refine Below.setCell ?_ (by dsimp only; omega) _
    exact HB2.out
  rw [decide_eq_true hle, Bool.true_and] at HSt
  have heq : (ss.length : Int) = (cs.length : Int) := by omega
  have HLe : Hid (ss.length = cs.length) := hle
  have hs7 : ss.length ≤ 7 := by omega
  clear hle
  obtain ⟨W3, hW3⟩ : ∃ W3, W3 = w2.alloc (Obj.cells #[.slice none 0 0, .slice none 0 0, .int .i64 0, .int .i64 stock] 28) := ⟨_, rfl⟩
  obtain ⟨P, hP⟩ : ∃ P, P = w2.heap.size := ⟨_, rfl⟩
  have HW3 : Hid (W3 = w2.alloc (Obj.cells #[.slice none 0 0, .slice none 0 0, .int .i64 0, .int .i64 stock] 28) ∧ P = w2.heap.size) := ⟨hW3, hP⟩
  have HI0 : Hid (PnT w P R (.slice none 0 0) (.slice none 0 0) (ss.take 0) (slN cs ss stock 0) (rvN (prL price ps) cs ss stock 0) (lfN cs ss stock 0) W3) := by
    have hz := blkLt HRx2.out
    have hb3 : Below w2.heap.size w2 W3 := by rw [hW3]; exact below_alloc _ _
    have hs2 := HB2.out.size
    refine ⟨⟨by rw [hW3, hP]; exact heapNew _ _, (hb3.block R hz).trans HRx2.out, ⟨by omega, hRw, by omega⟩, chain HB2.out hb3⟩, ⟨⟨rfl, .inl ⟨rfl, rfl⟩⟩, (fun q hq => by cases hq)⟩, ⟨⟨rfl, .inl ⟨rfl, rfl⟩⟩, (fun q hq => by cases hq)⟩, (fun q hq => by cases hq), Nat.le_trans hs2 hb3.size⟩
  clear hW3 hP
  go_upto_region 8 with fail
  rw [← HW3.out.1, ← HW3.out.2]
  clear HW3 HRx2 HB2
  go_wp2_with fail
  obtain ⟨i0, hti, hzz⟩ := Option.map_eq_some_iff.1 intInfo1
  simp only [Prod.mk.injEq] at hzz
  obtain ⟨hi0, hi1, hi2⟩ := hzz
  go_loopw [13, 14] (fun c _ wr => ∃ (k : Nat) (q0 : Option Addr) (c0 : Nat) (q1 : Option Addr) (c1 : Nat), k ≤ ss.length ∧ c = .int .i64 (k : Int) ∧ upTo (stAt ps.length ss) k = true ∧ PnT w P R (.slice q0 k c0) (.slice q1 k c1) (ss.take k) (slN cs ss stock k) (rvN (prL price ps) cs ss stock k) (lfN cs ss stock k) wr) (fun c _ _ => ss.length - (intOf c).toNat)
  case atStart => exact ⟨0, none, 0, none, 0, Nat.zero_le _, rfl, rfl, HI0.out⟩
  case round =>
    clear HI0
    obtain ⟨k, q0, c0, q1, c1, hk', rfl, hf, hst⟩ := hrel
    have HF : Hid (upTo (stAt ps.length ss) k = true) := hf
    have HI : Hid (PnT w P R (.slice q0 k c0) (.slice q1 k c1) (ss.take k) (slN cs ss stock k) (rvN (prL price ps) cs ss stock k) (lfN cs ss stock k) wr) := hst
    clear hf hst
    by_cases hlt : k < ss.length
    · have hlt' : (k : Int) < (ss.length : Int) := by omega
      have HSc : Hid (∀ j, j < ss.length → ∀ W, Below w.heap.size w W → W.cell? ⟨sb, so + j, none⟩ = some (.int .i64 (ss.getD j 0))) := fun j hj W hb => by
        rcases HS.out with h | ⟨b1, o1, hb1, hB1, ib⟩
        · rw [h] at hj; simp at hj
        · cases hb1; exact (ib.below hb hB1) j hj
      have HX : Hid (stAt ps.length ss k = false → mkC price stock ps cs ss = 3) := fun h => by rw [HCd3.out, HSt.out, upTo_fail h _ hlt]; rfl
      have HN : Hid (stAt ps.length ss k = true → upTo (stAt ps.length ss) (k + 1) = true) := fun h => by show (upTo (stAt ps.length ss) k && stAt ps.length ss k) = true; rw [HF.out, h]; rfl
      have HPt : Hid (stAt ps.length ss k = (inB (ss.getD k 0) 0 ((ps.length : Int) - 1) && decide (ahs ss k ≤ ss.getD k 0))) := rfl
      have HPz : Hid (k = 0 → ahs ss k = 0) := fun q => by subst q; rfl
      have HPs : Hid (∀ j, k = j + 1 → ahs ss k = ss.getD j 0) := fun j q => by subst q; rfl
      have HIn : Hid (∀ W, Calls Try.prog 36 #[.int .i64 (ss.getD k 0), .int .i64 0, .int .i64 ((ps.length : Int) - 1)] W fun e w' => e = .returned (.bool (inB (ss.getD k 0) 0 ((ps.length : Int) - 1))) ∧ w' = W) := fun W => in_any _ _ _ W
      have e0 := HSc.out k hlt wr HI.out.pn.bel
      have HNo3 : Hid (∀ W, mkC price stock ps cs ss = 3 → PnT w P R (.slice q0 k c0) (.slice q1 k c1) (ss.take k) (slN cs ss stock k) (rvN (prL price ps) cs ss stock k) (lfN cs ss stock k) W → (W.cell? ⟨R, 0, none⟩ = some (.slice none 0 0) ∧ W.cell? ⟨R, 1, none⟩ = some (.slice none 0 0) ∧ W.cell? ⟨R, 2, none⟩ = some (.int .i64 0) ∧ W.cell? ⟨R, 3, none⟩ = some (.int .i64 0)) ∧ (W.frozen? ⟨R, 0, none⟩ = false ∧ W.frozen? ⟨R, 1, none⟩ = false ∧ W.frozen? ⟨R, 2, none⟩ = false ∧ W.frozen? ⟨R, 3, none⟩ = false)) := fun W _ h => ⟨⟨blkCell h.pn.res 0 _ rfl, blkCell h.pn.res 1 _ rfl, blkCell h.pn.res 2 _ rfl, blkCell h.pn.res 3 _ rfl⟩, blkFree h.pn.res 0, blkFree h.pn.res 1, blkFree h.pn.res 2, blkFree h.pn.res 3⟩
      have hwn : IntKind.i64.wrap ((ps.length : Int) - 1) = (ps.length : Int) - 1 := wrap_id _ (by omega) (by omega)
      have HPos : Hid (inB (ss.getD k 0) 0 ((ps.length : Int) - 1) = true → 0 ≤ ss.getD k 0 ∧ (ss.getD k 0).toNat < ps.length) := fun h => by have := (inB_iff _ _ _).1 h; omega
      have HGo : Hid (stAt ps.length ss k = true → 0 ≤ ss.getD k 0 ∧ (ss.getD k 0).toNat < ps.length) := fun h => by rw [HPt.out, Bool.and_eq_true] at h; exact HPos.out h.1
      have HPre : Hid (∀ i, i < k → 0 ≤ ss.getD i 0 ∧ (ss.getD i 0).toNat < ps.length) := fun i hi => by
        have := upTo_at HF.out i hi
        unfold stAt at this
        rw [Bool.and_eq_true, inB_iff] at this
        omega
      clear HF
      cases hsk : stAt ps.length ss k
      · -- the step is wrong
        have HC : Hid (mkC price stock ps cs ss = 3) := HX.out hsk
        rw [hsk] at HPt
        clear HX HN HGo hsk HYe
        have HEnd : Hid (∀ n, (((wr.drewN n).cell? ⟨R, 0, none⟩ = some (.slice none 0 0) ∧ (wr.drewN n).cell? ⟨R, 1, none⟩ = some (.slice none 0 0) ∧ (wr.drewN n).cell? ⟨R, 2, none⟩ = some (.int .i64 0) ∧ (wr.drewN n).cell? ⟨R, 3, none⟩ = some (.int .i64 0)) ∧ ((wr.drewN n).frozen? ⟨R, 0, none⟩ = false ∧ (wr.drewN n).frozen? ⟨R, 1, none⟩ = false ∧ (wr.drewN n).frozen? ⟨R, 2, none⟩ = false ∧ (wr.drewN n).frozen? ⟨R, 3, none⟩ = false)) ∧ Below w.heap.size w (wr.drewN n)) := fun n => ⟨HNo3.out _ HC.out (HI.out.later (drewBelow _ _)), (HI.out.later (drewBelow _ _)).pn.bel⟩
        cases hib : inB (ss.getD k 0) 0 ((ps.length : Int) - 1)
        · rw [hib] at HIn
          clear HPt HPz HPs HPos hib HNo3 HSc
          generalize ss.getD k 0 = s at *
          go_wp2_with fail
          go_quiet (first | (go_at_call 36; exact Calls.quiet_of_same (HIn.out _)))
          obtain ⟨⟨⟨z0, z1, z2, z3⟩, y0, y1, y2, y3⟩, hbd⟩ := HEnd.out nq
          have HBd : Hid _ := hbd
          clear hbd HEnd e0
          go_wp2_with fail
          refine bodyPost_ret (v := .tuple #[.agg #[.slice none 0 0, .slice none 0 0, .int .i64 0, .int .i64 0], .int .i64 3]) (by simp [results, Try.results14, go_sem, z0, z1, z2, z3]) rfl ?_
          refine HNo.out 3 _ HC.out (by omega) ?_
          repeat refine Below.setCell ?_ (by dsimp only; omega) _
          exact HBd.out
        · rw [hib] at HIn HPt
          rw [Bool.true_and] at HPt
          have hp0 := (HPos.out hib).1
          have hps : ¬ ahs ss k ≤ ss.getD k 0 := of_decide_eq_false HPt.out.symm
          obtain ⟨j, rfl⟩ : ∃ j, k = j + 1 := by
            refine ⟨k - 1, ?_⟩
            by_cases hz : k = 0
            · rw [HPz.out hz] at hps; omega
            · omega
          have hpv := HPs.out j rfl
          have dp := HSc.out j (by omega) wr HI.out.pn.bel
          rw [hpv] at hps
          have hjn : (j : Int) < (ss.length : Int) := by omega
          have hw1 : IntKind.i64.wrap (((j + 1 : Nat) : Int) - 1) = (j : Int) := by rw [wrap_id _ (by omega) (by omega)]; omega
          have hi1 : decide ((0 : Int) < ((j + 1 : Nat) : Int)) = true := decide_eq_true (by omega)
          have gd3 : decide (ss.getD (j + 1) 0 < ss.getD j 0) = true := decide_eq_true (by omega)
          clear HPt HPz HPs HPos hib HNo3 HSc hpv
          generalize ss.getD (j + 1) 0 = s at *
          generalize ss.getD j 0 = q at *
          have gd4 : s < q := by omega
          clear hps
          go_wp2_with fail
          go_quiet (first | (go_at_call 36; exact Calls.quiet_of_same (HIn.out _)))
          obtain ⟨⟨⟨z0, z1, z2, z3⟩, y0, y1, y2, y3⟩, hbd⟩ := HEnd.out nq
          have HBd : Hid _ := hbd
          clear hbd HEnd e0 dp
          go_wp2_with fail
          refine bodyPost_ret (v := .tuple #[.agg #[.slice none 0 0, .slice none 0 0, .int .i64 0, .int .i64 0], .int .i64 3]) (by simp [results, Try.results14, go_sem, z0, z1, z2, z3]) rfl ?_
          refine HNo.out 3 _ HC.out (by omega) ?_
          repeat refine Below.setCell ?_ (by dsimp only; omega) _
          exact HBd.out
      · have HN1 : Hid (upTo (stAt ps.length ss) (k + 1) = true) := HN.out hsk
        obtain ⟨hg0, hg1⟩ := HGo.out hsk
        obtain ⟨s, hse⟩ : ∃ s : Nat, ss.getD k 0 = (s : Int) := ⟨(ss.getD k 0).toNat, by omega⟩
        rw [hsk, hse] at HPt
        rw [hse] at HIn e0
        have hib : inB (s : Int) 0 ((ps.length : Int) - 1) = true := by
          have := HPt.out.symm
          rw [Bool.and_eq_true] at this
          exact this.1
        rw [hib, Bool.true_and] at HPt
        rw [hib] at HIn
        have hps : ahs ss k ≤ (s : Int) := of_decide_eq_true HPt.out.symm
        have hsn : s < ps.length := by rw [hse] at hg1; simpa using hg1
        have hsn' : (s : Int) < (ps.length : Int) := by omega
        clear HX HN HGo hsk HPos hib HNo HNo3 hg0 hg1 HPt
        have HE0 : Hid (∀ W, Below w.heap.size w W → W.cell? ⟨sb, so + k, none⟩ = some (.int .i64 (s : Int))) := fun W hb => by rw [← hse]; exact HSc.out k hlt W hb
        have hkc : k < cs.length := by have := HLe.out; omega
        have HTk : Hid (ss.take (k + 1) = ss.take k ++ [(s : Int)]) := by show _ = _; rw [List.take_succ_eq_append_getElem hlt, ← hse]; simp [List.getD_eq_getElem?_getD, hlt]
        have HT0 : Hid ((ss.take k).length = k) := by show _ = _; rw [List.length_take]; omega
        have HT1 : Hid ((slN cs ss stock k).length = k) := slN_len _ _ _ _
        have HSd : Hid (sdN cs ss stock k = min ((cs.getD k []).getD s 0) (lfN cs ss stock k)) := by show min (dA cs k (ss.getD k 0)) _ = _; unfold dA; rw [hse]; rfl
        have HRv : Hid (rvN (prL price ps) cs ss stock (k + 1) = rvN (prL price ps) cs ss stock k + sdN cs ss stock k * (prL price ps).getD s 0) := by show _ = _; rw [rvN, hse]; rfl
        have HLf : Hid (lfN cs ss stock (k + 1) = lfN cs ss stock k - sdN cs ss stock k) := rfl
        have HSl : Hid (slN cs ss stock (k + 1) = slN cs ss stock k ++ [sdN cs ss stock k]) := rfl
        have HBn : Hid ((0 ≤ lfN cs ss stock k ∧ lfN cs ss stock k ≤ 200) ∧ (0 ≤ rvN (prL price ps) cs ss stock k ∧ rvN (prL price ps) cs ss stock k ≤ 1400000000) ∧ 0 ≤ sdN cs ss stock k * (prL price ps).getD s 0 ∧ sdN cs ss stock k * (prL price ps).getD s 0 ≤ 200000000) := sd_upto HOK.out hkc HPre.out hse hsn
        have HWm : Hid (IntKind.i64.wrap (sdN cs ss stock k * (prL price ps).getD s 0) = sdN cs ss stock k * (prL price ps).getD s 0) := by obtain ⟨_, _, m1, m2⟩ := HBn.out; exact wrap_id _ (by omega) (by omega)
        have HWa : Hid (IntKind.i64.wrap (rvN (prL price ps) cs ss stock k + sdN cs ss stock k * (prL price ps).getD s 0) = rvN (prL price ps) cs ss stock k + sdN cs ss stock k * (prL price ps).getD s 0) := by obtain ⟨_, _, m1, m2⟩ := HBn.out; exact wrap_id _ (by omega) (by omega)
        have HLb : Hid (0 ≤ lfN cs ss stock k ∧ lfN cs ss stock k ≤ 200) := HBn.out.1
        rcases HR.out with hR0 | ⟨ab, ao, hab, hAB, ia⟩
        · rw [hR0] at hsn; simp at hsn
        have HPc : Hid (∀ W, Below w.heap.size w W → W.cell? ⟨ab, ao + s, none⟩ = some (.int .i64 (ps.getD s 0))) := fun W hb => (ia.below hb hAB) s hsn
        have HPx : Hid (∀ W, Calls Try.prog 37 #[.int .i64 price, .int .i64 (ps.getD s 0)] W fun e w' => e = .returned (.int .i64 ((prL price ps).getD s 0)) ∧ w' = W) := fun W => by rw [prL_at hsn]; exact l15Price_any price (ps.getD s 0) HOK.out.pr.1 HOK.out.pr.2 (HOK.out.pv s hsn).1 (HOK.out.pv s hsn).2 W
        subst hab
        generalize ps.getD s 0 = pc at *
        clear ia HBn
        by_cases hk0 : k = 0
        · have hi1 : decide ((0 : Int) < (k : Int)) = false := decide_eq_false (by omega)
          have hi2 : decide (0 < k) = false := decide_eq_false (by omega)
          clear HPz HPs hps hk0
          go_wp2_with fail
          go_quiet (first | (go_at_call 36; exact Calls.quiet_of_same (HIn.out _)))
          go_upto_region 13 with fail
          clear e0 hi1 hi2
          obtain ⟨v, hv⟩ : ∃ v, v = wr.drewN nq := ⟨_, rfl⟩
          rw [← hv]
          have HIv : Hid (PnT w P R (.slice q0 k c0) (.slice q1 k c1) (ss.take k) (slN cs ss stock k) (rvN (prL price ps) cs ss stock k) (lfN cs ss stock k) v) := by show PnT _ _ _ _ _ _ _ _ _ _; rw [hv]; exact HI.out.later (drewBelow _ _)
          clear hv HI
          rcases HK.out with hK0 | ⟨b0, o0, rfl, hB0, ia⟩
          · rw [hK0] at hkc; simp at hkc
          obtain ⟨h, cp, d0, _, hS⟩ := (ia.below HIv.out.pn.bel hB0 (Nat.le_refl _)) k hkc
          have hdl : (cs.getD k []).length = ps.length := HOK.out.cr k hkc
          rcases hS with hS | ⟨b1, o1, rfl, hB1, ib⟩
          · rw [hS] at hdl; simp at hdl; omega
          have d1 := ib s (by omega)
          rw [hdl] at d0
          have e0 := HE0.out v HIv.out.pn.bel
          have z3 := blkCell HIv.out.pn.box 3 _ rfl
          simp only [List.getElem_toArray, List.getElem_cons_zero, List.getElem_cons_succ] at z3
          have hx := HOK.out.cv k hkc s hsn
          clear ia ib hdl
          generalize (cs.getD k []).getD s 0 = x at *
          generalize lfN cs ss stock k = lf at *
          generalize rvN (prL price ps) cs ss stock k = rv at *
          generalize slN cs ss stock k = T1 at *
          generalize ss.take k = T0 at *
          generalize sdN cs ss stock k = sd at *
          generalize (prL price ps).getD s 0 = px at *
          have hkc' : (k : Int) < (cs.length : Int) := by omega
          have hlf := HLb.out
          have hmn : min lf x = sd := by rw [HSd.out]; omega
          have hsb : 0 ≤ sd ∧ sd ≤ lf := by rw [HSd.out]; omega
          have HMn : Hid (min lf x = sd) := hmn
          clear hmn HSd
          have hwm := HWm.out
          have hwa := HWa.out
          have hws : IntKind.i64.wrap (lf - sd) = lf - sd := wrap_id _ (by omega) (by omega)
          go_wp2_with fail
          go_quiet (fail)
          go_upto_region 14 with fail
          rw [HMn.out]
          obtain ⟨v2, hv2⟩ : ∃ v2, v2 = v.drewN nq := ⟨_, rfl⟩
          rw [← hv2]
          have HI2 : Hid (PnT w P R (.slice q0 k c0) (.slice q1 k c1) T0 T1 rv lf v2) := by show PnT _ _ _ _ _ _ _ _ _ _; rw [hv2]; exact HIv.out.later (drewBelow _ _)
          clear hv2 z3 d0 d1 e0 HIv
          have z3 := blkCell HI2.out.pn.box 3 _ rfl
          have f3 := blkFree HI2.out.pn.box 3
          simp only [List.getElem_toArray, List.getElem_cons_zero, List.getElem_cons_succ] at z3
          have HI3 : Hid (PnT w P R (.slice q0 k c0) (.slice q1 k c1) T0 T1 rv (lf - sd) (v2.setCell ⟨P, 3, none⟩ (.int .i64 (lf - sd)))) := HI2.out.put3 _
          go_upto_region 15 with fail
          clear z3 f3 HI2
          obtain ⟨v3, hv3⟩ : ∃ v3, v3 = v2.setCell ⟨P, 3, none⟩ (.int .i64 (lf - sd)) := ⟨_, rfl⟩
          rw [← hv3] at HI3
          try rw [← hv3]
          clear hv3
          have HI3d : Hid (PnT w P R (.slice q0 k c0) (.slice q1 k c1) T0 T1 rv (lf - sd) v3.drew) := HI3.out.later (below_drew _)
          have HC15 : Hid (v3.drew.cell? ⟨P, 2, none⟩ = some (.int .i64 rv) ∧ v3.drew.frozen? ⟨P, 2, none⟩ = false ∧ v3.drew.cell? ⟨sb, so + k, none⟩ = some (.int .i64 (s : Int)) ∧ v3.drew.cell? ⟨ab, ao + s, none⟩ = some (.int .i64 pc)) := ⟨blkCell HI3d.out.pn.box 2 _ rfl, blkFree HI3d.out.pn.box 2, HE0.out _ HI3d.out.pn.bel, HPc.out _ HI3d.out.pn.bel⟩
          have HP15 : Hid (∀ Wd, Wd = v3.drew → PnT w P R (.slice q0 k c0) (.slice q1 k c1) T0 T1 (rv + sd * px) (lf - sd) (Wd.setCell ⟨P, 2, none⟩ (.int .i64 (rv + sd * px)))) := fun Wd e => by rw [e]; exact HI3d.out.put2 _
          clear HI3d HI3
          refine wp_region_z (S := fun W => W = v3.drew) 15 (by kernel_rfl) rfl (fun hH => ?_)
          generalize v3.drew = Wd at *
          refine wpAnyZ_take (i := 0) (v := .pointer (some ⟨P, 2, none⟩)) rfl (by kernel_rfl) (by kernel_rfl) (by kernel_rfl) (by kernel_rfl) (fun _ _ _ h => h) (Or.inl ⟨by rfl, fun w hSw => by clear hSw; go_simp⟩) hH ?_
          refine wpAnyZ_take (i := 1) (v := .int .i64 rv) rfl (by kernel_rfl) (by kernel_rfl) (by kernel_rfl) (by kernel_rfl) (fun _ _ _ h => h) (Or.inl ⟨by rfl, fun w hSw => by have f0 := HC15.out.1; subst hSw; go_simp⟩) hH ?_
          try simp only [Act.put, List.setIfInBounds_toArray, List.set_cons_zero, List.set_cons_succ, List.getElem_toArray, List.getElem_cons_succ, List.getElem_cons_zero]
          refine wpAnyZ_take (i := 2) (v := .int .i64 sd) rfl (by kernel_rfl) (by kernel_rfl) (by kernel_rfl) (by kernel_rfl) (fun _ _ _ h => h) (Or.inl ⟨by rfl, fun w hSw => by clear hSw; go_simp⟩) hH ?_
          try simp only [Act.put, List.setIfInBounds_toArray, List.set_cons_zero, List.set_cons_succ, List.getElem_toArray, List.getElem_cons_succ, List.getElem_cons_zero]
          refine wpAnyZ_take (i := 3) (v := .int .i64 price) rfl (by kernel_rfl) (by kernel_rfl) (by kernel_rfl) (by kernel_rfl) (fun _ _ _ h => h) (Or.inl ⟨by rfl, fun w hSw => by clear hSw; go_simp⟩) hH ?_
          try simp only [Act.put, List.setIfInBounds_toArray, List.set_cons_zero, List.set_cons_succ, List.getElem_toArray, List.getElem_cons_succ, List.getElem_cons_zero]
          refine wpAnyZ_take (i := 4) (v := .slice (some ⟨ab, ao, none⟩) ps.length ca) rfl (by kernel_rfl) (by kernel_rfl) (by kernel_rfl) (by kernel_rfl) (fun _ _ _ h => h) (Or.inl ⟨by rfl, fun w hSw => by clear hSw; go_simp⟩) hH ?_
          try simp only [Act.put, List.setIfInBounds_toArray, List.set_cons_zero, List.set_cons_succ, List.getElem_toArray, List.getElem_cons_succ, List.getElem_cons_zero]
          refine wpAnyZ_take (i := 5) (v := .slice (some ⟨sb, so, none⟩) ss.length sc) rfl (by kernel_rfl) (by kernel_rfl) (by kernel_rfl) (by kernel_rfl) (fun _ _ _ h => h) (Or.inl ⟨by rfl, fun w hSw => by clear hSw; go_simp⟩) hH ?_
          try simp only [Act.put, List.setIfInBounds_toArray, List.set_cons_zero, List.set_cons_succ, List.getElem_toArray, List.getElem_cons_succ, List.getElem_cons_zero]
          refine wpAnyZ_take (i := 6) (v := .int .i64 (k : Int)) rfl (by kernel_rfl) (by kernel_rfl) (by kernel_rfl) (by kernel_rfl) (fun _ _ _ h => h) (Or.inl ⟨by rfl, fun w hSw => by clear hSw; go_simp⟩) hH ?_
          try simp only [Act.put, List.setIfInBounds_toArray, List.set_cons_zero, List.set_cons_succ, List.getElem_toArray, List.getElem_cons_succ, List.getElem_cons_zero]
          refine wpAnyZ_take (i := 7) (v := .pointer (some ⟨sb, so + k, none⟩)) rfl (by kernel_rfl) (by kernel_rfl) (by kernel_rfl) (by kernel_rfl) (fun _ _ _ h => h) (Or.inl ⟨by rfl, fun w hSw => by clear hSw; go_simp⟩) hH ?_
          try simp only [Act.put, List.setIfInBounds_toArray, List.set_cons_zero, List.set_cons_succ, List.getElem_toArray, List.getElem_cons_succ, List.getElem_cons_zero]
          refine wpAnyZ_take (i := 8) (v := .int .i64 (s : Int)) rfl (by kernel_rfl) (by kernel_rfl) (by kernel_rfl) (by kernel_rfl) (fun _ _ _ h => h) (Or.inl ⟨by rfl, fun w hSw => by have f0 := HC15.out.2.2.1; subst hSw; go_simp⟩) hH ?_
          try simp only [Act.put, List.setIfInBounds_toArray, List.set_cons_zero, List.set_cons_succ, List.getElem_toArray, List.getElem_cons_succ, List.getElem_cons_zero]
          refine wpAnyZ_take (i := 9) (v := .pointer (some ⟨ab, ao + s, none⟩)) rfl (by kernel_rfl) (by kernel_rfl) (by kernel_rfl) (by kernel_rfl) (fun _ _ _ h => h) (Or.inl ⟨by rfl, fun w hSw => by clear hSw; go_simp⟩) hH ?_
          try simp only [Act.put, List.setIfInBounds_toArray, List.set_cons_zero, List.set_cons_succ, List.getElem_toArray, List.getElem_cons_succ, List.getElem_cons_zero]
          refine wpAnyZ_take (i := 10) (v := .int .i64 pc) rfl (by kernel_rfl) (by kernel_rfl) (by kernel_rfl) (by kernel_rfl) (fun _ _ _ h => h) (Or.inl ⟨by rfl, fun w hSw => by have f0 := HC15.out.2.2.2; subst hSw; go_simp⟩) hH ?_
          try simp only [Act.put, List.setIfInBounds_toArray, List.set_cons_zero, List.set_cons_succ, List.getElem_toArray, List.getElem_cons_succ, List.getElem_cons_zero]
          refine wpAnyZ_ready (rs := [11]) (by kernel_rfl) (by simp) ?_
          refine AllReadyZ.cons rfl (fun K hK => ?_) AllReadyZ.nil
          go_simp
          go_at_call 37
          refine (HPx.out Wd).mono ?_
          rintro e w6 ⟨rfl, h6⟩
          rw [h6]
          clear h6
          refine hK.out _ _ (Or.inr hH) (fun _ => ?_)
          clear hK K
          try simp only [Act.put, List.setIfInBounds_toArray, List.set_cons_zero, List.set_cons_succ, List.getElem_toArray, List.getElem_cons_succ, List.getElem_cons_zero]
          refine wpAnyZ_take (i := 12) (v := .int .i64 (sd * px)) rfl (by kernel_rfl) (by kernel_rfl) (by kernel_rfl) (by kernel_rfl) (fun _ _ _ h => h) (Or.inl ⟨by rfl, fun w hSw => by have f0 := hwm; clear hSw; go_simp⟩) hH ?_
          try simp only [Act.put, List.setIfInBounds_toArray, List.set_cons_zero, List.set_cons_succ, List.getElem_toArray, List.getElem_cons_succ, List.getElem_cons_zero]
          refine wpAnyZ_take (i := 13) (v := .int .i64 (rv + sd * px)) rfl (by kernel_rfl) (by kernel_rfl) (by kernel_rfl) (by kernel_rfl) (fun _ _ _ h => h) (Or.inl ⟨by rfl, fun w hSw => by have f0 := hwa; clear hSw; go_simp⟩) hH ?_
          try simp only [Act.put, List.setIfInBounds_toArray, List.set_cons_zero, List.set_cons_succ, List.getElem_toArray, List.getElem_cons_succ, List.getElem_cons_zero]
          refine wpAnyZ_take (i := 14) (v := .pointer (some ⟨P, 2, none⟩)) rfl (by kernel_rfl) (by kernel_rfl) (by kernel_rfl) (by kernel_rfl) (fun _ _ _ h => h) (Or.inl ⟨by rfl, fun w hSw => by clear hSw; go_simp⟩) hH ?_
          try simp only [Act.put, List.setIfInBounds_toArray, List.set_cons_zero, List.set_cons_succ, List.getElem_toArray, List.getElem_cons_succ, List.getElem_cons_zero]
          refine wpAnyZ_ready (rs := [15]) (by kernel_rfl) (by simp) ?_
          refine AllReadyZ.cons rfl (fun K hK => ?_) AllReadyZ.nil
          obtain ⟨y0, y1, y2, y3⟩ := HC15.out
          go_simp
          refine hK.out _ _ (Or.inl rfl) (fun _ => ?_)
          clear hK K
          try simp only [Act.put, List.setIfInBounds_toArray, List.set_cons_zero, List.set_cons_succ, List.getElem_toArray, List.getElem_cons_succ, List.getElem_cons_zero]
          refine wpAnyZ_done (by kernel_rfl) ?_ _
          clear y0 y1 y2 y3 HC15 hH
          have HI4 : Hid (PnT w P R (.slice q0 k c0) (.slice q1 k c1) T0 T1 (rv + sd * px) (lf - sd) (Wd.setCell ⟨P, 2, none⟩ (.int .i64 (rv + sd * px)))) := HP15.out _ rfl
          clear HP15
          generalize Wd.setCell ⟨P, 2, none⟩ (.int .i64 (rv + sd * px)) = wc at *
          have z1 := blkCell HI4.out.pn.box 1 _ rfl
          simp only [List.getElem_toArray, List.getElem_cons_zero, List.getElem_cons_succ] at z1
          have HW5 : Hid (PnT w P R (.slice q0 k c0) (.slice q1 k c1) T0 T1 (rv + sd * px) (lf - sd) (wc.alloc (Obj.cells #[.int .i64 sd] 3))) := HI4.out.later (below_alloc _ _)
          have HNw : Hid (∀ j u, [Value.int .i64 sd][j]? = some u → (wc.alloc (Obj.cells #[.int .i64 sd] 3)).cell? ((⟨wc.heap.size, 0, none⟩ : Addr).add j) = some u) := newsOne wc (.int .i64 sd) 3
          clear HI4
          have HFz : Hid (∀ va vc w7, w7.ownsRow w.heap.size 3 1 (.slice va (k + 1) vc) (k + 1) (T1.map (Value.int .i64) ++ [.int .i64 sd]) → (wc.alloc (Obj.cells #[.int .i64 sd] 3)).grownBy w7 (Value.ownBlock (.slice q1 k c1)) → (∀ q, Value.ownBlock (.slice va (k + 1) vc) = some q → Value.ownBlock (.slice q1 k c1) = some q ∨ (wc.alloc (Obj.cells #[.int .i64 sd] 3)).heap.size ≤ q) → PnT w P R (.slice q0 k c0) (.slice va (k + 1) vc) T0 (T1 ++ [sd]) (rv + sd * px) (lf - sd) (w7.setCell ⟨P, 1, none⟩ (.slice va (k + 1) vc)) ∧ w7.cell? ⟨P, 1, none⟩ = some (.slice q1 k c1) ∧ w7.frozen? ⟨P, 1, none⟩ = false) := fun va vc w7 h1 h2 h3 => by
            obtain rfl : T1.length = k := HT1.out
            obtain ⟨hx, hy⟩ := HW5.out.push1 h1 h2 h3
            exact ⟨hy, blkCell hx.box 1 _ rfl, blkFree hx.box 1⟩
          have HOw : Hid ((wc.alloc (Obj.cells #[.int .i64 sd] 3)).ownsRow w.heap.size 3 1 (.slice q1 k c1) k (T1.map (Value.int .i64))) := by have := HW5.out.r1.1; rwa [HT1.out] at this
          go_upto_region 17 with (at_builtin; refine wpList_append_any rfl _ _ 23 rfl w.heap.size 3 i0 (.int .i64 0) 1 8 Try.underlying23 hti hi0 hi1 hi2 rfl (by decide) _ _ _ rfl HOw.out (some ⟨wc.heap.size, 0, none⟩) 1 1 [.int .i64 sd] rfl rfl (fun _ => ⟨_, rfl, HNw.out⟩) (by simp [Value.oneCell']) (by unfold maxLen; omega) (by omega) HW5.out.sz ?_; intro va vc w7 hown1 hgrow1 hat1; obtain ⟨e1, e2, e3⟩ := HFz.out va vc w7 hown1 hgrow1 hat1; have HI7 : Hid _ := e1; clear hown1 hgrow1 hat1 e1)
          clear HFz HW5 HNw HOw z1 e2 e3
          obtain ⟨wa, hwa8⟩ : ∃ wa, wa = w7.setCell ⟨P, 1, none⟩ (.slice va (k + 1) vc) := ⟨_, rfl⟩
          rw [← hwa8] at HI7
          try rw [← hwa8]
          clear hwa8
          have HS17 : Hid (∀ W, Below wa.heap.size wa W → W.heap[P]? = some (.cells #[.slice q0 k c0, .slice va (k + 1) vc, .int .i64 (rv + sd * px), .int .i64 (lf - sd)] 28 (0, 0)) ∧ W.cell? ⟨sb, so + k, none⟩ = some (.int .i64 (s : Int))) := fun W hb => ⟨(HI7.out.later hb).pn.box, HE0.out W (HI7.out.later hb).pn.bel⟩
          refine wp_region_z (S := fun W' => W'.heap[P]? = some (.cells #[.slice q0 k c0, .slice va (k + 1) vc, .int .i64 (rv + sd * px), .int .i64 (lf - sd)] 28 (0, 0)) ∧ W'.cell? ⟨sb, so + k, none⟩ = some (.int .i64 (s : Int))) 9 (by kernel_rfl) (HS17.out _ (below_drew _)) (fun hH => ?_)
          refine wpAnyZ_take (i := 0) (v := .pointer (some ⟨P, 0, none⟩)) rfl (by kernel_rfl) (by kernel_rfl) (by kernel_rfl) (by kernel_rfl) (fun _ _ _ h => h) (Or.inl ⟨by rfl, fun w hSw => by clear hSw; go_simp⟩) hH ?_
          refine wpAnyZ_take (i := 1) (v := .slice q0 k c0) rfl (by kernel_rfl) (by kernel_rfl) (by kernel_rfl) (by kernel_rfl) (fun _ _ _ h => h) (Or.inl ⟨by rfl, fun w hSw => by have f := blkCell hSw.1 0 _ rfl; simp only [List.getElem_toArray, List.getElem_cons_zero] at f; clear hSw; go_simp⟩) hH ?_
          try simp only [Act.put, List.setIfInBounds_toArray, List.set_cons_zero, List.set_cons_succ, List.getElem_toArray, List.getElem_cons_succ, List.getElem_cons_zero]
          refine wpAnyZ_take (i := 2) (v := .slice (some ⟨sb, so, none⟩) ss.length sc) rfl (by kernel_rfl) (by kernel_rfl) (by kernel_rfl) (by kernel_rfl) (fun _ _ _ h => h) (Or.inl ⟨by rfl, fun w hSw => by clear hSw; go_simp⟩) hH ?_
          try simp only [Act.put, List.setIfInBounds_toArray, List.set_cons_zero, List.set_cons_succ, List.getElem_toArray, List.getElem_cons_succ, List.getElem_cons_zero]
          refine wpAnyZ_take (i := 3) (v := .int .i64 (k : Int)) rfl (by kernel_rfl) (by kernel_rfl) (by kernel_rfl) (by kernel_rfl) (fun _ _ _ h => h) (Or.inl ⟨by rfl, fun w hSw => by clear hSw; go_simp⟩) hH ?_
          try simp only [Act.put, List.setIfInBounds_toArray, List.set_cons_zero, List.set_cons_succ, List.getElem_toArray, List.getElem_cons_succ, List.getElem_cons_zero]
          refine wpAnyZ_take (i := 4) (v := .pointer (some ⟨sb, so + k, none⟩)) rfl (by kernel_rfl) (by kernel_rfl) (by kernel_rfl) (by kernel_rfl) (fun _ _ _ h => h) (Or.inl ⟨by rfl, fun w hSw => by clear hSw; go_simp⟩) hH ?_
          try simp only [Act.put, List.setIfInBounds_toArray, List.set_cons_zero, List.set_cons_succ, List.getElem_toArray, List.getElem_cons_succ, List.getElem_cons_zero]
          refine wpAnyZ_take (i := 5) (v := .int .i64 (s : Int)) rfl (by kernel_rfl) (by kernel_rfl) (by kernel_rfl) (by kernel_rfl) (fun _ _ _ h => h) (Or.inl ⟨by rfl, fun w hSw => by have f := hSw.2; clear hSw; go_simp⟩) hH ?_
          try simp only [Act.put, List.setIfInBounds_toArray, List.set_cons_zero, List.set_cons_succ, List.getElem_toArray, List.getElem_cons_succ, List.getElem_cons_zero]
          refine wpAnyZ_ready (rs := [6]) (by kernel_rfl) (by simp) ?_
          refine AllReadyZ.cons rfl (fun K hK => ?_) AllReadyZ.nil
          go_simp
          obtain ⟨w4, hw4⟩ : ∃ w4, w4 = wa.drew := ⟨_, rfl⟩
          have hb4 : Below wa.heap.size wa w4 := by rw [hw4]; exact below_drew _
          have e6 : (wa.alloc (Obj.cells #[.int .i64 (s : Int)] 3)).drew = w4.alloc (Obj.cells #[.int .i64 (s : Int)] 3) := by rw [hw4]; rfl
          have ez : wa.heap.size = w4.heap.size := by rw [hw4]; rfl
          rw [e6, ez]
          have hb5 : (w4.alloc (Obj.cells #[.int .i64 (s : Int)] 3)).heap[w4.heap.size]? = some (.cells #[.int .i64 (s : Int)] 3 (0, 0)) := heapNew w4 _
          have HP5 : Hid (PnT w P R (.slice q0 k c0) (.slice va (k + 1) vc) T0 (T1 ++ [sd]) (rv + sd * px) (lf - sd) (w4.alloc (Obj.cells #[.int .i64 (s : Int)] 3))) := (HI7.out.later hb4).later (below_alloc _ _)
          have hS5 := HS17.out _ (chain hb4 (below_alloc w4 (Obj.cells #[.int .i64 (s : Int)] 3)))
          clear e6 ez hw4
          refine hK.out _ _ (Or.inr hS5) (fun _ => ?_)
          clear hK K
          try simp only [Act.put, List.setIfInBounds_toArray, List.set_cons_zero, List.set_cons_succ, List.getElem_toArray, List.getElem_cons_succ, List.getElem_cons_zero]
          refine wpAnyZ_ready (rs := [7]) (by kernel_rfl) (by simp) ?_
          refine AllReadyZ.cons rfl (fun K hK => ?_) AllReadyZ.nil
          have HOx : Hid ((w4.alloc (Obj.cells #[.int .i64 (s : Int)] 3)).ownsRow w.heap.size 3 1 (.slice q0 k c0) k (T0.map (Value.int .i64))) := by have := HP5.out.r0.1; rwa [HT0.out] at this
          refine step_append_any rfl (.tmp 111) (.tmp 116) 23 rfl w.heap.size 3 i0 (.int .i64 0) 1 8 Try.underlying23 hti hi0 hi1 hi2 rfl (by decide) (.slice q0 k c0) _ _ (by simp [Act.eval]) HOx.out (some ⟨w4.heap.size, 0, none⟩) 1 1 [.int .i64 (s : Int)] (by simp [Act.eval]) rfl (fun _ => ⟨_, rfl, World.news_of_block hb5⟩) (by simp [Value.oneCell']) (by unfold maxLen; omega) (by omega) HP5.out.sz (fun qa qc w9 hown hgrow hat => ?_)
          have H9 : Pn w.heap.size P R w w9 (.slice q0 k c0) (.slice va (k + 1) vc) (rv + sd * px) (lf - sd) ∧ PnT w P R (.slice qa (k + 1) qc) (.slice va (k + 1) vc) (T0 ++ [(s : Int)]) (T1 ++ [sd]) (rv + sd * px) (lf - sd) (w9.setCell ⟨P, 0, none⟩ (.slice qa (k + 1) qc)) := by
            obtain rfl : T0.length = k := HT0.out
            exact HP5.out.push0 hown hgrow hat
          have hS9 : w9.heap[P]? = some (.cells #[.slice q0 k c0, .slice va (k + 1) vc, .int .i64 (rv + sd * px), .int .i64 (lf - sd)] 28 (0, 0)) ∧ w9.cell? ⟨sb, so + k, none⟩ = some (.int .i64 (s : Int)) := ⟨H9.1.box, HE0.out w9 H9.1.bel⟩
          have HI9 : Hid (PnT w P R (.slice qa (k + 1) qc) (.slice va (k + 1) vc) (T0 ++ [(s : Int)]) (T1 ++ [sd]) (rv + sd * px) (lf - sd) (w9.setCell ⟨P, 0, none⟩ (.slice qa (k + 1) qc))) := H9.2
          clear hown hgrow hat H9 hb5 hb4 HOx
          refine hK.out _ _ (Or.inr hS9) (fun _ => ?_)
          clear hK K
          try simp only [Act.put, List.setIfInBounds_toArray, List.set_cons_zero, List.set_cons_succ, List.getElem_toArray, List.getElem_cons_succ, List.getElem_cons_zero]
          refine wpAnyZ_take (i := 8) (v := .pointer (some ⟨P, 0, none⟩)) rfl (by kernel_rfl) (by kernel_rfl) (by kernel_rfl) (by kernel_rfl) (fun _ _ _ h => h) (Or.inl ⟨by rfl, fun w hSw => by clear hSw; go_simp⟩) hS9 ?_
          try simp only [Act.put, List.setIfInBounds_toArray, List.set_cons_zero, List.set_cons_succ, List.getElem_toArray, List.getElem_cons_succ, List.getElem_cons_zero]
          refine wpAnyZ_ready (rs := [9]) (by kernel_rfl) (by simp) ?_
          refine AllReadyZ.cons rfl (fun K hK => ?_) AllReadyZ.nil
          have y0 := blkCell hS9.1 0 _ rfl
          have y1 := blkFree hS9.1 0
          simp only [List.getElem_toArray, List.getElem_cons_zero] at y0
          clear hH hS5
          go_simp
          refine hK.out _ _ (Or.inl rfl) (fun _ => ?_)
          clear hK K
          try simp only [Act.put, List.setIfInBounds_toArray, List.set_cons_zero, List.set_cons_succ, List.getElem_toArray, List.getElem_cons_succ, List.getElem_cons_zero]
          refine wpAnyZ_done (by kernel_rfl) ?_ _
          clear y0 y1 hS9 HP5 HS17
          generalize w9.setCell ⟨P, 0, none⟩ (.slice qa (k + 1) qc) = wb at *
          go_wp2_with fail
          go_roundw
          case rel => exact ⟨k + 1, qa, qc, va, vc, by omega, by go_num, HN1.out, by rw [HSl.out, HRv.out, HLf.out, HTk.out]; exact HI9.out⟩
          case measure => simp [intOf]; omega
        · obtain ⟨j, hj⟩ : ∃ j, k = j + 1 := ⟨k - 1, by omega⟩
          have hpv := HPs.out j hj
          have dp := HSc.out j (by omega) wr HI.out.pn.bel
          rw [hpv] at hps
          have hjn : (j : Int) < (ss.length : Int) := by omega
          have hw1 : IntKind.i64.wrap ((k : Int) - 1) = (j : Int) := by rw [wrap_id _ (by omega) (by omega)]; omega
          have hi1 : decide ((0 : Int) < (k : Int)) = true := decide_eq_true (by omega)
          have hi2 : decide (0 < k) = true := decide_eq_true (by omega)
          have hi3 : 0 < k := by omega
          have hi4 : (0 : Int) < (k : Int) := by omega
          clear hk0
          clear HPz HPs hpv
          generalize ss.getD j 0 = q at *
          have gd3 : decide ((s : Int) < q) = false := decide_eq_false (by omega)
          have hjk : (k : Int) - 1 = (j : Int) := by omega
          clear hj
          go_wp2_with fail
          go_quiet (first | (go_at_call 36; exact Calls.quiet_of_same (HIn.out _)))
          go_upto_region 13 with fail
          clear e0 hi1 hi2 hi3 hi4 dp hjn hw1 gd3 hps hjk
          obtain ⟨v, hv⟩ : ∃ v, v = wr.drewN nq := ⟨_, rfl⟩
          rw [← hv]
          have HIv : Hid (PnT w P R (.slice q0 k c0) (.slice q1 k c1) (ss.take k) (slN cs ss stock k) (rvN (prL price ps) cs ss stock k) (lfN cs ss stock k) v) := by show PnT _ _ _ _ _ _ _ _ _ _; rw [hv]; exact HI.out.later (drewBelow _ _)
          clear hv HI
          rcases HK.out with hK0 | ⟨b0, o0, rfl, hB0, ia⟩
          · rw [hK0] at hkc; simp at hkc
          obtain ⟨h, cp, d0, _, hS⟩ := (ia.below HIv.out.pn.bel hB0 (Nat.le_refl _)) k hkc
          have hdl : (cs.getD k []).length = ps.length := HOK.out.cr k hkc
          rcases hS with hS | ⟨b1, o1, rfl, hB1, ib⟩
          · rw [hS] at hdl; simp at hdl; omega
          have d1 := ib s (by omega)
          rw [hdl] at d0
          have e0 := HE0.out v HIv.out.pn.bel
          have z3 := blkCell HIv.out.pn.box 3 _ rfl
          simp only [List.getElem_toArray, List.getElem_cons_zero, List.getElem_cons_succ] at z3
          have hx := HOK.out.cv k hkc s hsn
          clear ia ib hdl
          generalize (cs.getD k []).getD s 0 = x at *
          generalize lfN cs ss stock k = lf at *
          generalize rvN (prL price ps) cs ss stock k = rv at *
          generalize slN cs ss stock k = T1 at *
          generalize ss.take k = T0 at *
          generalize sdN cs ss stock k = sd at *
          generalize (prL price ps).getD s 0 = px at *
          have hkc' : (k : Int) < (cs.length : Int) := by omega
          have hlf := HLb.out
          have hmn : min lf x = sd := by rw [HSd.out]; omega
          have hsb : 0 ≤ sd ∧ sd ≤ lf := by rw [HSd.out]; omega
          have HMn : Hid (min lf x = sd) := hmn
          clear hmn HSd
          have hwm := HWm.out
          have hwa := HWa.out
          have hws : IntKind.i64.wrap (lf - sd) = lf - sd := wrap_id _ (by omega) (by omega)
          go_wp2_with fail
          go_quiet (fail)
          go_upto_region 14 with fail
          rw [HMn.out]
          obtain ⟨v2, hv2⟩ : ∃ v2, v2 = v.drewN nq := ⟨_, rfl⟩
          rw [← hv2]
          have HI2 : Hid (PnT w P R (.slice q0 k c0) (.slice q1 k c1) T0 T1 rv lf v2) := by show PnT _ _ _ _ _ _ _ _ _ _; rw [hv2]; exact HIv.out.later (drewBelow _ _)
          clear hv2 z3 d0 d1 e0 HIv
          have z3 := blkCell HI2.out.pn.box 3 _ rfl
          have f3 := blkFree HI2.out.pn.box 3
          simp only [List.getElem_toArray, List.getElem_cons_zero, List.getElem_cons_succ] at z3
          have HI3 : Hid (PnT w P R (.slice q0 k c0) (.slice q1 k c1) T0 T1 rv (lf - sd) (v2.setCell ⟨P, 3, none⟩ (.int .i64 (lf - sd)))) := HI2.out.put3 _
          go_upto_region 15 with fail
          clear z3 f3 HI2
          obtain ⟨v3, hv3⟩ : ∃ v3, v3 = v2.setCell ⟨P, 3, none⟩ (.int .i64 (lf - sd)) := ⟨_, rfl⟩
          rw [← hv3] at HI3
          try rw [← hv3]
          clear hv3
          have HI3d : Hid (PnT w P R (.slice q0 k c0) (.slice q1 k c1) T0 T1 rv (lf - sd) v3.drew) := HI3.out.later (below_drew _)
          have HC15 : Hid (v3.drew.cell? ⟨P, 2, none⟩ = some (.int .i64 rv) ∧ v3.drew.frozen? ⟨P, 2, none⟩ = false ∧ v3.drew.cell? ⟨sb, so + k, none⟩ = some (.int .i64 (s : Int)) ∧ v3.drew.cell? ⟨ab, ao + s, none⟩ = some (.int .i64 pc)) := ⟨blkCell HI3d.out.pn.box 2 _ rfl, blkFree HI3d.out.pn.box 2, HE0.out _ HI3d.out.pn.bel, HPc.out _ HI3d.out.pn.bel⟩
          have HP15 : Hid (∀ Wd, Wd = v3.drew → PnT w P R (.slice q0 k c0) (.slice q1 k c1) T0 T1 (rv + sd * px) (lf - sd) (Wd.setCell ⟨P, 2, none⟩ (.int .i64 (rv + sd * px)))) := fun Wd e => by rw [e]; exact HI3d.out.put2 _
          clear HI3d HI3
          refine wp_region_z (S := fun W => W = v3.drew) 15 (by kernel_rfl) rfl (fun hH => ?_)
          generalize v3.drew = Wd at *
          refine wpAnyZ_take (i := 0) (v := .pointer (some ⟨P, 2, none⟩)) rfl (by kernel_rfl) (by kernel_rfl) (by kernel_rfl) (by kernel_rfl) (fun _ _ _ h => h) (Or.inl ⟨by rfl, fun w hSw => by clear hSw; go_simp⟩) hH ?_
          refine wpAnyZ_take (i := 1) (v := .int .i64 rv) rfl (by kernel_rfl) (by kernel_rfl) (by kernel_rfl) (by kernel_rfl) (fun _ _ _ h => h) (Or.inl ⟨by rfl, fun w hSw => by have f0 := HC15.out.1; subst hSw; go_simp⟩) hH ?_
          try simp only [Act.put, List.setIfInBounds_toArray, List.set_cons_zero, List.set_cons_succ, List.getElem_toArray, List.getElem_cons_succ, List.getElem_cons_zero]
          refine wpAnyZ_take (i := 2) (v := .int .i64 sd) rfl (by kernel_rfl) (by kernel_rfl) (by kernel_rfl) (by kernel_rfl) (fun _ _ _ h => h) (Or.inl ⟨by rfl, fun w hSw => by clear hSw; go_simp⟩) hH ?_
          try simp only [Act.put, List.setIfInBounds_toArray, List.set_cons_zero, List.set_cons_succ, List.getElem_toArray, List.getElem_cons_succ, List.getElem_cons_zero]
          refine wpAnyZ_take (i := 3) (v := .int .i64 price) rfl (by kernel_rfl) (by kernel_rfl) (by kernel_rfl) (by kernel_rfl) (fun _ _ _ h => h) (Or.inl ⟨by rfl, fun w hSw => by clear hSw; go_simp⟩) hH ?_
          try simp only [Act.put, List.setIfInBounds_toArray, List.set_cons_zero, List.set_cons_succ, List.getElem_toArray, List.getElem_cons_succ, List.getElem_cons_zero]
          refine wpAnyZ_take (i := 4) (v := .slice (some ⟨ab, ao, none⟩) ps.length ca) rfl (by kernel_rfl) (by kernel_rfl) (by kernel_rfl) (by kernel_rfl) (fun _ _ _ h => h) (Or.inl ⟨by rfl, fun w hSw => by clear hSw; go_simp⟩) hH ?_
          try simp only [Act.put, List.setIfInBounds_toArray, List.set_cons_zero, List.set_cons_succ, List.getElem_toArray, List.getElem_cons_succ, List.getElem_cons_zero]
          refine wpAnyZ_take (i := 5) (v := .slice (some ⟨sb, so, none⟩) ss.length sc) rfl (by kernel_rfl) (by kernel_rfl) (by kernel_rfl) (by kernel_rfl) (fun _ _ _ h => h) (Or.inl ⟨by rfl, fun w hSw => by clear hSw; go_simp⟩) hH ?_
          try simp only [Act.put, List.setIfInBounds_toArray, List.set_cons_zero, List.set_cons_succ, List.getElem_toArray, List.getElem_cons_succ, List.getElem_cons_zero]
          refine wpAnyZ_take (i := 6) (v := .int .i64 (k : Int)) rfl (by kernel_rfl) (by kernel_rfl) (by kernel_rfl) (by kernel_rfl) (fun _ _ _ h => h) (Or.inl ⟨by rfl, fun w hSw => by clear hSw; go_simp⟩) hH ?_
          try simp only [Act.put, List.setIfInBounds_toArray, List.set_cons_zero, List.set_cons_succ, List.getElem_toArray, List.getElem_cons_succ, List.getElem_cons_zero]
          refine wpAnyZ_take (i := 7) (v := .pointer (some ⟨sb, so + k, none⟩)) rfl (by kernel_rfl) (by kernel_rfl) (by kernel_rfl) (by kernel_rfl) (fun _ _ _ h => h) (Or.inl ⟨by rfl, fun w hSw => by clear hSw; go_simp⟩) hH ?_
          try simp only [Act.put, List.setIfInBounds_toArray, List.set_cons_zero, List.set_cons_succ, List.getElem_toArray, List.getElem_cons_succ, List.getElem_cons_zero]
          refine wpAnyZ_take (i := 8) (v := .int .i64 (s : Int)) rfl (by kernel_rfl) (by kernel_rfl) (by kernel_rfl) (by kernel_rfl) (fun _ _ _ h => h) (Or.inl ⟨by rfl, fun w hSw => by have f0 := HC15.out.2.2.1; subst hSw; go_simp⟩) hH ?_
          try simp only [Act.put, List.setIfInBounds_toArray, List.set_cons_zero, List.set_cons_succ, List.getElem_toArray, List.getElem_cons_succ, List.getElem_cons_zero]
          refine wpAnyZ_take (i := 9) (v := .pointer (some ⟨ab, ao + s, none⟩)) rfl (by kernel_rfl) (by kernel_rfl) (by kernel_rfl) (by kernel_rfl) (fun _ _ _ h => h) (Or.inl ⟨by rfl, fun w hSw => by clear hSw; go_simp⟩) hH ?_
          try simp only [Act.put, List.setIfInBounds_toArray, List.set_cons_zero, List.set_cons_succ, List.getElem_toArray, List.getElem_cons_succ, List.getElem_cons_zero]
          refine wpAnyZ_take (i := 10) (v := .int .i64 pc) rfl (by kernel_rfl) (by kernel_rfl) (by kernel_rfl) (by kernel_rfl) (fun _ _ _ h => h) (Or.inl ⟨by rfl, fun w hSw => by have f0 := HC15.out.2.2.2; subst hSw; go_simp⟩) hH ?_
          try simp only [Act.put, List.setIfInBounds_toArray, List.set_cons_zero, List.set_cons_succ, List.getElem_toArray, List.getElem_cons_succ, List.getElem_cons_zero]
          refine wpAnyZ_ready (rs := [11]) (by kernel_rfl) (by simp) ?_
          refine AllReadyZ.cons rfl (fun K hK => ?_) AllReadyZ.nil
          go_simp
          go_at_call 37
          refine (HPx.out Wd).mono ?_
          rintro e w6 ⟨rfl, h6⟩
          rw [h6]
          clear h6
          refine hK.out _ _ (Or.inr hH) (fun _ => ?_)
          clear hK K
          try simp only [Act.put, List.setIfInBounds_toArray, List.set_cons_zero, List.set_cons_succ, List.getElem_toArray, List.getElem_cons_succ, List.getElem_cons_zero]
          refine wpAnyZ_take (i := 12) (v := .int .i64 (sd * px)) rfl (by kernel_rfl) (by kernel_rfl) (by kernel_rfl) (by kernel_rfl) (fun _ _ _ h => h) (Or.inl ⟨by rfl, fun w hSw => by have f0 := hwm; clear hSw; go_simp⟩) hH ?_
          try simp only [Act.put, List.setIfInBounds_toArray, List.set_cons_zero, List.set_cons_succ, List.getElem_toArray, List.getElem_cons_succ, List.getElem_cons_zero]
          refine wpAnyZ_take (i := 13) (v := .int .i64 (rv + sd * px)) rfl (by kernel_rfl) (by kernel_rfl) (by kernel_rfl) (by kernel_rfl) (fun _ _ _ h => h) (Or.inl ⟨by rfl, fun w hSw => by have f0 := hwa; clear hSw; go_simp⟩) hH ?_
          try simp only [Act.put, List.setIfInBounds_toArray, List.set_cons_zero, List.set_cons_succ, List.getElem_toArray, List.getElem_cons_succ, List.getElem_cons_zero]
          refine wpAnyZ_take (i := 14) (v := .pointer (some ⟨P, 2, none⟩)) rfl (by kernel_rfl) (by kernel_rfl) (by kernel_rfl) (by kernel_rfl) (fun _ _ _ h => h) (Or.inl ⟨by rfl, fun w hSw => by clear hSw; go_simp⟩) hH ?_
          try simp only [Act.put, List.setIfInBounds_toArray, List.set_cons_zero, List.set_cons_succ, List.getElem_toArray, List.getElem_cons_succ, List.getElem_cons_zero]
          refine wpAnyZ_ready (rs := [15]) (by kernel_rfl) (by simp) ?_
          refine AllReadyZ.cons rfl (fun K hK => ?_) AllReadyZ.nil
          obtain ⟨y0, y1, y2, y3⟩ := HC15.out
          go_simp
          refine hK.out _ _ (Or.inl rfl) (fun _ => ?_)
          clear hK K
          try simp only [Act.put, List.setIfInBounds_toArray, List.set_cons_zero, List.set_cons_succ, List.getElem_toArray, List.getElem_cons_succ, List.getElem_cons_zero]
          refine wpAnyZ_done (by kernel_rfl) ?_ _
          clear y0 y1 y2 y3 HC15 hH
          have HI4 : Hid (PnT w P R (.slice q0 k c0) (.slice q1 k c1) T0 T1 (rv + sd * px) (lf - sd) (Wd.setCell ⟨P, 2, none⟩ (.int .i64 (rv + sd * px)))) := HP15.out _ rfl
          clear HP15
          generalize Wd.setCell ⟨P, 2, none⟩ (.int .i64 (rv + sd * px)) = wc at *
          have z1 := blkCell HI4.out.pn.box 1 _ rfl
          simp only [List.getElem_toArray, List.getElem_cons_zero, List.getElem_cons_succ] at z1
          have HW5 : Hid (PnT w P R (.slice q0 k c0) (.slice q1 k c1) T0 T1 (rv + sd * px) (lf - sd) (wc.alloc (Obj.cells #[.int .i64 sd] 3))) := HI4.out.later (below_alloc _ _)
          have HNw : Hid (∀ j u, [Value.int .i64 sd][j]? = some u → (wc.alloc (Obj.cells #[.int .i64 sd] 3)).cell? ((⟨wc.heap.size, 0, none⟩ : Addr).add j) = some u) := newsOne wc (.int .i64 sd) 3
          clear HI4
          have HFz : Hid (∀ va vc w7, w7.ownsRow w.heap.size 3 1 (.slice va (k + 1) vc) (k + 1) (T1.map (Value.int .i64) ++ [.int .i64 sd]) → (wc.alloc (Obj.cells #[.int .i64 sd] 3)).grownBy w7 (Value.ownBlock (.slice q1 k c1)) → (∀ q, Value.ownBlock (.slice va (k + 1) vc) = some q → Value.ownBlock (.slice q1 k c1) = some q ∨ (wc.alloc (Obj.cells #[.int .i64 sd] 3)).heap.size ≤ q) → PnT w P R (.slice q0 k c0) (.slice va (k + 1) vc) T0 (T1 ++ [sd]) (rv + sd * px) (lf - sd) (w7.setCell ⟨P, 1, none⟩ (.slice va (k + 1) vc)) ∧ w7.cell? ⟨P, 1, none⟩ = some (.slice q1 k c1) ∧ w7.frozen? ⟨P, 1, none⟩ = false) := fun va vc w7 h1 h2 h3 => by
            obtain rfl : T1.length = k := HT1.out
            obtain ⟨hx, hy⟩ := HW5.out.push1 h1 h2 h3
            exact ⟨hy, blkCell hx.box 1 _ rfl, blkFree hx.box 1⟩
          have HOw : Hid ((wc.alloc (Obj.cells #[.int .i64 sd] 3)).ownsRow w.heap.size 3 1 (.slice q1 k c1) k (T1.map (Value.int .i64))) := by have := HW5.out.r1.1; rwa [HT1.out] at this
          go_upto_region 17 with (at_builtin; refine wpList_append_any rfl _ _ 23 rfl w.heap.size 3 i0 (.int .i64 0) 1 8 Try.underlying23 hti hi0 hi1 hi2 rfl (by decide) _ _ _ rfl HOw.out (some ⟨wc.heap.size, 0, none⟩) 1 1 [.int .i64 sd] rfl rfl (fun _ => ⟨_, rfl, HNw.out⟩) (by simp [Value.oneCell']) (by unfold maxLen; omega) (by omega) HW5.out.sz ?_; intro va vc w7 hown1 hgrow1 hat1; obtain ⟨e1, e2, e3⟩ := HFz.out va vc w7 hown1 hgrow1 hat1; have HI7 : Hid _ := e1; clear hown1 hgrow1 hat1 e1)
          clear HFz HW5 HNw HOw z1 e2 e3
          obtain ⟨wa, hwa8⟩ : ∃ wa, wa = w7.setCell ⟨P, 1, none⟩ (.slice va (k + 1) vc) := ⟨_, rfl⟩
          rw [← hwa8] at HI7
          try rw [← hwa8]
          clear hwa8
          have HS17 : Hid (∀ W, Below wa.heap.size wa W → W.heap[P]? = some (.cells #[.slice q0 k c0, .slice va (k + 1) vc, .int .i64 (rv + sd * px), .int .i64 (lf - sd)] 28 (0, 0)) ∧ W.cell? ⟨sb, so + k, none⟩ = some (.int .i64 (s : Int))) := fun W hb => ⟨(HI7.out.later hb).pn.box, HE0.out W (HI7.out.later hb).pn.bel⟩
          refine wp_region_z (S := fun W' => W'.heap[P]? = some (.cells #[.slice q0 k c0, .slice va (k + 1) vc, .int .i64 (rv + sd * px), .int .i64 (lf - sd)] 28 (0, 0)) ∧ W'.cell? ⟨sb, so + k, none⟩ = some (.int .i64 (s : Int))) 9 (by kernel_rfl) (HS17.out _ (below_drew _)) (fun hH => ?_)
          refine wpAnyZ_take (i := 0) (v := .pointer (some ⟨P, 0, none⟩)) rfl (by kernel_rfl) (by kernel_rfl) (by kernel_rfl) (by kernel_rfl) (fun _ _ _ h => h) (Or.inl ⟨by rfl, fun w hSw => by clear hSw; go_simp⟩) hH ?_
          refine wpAnyZ_take (i := 1) (v := .slice q0 k c0) rfl (by kernel_rfl) (by kernel_rfl) (by kernel_rfl) (by kernel_rfl) (fun _ _ _ h => h) (Or.inl ⟨by rfl, fun w hSw => by have f := blkCell hSw.1 0 _ rfl; simp only [List.getElem_toArray, List.getElem_cons_zero] at f; clear hSw; go_simp⟩) hH ?_
          try simp only [Act.put, List.setIfInBounds_toArray, List.set_cons_zero, List.set_cons_succ, List.getElem_toArray, List.getElem_cons_succ, List.getElem_cons_zero]
          refine wpAnyZ_take (i := 2) (v := .slice (some ⟨sb, so, none⟩) ss.length sc) rfl (by kernel_rfl) (by kernel_rfl) (by kernel_rfl) (by kernel_rfl) (fun _ _ _ h => h) (Or.inl ⟨by rfl, fun w hSw => by clear hSw; go_simp⟩) hH ?_
          try simp only [Act.put, List.setIfInBounds_toArray, List.set_cons_zero, List.set_cons_succ, List.getElem_toArray, List.getElem_cons_succ, List.getElem_cons_zero]
          refine wpAnyZ_take (i := 3) (v := .int .i64 (k : Int)) rfl (by kernel_rfl) (by kernel_rfl) (by kernel_rfl) (by kernel_rfl) (fun _ _ _ h => h) (Or.inl ⟨by rfl, fun w hSw => by clear hSw; go_simp⟩) hH ?_
          try simp only [Act.put, List.setIfInBounds_toArray, List.set_cons_zero, List.set_cons_succ, List.getElem_toArray, List.getElem_cons_succ, List.getElem_cons_zero]
          refine wpAnyZ_take (i := 4) (v := .pointer (some ⟨sb, so + k, none⟩)) rfl (by kernel_rfl) (by kernel_rfl) (by kernel_rfl) (by kernel_rfl) (fun _ _ _ h => h) (Or.inl ⟨by rfl, fun w hSw => by clear hSw; go_simp⟩) hH ?_
          try simp only [Act.put, List.setIfInBounds_toArray, List.set_cons_zero, List.set_cons_succ, List.getElem_toArray, List.getElem_cons_succ, List.getElem_cons_zero]
          refine wpAnyZ_take (i := 5) (v := .int .i64 (s : Int)) rfl (by kernel_rfl) (by kernel_rfl) (by kernel_rfl) (by kernel_rfl) (fun _ _ _ h => h) (Or.inl ⟨by rfl, fun w hSw => by have f := hSw.2; clear hSw; go_simp⟩) hH ?_
          try simp only [Act.put, List.setIfInBounds_toArray, List.set_cons_zero, List.set_cons_succ, List.getElem_toArray, List.getElem_cons_succ, List.getElem_cons_zero]
          refine wpAnyZ_ready (rs := [6]) (by kernel_rfl) (by simp) ?_
          refine AllReadyZ.cons rfl (fun K hK => ?_) AllReadyZ.nil
          go_simp
          obtain ⟨w4, hw4⟩ : ∃ w4, w4 = wa.drew := ⟨_, rfl⟩
          have hb4 : Below wa.heap.size wa w4 := by rw [hw4]; exact below_drew _
          have e6 : (wa.alloc (Obj.cells #[.int .i64 (s : Int)] 3)).drew = w4.alloc (Obj.cells #[.int .i64 (s : Int)] 3) := by rw [hw4]; rfl
          have ez : wa.heap.size = w4.heap.size := by rw [hw4]; rfl
          rw [e6, ez]
          have hb5 : (w4.alloc (Obj.cells #[.int .i64 (s : Int)] 3)).heap[w4.heap.size]? = some (.cells #[.int .i64 (s : Int)] 3 (0, 0)) := heapNew w4 _
          have HP5 : Hid (PnT w P R (.slice q0 k c0) (.slice va (k + 1) vc) T0 (T1 ++ [sd]) (rv + sd * px) (lf - sd) (w4.alloc (Obj.cells #[.int .i64 (s : Int)] 3))) := (HI7.out.later hb4).later (below_alloc _ _)
          have hS5 := HS17.out _ (chain hb4 (below_alloc w4 (Obj.cells #[.int .i64 (s : Int)] 3)))
          clear e6 ez hw4
          refine hK.out _ _ (Or.inr hS5) (fun _ => ?_)
          clear hK K
          try simp only [Act.put, List.setIfInBounds_toArray, List.set_cons_zero, List.set_cons_succ, List.getElem_toArray, List.getElem_cons_succ, List.getElem_cons_zero]
          refine wpAnyZ_ready (rs := [7]) (by kernel_rfl) (by simp) ?_
          refine AllReadyZ.cons rfl (fun K hK => ?_) AllReadyZ.nil
          have HOx : Hid ((w4.alloc (Obj.cells #[.int .i64 (s : Int)] 3)).ownsRow w.heap.size 3 1 (.slice q0 k c0) k (T0.map (Value.int .i64))) := by have := HP5.out.r0.1; rwa [HT0.out] at this
          refine step_append_any rfl (.tmp 111) (.tmp 116) 23 rfl w.heap.size 3 i0 (.int .i64 0) 1 8 Try.underlying23 hti hi0 hi1 hi2 rfl (by decide) (.slice q0 k c0) _ _ (by simp [Act.eval]) HOx.out (some ⟨w4.heap.size, 0, none⟩) 1 1 [.int .i64 (s : Int)] (by simp [Act.eval]) rfl (fun _ => ⟨_, rfl, World.news_of_block hb5⟩) (by simp [Value.oneCell']) (by unfold maxLen; omega) (by omega) HP5.out.sz (fun qa qc w9 hown hgrow hat => ?_)
          have H9 : Pn w.heap.size P R w w9 (.slice q0 k c0) (.slice va (k + 1) vc) (rv + sd * px) (lf - sd) ∧ PnT w P R (.slice qa (k + 1) qc) (.slice va (k + 1) vc) (T0 ++ [(s : Int)]) (T1 ++ [sd]) (rv + sd * px) (lf - sd) (w9.setCell ⟨P, 0, none⟩ (.slice qa (k + 1) qc)) := by
            obtain rfl : T0.length = k := HT0.out
            exact HP5.out.push0 hown hgrow hat
          have hS9 : w9.heap[P]? = some (.cells #[.slice q0 k c0, .slice va (k + 1) vc, .int .i64 (rv + sd * px), .int .i64 (lf - sd)] 28 (0, 0)) ∧ w9.cell? ⟨sb, so + k, none⟩ = some (.int .i64 (s : Int)) := ⟨H9.1.box, HE0.out w9 H9.1.bel⟩
          have HI9 : Hid (PnT w P R (.slice qa (k + 1) qc) (.slice va (k + 1) vc) (T0 ++ [(s : Int)]) (T1 ++ [sd]) (rv + sd * px) (lf - sd) (w9.setCell ⟨P, 0, none⟩ (.slice qa (k + 1) qc))) := H9.2
          clear hown hgrow hat H9 hb5 hb4 HOx
          refine hK.out _ _ (Or.inr hS9) (fun _ => ?_)
          clear hK K
          try simp only [Act.put, List.setIfInBounds_toArray, List.set_cons_zero, List.set_cons_succ, List.getElem_toArray, List.getElem_cons_succ, List.getElem_cons_zero]
          refine wpAnyZ_take (i := 8) (v := .pointer (some ⟨P, 0, none⟩)) rfl (by kernel_rfl) (by kernel_rfl) (by kernel_rfl) (by kernel_rfl) (fun _ _ _ h => h) (Or.inl ⟨by rfl, fun w hSw => by clear hSw; go_simp⟩) hS9 ?_
          try simp only [Act.put, List.setIfInBounds_toArray, List.set_cons_zero, List.set_cons_succ, List.getElem_toArray, List.getElem_cons_succ, List.getElem_cons_zero]
          refine wpAnyZ_ready (rs := [9]) (by kernel_rfl) (by simp) ?_
          refine AllReadyZ.cons rfl (fun K hK => ?_) AllReadyZ.nil
          have y0 := blkCell hS9.1 0 _ rfl
          have y1 := blkFree hS9.1 0
          simp only [List.getElem_toArray, List.getElem_cons_zero] at y0
          clear hH hS5
          go_simp
          refine hK.out _ _ (Or.inl rfl) (fun _ => ?_)
          clear hK K
          try simp only [Act.put, List.setIfInBounds_toArray, List.set_cons_zero, List.set_cons_succ, List.getElem_toArray, List.getElem_cons_succ, List.getElem_cons_zero]
          refine wpAnyZ_done (by kernel_rfl) ?_ _
          clear y0 y1 hS9 HP5 HS17
          generalize w9.setCell ⟨P, 0, none⟩ (.slice qa (k + 1) qc) = wb at *
          go_wp2_with fail
          go_roundw
          case rel => exact ⟨k + 1, qa, qc, va, vc, by omega, by go_num, HN1.out, by rw [HSl.out, HRv.out, HLf.out, HTk.out]; exact HI9.out⟩
          case measure => simp [intOf]; omega
    · obtain rfl : k = ss.length := by omega
      have HC : Hid (mkC price stock ps cs ss = 0) := by show _ = _; rw [HCd3.out, HSt.out, HF.out]; rfl
      have z0 := blkCell HI.out.pn.box 0 _ rfl
      have z1 := blkCell HI.out.pn.box 1 _ rfl
      have z2 := blkCell HI.out.pn.box 2 _ rfl
      have z3 := blkCell HI.out.pn.box 3 _ rfl
      have y0 := blkCell HI.out.pn.res 0 _ rfl
      have y1 := blkCell HI.out.pn.res 1 _ rfl
      have y2 := blkCell HI.out.pn.res 2 _ rfl
      have y3 := blkCell HI.out.pn.res 3 _ rfl
      have f0 := blkFree HI.out.pn.res 0
      have f1 := blkFree HI.out.pn.res 1
      have f2 := blkFree HI.out.pn.res 2
      have f3 := blkFree HI.out.pn.res 3
      simp only [List.getElem_toArray, List.getElem_cons_zero, List.getElem_cons_succ] at z0 z1 z2 z3 y0 y1 y2 y3
      have hR := HI.out.pn.low.2.1
      have HO0 : Hid (Own2 w.heap.size ((((wr.setCell ⟨R, 0, none⟩ (.slice q0 ss.length c0)).setCell ⟨R, 1, none⟩ (.slice q1 ss.length c1)).setCell ⟨R, 2, none⟩ (.int .i64 (rvN (prL price ps) cs ss stock ss.length))).setCell ⟨R, 3, none⟩ (.int .i64 (lfN cs ss stock ss.length))) q0 ss) := by
        have := ((((HI.out.r0.set (.inr rfl) 0 (.slice q0 ss.length c0)).set (.inr rfl) 1 (.slice q1 ss.length c1)).set (.inr rfl) 2 (.int .i64 (rvN (prL price ps) cs ss stock ss.length))).set (.inr rfl) 3 (.int .i64 (lfN cs ss stock ss.length))).own2 (by rw [List.take_length])
        rwa [List.take_length] at this
      have HO1 : Hid (Own2 w.heap.size ((((wr.setCell ⟨R, 0, none⟩ (.slice q0 ss.length c0)).setCell ⟨R, 1, none⟩ (.slice q1 ss.length c1)).setCell ⟨R, 2, none⟩ (.int .i64 (rvN (prL price ps) cs ss stock ss.length))).setCell ⟨R, 3, none⟩ (.int .i64 (lfN cs ss stock ss.length))) q1 (slN cs ss stock ss.length)) :=
        ((((HI.out.r1.set (.inr rfl) 0 (.slice q0 ss.length c0)).set (.inr rfl) 1 (.slice q1 ss.length c1)).set (.inr rfl) 2 (.int .i64 (rvN (prL price ps) cs ss stock ss.length))).set (.inr rfl) 3 (.int .i64 (lfN cs ss stock ss.length))).own2 (slN_len _ _ _ _).symm
      clear HNo HCd3 HSt
      go_wp2_with fail
      refine bodyPost_ret (v := .tuple #[.agg #[.slice q0 ss.length c0, .slice q1 ss.length c1, .int .i64 (rvN (prL price ps) cs ss stock ss.length), .int .i64 (lfN cs ss stock ss.length)], .int .i64 0]) (by simp [results, Try.results14, go_sem, y0, y1, y2, y3]) rfl ?_
      refine HYe.out _ _ _ _ _ HC.out HO0.out.rowI HO1.out.rowI ?_
      repeat refine Below.setCell ?_ (by dsimp only; omega) _
      exact HI.out.pn.bel
end Go.Proofs.Ytlcnhkhkhlpghaa
