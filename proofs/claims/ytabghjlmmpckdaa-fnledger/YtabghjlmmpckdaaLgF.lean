/-
  The laws' own helpers on ledgers: eqLedger, markLedger, heldLedger.
-/
import Derived.Test.YtabghjlmmpckdaaLgD
import Derived.Test.YtabghjlmmpckdaaLgM
import Derived.Test.YtabghjlmmpckdaaCdF
import Derived.Test.YtabghjlmmpckdaaLists
namespace Go.Proofs.Ytabghjlmmpckdaa
open Go.ChangeShapes Go.WideShapes Go.ChangeAt Go.RowKit Go.Deep
set_option linter.unusedVariables false

def iLg (xs : List Nat) : List Int := xs.map fun (n : Nat) => (n : Int)
theorem iLg_len (xs : List Nat) : (iLg xs).length = xs.length := by simp [iLg]
theorem row_ints {W : World} {B : Nat} {a : Option Addr} {c : Nat} {xs : List Nat} (h : W.ownsRow B 3 1 (.slice a xs.length c) xs.length (xs.map nVl)) : Reads W.heap.size W a (iLg xs) := by
  rcases Nat.eq_zero_or_pos xs.length with h0 | h0
  · exact .inl (by rw [List.length_eq_zero_iff.1 h0]; rfl)
  · obtain ⟨g, cp, hq⟩ := row_some h h0
    simp only [Value.slice.injEq, true_and] at hq
    obtain ⟨rfl, rfl⟩ := hq
    refine .inr ⟨g, 0, rfl, (row_lt h g rfl).2, fun i hi => ?_⟩
    rw [iLg_len] at hi
    rw [Nat.zero_add, h.cellAt i (by omega)]
    simp [iLg, nVl, List.getD_eq_getElem?_getD, hi]
theorem eqIrow_any {W : World} {B B' : Nat} {a b : Option Addr} {ca cb : Nat} {xs : List Nat} (hx : xs.length ≤ 1000) (h : W.ownsRow B 3 1 (.slice a xs.length ca) xs.length (xs.map nVl)) (h' : W.ownsRow B' 3 1 (.slice b xs.length cb) xs.length (xs.map nVl)) :
    Calls Try.prog 38 #[.slice a xs.length ca, .slice b xs.length cb] W fun e w' => e = .returned (.bool true) ∧ Below W.heap.size W w' := by
  have := eqInts_any W.heap.size a b ca cb (iLg xs) (iLg xs) (by rw [iLg_len]; omega) (by rw [iLg_len]; omega) W (row_ints h) (row_ints h')
  rw [iLg_len, decide_eq_true rfl] at this
  exact this
/-- Three rows of a ledger, whatever they hold. -/
structure LgG (B nc nu nf : Nat) (cv uv fv : Value) (C U F : List Value) (W : World) : Prop where
  crow : W.ownsRow B 39 4 cv nc C
  urow : W.ownsRow B 9 1 uv nu U
  frow : W.ownsRow B 3 1 fv nf F
def LgBk (cv uv fv : Value) (q : Nat) : Prop := cv.ownBlock = some q ∨ uv.ownBlock = some q ∨ fv.ownBlock = some q
theorem LgG.lt {B nc nu nf : Nat} {cv uv fv : Value} {C U F : List Value} {W : World} (h : LgG B nc nu nf cv uv fv C U F W) : ∀ q, LgBk cv uv fv q → B ≤ q ∧ q < W.heap.size := by
  rintro q (hq | hq | hq)
  · exact row_lt h.crow q hq
  · exact row_lt h.urow q hq
  · exact row_lt h.frow q hq
theorem LgG.same {B nc nu nf : Nat} {cv uv fv : Value} {C U F : List Value} {W W' : World} (h : LgG B nc nu nf cv uv fv C U F W) (hk : ∀ q, LgBk cv uv fv q → W'.heap[q]? = W.heap[q]?) : LgG B nc nu nf cv uv fv C U F W' :=
  ⟨row_of h.crow (fun q hq => hk q (.inl hq)), row_of h.urow (fun q hq => hk q (.inr (.inl hq))), row_of h.frow (fun q hq => hk q (.inr (.inr hq)))⟩
theorem LgG.later {B nc nu nf : Nat} {cv uv fv : Value} {C U F : List Value} {W W' : World} (h : LgG B nc nu nf cv uv fv C U F W) (hb : Below W.heap.size W W') : LgG B nc nu nf cv uv fv C U F W' := h.same (fun q hq => hb.block q (h.lt q hq).2)
theorem LgG.withC {B nc nu nf : Nat} {cv uv fv : Value} {C U F C' : List Value} {W W' : World} (h : LgG B nc nu nf cv uv fv C U F W) (hf : Fr (fun q => cv.ownBlock = some q) W W') (hr : W'.ownsRow B 39 4 cv nc C') : LgG B nc nu nf cv uv fv C' U F W' :=
  ⟨hr, row_of h.urow (fun q hq => hf.block q (row_lt h.urow q hq).2 (row_far h.urow h.crow (by decide) hq)), row_of h.frow (fun q hq => hf.block q (row_lt h.frow q hq).2 (row_far h.frow h.crow (by decide) hq))⟩
theorem LgG.withU {B nc nu nf : Nat} {cv uv fv : Value} {C U F U' : List Value} {W W' : World} (h : LgG B nc nu nf cv uv fv C U F W) (hf : Fr (fun q => uv.ownBlock = some q) W W') (hr : W'.ownsRow B 9 1 uv nu U') : LgG B nc nu nf cv uv fv C U' F W' :=
  ⟨row_of h.crow (fun q hq => hf.block q (row_lt h.crow q hq).2 (row_far h.crow h.urow (by decide) hq)), hr, row_of h.frow (fun q hq => hf.block q (row_lt h.frow q hq).2 (row_far h.frow h.urow (by decide) hq))⟩
theorem LgG.withF {B nc nu nf : Nat} {cv uv fv : Value} {C U F F' : List Value} {W W' : World} (h : LgG B nc nu nf cv uv fv C U F W) (hf : Fr (fun q => fv.ownBlock = some q) W W') (hr : W'.ownsRow B 3 1 fv nf F') : LgG B nc nu nf cv uv fv C U F' W' :=
  ⟨row_of h.crow (fun q hq => hf.block q (row_lt h.crow q hq).2 (row_far h.crow h.frow (by decide) hq)), row_of h.urow (fun q hq => hf.block q (row_lt h.urow q hq).2 (row_far h.urow h.frow (by decide) hq)), hr⟩
set_option maxHeartbeats 4000000 in
theorem eqLg_any {cs : List RCd} {us : List ByteArray} {fs : List Nat} (hc : cs.length ≤ 1000) (hu : us.length ≤ 1000) (hf : fs.length ≤ 1000) {ca ca2 ua ua2 fa fa2 : Option Addr} {cc cc2 uc uc2 fc fc2 : Nat} {B B2 : Nat} (w : World)
    (h : LgG B cs.length us.length fs.length (.slice ca cs.length cc) (.slice ua us.length uc) (.slice fa fs.length fc) (cdCells cs) (us.map .string) (fs.map nVl) w) (h2 : LgG B2 cs.length us.length fs.length (.slice ca2 cs.length cc2) (.slice ua2 us.length uc2) (.slice fa2 fs.length fc2) (cdCells cs) (us.map .string) (fs.map nVl) w) :
    Calls Try.prog 17 #[.agg #[.slice ca cs.length cc, .slice ua us.length uc, .slice fa fs.length fc], .agg #[.slice ca2 cs.length cc2, .slice ua2 us.length uc2, .slice fa2 fs.length fc2]] w fun e w' => e = .returned (.bool true) ∧ Below w.heap.size w w' := by
  obtain ⟨w0, hw0⟩ : ∃ w0, w0 = (w.alloc (Obj.cells #[.slice ca cs.length cc, .slice ua us.length uc, .slice fa fs.length fc] 31)).alloc (Obj.cells #[.slice ca2 cs.length cc2, .slice ua2 us.length uc2, .slice fa2 fs.length fc2] 31) := ⟨_, rfl⟩
  have HW0 : Hid (w0 = (w.alloc (Obj.cells #[.slice ca cs.length cc, .slice ua us.length uc, .slice fa fs.length fc] 31)).alloc (Obj.cells #[.slice ca2 cs.length cc2, .slice ua2 us.length uc2, .slice fa2 fs.length fc2] 31)) := hw0
  have HB0 : Hid (Below w.heap.size w w0) := by rw [hw0]; exact chain (below_alloc _ _) (below_alloc _ _)
  have HY : Hid (∀ W, Below w0.heap.size w0 W → W.heap[w.heap.size]? = some (.cells #[.slice ca cs.length cc, .slice ua us.length uc, .slice fa fs.length fc] 31 (0, 0)) ∧ W.heap[w.heap.size + 1]? = some (.cells #[.slice ca2 cs.length cc2, .slice ua2 us.length uc2, .slice fa2 fs.length fc2] 31 (0, 0))) := fun W hW => by
    have k1 : w0.heap[w.heap.size]? = some (.cells #[.slice ca cs.length cc, .slice ua us.length uc, .slice fa fs.length fc] 31 (0, 0)) := by rw [hw0, (below_alloc _ _).block _ (by simp), heapNew]
    have k2 : w0.heap[w.heap.size + 1]? = some (.cells #[.slice ca2 cs.length cc2, .slice ua2 us.length uc2, .slice fa2 fs.length fc2] 31 (0, 0)) := by
      rw [hw0]
      have := heapNew (w.alloc (Obj.cells #[.slice ca cs.length cc, .slice ua us.length uc, .slice fa fs.length fc] 31)) (Obj.cells #[.slice ca2 cs.length cc2, .slice ua2 us.length uc2, .slice fa2 fs.length fc2] 31)
      simpa using this
    exact ⟨(hW.block _ (blkLt k1)).trans k1, (hW.block _ (blkLt k2)).trans k2⟩
  have HC : Hid (∀ W, Below w0.heap.size w0 W → Calls Try.prog 36 #[.slice ca cs.length cc, .slice ca2 cs.length cc2] W fun e w' => e = .returned (.bool true) ∧ Below W.heap.size W w') := fun W hW => eqCds_any _ _ _ _ cs (by omega) W (row_cds (h.later (chain HB0.out hW)).crow) (row_cds (h2.later (chain HB0.out hW)).crow)
  have HU : Hid (∀ W, Below w0.heap.size w0 W → Calls Try.prog 37 #[.slice ua us.length uc, .slice ua2 us.length uc2] W fun e w' => e = .returned (.bool true) ∧ Below W.heap.size W w') := fun W hW => eqStrs_any _ _ _ _ us (by omega) W (row_strs (h.later (chain HB0.out hW)).urow) (row_strs (h2.later (chain HB0.out hW)).urow)
  have HF : Hid (∀ W, Below w0.heap.size w0 W → Calls Try.prog 38 #[.slice fa fs.length fc, .slice fa2 fs.length fc2] W fun e w' => e = .returned (.bool true) ∧ Below W.heap.size W w') := fun W hW => eqIrow_any hf (h.later (chain HB0.out hW)).frow (h2.later (chain HB0.out hW)).frow
  clear hw0 h h2
  go_enter Try.func17, Try.ntmps17
  go_wp2_with fail
  (first | go_at_call 36 | skip)
  rw [← HW0.out]
  refine (HC.out _ (Below.refl _ _)).mono ?_
  rintro e w1 ⟨rfl, hb1⟩
  have H1 : Hid (Below w0.heap.size w0 w1) := hb1
  have y0 := blkCell (HY.out _ hb1).1 1 _ rfl
  have y1 := blkCell (HY.out _ hb1).2 1 _ rfl
  clear hb1 HC HW0
  go_wp2_with fail
  (first | go_at_call 37 | skip)
  refine (HU.out _ H1.out).mono ?_
  rintro e w2 ⟨rfl, hb2⟩
  have H2 : Hid (Below w0.heap.size w0 w2) := chain H1.out hb2
  clear y0 y1 hb2 HU H1
  have y0 := blkCell (HY.out _ H2.out).1 2 _ rfl
  have y1 := blkCell (HY.out _ H2.out).2 2 _ rfl
  go_wp2_with fail
  (first | go_at_call 38 | skip)
  refine (HF.out _ H2.out).mono ?_
  rintro e w3 ⟨rfl, hb3⟩
  have H3 : Hid (Below w.heap.size w w3) := chain HB0.out (chain H2.out hb3)
  clear y0 y1 hb3 HF H2
  go_wp2
  go_ret
  exact ⟨rfl, H3.out⟩
def LgK (B nc nu nf : Nat) (cv uv fv : Value) (k0 : Nat) (W : World) : Prop := LgG B nc nu nf cv uv fv (mkA (fCd k0) (nc * 4)) (mkA (fSx (k0 + nc * 4)) (nu * 1)) (mkA (fIx (k0 + nc * 4 + nu * 1)) (nf * 1)) W
set_option maxHeartbeats 4000000 in
theorem markLg_any {B nc nu nf : Nat} (hc : nc ≤ 1000) (hu : nu ≤ 1000) (hf : nf ≤ 1000) {ca ua fa : Option Addr} {cc uc fc : Nat} {C U F : List Value} (k0 : Nat) (hk : k0 ≤ 1000000) (hk1 : 1 ≤ k0) (w : World) (h : LgG B nc nu nf (.slice ca nc cc) (.slice ua nu uc) (.slice fa nf fc) C U F w) :
    Calls Try.prog 19 #[.agg #[.slice ca nc cc, .slice ua nu uc, .slice fa nf fc], .int .i64 (k0 : Int)] w fun e w' => e = .returned (.int .i64 ((k0 + nc * 4 + nu * 1 + nf * 1 : Nat) : Int)) ∧ Fr (LgBk (.slice ca nc cc) (.slice ua nu uc) (.slice fa nf fc)) w w' ∧ LgK B nc nu nf (.slice ca nc cc) (.slice ua nu uc) (.slice fa nf fc) k0 w' := by
  obtain ⟨w0, hw0⟩ : ∃ w0, w0 = w.alloc (Obj.cells #[.slice ca nc cc, .slice ua nu uc, .slice fa nf fc] 31) := ⟨_, rfl⟩
  have HW0 : Hid (w0 = w.alloc (Obj.cells #[.slice ca nc cc, .slice ua nu uc, .slice fa nf fc] 31)) := hw0
  have hb0 : Below w.heap.size w w0 := by rw [hw0]; exact below_alloc _ _
  have hn0 : w0.heap[w.heap.size]? = some (.cells #[.slice ca nc cc, .slice ua nu uc, .slice fa nf fc] 31 (0, 0)) := by rw [hw0]; exact heapNew _ _
  have HX : Hid (∀ q, LgBk (.slice ca nc cc) (.slice ua nu uc) (.slice fa nf fc) q → q ≠ w.heap.size) := fun q hq => by have := (h.lt q hq).2; omega
  have HB0 : Hid (Below w.heap.size w w0) := hb0
  have HY : Hid (∀ W, Fr (LgBk (.slice ca nc cc) (.slice ua nu uc) (.slice fa nf fc)) w0 W → W.heap[w.heap.size]? = some (.cells #[.slice ca nc cc, .slice ua nu uc, .slice fa nf fc] 31 (0, 0))) := fun W hW => (hW.block _ (blkLt hn0) (fun e => HX.out _ e rfl)).trans hn0
  have HG0 : Hid (LgG B nc nu nf (.slice ca nc cc) (.slice ua nu uc) (.slice fa nf fc) C U F w0) := h.later hb0
  have H1 := markCd_row B (.slice ca nc cc) nc (by omega) k0 (by omega) hk1 _ w0 HG0.out.crow
  clear hw0 hb0 hn0 h
  have HK1 : Hid (1 ≤ k0 + nc * 4 ∧ k0 + nc * 4 ≤ 10000000) := by show _ ∧ _; omega
  generalize hK1 : k0 + nc * 4 = K1 at *
  go_enter Try.func19, Try.ntmps19
  go_wp2_with fail
  (first | go_at_call 40 | skip)
  rw [← HW0.out]
  refine H1.mono ?_
  rintro e w1 ⟨rfl, hf1, hg1⟩
  have HF1 : Hid (Fr (LgBk (.slice ca nc cc) (.slice ua nu uc) (.slice fa nf fc)) w0 w1) := hf1.mono (fun q hq => .inl hq)
  have HG1 : Hid (LgG B nc nu nf (.slice ca nc cc) (.slice ua nu uc) (.slice fa nf fc) (mkA (fCd k0) (nc * 4)) U F w1) := HG0.out.withC hf1 hg1
  have y1 : w1.cell? ⟨w.heap.size, 1, none⟩ = some (.slice ua nu uc) := blkCell (HY.out w1 HF1.out) 1 _ rfl
  have H2 := markSx_row B (.slice ua nu uc) nu (by omega) K1 (by have := HK1.out; omega) HK1.out.1 _ w1 HG1.out.urow
  clear hf1 hg1 H1 HW0 HG0
  generalize hK2 : K1 + nu * 1 = K2 at *
  go_wp2_with fail
  (first | go_at_call 41 | skip)
  refine H2.mono ?_
  rintro e w2 ⟨rfl, hf2, hr2⟩
  have HF2 : Hid (Fr (LgBk (.slice ca nc cc) (.slice ua nu uc) (.slice fa nf fc)) w0 w2) := HF1.out.trans (hf2.mono (fun q hq => .inr (.inl hq)))
  have HG2 : Hid (LgG B nc nu nf (.slice ca nc cc) (.slice ua nu uc) (.slice fa nf fc) (mkA (fCd k0) (nc * 4)) (mkA (fSx K1) (nu * 1)) F w2) := HG1.out.withU hf2 hr2
  have y2 : w2.cell? ⟨w.heap.size, 2, none⟩ = some (.slice fa nf fc) := blkCell (HY.out w2 HF2.out) 2 _ rfl
  have H3 := markIx_row B (.slice fa nf fc) nf (by omega) K2 (by have := HK1.out; omega) (by have := HK1.out; omega) _ w2 HG2.out.frow
  clear hf2 hr2 HG1 HF1 H2 y1
  have HK2 : Hid (K1 + nu * 1 = K2) := hK2
  have HK0 : Hid (k0 + nc * 4 = K1) := hK1
  clear hK1 hK2
  generalize hK3 : K2 + nf * 1 = K3 at *
  have HK3 : Hid (K2 + nf * 1 = K3) := hK3
  clear hK3
  go_wp2_with fail
  (first | go_at_call 42 | skip)
  refine H3.mono ?_
  rintro e w3 ⟨rfl, hf3, hr3⟩
  have HE : Hid (Fr (LgBk (.slice ca nc cc) (.slice ua nu uc) (.slice fa nf fc)) w w3 ∧ LgK B nc nu nf (.slice ca nc cc) (.slice ua nu uc) (.slice fa nf fc) k0 w3) := by
    refine ⟨(Fr.of HB0.out).trans (HF2.out.trans (hf3.mono (fun q hq => .inr (.inr hq)))), ?_⟩
    unfold LgK
    rw [HK0.out, HK2.out]
    exact HG2.out.withF hf3 hr3
  clear hf3 hr3 H3 HG2 HF2 y2
  go_wp2
  go_ret
  exact ⟨ret_int (by rw [← HK3.out, ← HK2.out]), HE.out.1, HE.out.2⟩
set_option maxHeartbeats 4000000 in
theorem heldLg_any {B nc nu nf : Nat} (hc : nc ≤ 1000) (hu : nu ≤ 1000) (hf : nf ≤ 1000) {ca ua fa : Option Addr} {cc uc fc : Nat} (k0 : Nat) (hk : k0 ≤ 1000000) (hk1 : 1 ≤ k0) (w : World) (h : LgK B nc nu nf (.slice ca nc cc) (.slice ua nu uc) (.slice fa nf fc) k0 w) :
    Calls Try.prog 20 #[.agg #[.slice ca nc cc, .slice ua nu uc, .slice fa nf fc], .int .i64 (k0 : Int)] w fun e w' => e = .returned (.int .i64 ((k0 + nc * 4 + nu * 1 + nf * 1 : Nat) : Int)) ∧ Below w.heap.size w w' := by
  unfold LgK at h
  obtain ⟨w0, hw0⟩ : ∃ w0, w0 = w.alloc (Obj.cells #[.slice ca nc cc, .slice ua nu uc, .slice fa nf fc] 31) := ⟨_, rfl⟩
  have HW0 : Hid (w0 = w.alloc (Obj.cells #[.slice ca nc cc, .slice ua nu uc, .slice fa nf fc] 31)) := hw0
  have hb0 : Below w.heap.size w w0 := by rw [hw0]; exact below_alloc _ _
  have hn0 : w0.heap[w.heap.size]? = some (.cells #[.slice ca nc cc, .slice ua nu uc, .slice fa nf fc] 31 (0, 0)) := by rw [hw0]; exact heapNew _ _
  have HB0 : Hid (Below w.heap.size w w0) := hb0
  have HY : Hid (∀ W, Below w0.heap.size w0 W → W.heap[w.heap.size]? = some (.cells #[.slice ca nc cc, .slice ua nu uc, .slice fa nf fc] 31 (0, 0))) := fun W hW => (hW.block _ (blkLt hn0)).trans hn0
  have hK : k0 + nc * 4 ≤ 10000000 := by omega
  have H1 := heldCd_row B (.slice ca nc cc) nc (by omega) k0 (by omega) hk1 w0 (h.later hb0).crow
  have H2 : Hid (∀ W, Below w0.heap.size w0 W → Calls Try.prog 44 #[.slice ua nu uc, .int .i64 ((k0 + nc * 4 : Nat) : Int)] W fun e w' => e = .returned (.int .i64 ((k0 + nc * 4 + nu * 1 : Nat) : Int)) ∧ Below W.heap.size W w') := fun W hW => heldSx_row B (.slice ua nu uc) nu (by omega) (k0 + nc * 4) (by omega) (by omega) W (h.later (chain hb0 hW)).urow
  have H3 : Hid (∀ W, Below w0.heap.size w0 W → Calls Try.prog 45 #[.slice fa nf fc, .int .i64 ((k0 + nc * 4 + nu * 1 : Nat) : Int)] W fun e w' => e = .returned (.int .i64 ((k0 + nc * 4 + nu * 1 + nf * 1 : Nat) : Int)) ∧ Below W.heap.size W w') := fun W hW => heldIx_row B (.slice fa nf fc) nf (by omega) (k0 + nc * 4 + nu * 1) (by omega) (by omega) W (h.later (chain hb0 hW)).frow
  clear hw0 hb0 hn0 h hK
  generalize k0 + nc * 4 = K1 at *
  generalize K1 + nu * 1 = K2 at *
  generalize K2 + nf * 1 = K3 at *
  have k1 : ¬ ((K1 : Int) < 0) := by omega
  have k2 : ¬ ((K2 : Int) < 0) := by omega
  have k3 : ¬ ((K3 : Int) < 0) := by omega
  go_enter Try.func20, Try.ntmps20
  go_wp2_with fail
  (first | go_at_call 43 | skip)
  rw [← HW0.out]
  refine H1.mono ?_
  rintro e w1 ⟨rfl, hb1⟩
  have HB1 : Hid (Below w0.heap.size w0 w1) := hb1
  have y1 : w1.cell? ⟨w.heap.size, 1, none⟩ = some (.slice ua nu uc) := blkCell (HY.out w1 hb1) 1 _ rfl
  clear hb1 H1 HW0
  go_wp2_with fail
  (first | go_at_call 44 | skip)
  refine (H2.out w1 HB1.out).mono ?_
  rintro e w2 ⟨rfl, hb2⟩
  have HB2 : Hid (Below w0.heap.size w0 w2) := chain HB1.out hb2
  have y2 : w2.cell? ⟨w.heap.size, 2, none⟩ = some (.slice fa nf fc) := blkCell (HY.out w2 HB2.out) 2 _ rfl
  clear hb2 H2 HB1 y1
  go_wp2_with fail
  (first | go_at_call 45 | skip)
  refine (H3.out w2 HB2.out).mono ?_
  rintro e w3 ⟨rfl, hb3⟩
  have HB3 : Hid (Below w.heap.size w w3) := chain HB0.out (chain HB2.out hb3)
  clear hb3 H3 HB2 y2
  go_wp2
  go_ret
  exact ⟨rfl, HB3.out⟩
end Go.Proofs.Ytabghjlmmpckdaa
