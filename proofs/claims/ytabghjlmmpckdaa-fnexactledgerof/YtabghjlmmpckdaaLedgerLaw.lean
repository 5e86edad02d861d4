/-
  For every list of events the law FnExactLedgerOf answers true: the program's LedgerOf answers as the specification's, field by field, writes into no argument, and its answer owns its memory; with no condition.
-/
import Derived.Test.YtabghjlmmpckdaaLgE
import Derived.Test.YtabghjlmmpckdaaLgF
import Derived.Test.YtabghjlmmpckdaaEvM
import Derived.Test.YtabghjlmmpckdaaEvF
namespace Go.Proofs.Ytabghjlmmpckdaa
open Go.ChangeShapes Go.WideShapes Go.ChangeAt Go.RowKit Go.Joins Go.Deep
set_option linter.unusedVariables false

theorem lg_sizes (rs : List REv) : (lgR rs).cs.length ≤ 120 ∧ (lgR rs).us.length ≤ 120 ∧ (lgR rs).fs.length ≤ 120 := by
  unfold lgR
  split
  · rename_i h
    unfold lgC at h
    by_cases h1 : 4096 < rs.length
    · rw [if_pos h1] at h; simp at h
    · rw [if_neg h1] at h
      by_cases h2 : evAll rs = true
      · unfold evAll at h2
        rw [Bool.and_eq_true] at h2
        have h3 := lgAt_ok rs.length h2.2
        have h4 := of_decide_eq_true h2.1
        have := h3.cl
        have := h3.ul
        have := h3.fl
        omega
      · rw [if_neg h2] at h; simp at h
  · exact ⟨Nat.zero_le _, Nat.zero_le _, Nat.zero_le _⟩
def LgQ (w : World) (t : Lg) (c : Int) (e : Ending) (w' : World) : Prop := ∃ (ca ua fa : Option Addr) (cc uc fc : Nat), e = .returned (.tuple #[.agg #[.slice ca t.cs.length cc, .slice ua t.us.length uc, .slice fa t.fs.length fc], .int .i64 c]) ∧ LgG w.heap.size t.cs.length t.us.length t.fs.length (.slice ca t.cs.length cc) (.slice ua t.us.length uc) (.slice fa t.fs.length fc) (cdCells t.cs) (t.us.map .string) (t.fs.map nVl) w' ∧ Below w.heap.size w w'
theorem lgQ_of {w : World} {t : Lg} {c : Int} {e : Ending} {w' : World} (h : LgP w t c e w') : LgQ w t c e w' := by
  obtain ⟨ca, ua, fa, cc, uc, fc, he, h1, h2, h3, hb⟩ := h
  exact ⟨ca, ua, fa, cc, uc, fc, he, ⟨h1, h2, h3⟩, hb⟩
namespace LedgerLaw
theorem own_same {B nc nu nf : Nat} {cv uv fv : Value} {C U F : List Value} {W W' : World} (h : LgG B nc nu nf cv uv fv C U F W) (hs : ∀ q, B ≤ q → q < W.heap.size → W'.heap[q]? = W.heap[q]?) : LgG B nc nu nf cv uv fv C U F W' := h.same (fun q hq => hs q (h.lt q hq).1 (h.lt q hq).2)
theorem own_later {B nc nu nf : Nat} {cv uv fv : Value} {C U F : List Value} {W W' : World} (h : LgG B nc nu nf cv uv fv C U F W) (hb : Below W.heap.size W W') : LgG B nc nu nf cv uv fv C U F W' := h.later hb
theorem eq_both {cs : List RCd} {us : List ByteArray} {fs : List Nat} (hcl : cs.length ≤ 120) (hul : us.length ≤ 120) (hfl : fs.length ≤ 120) {pa1 xa1 ya1 pa2 xa2 ya2 : Option Addr} {pc1 xc1 yc1 pc2 xc2 yc2 B1 B2 : Nat} (W : World)
    (h1 : LgG B1 cs.length us.length fs.length (.slice pa1 cs.length pc1) (.slice xa1 us.length xc1) (.slice ya1 fs.length yc1) (cdCells cs) (us.map .string) (fs.map nVl) W) (h2 : LgG B2 cs.length us.length fs.length (.slice pa2 cs.length pc2) (.slice xa2 us.length xc2) (.slice ya2 fs.length yc2) (cdCells cs) (us.map .string) (fs.map nVl) W) :
    ∀ W', Below W.heap.size W W' → Calls Try.prog 17 #[.agg #[.slice pa1 cs.length pc1, .slice xa1 us.length xc1, .slice ya1 fs.length yc1], .agg #[.slice pa2 cs.length pc2, .slice xa2 us.length xc2, .slice ya2 fs.length yc2]] W' fun e w' => e = .returned (.bool true) ∧ Below W'.heap.size W' w' := fun W' hW =>
  eqLg_any (by omega) (by omega) (by omega) W' (h1.later hW) (h2.later hW)
theorem marks_of {cs : List RCd} {us : List ByteArray} {fs : List Nat} (hcl : cs.length ≤ 120) (hul : us.length ≤ 120) (hfl : fs.length ≤ 120) {pa xa ya : Option Addr} {pc xc yc B : Nat} {W0 : World} (h : LgG B cs.length us.length fs.length (.slice pa cs.length pc) (.slice xa us.length xc) (.slice ya fs.length yc) (cdCells cs) (us.map .string) (fs.map nVl) W0) :
    ∃ (K1 : Nat) (P1 : World → Prop),
      (∀ W, (∀ q, B ≤ q → q < W0.heap.size → W.heap[q]? = W0.heap[q]?) → W0.heap.size ≤ W.heap.size → Calls Try.prog 19 #[.agg #[.slice pa cs.length pc, .slice xa us.length xc, .slice ya fs.length yc], .int .i64 1] W fun e w' => e = .returned (.int .i64 (K1 : Int)) ∧ Fr (fun q => B ≤ q ∧ q < W0.heap.size) W w' ∧ P1 w') ∧
      (∀ W, P1 W → Calls Try.prog 20 #[.agg #[.slice pa cs.length pc, .slice xa us.length xc, .slice ya fs.length yc], .int .i64 1] W fun e w' => e = .returned (.int .i64 (K1 : Int)) ∧ Below W.heap.size W w') ∧
      (∀ W W', P1 W → Below W.heap.size W W' → P1 W') := by
  refine ⟨1 + cs.length * 4 + us.length * 1 + fs.length * 1, fun W => LgK B cs.length us.length fs.length (.slice pa cs.length pc) (.slice xa us.length xc) (.slice ya fs.length yc) 1 W, fun W hW hz => ?_, fun W hW => ?_, fun W W' hW hb => LgG.later hW hb⟩
  · refine (markLg_any (by omega) (by omega) (by omega) 1 (by omega) (by omega) W (own_same h hW)).mono ?_
    rintro e w' ⟨he, hf, hk⟩
    exact ⟨he, hf.mono (fun q hq => h.lt q hq), hk⟩
  · exact heldLg_any (by omega) (by omega) (by omega) 1 (by omega) (by omega) W hW
set_option maxHeartbeats 16000000 in
set_option maxRecDepth 8000 in
theorem walk' (rsa : Option Addr) (rsc : Nat) (rs : List REv) (hl_rs : rs.length ≤ maxLen) (hp_rs : ∀ r ∈ rs, EvWide r) (w : World) (hr_rs : ReadsEv w.heap.size w rsa rs) :
    Calls Try.prog 5 #[.slice rsa rs.length rsc] w fun e w' => e = .returned (.bool true) ∧ Below w.heap.size w w' := by
  have HR_rs : Hid (ReadsEv w.heap.size w rsa rs) := hr_rs
  have HZ_rs : Hid (∀ W x, 0 ≤ x → x ≤ 1048576 → ReadsEv W.heap.size W rsa rs → Calls Try.prog 11 #[.slice rsa rs.length rsc, .int .i64 x] W fun e w' => ∃ y : Int, e = .returned (.int .i64 y) ∧ (y < 0 ∨ (0 ≤ y ∧ y ≤ 1048576 ∧ rs.length ≤ 1048576 ∧ ∀ r ∈ rs, EvOK r)) ∧ Below W.heap.size W w') := fun W x h0 h1 h => (szEvs_any rsa rsc rs hl_rs hp_rs x h0 h1 W h).mono (by rintro e w' h; exact h)
  clear hr_rs hp_rs
  go_enter Try.func5, Try.ntmps5
  have B0 : Hid (Below w.heap.size w w) := Below.refl _ _
  go_wp2_with fail
  (first | go_at_call 11 | skip)
  refine (HZ_rs.out w 1048576 (by omega) (by omega) ((HR_rs.out.below B0.out).mono B0.out.size)).mono ?_
  rintro e w1 ⟨x0, rfl, hy, hb⟩
  have KX0 : Hid (x0 < 0 ∨ (0 ≤ x0 ∧ x0 ≤ 1048576 ∧ rs.length ≤ 1048576 ∧ ∀ r ∈ rs, EvOK r)) := hy
  have BZ0 : Hid (Below w.heap.size w w1) := chain B0.out hb
  clear hy hb
  by_cases hneg0 : x0 < 0
  · go_wp2
    go_ret
    exact ⟨rfl, BZ0.out⟩
  obtain ⟨hx0, hlen_rs, hok_rs⟩ : (0 ≤ x0 ∧ x0 ≤ 1048576) ∧ rs.length ≤ 1048576 ∧ ∀ r ∈ rs, EvOK r := by
    rcases KX0.out with h | ⟨h0, h1, h2, h3⟩
    · omega
    · exact ⟨⟨h0, h1⟩, h2, h3⟩
  have HOK_rs : Hid (∀ r ∈ rs, EvOK r) := hok_rs
  clear hok_rs KX0 HZ_rs
  have hT_rs : Hid (∀ W, Below w.heap.size w W → Calls Try.prog 13 #[.slice rsa rs.length rsc] W fun e w' => e = .returned (.slice (some ⟨W.heap.size, 0, none⟩) rs.length rs.length) ∧ Below W.heap.size W w' ∧ W.heap.size < w'.heap.size ∧ EvsAt w' W.heap.size 0 rs ∧ FreeEv w' W.heap.size rs.length) := fun W hW => toEvs_any rsa rsc rs hlen_rs W ((HR_rs.out.below hW).mono hW.size)
  have hS : Hid (∀ rsx W, ReadsEv W.heap.size W rsx rs → Calls Try.prog 16 #[.slice rsx rs.length rs.length] W (LgQ W (lgR rs) (lgC rs))) := fun ia W h1 => (specLedger_any ia rs.length rs (by omega) HOK_rs.out W h1).mono (fun e w' h => lgQ_of h)
  have hI : Hid (∀ rsx W, ReadsEv W.heap.size W rsx rs → Calls Try.prog 8 #[.slice rsx rs.length rs.length] W (LgQ W (lgR rs) (lgC rs))) := fun ia W h1 => (implLedger_any ia rs.length rs (by omega) HOK_rs.out W h1).mono (fun e w' h => lgQ_of h)
  obtain ⟨hcl, hul, hfl⟩ := lg_sizes rs
  unfold LgQ at hS hI
  generalize lgC rs = c at *
  generalize lgR rs = t at *
  obtain ⟨cs, us, fs⟩ := t
  dsimp only at hS hI hcl hul hfl
  clear HOK_rs
  clear HR_rs
  have hcc : ∀ x : Int, (x != x) = false := fun x => by simp
  have hcc_c := hcc (c)
  clear hcc
  -- the specification's answer
  go_wp2_with fail
  (first | go_at_call 13 | skip)
  refine (hT_rs.out w1 BZ0.out).mono ?_
  rintro e w2 ⟨rfl, hb, hz, hi, hf⟩
  have B_w2 : Hid (Below w.heap.size w w2) := chain BZ0.out hb
  have Xs_rs : Hid (w1.heap.size < w2.heap.size ∧ EvsAt w2 w1.heap.size 0 rs ∧ FreeEv w2 w1.heap.size rs.length) := ⟨hz, hi, hf⟩
  clear hb hz hi hf
  go_wp2_with fail
  (first | go_at_call 16 | skip)
  refine (hS.out _ w2 (.inr ⟨_, _, rfl, Xs_rs.out.1, Xs_rs.out.2.1⟩)).mono ?_
  rintro e w3 ⟨paW, xaW, yaW, pcW, xcW, ycW, rfl, hAW, hb⟩
  have AW5 : Hid (LgG w2.heap.size cs.length us.length fs.length (.slice paW cs.length pcW) (.slice xaW us.length xcW) (.slice yaW fs.length ycW) (cdCells cs) (us.map .string) (fs.map nVl) w3) := hAW
  have B5 : Hid (Below w.heap.size w w3) := chain B_w2.out hb
  clear hb hAW hS Xs_rs
  have AW6 : Hid (∀ W, Below (w3.alloc (Obj.cells #[.slice paW cs.length pcW, .slice xaW us.length xcW, .slice yaW fs.length ycW] 31)).heap.size (w3.alloc (Obj.cells #[.slice paW cs.length pcW, .slice xaW us.length xcW, .slice yaW fs.length ycW] 31)) W → (LgG w2.heap.size cs.length us.length fs.length (.slice paW cs.length pcW) (.slice xaW us.length xcW) (.slice yaW fs.length ycW) (cdCells cs) (us.map .string) (fs.map nVl) W) ∧ W.heap[w3.heap.size]? = some (.cells #[.slice paW cs.length pcW, .slice xaW us.length xcW, .slice yaW fs.length ycW] 31 (0, 0))) := fun W hW => ⟨own_later AW5.out (chain (below_alloc _ _) hW), (hW.block _ (by simp)).trans (heapNew _ _)⟩
  have B6 : Hid (Below w.heap.size w (w3.alloc (Obj.cells #[.slice paW cs.length pcW, .slice xaW us.length xcW, .slice yaW fs.length ycW] 31))) := chain B5.out (below_alloc _ _)
  go_wp2_with fail
  generalize (w3.alloc (Obj.cells #[.slice paW cs.length pcW, .slice xaW us.length xcW, .slice yaW fs.length ycW] 31)) = W6 at *
  generalize w3.heap.size = bw at *
  clear AW5 B5
  -- the copies, and the program's answer
  go_wp2_with fail
  (first | go_at_call 13 | skip)
  refine (hT_rs.out W6 B6.out).mono ?_
  rintro e w4 ⟨rfl, hb, hz, hi, hf⟩
  have B_w4 : Hid (Below w.heap.size w w4) := chain B6.out hb
  have D_w4 : Hid (Below W6.heap.size W6 w4) := hb
  have Xx_rs : Hid (W6.heap.size < w4.heap.size ∧ EvsAt w4 W6.heap.size 0 rs ∧ FreeEv w4 W6.heap.size rs.length) := ⟨hz, hi, hf⟩
  clear hb hz hi hf
  go_wp2_with fail
  (first | go_at_call 8 | skip)
  refine (hI.out _ w4 (.inr ⟨_, _, rfl, Xx_rs.out.1, Xx_rs.out.2.1⟩)).mono ?_
  rintro e w5 ⟨paG, xaG, yaG, pcG, xcG, ycG, rfl, hAG, hb9⟩
  have AG9 : Hid (LgG w4.heap.size cs.length us.length fs.length (.slice paG cs.length pcG) (.slice xaG us.length xcG) (.slice yaG fs.length ycG) (cdCells cs) (us.map .string) (fs.map nVl) w5) := hAG
  have HMk := marks_of hcl hul hfl AG9.out
  obtain ⟨K1, P1, hm1, hh1, hPl⟩ := HMk
  have HM1 : Hid (∀ W, (∀ q, w4.heap.size ≤ q → q < w5.heap.size → W.heap[q]? = w5.heap[q]?) → w5.heap.size ≤ W.heap.size → Calls Try.prog 19 #[.agg #[.slice paG cs.length pcG, .slice xaG us.length xcG, .slice yaG fs.length ycG], .int .i64 1] W fun e w' => e = .returned (.int .i64 (K1 : Int)) ∧ Fr (fun q => w4.heap.size ≤ q ∧ q < w5.heap.size) W w' ∧ P1 w') := hm1
  have HH1 : Hid (∀ W, P1 W → Calls Try.prog 20 #[.agg #[.slice paG cs.length pcG, .slice xaG us.length xcG, .slice yaG fs.length ycG], .int .i64 1] W fun e w' => e = .returned (.int .i64 (K1 : Int)) ∧ Below W.heap.size W w') := hh1
  have HPl : Hid (∀ W W', P1 W → Below W.heap.size W W' → P1 W') := hPl
  have hKK : ((K1 : Int) != (K1 : Int)) = false := by simp
  have hKn1 : ¬ (K1 : Int) < 0 := by omega
  have B10 : Hid (Below w4.heap.size w4 (w5.alloc (Obj.cells #[.slice paG cs.length pcG, .slice xaG us.length xcG, .slice yaG fs.length ycG] 31))) := chain hb9 (below_alloc _ _)
  have AG10 : Hid (∀ W, (∀ q, w4.heap.size ≤ q → q ≤ w5.heap.size → W.heap[q]? = (w5.alloc (Obj.cells #[.slice paG cs.length pcG, .slice xaG us.length xcG, .slice yaG fs.length ycG] 31)).heap[q]?) → (LgG w4.heap.size cs.length us.length fs.length (.slice paG cs.length pcG) (.slice xaG us.length xcG) (.slice yaG fs.length ycG) (cdCells cs) (us.map .string) (fs.map nVl) W) ∧ W.heap[w5.heap.size]? = some (.cells #[.slice paG cs.length pcG, .slice xaG us.length xcG, .slice yaG fs.length ycG] 31 (0, 0)) ∧ (∀ q, w4.heap.size ≤ q → q < w5.heap.size → W.heap[q]? = w5.heap[q]?)) := fun W hW => by
    have h1 : ∀ q, w4.heap.size ≤ q → q < w5.heap.size → W.heap[q]? = w5.heap[q]? := fun q h1 h2 => (hW q h1 (by omega)).trans (Below.heap_alloc _ _ _ h2)
    exact ⟨own_same AG9.out h1, (hW _ hb9.size (Nat.le_refl _)).trans (heapNew _ _), h1⟩
  have Z10 : Hid (w5.heap.size < (w5.alloc (Obj.cells #[.slice paG cs.length pcG, .slice xaG us.length xcG, .slice yaG fs.length ycG] 31)).heap.size ∧ w4.heap.size ≤ w5.heap.size) := ⟨by simp, hb9.size⟩
  have hbxZ := (AW6.out (w5.alloc (Obj.cells #[.slice paG cs.length pcG, .slice xaG us.length xcG, .slice yaG fs.length ycG] 31)) (chain D_w4.out B10.out)).2
  have zz0 := blkCell hbxZ 0 _ rfl
  have zz1 := blkCell hbxZ 1 _ rfl
  have zz2 := blkCell hbxZ 2 _ rfl
  clear hbxZ
  clear hb9 hAG hPl AG9 hm1 hh1
  go_wp2_with fail
  generalize hW10 : (w5.alloc (Obj.cells #[.slice paG cs.length pcG, .slice xaG us.length xcG, .slice yaG fs.length ycG] 31)) = W10 at *
  generalize hgb : w5.heap.size = gb at *
  clear zz0 zz1 zz2
  clear hW10
  clear hgb
  have Q10 : Hid (∀ W, Below W10.heap.size W10 W → (∀ q, w4.heap.size ≤ q → q ≤ gb → W.heap[q]? = W10.heap[q]?)) := fun W hW q _ h2 => hW.block q (by have := Z10.out.1; omega)
  have E10 : Hid (∀ W, Below W10.heap.size W10 W → Below W6.heap.size W6 W ∧ Below w4.heap.size w4 W) := fun W hW => by
    have h1 := chain B10.out hW
    exact ⟨chain D_w4.out h1, h1⟩
  have EQ := eq_both hcl hul hfl W10 (AG10.out _ (fun _ _ _ => rfl)).1 (AW6.out _ (E10.out _ (Below.refl _ _)).1).1
  have EQ0 : Hid (∀ W', Below W10.heap.size W10 W' → Calls Try.prog 17 #[.agg #[.slice paG cs.length pcG, .slice xaG us.length xcG, .slice yaG fs.length ycG], .agg #[.slice paW cs.length pcW, .slice xaW us.length xcW, .slice yaW fs.length ycW]] W' fun e w' => e = .returned (.bool true) ∧ Below W'.heap.size W' w') := EQ
  clear EQ
  have p_W10 : Hid (Below W10.heap.size W10 W10) := Below.refl _ _
  have hbxA := (AG10.out W10 (Q10.out W10 p_W10.out)).2.1
  have hbxW := (AW6.out W10 (E10.out W10 p_W10.out).1).2
  have y0 := blkCell hbxA 0 _ rfl
  have z0 := blkCell hbxW 0 _ rfl
  have y1 := blkCell hbxA 1 _ rfl
  have z1 := blkCell hbxW 1 _ rfl
  have y2 := blkCell hbxA 2 _ rfl
  have z2 := blkCell hbxW 2 _ rfl
  clear hbxA hbxW
  go_wp2_with fail
  (first | go_at_call 17 | skip)
  refine (EQ0.out _ p_W10.out).mono ?_
  rintro e w6 ⟨rfl, hb⟩
  have p_w6 : Hid (Below W10.heap.size W10 w6) := chain p_W10.out hb
  clear hb EQ0 p_W10 y0 z0 y1 z1 y2 z2
  -- the copies are as they were
  go_wp2_with fail
  (first | go_at_call 13 | skip)
  refine (hT_rs.out w6 (chain B_w4.out (E10.out _ p_w6.out).2)).mono ?_
  rintro e w7 ⟨rfl, hb, hz, hi, _⟩
  have p_w7 : Hid (Below W10.heap.size W10 w7) := chain p_w6.out hb
  have V1 : Hid (ReadsEv w7.heap.size w7 (some ⟨w6.heap.size, 0, none⟩) rs) := .inr ⟨_, _, rfl, hz, hi⟩
  have V2 : Hid (ReadsEv w7.heap.size w7 (some ⟨W6.heap.size, 0, none⟩) rs) := .inr ⟨_, _, rfl, Nat.lt_of_lt_of_le Xx_rs.out.1 (E10.out _ p_w7.out).2.size, Xx_rs.out.2.1.below (E10.out _ p_w7.out).2 Xx_rs.out.1⟩
  clear hb hz hi p_w6
  go_wp2_with fail
  (first | go_at_call 15 | skip)
  refine (eqEvs_any _ _ _ _ rs hlen_rs w7 V2.out V1.out).mono ?_
  rintro e w8 ⟨rfl, hb⟩
  have p_w8 : Hid (Below W10.heap.size W10 w8) := chain p_w7.out hb
  clear hb V1 V2 p_w7
  -- the copies are marked
  have M_rs : Hid (EvsAt w8 W6.heap.size 0 rs ∧ FreeEv w8 W6.heap.size rs.length ∧ W6.heap.size < w8.heap.size) := by
    have hd := (E10.out _ p_w8.out).2
    exact ⟨Xx_rs.out.2.1.below hd Xx_rs.out.1, Xx_rs.out.2.2.below hd Xx_rs.out.1, Nat.lt_of_lt_of_le Xx_rs.out.1 hd.size⟩
  have SS : Hid (Below W6.heap.size W6 w8 ∧ Below w.heap.size w w8 ∧ W10.heap.size ≤ w8.heap.size ∧ (∀ q, w4.heap.size ≤ q → q ≤ gb → w8.heap[q]? = W10.heap[q]?)) := ⟨(E10.out _ p_w8.out).1, chain B_w4.out (E10.out _ p_w8.out).2, p_w8.out.size, Q10.out _ p_w8.out⟩
  clear p_w8
  have ZZ : Hid (W6.heap.size ≤ w4.heap.size ∧ w.heap.size ≤ W6.heap.size) := ⟨D_w4.out.size, B6.out.size⟩
  have ZB0 : Hid (W6.heap.size ≤ W6.heap.size ∧ W6.heap.size < w4.heap.size) := ⟨Nat.le_refl _, Xx_rs.out.1⟩
  obtain ⟨KA0, hKA0⟩ : ∃ K : Nat, K = 1 + rs.length * 6 := ⟨_, rfl⟩
  have MM0 : Hid (Mk W6.heap.size (rs.length * 6) w8 w8) := Mk.start M_rs.out.2.2 (evs_some M_rs.out.1) M_rs.out.2.1
  have HMA0 : Hid (Calls Try.prog 18 #[.slice (some ⟨W6.heap.size, 0, none⟩) rs.length rs.length, .int .i64 1] w8 fun e w' => e = .returned (.int .i64 (KA0 : Int)) ∧ Mk W6.heap.size (rs.length * 6) w8 w') := by
    have h := markEvs_any W6.heap.size rs.length rs.length hlen_rs 1 (by omega) (by omega) w8 MM0.out
    rw [show ((1 : Nat) : Int) + (rs.length : Int) * 6 = (KA0 : Int) by omega] at h
    exact h
  clear MM0
  have hKB0 : 1 ≤ KA0 ∧ KA0 ≤ 20000000 := by omega
  clear hKA0
  go_wp2_with fail
  (first | go_at_call 18 | skip)
  refine HMA0.out.mono ?_
  rintro e w9 ⟨rfl, hm⟩
  have SN : Hid (Below W6.heap.size W6 w9 ∧ Below w.heap.size w w9 ∧ W10.heap.size ≤ w9.heap.size ∧ (∀ q, w4.heap.size ≤ q → q ≤ gb → w9.heap[q]? = W10.heap[q]?)) := by
    have h1 := hm.1.1
    have h2 := hm.1.2
    obtain ⟨s1, s2, s3, s4⟩ := SS.out
    have hz := ZZ.out
    have hq := Z10.out.1
    have hb0 := ZB0.out
    refine ⟨s1.trans (h1.mono (by omega)), s2.trans (h1.mono (by omega)), Nat.le_trans s3 h1.size, fun q k1 k2 => (h2.2 q (by omega) (by omega)).trans (s4 q k1 k2)⟩
  clear hm HMA0 SS M_rs
  have SS := SN
  clear SN
  have hKAz : decide ((KA0 : Int) < 0) = false := decide_eq_false (by omega)
  have hKAy : ¬ ((KA0 : Int) < 0) := by omega
  clear hKB0
  have Q18 : Hid (∀ W, Below w9.heap.size w9 W → (∀ q, w4.heap.size ≤ q → q ≤ gb → W.heap[q]? = W10.heap[q]?)) := fun W hW q h1 h2 => (hW.block q (by have := SS.out.2.2.1; have := Z10.out.1; omega)).trans (SS.out.2.2.2 q h1 h2)
  have EQ := eq_both hcl hul hfl w9 (AG10.out _ SS.out.2.2.2).1 (AW6.out _ SS.out.1).1
  have EQ0 : Hid (∀ W', Below w9.heap.size w9 W' → Calls Try.prog 17 #[.agg #[.slice paG cs.length pcG, .slice xaG us.length xcG, .slice yaG fs.length ycG], .agg #[.slice paW cs.length pcW, .slice xaW us.length xcW, .slice yaW fs.length ycW]] W' fun e w' => e = .returned (.bool true) ∧ Below W'.heap.size W' w') := EQ
  clear EQ
  have p_w9 : Hid (Below w9.heap.size w9 w9) := Below.refl _ _
  have hbxA := (AG10.out w9 (Q18.out w9 p_w9.out)).2.1
  have hbxW := (AW6.out w9 (chain SS.out.1 p_w9.out)).2
  have y0 := blkCell hbxA 0 _ rfl
  have z0 := blkCell hbxW 0 _ rfl
  have y1 := blkCell hbxA 1 _ rfl
  have z1 := blkCell hbxW 1 _ rfl
  have y2 := blkCell hbxA 2 _ rfl
  have z2 := blkCell hbxW 2 _ rfl
  clear hbxA hbxW
  go_wp2_with fail
  (first | go_at_call 17 | skip)
  refine (EQ0.out _ p_w9.out).mono ?_
  rintro e w10 ⟨rfl, hb⟩
  have p_w10 : Hid (Below w9.heap.size w9 w10) := chain p_w9.out hb
  clear hb EQ0 p_w9 y0 z0 y1 z1 y2 z2
  -- the answer is marked, and held
  have G20 : Hid (w10.heap[gb]? = some (.cells #[.slice paG cs.length pcG, .slice xaG us.length xcG, .slice yaG fs.length ycG] 31 (0, 0)) ∧ gb < w10.heap.size) := ⟨(AG10.out _ (Q18.out _ p_w10.out)).2.1, Nat.lt_of_lt_of_le Z10.out.1 (Nat.le_trans SS.out.2.2.1 p_w10.out.size)⟩
  have FF : Hid (Fr (fun q => w4.heap.size ≤ q ∧ q < gb) w10 w10) := Fr.refl _ _
  have hbx := (FF.out.block gb G20.out.2 (fun e => by omega)).trans G20.out.1
  have y0 := blkCell hbx 0 _ rfl
  have y1 := blkCell hbx 1 _ rfl
  have y2 := blkCell hbx 2 _ rfl
  clear hbx
  go_wp2_with fail
  (first | go_at_call 19 | skip)
  refine (HM1.out _ (AG10.out _ (Q18.out _ p_w10.out)).2.2 (Nat.le_trans (Nat.le_of_lt Z10.out.1) (Nat.le_trans SS.out.2.2.1 p_w10.out.size))).mono ?_
  rintro e w11 ⟨rfl, hf, hP⟩
  have FN : Hid (Fr (fun q => w4.heap.size ≤ q ∧ q < gb) w10 w11) := FF.out.trans hf
  have HP1 : Hid (P1 w11) := hP
  clear hf hP FF y0 y1 y2
  have FF := FN
  clear FN
  have S22 : Hid (Below W6.heap.size W6 w11 ∧ Below w.heap.size w w11 ∧ w11.heap[gb]? = some (.cells #[.slice paG cs.length pcG, .slice xaG us.length xcG, .slice yaG fs.length ycG] 31 (0, 0))) := by
    have h1 := chain SS.out.1 p_w10.out
    have h2 := chain SS.out.2.1 p_w10.out
    have hz := ZZ.out
    refine ⟨Fr.below h1 FF.out h1.size (fun q hq => by omega), Fr.below h2 FF.out h2.size (fun q hq => by omega), (FF.out.block gb G20.out.2 (fun e => by omega)).trans G20.out.1⟩
  clear FF G20 p_w10 Q18 SS HM1
  have p_m : Hid (Below w11.heap.size w11 w11) := Below.refl _ _
  have hbx := (p_m.out.block gb (blkLt S22.out.2.2)).trans S22.out.2.2
  have y0 := blkCell hbx 0 _ rfl
  have y1 := blkCell hbx 1 _ rfl
  have y2 := blkCell hbx 2 _ rfl
  clear hbx
  go_wp2_with fail
  (first | go_at_call 20 | skip)
  refine (HH1.out _ (HPl.out _ _ HP1.out p_m.out)).mono ?_
  rintro e w12 ⟨rfl, hb⟩
  have p_w12 : Hid (Below w11.heap.size w11 w12) := chain p_m.out hb
  clear hb p_m y0 y1 y2
  -- another call
  have BX : Hid (Below w.heap.size w w12) := chain S22.out.2.1 p_w12.out
  go_wp2_with fail
  (first | go_at_call 13 | skip)
  refine (hT_rs.out w12 (chain S22.out.2.1 p_w12.out)).mono ?_
  rintro e w13 ⟨rfl, hb, hz, hi, hf⟩
  have p_w13 : Hid (Below w11.heap.size w11 w13) := chain p_w12.out hb
  have XH_rs : Hid (w12.heap.size < w13.heap.size ∧ EvsAt w13 w12.heap.size 0 rs) := ⟨hz, hi⟩
  clear hb hz hi hf p_w12
  clear BX
  go_wp2_with fail
  (first | go_at_call 8 | skip)
  refine (hI.out _ w13 (.inr ⟨_, _, rfl, XH_rs.out.1, XH_rs.out.2⟩)).mono ?_
  rintro e w14 ⟨paH, xaH, yaH, pcH, xcH, ycH, rfl, hAH, hb⟩
  have p28 : Hid (Below w11.heap.size w11 (w14.alloc (Obj.cells #[.slice paH cs.length pcH, .slice xaH us.length xcH, .slice yaH fs.length ycH] 31))) := chain p_w13.out (chain hb (below_alloc _ _))
  have AH28 : Hid (∀ W, Below (w14.alloc (Obj.cells #[.slice paH cs.length pcH, .slice xaH us.length xcH, .slice yaH fs.length ycH] 31)).heap.size (w14.alloc (Obj.cells #[.slice paH cs.length pcH, .slice xaH us.length xcH, .slice yaH fs.length ycH] 31)) W → (LgG w13.heap.size cs.length us.length fs.length (.slice paH cs.length pcH) (.slice xaH us.length xcH) (.slice yaH fs.length ycH) (cdCells cs) (us.map .string) (fs.map nVl) W) ∧ W.heap[w14.heap.size]? = some (.cells #[.slice paH cs.length pcH, .slice xaH us.length xcH, .slice yaH fs.length ycH] 31 (0, 0))) := fun W hW => ⟨own_later hAH (chain (below_alloc _ _) hW), (hW.block _ (by simp)).trans (heapNew _ _)⟩
  have hbxZ := (AW6.out (w14.alloc (Obj.cells #[.slice paH cs.length pcH, .slice xaH us.length xcH, .slice yaH fs.length ycH] 31)) (chain S22.out.1 p28.out)).2
  have zz0 := blkCell hbxZ 0 _ rfl
  have zz1 := blkCell hbxZ 1 _ rfl
  have zz2 := blkCell hbxZ 2 _ rfl
  clear hbxZ
  clear hb hAH p_w13 hI XH_rs hT_rs
  go_wp2_with fail
  generalize (w14.alloc (Obj.cells #[.slice paH cs.length pcH, .slice xaH us.length xcH, .slice yaH fs.length ycH] 31)) = W28 at *
  clear zz0 zz1 zz2
  generalize w14.heap.size = hbx8 at *
  have EQ := eq_both hcl hul hfl W28 (AH28.out _ (Below.refl _ _)).1 (AW6.out _ (chain S22.out.1 p28.out)).1
  have EQ0 : Hid (∀ W', Below W28.heap.size W28 W' → Calls Try.prog 17 #[.agg #[.slice paH cs.length pcH, .slice xaH us.length xcH, .slice yaH fs.length ycH], .agg #[.slice paW cs.length pcW, .slice xaW us.length xcW, .slice yaW fs.length ycW]] W' fun e w' => e = .returned (.bool true) ∧ Below W'.heap.size W' w') := EQ
  clear EQ
  have p_W28 : Hid (Below W28.heap.size W28 W28) := Below.refl _ _
  have hbxA := (AH28.out W28 p_W28.out).2
  have hbxW := (AW6.out W28 (chain S22.out.1 (chain p28.out p_W28.out))).2
  have y0 := blkCell hbxA 0 _ rfl
  have z0 := blkCell hbxW 0 _ rfl
  have y1 := blkCell hbxA 1 _ rfl
  have z1 := blkCell hbxW 1 _ rfl
  have y2 := blkCell hbxA 2 _ rfl
  have z2 := blkCell hbxW 2 _ rfl
  clear hbxA hbxW
  go_wp2_with fail
  (first | go_at_call 17 | skip)
  refine (EQ0.out _ p_W28.out).mono ?_
  rintro e w15 ⟨rfl, hb⟩
  have p_w15 : Hid (Below W28.heap.size W28 w15) := chain p_W28.out hb
  clear hb EQ0 p_W28 y0 z0 y1 z1 y2 z2
  have pe : Hid (Below w11.heap.size w11 w15) := chain p28.out p_w15.out
  clear p_w15 p28 AH28 AW6
  have hbx := (pe.out.block gb (blkLt S22.out.2.2)).trans S22.out.2.2
  have y0 := blkCell hbx 0 _ rfl
  have y1 := blkCell hbx 1 _ rfl
  have y2 := blkCell hbx 2 _ rfl
  clear hbx
  go_wp2_with fail
  (first | go_at_call 20 | skip)
  refine (HH1.out _ (HPl.out _ _ HP1.out pe.out)).mono ?_
  rintro e w16 ⟨rfl, hb⟩
  have p_w16 : Hid (Below w11.heap.size w11 w16) := chain pe.out hb
  clear hb pe y0 y1 y2
  go_wp2
  go_ret
  exact ⟨rfl, chain S22.out.2.1 p_w16.out⟩
theorem walk (a : Option Addr) (len cap : Nat) (rs : List REv) (w : World) (h : IsEvs w a len cap rs) :
    Calls Try.prog 5 #[.slice a len cap] w fun e w' => e = .returned (.bool true) ∧ Below w.heap.size w w' := by
  obtain ⟨rfl, h2, h3, h4, h5⟩ := h
  exact walk' a cap rs (Nat.le_trans h2 h3) h4 w h5

theorem own : ownKnob Try.prog.godebug = none := by kernel_rfl
theorem laidOut : laidOutB Try.prog = true := by kernel_rfl

set_option maxRecDepth 100000 in
theorem lifted (os : Os) (started : os.Started) (H : Type) (enc : TypeId × Value → H) :
    ReturnsInHanded {} Try.checked os 5 .any (Rows.fnExactLedgerOfSpec.pre6 enc Try.prog Try.f5 Rows.fnExactLedgerOfRow.domain false) (Rows.fnExactLedgerOfSpec.post enc Try.prog Try.f5 false true false false) := by
  refine returnsInHanded_of_change (C := Try.checked) own started (by kernel_rfl) Try.func5
    (ChangeSpec.witness6 (enc := enc) (C := Try.checked) false ⟨#[], #[.slice none 0 0], []⟩ 8 (by kernel_rfl) (by kernel_rfl) (by kernel_rfl) (by kernel_rfl)) ?_
  intro W base args ds gs before hval0 hW hcnd _
  have hval : ∀ (j : Nat) t v, Try.f5.params[j]? = some t → args[j]? = some v → Value.okWide Try.prog W .any base t v := hval0
  have hW' := hW
  obtain ⟨p, q, hA0, hV, rfl, hfz, hnd⟩ := hW
  have hA : DataW.TrodAll enc Try.prog W 0 (fun _ => true) true Try.f5.params.toList args.toList ds p := hA0
  rw [Try.params5] at hA hval
  obtain ⟨v0, vs0, d0, ds0, p0, q0, hargs, rfl, rfl, h0, r0⟩ := trodAll_cons hA
  obtain ⟨rfl, rfl, rfl⟩ := trodAll_nil r0
  obtain rfl : args = #[v0] := by cases args; simp_all
  obtain ⟨rfl, rfl⟩ := trodVars_none hV
  have k0 := h0
  have lt0 : ∀ x ∈ p0, x.block < W.heap.size := by obtain ⟨m, hm⟩ := k0; exact DataW.trod_lt m _ _ _ hm
  obtain ⟨a0, len0, cap0, rfl⟩ := okWide_slice Try.underlying41 (hval 0 41 v0 rfl rfl)
  obtain ⟨z0, w0⟩ : ∃ zs, IsEvs W a0 len0 cap0 zs := by
    obtain ⟨fuel, hf⟩ := h0
    exact openEvs (by simpa [Value.cells] using hf)
  clear hA0 hval0
  refine (walk a0 len0 cap0 z0 W w0).mono fun e W' ⟨he, bel⟩ => ?_
  subst he
  exact ⟨_, rfl, _, _, _, [], _, [], hW', trodAll_mk1 (shut_bool Try.underlying4 _), (trodAll_cons_mk (Below.trod laidOut (by kernel_rfl) (of_decide_eq_true (by kernel_rfl)) k0 bel lt0) trodAll_mk0), rfl, bel.frame _, fun h => by cases h⟩

theorem over : Rows.fnExactLedgerOfRow.holds Try.pinned (OpenSpec.ofChange Rows.fnExactLedgerOfSpec) :=
  OpenClaim.holds_of_wide 5 Try.f5 rfl rfl rfl rfl rfl rfl rfl ⟨rfl, rfl, rfl, rfl, rfl⟩ rfl rfl rfl rfl rfl (by kernel_rfl) Try.func5 (by kernel_rfl)
    (of_decide_eq_true (by kernel_rfl)) (by unfold Func.isWrapper; first | (rw [if_pos (by decide +kernel)]; kernel_rfl) | (rw [if_neg (by decide +kernel)]; exact ⟨rfl, rfl⟩))
    (fun os started H enc _ => lifted os started H enc)
end LedgerLaw

theorem fnExactLedgerOf_holds : Rows.FnExactLedgerOfSaid := LedgerLaw.over
end Go.Proofs.Ytabghjlmmpckdaa
