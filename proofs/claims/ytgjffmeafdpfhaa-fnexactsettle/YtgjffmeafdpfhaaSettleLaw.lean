/-
  For every two lists the law FnExactSettle answers true: the program's Settle answers as the specification's, field by field, writes into no argument, and its answer owns its memory; with no condition.
-/
import Derived.Test.YtgjffmeafdpfhaaSxE
import Derived.Test.YtgjffmeafdpfhaaSxG
import Derived.Test.YtgjffmeafdpfhaaSeM
import Derived.Test.YtgjffmeafdpfhaaSeF
namespace Go.Proofs.Ytgjffmeafdpfhaa
open Go.ChangeShapes Go.WideShapes Go.ChangeAt Go.RowKit Go.Joins Go.Deep
set_option linter.unusedVariables false

theorem mt_sizes (mine bank : List RSe) : (mtR mine bank).ps.length ≤ 60 ∧ (mtR mine bank).ms.length ≤ 60 ∧ (mtR mine bank).bs.length ≤ 60 := by
  rcases flt_ways mine bank with ⟨_, hf⟩ | ⟨_, _, hf⟩ | ⟨_, _, _, hf⟩ | ⟨_, _, _, _, hf⟩ | ⟨_, _, _, _, _, hf⟩ | ⟨_, _, _, _, _, _, hf⟩ | ⟨_, _, h1, h2, _, _, hf⟩
  · rw [mtR_no hf (by decide)]; exact ⟨Nat.zero_le _, Nat.zero_le _, Nat.zero_le _⟩
  · rw [mtR_no hf (by decide)]; exact ⟨Nat.zero_le _, Nat.zero_le _, Nat.zero_le _⟩
  · rw [mtR_no hf (by decide)]; exact ⟨Nat.zero_le _, Nat.zero_le _, Nat.zero_le _⟩
  · rw [mtR_no hf (by decide)]; exact ⟨Nat.zero_le _, Nat.zero_le _, Nat.zero_le _⟩
  · rw [mtR_no hf (by decide)]; exact ⟨Nat.zero_le _, Nat.zero_le _, Nat.zero_le _⟩
  · rw [mtR_no hf (by decide)]; exact ⟨Nat.zero_le _, Nat.zero_le _, Nat.zero_le _⟩
  · rw [mtR_yes hf]
    have q1 := msAt_len mine bank mine.length
    have q2 := bkAt_len (msAt mine bank mine.length).tk bank.length
    unfold mtOf
    dsimp only
    omega
namespace SettleLaw
theorem own_same {B : Nat} {ps : List (Nat × Nat)} {ms bs : List Nat} {pv mv bv : Value} {vs : Nat → Value} {W W' : World} (h : AnsM B ps ms bs pv mv bv vs W) (hs : ∀ q, B ≤ q → q < W.heap.size → W'.heap[q]? = W.heap[q]?) : AnsM B ps ms bs pv mv bv vs W' := h.same (fun q hq => hs q (h.lt q hq).1 (h.lt q hq).2)
theorem own_later {B : Nat} {ps : List (Nat × Nat)} {ms bs : List Nat} {pv mv bv : Value} {vs : Nat → Value} {W W' : World} (h : AnsM B ps ms bs pv mv bv vs W) (hb : Below W.heap.size W W') : AnsM B ps ms bs pv mv bv vs W' := h.later hb
theorem eq_both {ps : List (Nat × Nat)} {ms bs : List Nat} (hpl : ps.length ≤ 60) (hml : ms.length ≤ 60) (hbl : bs.length ≤ 60) (df : Int) {pa1 xa1 ya1 pa2 xa2 ya2 : Option Addr} {pc1 xc1 yc1 pc2 xc2 yc2 B1 B2 : Nat} {vs1 vs2 : Nat → Value} (W : World)
    (h1 : AnsM B1 ps ms bs (.slice pa1 ps.length pc1) (.slice xa1 ms.length xc1) (.slice ya1 bs.length yc1) vs1 W) (h2 : AnsM B2 ps ms bs (.slice pa2 ps.length pc2) (.slice xa2 ms.length xc2) (.slice ya2 bs.length yc2) vs2 W) :
    ∀ W', Below W.heap.size W W' → Calls Try.prog 10 #[.agg #[.slice pa1 ps.length pc1, .slice xa1 ms.length xc1, .slice ya1 bs.length yc1, .int .i64 df], .agg #[.slice pa2 ps.length pc2, .slice xa2 ms.length xc2, .slice ya2 bs.length yc2, .int .i64 df]] W' fun e w' => e = .returned (.bool true) ∧ Below W'.heap.size W' w' := fun W' hW =>
  eqMt_any (by omega) (by omega) (by omega) df W' (h1.later hW) (h2.later hW)
theorem marks_of {ps : List (Nat × Nat)} {ms bs : List Nat} (hpl : ps.length ≤ 60) (hml : ms.length ≤ 60) (hbl : bs.length ≤ 60) (df : Int) {pa xa ya : Option Addr} {pc xc yc B : Nat} {vs : Nat → Value} {W0 : World} (h : AnsM B ps ms bs (.slice pa ps.length pc) (.slice xa ms.length xc) (.slice ya bs.length yc) vs W0) :
    ∃ (K1 : Nat) (P1 : World → Prop),
      (∀ W, (∀ q, B ≤ q → q < W0.heap.size → W.heap[q]? = W0.heap[q]?) → W0.heap.size ≤ W.heap.size → Calls Try.prog 13 #[.agg #[.slice pa ps.length pc, .slice xa ms.length xc, .slice ya bs.length yc, .int .i64 df], .int .i64 1] W fun e w' => e = .returned (.int .i64 (K1 : Int)) ∧ Fr (fun q => B ≤ q ∧ q < W0.heap.size) W w' ∧ P1 w') ∧
      (∀ W, P1 W → Calls Try.prog 14 #[.agg #[.slice pa ps.length pc, .slice xa ms.length xc, .slice ya bs.length yc, .int .i64 df], .int .i64 1] W fun e w' => e = .returned (.int .i64 (K1 : Int)) ∧ Below W.heap.size W w') ∧
      (∀ W W', P1 W → Below W.heap.size W W' → P1 W') := by
  refine ⟨1 + ps.length * 2 + ms.length * 1 + bs.length * 1, fun W => AnsK B ps.length ms.length bs.length (.slice pa ps.length pc) (.slice xa ms.length xc) (.slice ya bs.length yc) vs 1 W, fun W hW hz => ?_, fun W hW => ?_, fun W W' hW hb => AnsG.later hW hb⟩
  · refine (markMt_any (by omega) (by omega) (by omega) df 1 (by omega) W (own_same h hW).toG).mono ?_
    rintro e w' ⟨he, hf, hk⟩
    exact ⟨he, hf.mono (fun q hq => h.lt q hq), hk⟩
  · exact heldMt_any (by omega) (by omega) (by omega) df 1 (by omega) W hW
set_option maxHeartbeats 16000000 in
set_option maxRecDepth 8000 in
theorem walk' (mna : Option Addr) (mnc : Nat) (mn : List RSe) (hl_mn : mn.length ≤ maxLen) (hp_mn : ∀ r ∈ mn, SeWide r) (bka : Option Addr) (bkc : Nat) (bk : List RSe) (hl_bk : bk.length ≤ maxLen) (hp_bk : ∀ r ∈ bk, SeWide r) (w : World) (hr_mn : ReadsSe w.heap.size w mna mn) (hr_bk : ReadsSe w.heap.size w bka bk) :
    Calls Try.prog 4 #[.slice mna mn.length mnc, .slice bka bk.length bkc] w fun e w' => e = .returned (.bool true) ∧ Below w.heap.size w w' := by
  have HR_mn : Hid (ReadsSe w.heap.size w mna mn) := hr_mn
  have HZ_mn : Hid (∀ W x, 0 ≤ x → x ≤ 1048576 → ReadsSe W.heap.size W mna mn → Calls Try.prog 7 #[.slice mna mn.length mnc, .int .i64 x] W fun e w' => ∃ y : Int, e = .returned (.int .i64 y) ∧ (y < 0 ∨ (0 ≤ y ∧ y ≤ 1048576 ∧ mn.length ≤ 1048576 ∧ ∀ r ∈ mn, SeOK r)) ∧ Below W.heap.size W w') := fun W x h0 h1 h => (szSes_any mna mnc mn hl_mn hp_mn x h0 h1 W h).mono (by rintro e w' h; exact h)
  have HR_bk : Hid (ReadsSe w.heap.size w bka bk) := hr_bk
  have HZ_bk : Hid (∀ W x, 0 ≤ x → x ≤ 1048576 → ReadsSe W.heap.size W bka bk → Calls Try.prog 7 #[.slice bka bk.length bkc, .int .i64 x] W fun e w' => ∃ y : Int, e = .returned (.int .i64 y) ∧ (y < 0 ∨ (0 ≤ y ∧ y ≤ 1048576 ∧ bk.length ≤ 1048576 ∧ ∀ r ∈ bk, SeOK r)) ∧ Below W.heap.size W w') := fun W x h0 h1 h => (szSes_any bka bkc bk hl_bk hp_bk x h0 h1 W h).mono (by rintro e w' h; exact h)
  clear hr_mn hp_mn hr_bk hp_bk
  go_enter Try.func4, Try.ntmps4
  have B0 : Hid (Below w.heap.size w w) := Below.refl _ _
  go_wp2_with fail
  (first | go_at_call 7 | skip)
  refine (HZ_mn.out w 1048576 (by omega) (by omega) ((HR_mn.out.below B0.out).mono B0.out.size)).mono ?_
  rintro e w1 ⟨x0, rfl, hy, hb⟩
  have KX0 : Hid (x0 < 0 ∨ (0 ≤ x0 ∧ x0 ≤ 1048576 ∧ mn.length ≤ 1048576 ∧ ∀ r ∈ mn, SeOK r)) := hy
  have BZ0 : Hid (Below w.heap.size w w1) := chain B0.out hb
  clear hy hb
  by_cases hneg0 : x0 < 0
  · go_wp2
    go_ret
    exact ⟨rfl, BZ0.out⟩
  obtain ⟨hx0, hlen_mn, hok_mn⟩ : (0 ≤ x0 ∧ x0 ≤ 1048576) ∧ mn.length ≤ 1048576 ∧ ∀ r ∈ mn, SeOK r := by
    rcases KX0.out with h | ⟨h0, h1, h2, h3⟩
    · omega
    · exact ⟨⟨h0, h1⟩, h2, h3⟩
  have HOK_mn : Hid (∀ r ∈ mn, SeOK r) := hok_mn
  clear hok_mn KX0 HZ_mn
  go_wp2_with fail
  (first | go_at_call 7 | skip)
  refine (HZ_bk.out w1 x0 hx0.1 hx0.2 ((HR_bk.out.below BZ0.out).mono BZ0.out.size)).mono ?_
  rintro e w2 ⟨x1, rfl, hy, hb⟩
  have KX1 : Hid (x1 < 0 ∨ (0 ≤ x1 ∧ x1 ≤ 1048576 ∧ bk.length ≤ 1048576 ∧ ∀ r ∈ bk, SeOK r)) := hy
  have BZ1 : Hid (Below w.heap.size w w2) := chain BZ0.out hb
  clear hy hb
  by_cases hneg1 : x1 < 0
  · go_wp2
    go_ret
    exact ⟨rfl, BZ1.out⟩
  obtain ⟨hx1, hlen_bk, hok_bk⟩ : (0 ≤ x1 ∧ x1 ≤ 1048576) ∧ bk.length ≤ 1048576 ∧ ∀ r ∈ bk, SeOK r := by
    rcases KX1.out with h | ⟨h0, h1, h2, h3⟩
    · omega
    · exact ⟨⟨h0, h1⟩, h2, h3⟩
  have HOK_bk : Hid (∀ r ∈ bk, SeOK r) := hok_bk
  clear hok_bk KX1 HZ_bk
  have hT_mn : Hid (∀ W, Below w.heap.size w W → Calls Try.prog 9 #[.slice mna mn.length mnc] W fun e w' => e = .returned (.slice (some ⟨W.heap.size, 0, none⟩) mn.length mn.length) ∧ Below W.heap.size W w' ∧ W.heap.size < w'.heap.size ∧ SesAt w' W.heap.size 0 mn ∧ FreeSe w' W.heap.size mn.length) := fun W hW => toSes_any mna mnc mn hlen_mn W ((HR_mn.out.below hW).mono hW.size)
  have hT_bk : Hid (∀ W, Below w.heap.size w W → Calls Try.prog 9 #[.slice bka bk.length bkc] W fun e w' => e = .returned (.slice (some ⟨W.heap.size, 0, none⟩) bk.length bk.length) ∧ Below W.heap.size W w' ∧ W.heap.size < w'.heap.size ∧ SesAt w' W.heap.size 0 bk ∧ FreeSe w' W.heap.size bk.length) := fun W hW => toSes_any bka bkc bk hlen_bk W ((HR_bk.out.below hW).mono hW.size)
  have hS : Hid (∀ mnx bkx W, ReadsSe W.heap.size W mnx mn → ReadsSe W.heap.size W bkx bk → Calls Try.prog 8 #[.slice mnx mn.length mn.length, .slice bkx bk.length bk.length] W (MtP W (mtR mn bk) (fltS mn bk))) := fun ia ib W h1 h2 => specSettle_any ia ib mn.length bk.length mn bk (by omega) (by omega) HOK_mn.out HOK_bk.out W h1 h2
  have hI : Hid (∀ mnx bkx W, ReadsSe W.heap.size W mnx mn → ReadsSe W.heap.size W bkx bk → Calls Try.prog 6 #[.slice mnx mn.length mn.length, .slice bkx bk.length bk.length] W (MtP W (mtR mn bk) (fltS mn bk))) := fun ia ib W h1 h2 => implSettle_any ia ib mn.length bk.length mn bk (by omega) (by omega) HOK_mn.out HOK_bk.out W h1 h2
  obtain ⟨hpl, hml, hbl⟩ := mt_sizes mn bk
  unfold MtP at hS hI
  generalize fltS mn bk = c at *
  generalize mtR mn bk = t at *
  obtain ⟨ps, ms, bs, df⟩ := t
  dsimp only at hS hI hpl hml hbl
  clear HOK_mn HOK_bk
  clear HR_mn HR_bk
  have hcc : ∀ x : Int, (x != x) = false := fun x => by simp
  have hcc_c := hcc (c)
  clear hcc
  -- the specification's answer
  go_wp2_with fail
  (first | go_at_call 9 | skip)
  refine (hT_mn.out w2 BZ1.out).mono ?_
  rintro e w3 ⟨rfl, hb, hz, hi, hf⟩
  have B_w3 : Hid (Below w.heap.size w w3) := chain BZ1.out hb
  have Xs_mn : Hid (w2.heap.size < w3.heap.size ∧ SesAt w3 w2.heap.size 0 mn ∧ FreeSe w3 w2.heap.size mn.length) := ⟨hz, hi, hf⟩
  clear hb hz hi hf
  go_wp2_with fail
  (first | go_at_call 9 | skip)
  refine (hT_bk.out w3 B_w3.out).mono ?_
  rintro e w4 ⟨rfl, hb, hz, hi, hf⟩
  have B_w4 : Hid (Below w.heap.size w w4) := chain B_w3.out hb
  have Xs_mn' : Hid (w2.heap.size < w4.heap.size ∧ SesAt w4 w2.heap.size 0 mn ∧ FreeSe w4 w2.heap.size mn.length) := ⟨Nat.lt_of_lt_of_le Xs_mn.out.1 hb.size, Xs_mn.out.2.1.below hb Xs_mn.out.1, Xs_mn.out.2.2.below hb Xs_mn.out.1⟩
  clear Xs_mn
  have Xs_mn := Xs_mn'
  clear Xs_mn'
  have Xs_bk : Hid (w3.heap.size < w4.heap.size ∧ SesAt w4 w3.heap.size 0 bk ∧ FreeSe w4 w3.heap.size bk.length) := ⟨hz, hi, hf⟩
  clear hb hz hi hf
  go_wp2_with fail
  (first | go_at_call 8 | skip)
  refine (hS.out _ _ w4 (.inr ⟨_, _, rfl, Xs_mn.out.1, Xs_mn.out.2.1⟩) (.inr ⟨_, _, rfl, Xs_bk.out.1, Xs_bk.out.2.1⟩)).mono ?_
  rintro e w5 ⟨paW, xaW, yaW, pcW, xcW, ycW, vsW, rfl, hAW, hb⟩
  have AW5 : Hid (AnsM w4.heap.size ps ms bs (.slice paW ps.length pcW) (.slice xaW ms.length xcW) (.slice yaW bs.length ycW) vsW w5) := hAW
  have B5 : Hid (Below w.heap.size w w5) := chain B_w4.out hb
  clear hb hAW hS Xs_mn Xs_bk
  have AW6 : Hid (∀ W, Below (w5.alloc (Obj.cells #[.slice paW ps.length pcW, .slice xaW ms.length xcW, .slice yaW bs.length ycW, .int .i64 df] 29)).heap.size (w5.alloc (Obj.cells #[.slice paW ps.length pcW, .slice xaW ms.length xcW, .slice yaW bs.length ycW, .int .i64 df] 29)) W → (AnsM w4.heap.size ps ms bs (.slice paW ps.length pcW) (.slice xaW ms.length xcW) (.slice yaW bs.length ycW) vsW W) ∧ W.heap[w5.heap.size]? = some (.cells #[.slice paW ps.length pcW, .slice xaW ms.length xcW, .slice yaW bs.length ycW, .int .i64 df] 29 (0, 0))) := fun W hW => ⟨own_later AW5.out (chain (below_alloc _ _) hW), (hW.block _ (by simp)).trans (heapNew _ _)⟩
  have B6 : Hid (Below w.heap.size w (w5.alloc (Obj.cells #[.slice paW ps.length pcW, .slice xaW ms.length xcW, .slice yaW bs.length ycW, .int .i64 df] 29))) := chain B5.out (below_alloc _ _)
  go_wp2_with fail
  generalize (w5.alloc (Obj.cells #[.slice paW ps.length pcW, .slice xaW ms.length xcW, .slice yaW bs.length ycW, .int .i64 df] 29)) = W6 at *
  generalize w5.heap.size = bw at *
  clear AW5 B5
  -- the copies, and the program's answer
  go_wp2_with fail
  (first | go_at_call 9 | skip)
  refine (hT_mn.out W6 B6.out).mono ?_
  rintro e w6 ⟨rfl, hb, hz, hi, hf⟩
  have B_w6 : Hid (Below w.heap.size w w6) := chain B6.out hb
  have D_w6 : Hid (Below W6.heap.size W6 w6) := hb
  have Xx_mn : Hid (W6.heap.size < w6.heap.size ∧ SesAt w6 W6.heap.size 0 mn ∧ FreeSe w6 W6.heap.size mn.length) := ⟨hz, hi, hf⟩
  clear hb hz hi hf
  have ZQ1 : Hid (W6.heap.size < w6.heap.size) := Xx_mn.out.1
  go_wp2_with fail
  (first | go_at_call 9 | skip)
  refine (hT_bk.out w6 B_w6.out).mono ?_
  rintro e w7 ⟨rfl, hb, hz, hi, hf⟩
  have B_w7 : Hid (Below w.heap.size w w7) := chain B_w6.out hb
  have Xx_mn' : Hid (W6.heap.size < w7.heap.size ∧ SesAt w7 W6.heap.size 0 mn ∧ FreeSe w7 W6.heap.size mn.length) := ⟨Nat.lt_of_lt_of_le Xx_mn.out.1 hb.size, Xx_mn.out.2.1.below hb Xx_mn.out.1, Xx_mn.out.2.2.below hb Xx_mn.out.1⟩
  clear Xx_mn
  have Xx_mn := Xx_mn'
  clear Xx_mn'
  have D_w7 : Hid (Below W6.heap.size W6 w7) := chain D_w6.out hb
  have Xx_bk : Hid (w6.heap.size < w7.heap.size ∧ SesAt w7 w6.heap.size 0 bk ∧ FreeSe w7 w6.heap.size bk.length) := ⟨hz, hi, hf⟩
  clear hb hz hi hf
  go_wp2_with fail
  (first | go_at_call 6 | skip)
  refine (hI.out _ _ w7 (.inr ⟨_, _, rfl, Xx_mn.out.1, Xx_mn.out.2.1⟩) (.inr ⟨_, _, rfl, Xx_bk.out.1, Xx_bk.out.2.1⟩)).mono ?_
  rintro e w8 ⟨paG, xaG, yaG, pcG, xcG, ycG, vsG, rfl, hAG, hb9⟩
  have AG9 : Hid (AnsM w7.heap.size ps ms bs (.slice paG ps.length pcG) (.slice xaG ms.length xcG) (.slice yaG bs.length ycG) vsG w8) := hAG
  have HMk := marks_of hpl hml hbl df AG9.out
  obtain ⟨K1, P1, hm1, hh1, hPl⟩ := HMk
  have HM1 : Hid (∀ W, (∀ q, w7.heap.size ≤ q → q < w8.heap.size → W.heap[q]? = w8.heap[q]?) → w8.heap.size ≤ W.heap.size → Calls Try.prog 13 #[.agg #[.slice paG ps.length pcG, .slice xaG ms.length xcG, .slice yaG bs.length ycG, .int .i64 df], .int .i64 1] W fun e w' => e = .returned (.int .i64 (K1 : Int)) ∧ Fr (fun q => w7.heap.size ≤ q ∧ q < w8.heap.size) W w' ∧ P1 w') := hm1
  have HH1 : Hid (∀ W, P1 W → Calls Try.prog 14 #[.agg #[.slice paG ps.length pcG, .slice xaG ms.length xcG, .slice yaG bs.length ycG, .int .i64 df], .int .i64 1] W fun e w' => e = .returned (.int .i64 (K1 : Int)) ∧ Below W.heap.size W w') := hh1
  have HPl : Hid (∀ W W', P1 W → Below W.heap.size W W' → P1 W') := hPl
  have hKK : ((K1 : Int) != (K1 : Int)) = false := by simp
  have hKn1 : ¬ (K1 : Int) < 0 := by omega
  have B10 : Hid (Below w7.heap.size w7 (w8.alloc (Obj.cells #[.slice paG ps.length pcG, .slice xaG ms.length xcG, .slice yaG bs.length ycG, .int .i64 df] 29))) := chain hb9 (below_alloc _ _)
  have AG10 : Hid (∀ W, (∀ q, w7.heap.size ≤ q → q ≤ w8.heap.size → W.heap[q]? = (w8.alloc (Obj.cells #[.slice paG ps.length pcG, .slice xaG ms.length xcG, .slice yaG bs.length ycG, .int .i64 df] 29)).heap[q]?) → (AnsM w7.heap.size ps ms bs (.slice paG ps.length pcG) (.slice xaG ms.length xcG) (.slice yaG bs.length ycG) vsG W) ∧ W.heap[w8.heap.size]? = some (.cells #[.slice paG ps.length pcG, .slice xaG ms.length xcG, .slice yaG bs.length ycG, .int .i64 df] 29 (0, 0)) ∧ (∀ q, w7.heap.size ≤ q → q < w8.heap.size → W.heap[q]? = w8.heap[q]?)) := fun W hW => by
    have h1 : ∀ q, w7.heap.size ≤ q → q < w8.heap.size → W.heap[q]? = w8.heap[q]? := fun q h1 h2 => (hW q h1 (by omega)).trans (Below.heap_alloc _ _ _ h2)
    exact ⟨own_same AG9.out h1, (hW _ hb9.size (Nat.le_refl _)).trans (heapNew _ _), h1⟩
  have Z10 : Hid (w8.heap.size < (w8.alloc (Obj.cells #[.slice paG ps.length pcG, .slice xaG ms.length xcG, .slice yaG bs.length ycG, .int .i64 df] 29)).heap.size ∧ w7.heap.size ≤ w8.heap.size) := ⟨by simp, hb9.size⟩
  have hbxZ := (AW6.out (w8.alloc (Obj.cells #[.slice paG ps.length pcG, .slice xaG ms.length xcG, .slice yaG bs.length ycG, .int .i64 df] 29)) (chain D_w7.out B10.out)).2
  have zz0 := blkCell hbxZ 0 _ rfl
  have zz1 := blkCell hbxZ 1 _ rfl
  have zz2 := blkCell hbxZ 2 _ rfl
  have zz3 := blkCell hbxZ 3 _ rfl
  clear hbxZ
  clear hb9 hAG hPl AG9 hm1 hh1
  go_wp2_with fail
  generalize hW10 : (w8.alloc (Obj.cells #[.slice paG ps.length pcG, .slice xaG ms.length xcG, .slice yaG bs.length ycG, .int .i64 df] 29)) = W10 at *
  generalize hgb : w8.heap.size = gb at *
  clear zz0 zz1 zz2 zz3
  clear hW10
  clear hgb
  have Q10 : Hid (∀ W, Below W10.heap.size W10 W → (∀ q, w7.heap.size ≤ q → q ≤ gb → W.heap[q]? = W10.heap[q]?)) := fun W hW q _ h2 => hW.block q (by have := Z10.out.1; omega)
  have E10 : Hid (∀ W, Below W10.heap.size W10 W → Below W6.heap.size W6 W ∧ Below w7.heap.size w7 W) := fun W hW => by
    have h1 := chain B10.out hW
    exact ⟨chain D_w7.out h1, h1⟩
  have EQ := eq_both hpl hml hbl df W10 (AG10.out _ (fun _ _ _ => rfl)).1 (AW6.out _ (E10.out _ (Below.refl _ _)).1).1
  have EQ0 : Hid (∀ W', Below W10.heap.size W10 W' → Calls Try.prog 10 #[.agg #[.slice paG ps.length pcG, .slice xaG ms.length xcG, .slice yaG bs.length ycG, .int .i64 df], .agg #[.slice paW ps.length pcW, .slice xaW ms.length xcW, .slice yaW bs.length ycW, .int .i64 df]] W' fun e w' => e = .returned (.bool true) ∧ Below W'.heap.size W' w') := EQ
  clear EQ
  have p_W10 : Hid (Below W10.heap.size W10 W10) := Below.refl _ _
  have hbxA := (AG10.out W10 (Q10.out W10 p_W10.out)).2.1
  have hbxW := (AW6.out W10 (E10.out W10 p_W10.out).1).2
  have y0 := blkCell hbxA 0 _ rfl
  have z0 := blkCell hbxW 0 _ rfl
  have y1 := blkCell hbxA 1 _ rfl
  have z1 := blkCell hbxW 1 _ rfl
  have y2 := blkCell hbxA 2 _ rfl
  have z2 := blkCell hbxW 2 _ rfl
  have y3 := blkCell hbxA 3 _ rfl
  have z3 := blkCell hbxW 3 _ rfl
  clear hbxA hbxW
  go_wp2_with fail
  (first | go_at_call 10 | skip)
  refine (EQ0.out _ p_W10.out).mono ?_
  rintro e w9 ⟨rfl, hb⟩
  have p_w9 : Hid (Below W10.heap.size W10 w9) := chain p_W10.out hb
  clear hb EQ0 p_W10 y0 z0 y1 z1 y2 z2 y3 z3
  -- the copies are as they were
  go_wp2_with fail
  (first | go_at_call 9 | skip)
  refine (hT_mn.out w9 (chain B_w7.out (E10.out _ p_w9.out).2)).mono ?_
  rintro e w10 ⟨rfl, hb, hz, hi, _⟩
  have p_w10 : Hid (Below W10.heap.size W10 w10) := chain p_w9.out hb
  have V1 : Hid (ReadsSe w10.heap.size w10 (some ⟨w9.heap.size, 0, none⟩) mn) := .inr ⟨_, _, rfl, hz, hi⟩
  have V2 : Hid (ReadsSe w10.heap.size w10 (some ⟨W6.heap.size, 0, none⟩) mn) := .inr ⟨_, _, rfl, Nat.lt_of_lt_of_le Xx_mn.out.1 (E10.out _ p_w10.out).2.size, Xx_mn.out.2.1.below (E10.out _ p_w10.out).2 Xx_mn.out.1⟩
  clear hb hz hi p_w9
  go_wp2_with fail
  (first | go_at_call 11 | skip)
  refine (eqSes_any _ _ _ _ mn hlen_mn w10 V2.out V1.out).mono ?_
  rintro e w11 ⟨rfl, hb⟩
  have p_w11 : Hid (Below W10.heap.size W10 w11) := chain p_w10.out hb
  clear hb V1 V2 p_w10
  go_wp2_with fail
  (first | go_at_call 9 | skip)
  refine (hT_bk.out w11 (chain B_w7.out (E10.out _ p_w11.out).2)).mono ?_
  rintro e w12 ⟨rfl, hb, hz, hi, _⟩
  have p_w12 : Hid (Below W10.heap.size W10 w12) := chain p_w11.out hb
  have V1 : Hid (ReadsSe w12.heap.size w12 (some ⟨w11.heap.size, 0, none⟩) bk) := .inr ⟨_, _, rfl, hz, hi⟩
  have V2 : Hid (ReadsSe w12.heap.size w12 (some ⟨w6.heap.size, 0, none⟩) bk) := .inr ⟨_, _, rfl, Nat.lt_of_lt_of_le Xx_bk.out.1 (E10.out _ p_w12.out).2.size, Xx_bk.out.2.1.below (E10.out _ p_w12.out).2 Xx_bk.out.1⟩
  clear hb hz hi p_w11
  go_wp2_with fail
  (first | go_at_call 11 | skip)
  refine (eqSes_any _ _ _ _ bk hlen_bk w12 V2.out V1.out).mono ?_
  rintro e w13 ⟨rfl, hb⟩
  have p_w13 : Hid (Below W10.heap.size W10 w13) := chain p_w12.out hb
  clear hb V1 V2 p_w12
  -- the copies are marked
  have M_mn : Hid (SesAt w13 W6.heap.size 0 mn ∧ FreeSe w13 W6.heap.size mn.length ∧ W6.heap.size < w13.heap.size) := by
    have hd := (E10.out _ p_w13.out).2
    exact ⟨Xx_mn.out.2.1.below hd Xx_mn.out.1, Xx_mn.out.2.2.below hd Xx_mn.out.1, Nat.lt_of_lt_of_le Xx_mn.out.1 hd.size⟩
  have M_bk : Hid (SesAt w13 w6.heap.size 0 bk ∧ FreeSe w13 w6.heap.size bk.length ∧ w6.heap.size < w13.heap.size) := by
    have hd := (E10.out _ p_w13.out).2
    exact ⟨Xx_bk.out.2.1.below hd Xx_bk.out.1, Xx_bk.out.2.2.below hd Xx_bk.out.1, Nat.lt_of_lt_of_le Xx_bk.out.1 hd.size⟩
  have SS : Hid (Below W6.heap.size W6 w13 ∧ Below w.heap.size w w13 ∧ W10.heap.size ≤ w13.heap.size ∧ (∀ q, w7.heap.size ≤ q → q ≤ gb → w13.heap[q]? = W10.heap[q]?)) := ⟨(E10.out _ p_w13.out).1, chain B_w7.out (E10.out _ p_w13.out).2, p_w13.out.size, Q10.out _ p_w13.out⟩
  clear p_w13
  have ZZ : Hid (W6.heap.size ≤ w7.heap.size ∧ w.heap.size ≤ W6.heap.size) := ⟨D_w7.out.size, B6.out.size⟩
  have ZB0 : Hid (W6.heap.size ≤ W6.heap.size ∧ W6.heap.size < w7.heap.size) := ⟨Nat.le_refl _, Xx_mn.out.1⟩
  have ZB1 : Hid (W6.heap.size < w6.heap.size ∧ w6.heap.size < w7.heap.size) := ⟨ZQ1.out, Xx_bk.out.1⟩
  obtain ⟨KA0, hKA0⟩ : ∃ K : Nat, K = 1 + mn.length * 2 := ⟨_, rfl⟩
  have MM0 : Hid (Mk W6.heap.size (mn.length * 2) w13 w13) := Mk.start M_mn.out.2.2 (ses_some M_mn.out.1) M_mn.out.2.1
  have HMA0 : Hid (Calls Try.prog 12 #[.slice (some ⟨W6.heap.size, 0, none⟩) mn.length mn.length, .int .i64 1] w13 fun e w' => e = .returned (.int .i64 (KA0 : Int)) ∧ Mk W6.heap.size (mn.length * 2) w13 w') := by
    have h := markSes_any W6.heap.size mn.length mn.length hlen_mn 1 (by omega) (by omega) w13 MM0.out
    rw [show ((1 : Nat) : Int) + (mn.length : Int) * 2 = (KA0 : Int) by omega] at h
    exact h
  clear MM0
  have hKB0 : 1 ≤ KA0 ∧ KA0 ≤ 20000000 := by omega
  clear hKA0
  go_wp2_with fail
  (first | go_at_call 12 | skip)
  refine HMA0.out.mono ?_
  rintro e w14 ⟨rfl, hm⟩
  have SN : Hid (Below W6.heap.size W6 w14 ∧ Below w.heap.size w w14 ∧ W10.heap.size ≤ w14.heap.size ∧ (∀ q, w7.heap.size ≤ q → q ≤ gb → w14.heap[q]? = W10.heap[q]?)) := by
    have h1 := hm.1.1
    have h2 := hm.1.2
    obtain ⟨s1, s2, s3, s4⟩ := SS.out
    have hz := ZZ.out
    have hq := Z10.out.1
    have hb0 := ZB0.out
    have hb1 := ZB1.out
    refine ⟨s1.trans (h1.mono (by omega)), s2.trans (h1.mono (by omega)), Nat.le_trans s3 h1.size, fun q k1 k2 => (h2.2 q (by omega) (by omega)).trans (s4 q k1 k2)⟩
  have MN_bk : Hid (SesAt w14 w6.heap.size 0 bk ∧ FreeSe w14 w6.heap.size bk.length ∧ w6.heap.size < w14.heap.size) := by
    have h2 := hm.1.2
    have hb0 := ZB0.out
    have hb1 := ZB1.out
    have hk : w14.heap[w6.heap.size]? = w13.heap[w6.heap.size]? := h2.2 _ (by omega) M_bk.out.2.2
    exact ⟨ses_block M_bk.out.1 hk, freeSe_block M_bk.out.2.1 hk, Nat.lt_of_lt_of_le M_bk.out.2.2 h2.1⟩
  clear M_bk
  have M_bk := MN_bk
  clear MN_bk
  clear hm HMA0 SS M_mn
  have SS := SN
  clear SN
  obtain ⟨KA1, hKA1⟩ : ∃ K : Nat, K = KA0 + bk.length * 2 := ⟨_, rfl⟩
  have MM1 : Hid (Mk w6.heap.size (bk.length * 2) w14 w14) := Mk.start M_bk.out.2.2 (ses_some M_bk.out.1) M_bk.out.2.1
  have HMA1 : Hid (Calls Try.prog 12 #[.slice (some ⟨w6.heap.size, 0, none⟩) bk.length bk.length, .int .i64 (KA0 : Int)] w14 fun e w' => e = .returned (.int .i64 (KA1 : Int)) ∧ Mk w6.heap.size (bk.length * 2) w14 w') := by
    have h := markSes_any w6.heap.size bk.length bk.length hlen_bk KA0 (by omega) (by omega) w14 MM1.out
    rw [show ((KA0 : Nat) : Int) + (bk.length : Int) * 2 = (KA1 : Int) by omega] at h
    exact h
  clear MM1
  have hKB1 : 1 ≤ KA1 ∧ KA1 ≤ 40000000 := by omega
  clear hKA1
  go_wp2_with fail
  (first | go_at_call 12 | skip)
  refine HMA1.out.mono ?_
  rintro e w15 ⟨rfl, hm⟩
  have SN : Hid (Below W6.heap.size W6 w15 ∧ Below w.heap.size w w15 ∧ W10.heap.size ≤ w15.heap.size ∧ (∀ q, w7.heap.size ≤ q → q ≤ gb → w15.heap[q]? = W10.heap[q]?)) := by
    have h1 := hm.1.1
    have h2 := hm.1.2
    obtain ⟨s1, s2, s3, s4⟩ := SS.out
    have hz := ZZ.out
    have hq := Z10.out.1
    have hb0 := ZB0.out
    have hb1 := ZB1.out
    refine ⟨s1.trans (h1.mono (by omega)), s2.trans (h1.mono (by omega)), Nat.le_trans s3 h1.size, fun q k1 k2 => (h2.2 q (by omega) (by omega)).trans (s4 q k1 k2)⟩
  clear hm HMA1 SS M_bk
  have SS := SN
  clear SN
  have hKAz : decide ((KA1 : Int) < 0) = false := decide_eq_false (by omega)
  have hKAy : ¬ ((KA1 : Int) < 0) := by omega
  clear hKB0 hKB1
  have Q18 : Hid (∀ W, Below w15.heap.size w15 W → (∀ q, w7.heap.size ≤ q → q ≤ gb → W.heap[q]? = W10.heap[q]?)) := fun W hW q h1 h2 => (hW.block q (by have := SS.out.2.2.1; have := Z10.out.1; omega)).trans (SS.out.2.2.2 q h1 h2)
  have EQ := eq_both hpl hml hbl df w15 (AG10.out _ SS.out.2.2.2).1 (AW6.out _ SS.out.1).1
  have EQ0 : Hid (∀ W', Below w15.heap.size w15 W' → Calls Try.prog 10 #[.agg #[.slice paG ps.length pcG, .slice xaG ms.length xcG, .slice yaG bs.length ycG, .int .i64 df], .agg #[.slice paW ps.length pcW, .slice xaW ms.length xcW, .slice yaW bs.length ycW, .int .i64 df]] W' fun e w' => e = .returned (.bool true) ∧ Below W'.heap.size W' w') := EQ
  clear EQ
  have p_w15 : Hid (Below w15.heap.size w15 w15) := Below.refl _ _
  have hbxA := (AG10.out w15 (Q18.out w15 p_w15.out)).2.1
  have hbxW := (AW6.out w15 (chain SS.out.1 p_w15.out)).2
  have y0 := blkCell hbxA 0 _ rfl
  have z0 := blkCell hbxW 0 _ rfl
  have y1 := blkCell hbxA 1 _ rfl
  have z1 := blkCell hbxW 1 _ rfl
  have y2 := blkCell hbxA 2 _ rfl
  have z2 := blkCell hbxW 2 _ rfl
  have y3 := blkCell hbxA 3 _ rfl
  have z3 := blkCell hbxW 3 _ rfl
  clear hbxA hbxW
  go_wp2_with fail
  (first | go_at_call 10 | skip)
  refine (EQ0.out _ p_w15.out).mono ?_
  rintro e w16 ⟨rfl, hb⟩
  have p_w16 : Hid (Below w15.heap.size w15 w16) := chain p_w15.out hb
  clear hb EQ0 p_w15 y0 z0 y1 z1 y2 z2 y3 z3
  -- the answer is marked, and held
  have G20 : Hid (w16.heap[gb]? = some (.cells #[.slice paG ps.length pcG, .slice xaG ms.length xcG, .slice yaG bs.length ycG, .int .i64 df] 29 (0, 0)) ∧ gb < w16.heap.size) := ⟨(AG10.out _ (Q18.out _ p_w16.out)).2.1, Nat.lt_of_lt_of_le Z10.out.1 (Nat.le_trans SS.out.2.2.1 p_w16.out.size)⟩
  have FF : Hid (Fr (fun q => w7.heap.size ≤ q ∧ q < gb) w16 w16) := Fr.refl _ _
  have hbx := (FF.out.block gb G20.out.2 (fun e => by omega)).trans G20.out.1
  have y0 := blkCell hbx 0 _ rfl
  have y1 := blkCell hbx 1 _ rfl
  have y2 := blkCell hbx 2 _ rfl
  have y3 := blkCell hbx 3 _ rfl
  clear hbx
  go_wp2_with fail
  (first | go_at_call 13 | skip)
  refine (HM1.out _ (AG10.out _ (Q18.out _ p_w16.out)).2.2 (Nat.le_trans (Nat.le_of_lt Z10.out.1) (Nat.le_trans SS.out.2.2.1 p_w16.out.size))).mono ?_
  rintro e w17 ⟨rfl, hf, hP⟩
  have FN : Hid (Fr (fun q => w7.heap.size ≤ q ∧ q < gb) w16 w17) := FF.out.trans hf
  have HP1 : Hid (P1 w17) := hP
  clear hf hP FF y0 y1 y2 y3
  have FF := FN
  clear FN
  have S22 : Hid (Below W6.heap.size W6 w17 ∧ Below w.heap.size w w17 ∧ w17.heap[gb]? = some (.cells #[.slice paG ps.length pcG, .slice xaG ms.length xcG, .slice yaG bs.length ycG, .int .i64 df] 29 (0, 0))) := by
    have h1 := chain SS.out.1 p_w16.out
    have h2 := chain SS.out.2.1 p_w16.out
    have hz := ZZ.out
    refine ⟨Fr.below h1 FF.out h1.size (fun q hq => by omega), Fr.below h2 FF.out h2.size (fun q hq => by omega), (FF.out.block gb G20.out.2 (fun e => by omega)).trans G20.out.1⟩
  clear FF G20 p_w16 Q18 SS HM1
  have p_m : Hid (Below w17.heap.size w17 w17) := Below.refl _ _
  have hbx := (p_m.out.block gb (blkLt S22.out.2.2)).trans S22.out.2.2
  have y0 := blkCell hbx 0 _ rfl
  have y1 := blkCell hbx 1 _ rfl
  have y2 := blkCell hbx 2 _ rfl
  have y3 := blkCell hbx 3 _ rfl
  clear hbx
  go_wp2_with fail
  (first | go_at_call 14 | skip)
  refine (HH1.out _ (HPl.out _ _ HP1.out p_m.out)).mono ?_
  rintro e w18 ⟨rfl, hb⟩
  have p_w18 : Hid (Below w17.heap.size w17 w18) := chain p_m.out hb
  clear hb p_m y0 y1 y2 y3
  -- another call
  have BX : Hid (Below w.heap.size w w18) := chain S22.out.2.1 p_w18.out
  go_wp2_with fail
  (first | go_at_call 9 | skip)
  refine (hT_mn.out w18 (chain S22.out.2.1 p_w18.out)).mono ?_
  rintro e w19 ⟨rfl, hb, hz, hi, hf⟩
  have p_w19 : Hid (Below w17.heap.size w17 w19) := chain p_w18.out hb
  have XH_mn : Hid (w18.heap.size < w19.heap.size ∧ SesAt w19 w18.heap.size 0 mn) := ⟨hz, hi⟩
  clear hb hz hi hf p_w18
  go_wp2_with fail
  (first | go_at_call 9 | skip)
  refine (hT_bk.out w19 (chain S22.out.2.1 p_w19.out)).mono ?_
  rintro e w20 ⟨rfl, hb, hz, hi, hf⟩
  have p_w20 : Hid (Below w17.heap.size w17 w20) := chain p_w19.out hb
  have XH_mn' : Hid (w18.heap.size < w20.heap.size ∧ SesAt w20 w18.heap.size 0 mn) := ⟨Nat.lt_of_lt_of_le XH_mn.out.1 hb.size, XH_mn.out.2.below hb XH_mn.out.1⟩
  clear XH_mn
  have XH_mn := XH_mn'
  clear XH_mn'
  have XH_bk : Hid (w19.heap.size < w20.heap.size ∧ SesAt w20 w19.heap.size 0 bk) := ⟨hz, hi⟩
  clear hb hz hi hf p_w19
  clear BX
  go_wp2_with fail
  (first | go_at_call 6 | skip)
  refine (hI.out _ _ w20 (.inr ⟨_, _, rfl, XH_mn.out.1, XH_mn.out.2⟩) (.inr ⟨_, _, rfl, XH_bk.out.1, XH_bk.out.2⟩)).mono ?_
  rintro e w21 ⟨paH, xaH, yaH, pcH, xcH, ycH, vsH, rfl, hAH, hb⟩
  have p28 : Hid (Below w17.heap.size w17 (w21.alloc (Obj.cells #[.slice paH ps.length pcH, .slice xaH ms.length xcH, .slice yaH bs.length ycH, .int .i64 df] 29))) := chain p_w20.out (chain hb (below_alloc _ _))
  have AH28 : Hid (∀ W, Below (w21.alloc (Obj.cells #[.slice paH ps.length pcH, .slice xaH ms.length xcH, .slice yaH bs.length ycH, .int .i64 df] 29)).heap.size (w21.alloc (Obj.cells #[.slice paH ps.length pcH, .slice xaH ms.length xcH, .slice yaH bs.length ycH, .int .i64 df] 29)) W → (AnsM w20.heap.size ps ms bs (.slice paH ps.length pcH) (.slice xaH ms.length xcH) (.slice yaH bs.length ycH) vsH W) ∧ W.heap[w21.heap.size]? = some (.cells #[.slice paH ps.length pcH, .slice xaH ms.length xcH, .slice yaH bs.length ycH, .int .i64 df] 29 (0, 0))) := fun W hW => ⟨own_later hAH (chain (below_alloc _ _) hW), (hW.block _ (by simp)).trans (heapNew _ _)⟩
  have hbxZ := (AW6.out (w21.alloc (Obj.cells #[.slice paH ps.length pcH, .slice xaH ms.length xcH, .slice yaH bs.length ycH, .int .i64 df] 29)) (chain S22.out.1 p28.out)).2
  have zz0 := blkCell hbxZ 0 _ rfl
  have zz1 := blkCell hbxZ 1 _ rfl
  have zz2 := blkCell hbxZ 2 _ rfl
  have zz3 := blkCell hbxZ 3 _ rfl
  clear hbxZ
  clear hb hAH p_w20 hI XH_mn XH_bk hT_mn hT_bk
  go_wp2_with fail
  generalize (w21.alloc (Obj.cells #[.slice paH ps.length pcH, .slice xaH ms.length xcH, .slice yaH bs.length ycH, .int .i64 df] 29)) = W28 at *
  clear zz0 zz1 zz2 zz3
  generalize w21.heap.size = hbx8 at *
  have EQ := eq_both hpl hml hbl df W28 (AH28.out _ (Below.refl _ _)).1 (AW6.out _ (chain S22.out.1 p28.out)).1
  have EQ0 : Hid (∀ W', Below W28.heap.size W28 W' → Calls Try.prog 10 #[.agg #[.slice paH ps.length pcH, .slice xaH ms.length xcH, .slice yaH bs.length ycH, .int .i64 df], .agg #[.slice paW ps.length pcW, .slice xaW ms.length xcW, .slice yaW bs.length ycW, .int .i64 df]] W' fun e w' => e = .returned (.bool true) ∧ Below W'.heap.size W' w') := EQ
  clear EQ
  have p_W28 : Hid (Below W28.heap.size W28 W28) := Below.refl _ _
  have hbxA := (AH28.out W28 p_W28.out).2
  have hbxW := (AW6.out W28 (chain S22.out.1 (chain p28.out p_W28.out))).2
  have y0 := blkCell hbxA 0 _ rfl
  have z0 := blkCell hbxW 0 _ rfl
  have y1 := blkCell hbxA 1 _ rfl
  have z1 := blkCell hbxW 1 _ rfl
  have y2 := blkCell hbxA 2 _ rfl
  have z2 := blkCell hbxW 2 _ rfl
  have y3 := blkCell hbxA 3 _ rfl
  have z3 := blkCell hbxW 3 _ rfl
  clear hbxA hbxW
  go_wp2_with fail
  (first | go_at_call 10 | skip)
  refine (EQ0.out _ p_W28.out).mono ?_
  rintro e w22 ⟨rfl, hb⟩
  have p_w22 : Hid (Below W28.heap.size W28 w22) := chain p_W28.out hb
  clear hb EQ0 p_W28 y0 z0 y1 z1 y2 z2 y3 z3
  have pe : Hid (Below w17.heap.size w17 w22) := chain p28.out p_w22.out
  clear p_w22 p28 AH28 AW6
  have hbx := (pe.out.block gb (blkLt S22.out.2.2)).trans S22.out.2.2
  have y0 := blkCell hbx 0 _ rfl
  have y1 := blkCell hbx 1 _ rfl
  have y2 := blkCell hbx 2 _ rfl
  have y3 := blkCell hbx 3 _ rfl
  clear hbx
  go_wp2_with fail
  (first | go_at_call 14 | skip)
  refine (HH1.out _ (HPl.out _ _ HP1.out pe.out)).mono ?_
  rintro e w23 ⟨rfl, hb⟩
  have p_w23 : Hid (Below w17.heap.size w17 w23) := chain pe.out hb
  clear hb pe y0 y1 y2 y3
  go_wp2
  go_ret
  exact ⟨rfl, chain S22.out.2.1 p_w23.out⟩
theorem walk (a : Option Addr) (len cap : Nat) (rs : List RSe) (a' : Option Addr) (len' cap' : Nat) (rs' : List RSe) (w : World) (h : IsSes w a len cap rs) (h' : IsSes w a' len' cap' rs') :
    Calls Try.prog 4 #[.slice a len cap, .slice a' len' cap'] w fun e w' => e = .returned (.bool true) ∧ Below w.heap.size w w' := by
  obtain ⟨rfl, h2, h3, h4, h5⟩ := h
  obtain ⟨rfl, k2, k3, k4, k5⟩ := h'
  exact walk' a cap rs (Nat.le_trans h2 h3) h4 a' cap' rs' (Nat.le_trans k2 k3) k4 w h5 k5

theorem own : ownKnob Try.prog.godebug = none := by kernel_rfl
theorem laidOut : laidOutB Try.prog = true := by kernel_rfl

set_option maxRecDepth 100000 in
theorem lifted (os : Os) (started : os.Started) (H : Type) (enc : TypeId × Value → H) :
    ReturnsInHanded {} Try.checked os 4 .any (Rows.fnExactSettleSpec.pre6 enc Try.prog Try.f4 Rows.fnExactSettleRow.domain false) (Rows.fnExactSettleSpec.post enc Try.prog Try.f4 false true false false) := by
  refine returnsInHanded_of_change (C := Try.checked) own started (by kernel_rfl) Try.func4
    (ChangeSpec.witness6 (enc := enc) (C := Try.checked) false ⟨#[], #[.slice none 0 0, .slice none 0 0], []⟩ 8 (by kernel_rfl) (by kernel_rfl) (by kernel_rfl) (by kernel_rfl)) ?_
  intro W base args ds gs before hval0 hW hcnd _
  have hval : ∀ (j : Nat) t v, Try.f4.params[j]? = some t → args[j]? = some v → Value.okWide Try.prog W .any base t v := hval0
  have hW' := hW
  obtain ⟨p, q, hA0, hV, rfl, hfz, hnd⟩ := hW
  have hA : DataW.TrodAll enc Try.prog W 0 (fun _ => true) true Try.f4.params.toList args.toList ds p := hA0
  rw [Try.params4] at hA hval
  obtain ⟨v0, vs0, d0, ds0, p0, q0, hargs, rfl, rfl, h0, r0⟩ := trodAll_cons hA
  obtain ⟨v1, vs1, d1, ds1, p1, q1, rfl, rfl, rfl, h1, r1⟩ := trodAll_cons r0
  obtain ⟨rfl, rfl, rfl⟩ := trodAll_nil r1
  obtain rfl : args = #[v0, v1] := by cases args; simp_all
  obtain ⟨rfl, rfl⟩ := trodVars_none hV
  have k0 := h0
  have lt0 : ∀ x ∈ p0, x.block < W.heap.size := by obtain ⟨m, hm⟩ := k0; exact DataW.trod_lt m _ _ _ hm
  have k1 := h1
  have lt1 : ∀ x ∈ p1, x.block < W.heap.size := by obtain ⟨m, hm⟩ := k1; exact DataW.trod_lt m _ _ _ hm
  obtain ⟨a0, len0, cap0, rfl⟩ := okWide_slice Try.underlying35 (hval 0 35 v0 rfl rfl)
  obtain ⟨z0, w0⟩ : ∃ zs, IsSes W a0 len0 cap0 zs := by
    obtain ⟨fuel, hf⟩ := h0
    exact openSes (by simpa [Value.cells] using hf)
  obtain ⟨a1, len1, cap1, rfl⟩ := okWide_slice Try.underlying35 (hval 1 35 v1 rfl rfl)
  obtain ⟨z1, w1⟩ : ∃ zs, IsSes W a1 len1 cap1 zs := by
    obtain ⟨fuel, hf⟩ := h1
    exact openSes (by simpa [Value.cells] using hf)
  clear hA0 hval0
  refine (walk a0 len0 cap0 z0 a1 len1 cap1 z1 W w0 w1).mono fun e W' ⟨he, bel⟩ => ?_
  subst he
  exact ⟨_, rfl, _, _, _, [], _, [], hW', trodAll_mk1 (shut_bool Try.underlying4 _), (trodAll_cons_mk (Below.trod laidOut (by kernel_rfl) (of_decide_eq_true (by kernel_rfl)) k0 bel lt0) (trodAll_cons_mk (Below.trod laidOut (by kernel_rfl) (of_decide_eq_true (by kernel_rfl)) k1 bel lt1) trodAll_mk0)), rfl, bel.frame _, fun h => by cases h⟩

theorem over : Rows.fnExactSettleRow.holds Try.pinned (OpenSpec.ofChange Rows.fnExactSettleSpec) :=
  OpenClaim.holds_of_wide 4 Try.f4 rfl rfl rfl rfl rfl rfl rfl ⟨rfl, rfl, rfl, rfl, rfl⟩ rfl rfl rfl rfl rfl (by kernel_rfl) Try.func4 (by kernel_rfl)
    (of_decide_eq_true (by kernel_rfl)) (by unfold Func.isWrapper; first | (rw [if_pos (by decide +kernel)]; kernel_rfl) | (rw [if_neg (by decide +kernel)]; exact ⟨rfl, rfl⟩))
    (fun os started H enc _ => lifted os started H enc)
end SettleLaw

theorem fnExactSettle_holds : Rows.FnExactSettleSaid := SettleLaw.over
end Go.Proofs.Ytgjffmeafdpfhaa
