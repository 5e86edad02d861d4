/-
  For every list of acts the law FnExactStockRun answers true: the program's StockRun answers as the specification's, field by field, writes into no argument, and its answer owns its memory; with no condition.
-/
import Derived.Test.YtdhdecbdcfdmeaaKsG
import Derived.Test.YtdhdecbdcfdmeaaSkM
import Derived.Test.YtdhdecbdcfdmeaaSkF
namespace Go.Proofs.Ytdhdecbdcfdmeaa
open Go.ChangeShapes Go.WideShapes Go.ChangeAt Go.RowKit Go.Joins Go.Deep
set_option linter.unusedVariables false

namespace StockLaw
theorem own_same {B : Nat} {os : List (Int × Int)} {L : List RSl} {tv lv : Value} {W W' : World} (h : AnsK B os L tv lv W) (hs : ∀ q, B ≤ q → q < W.heap.size → W'.heap[q]? = W.heap[q]?) : AnsK B os L tv lv W' :=
  ⟨row_of h.1 (fun q hq => hs q (row_lt h.1 q hq).1 (row_lt h.1 q hq).2), row_of h.2 (fun q hq => hs q (row_lt h.2 q hq).1 (row_lt h.2 q hq).2)⟩
theorem own_later {B : Nat} {os : List (Int × Int)} {L : List RSl} {tv lv : Value} {W W' : World} (h : AnsK B os L tv lv W) (hb : Below W.heap.size W W') : AnsK B os L tv lv W' := own_same h (fun q _ h2 => hb.block q h2)
theorem eq_both {os : List (Int × Int)} {L : List RSl} (hol : os.length ≤ 200) (hll : L.length ≤ 60) (d r sd wa sh : Int) {ta1 la1 ta2 la2 : Option Addr} {tc1 lc1 tc2 lc2 B1 B2 : Nat} (W : World)
    (h1 : AnsK B1 os L (.slice ta1 os.length tc1) (.slice la1 L.length lc1) W) (h2 : AnsK B2 os L (.slice ta2 os.length tc2) (.slice la2 L.length lc2) W) :
    (∀ W', Below W.heap.size W W' → Calls Try.prog 13 #[.slice ta1 os.length tc1, .slice ta2 os.length tc2] W' fun e w' => e = .returned (.bool true) ∧ Below W'.heap.size W' w') ∧
    ∀ W', Below W.heap.size W W' → Calls Try.prog 14 #[.agg #[.int .i64 d, .int .i64 r, .int .i64 sd, .int .i64 wa, .int .i64 sh, .slice la1 L.length lc1], .agg #[.int .i64 d, .int .i64 r, .int .i64 sd, .int .i64 wa, .int .i64 sh, .slice la2 L.length lc2]] W' fun e w' => e = .returned (.bool true) ∧ Below W'.heap.size W' w' := by
  refine ⟨fun W' hW => ?_, fun W' hW => ?_⟩
  · have k1 := own_later h1 hW
    have k2 := own_later h2 hW
    have := eqSos_any ta1 ta2 tc1 tc2 (obS os) (by rw [obS_len]; omega) W' (told_readsS k1.1) (told_readsS k2.1)
    rwa [obS_len] at this
  · have k1 := own_later h1 hW
    have k2 := own_later h2 hW
    exact eqStk_any d r sd wa sh la1 la2 lc1 lc2 L (by omega) W' (sl_reads k1.2) (sl_reads k2.2)
theorem apart {W : World} {B B' n n' k k' : Nat} {t t' : TypeId} {v v' : Value} {xs xs' : List Value} (h : W.ownsRow B t k v n xs) (h' : W.ownsRow B' t' k' v' n' xs') (ht : t ≠ t') (q : Nat) (hq : v.ownBlock = some q) : v'.ownBlock ≠ some q := fun e => by
  obtain ⟨c1, h1⟩ := row_type h hq
  obtain ⟨c2, h2⟩ := row_type h' e
  rw [h1] at h2
  simp at h2
  exact ht h2.2
theorem marks_of {os : List (Int × Int)} {L : List RSl} (hol : os.length ≤ 200) (hll : L.length ≤ 60) (d r sd wa sh : Int) {ta la : Option Addr} {tc lc B : Nat} {W0 : World} (h : AnsK B os L (.slice ta os.length tc) (.slice la L.length lc) W0) :
    ∃ (K1 K2 : Nat) (P1 P2 : World → Prop),
      (∀ W, (∀ q, B ≤ q → q < W0.heap.size → W.heap[q]? = W0.heap[q]?) → W0.heap.size ≤ W.heap.size → Calls Try.prog 17 #[.slice ta os.length tc, .int .i64 1] W fun e w' => e = .returned (.int .i64 (K1 : Int)) ∧ Fr (fun q => B ≤ q ∧ q < W0.heap.size) W w' ∧ P1 w') ∧
      (∀ W, P1 W → Calls Try.prog 18 #[.agg #[.int .i64 d, .int .i64 r, .int .i64 sd, .int .i64 wa, .int .i64 sh, .slice la L.length lc], .int .i64 (K1 : Int)] W fun e w' => e = .returned (.int .i64 (K2 : Int)) ∧ Fr (fun q => B ≤ q ∧ q < W0.heap.size) W w' ∧ P2 w') ∧
      (∀ W, P2 W → Calls Try.prog 19 #[.slice ta os.length tc, .int .i64 1] W fun e w' => e = .returned (.int .i64 (K1 : Int)) ∧ Below W.heap.size W w') ∧
      (∀ W, P2 W → Calls Try.prog 20 #[.agg #[.int .i64 d, .int .i64 r, .int .i64 sd, .int .i64 wa, .int .i64 sh, .slice la L.length lc], .int .i64 (K1 : Int)] W fun e w' => e = .returned (.int .i64 (K2 : Int)) ∧ Below W.heap.size W w') ∧
      (∀ W W', P2 W → Below W.heap.size W W' → P2 W') := by
  refine ⟨1 + os.length * 2, 1 + os.length * 2 + L.length * 5, fun W => W.ownsRow B 36 2 (.slice ta os.length tc) os.length (mkV 1 (os.length * 2)) ∧ W.ownsRow B 38 5 (.slice la L.length lc) L.length (slCells L),
    fun W => W.ownsRow B 36 2 (.slice ta os.length tc) os.length (mkV 1 (os.length * 2)) ∧ W.ownsRow B 38 5 (.slice la L.length lc) L.length (mkA (fSl (1 + os.length * 2)) (L.length * 5)), fun W hW hz => ?_, fun W hW => ?_, fun W hW => ?_, fun W hW => ?_, fun W W' hW hb => ?_⟩
  · have hR := own_same h hW
    refine (markSo_row B _ os.length (by omega) 1 (by omega) _ W hR.1).mono ?_
    rintro e w' ⟨he, hf, hro⟩
    exact ⟨he, hf.mono (fun q hq => row_lt h.1 q hq), hro, row_of hR.2 (fun q hq => hf.block q (row_lt hR.2 q hq).2 (fun e => apart hR.2 hR.1 (by decide) q hq e))⟩
  · refine (markStk_any B d r sd wa sh _ L.length (by omega) _ (by omega) (by omega) _ W hW.2).mono ?_
    rintro e w' ⟨he, hf, hro⟩
    exact ⟨he, hf.mono (fun q hq => row_lt h.2 q hq), row_of hW.1 (fun q hq => hf.block q (row_lt hW.1 q hq).2 (fun e => apart hW.1 hW.2 (by decide) q hq e)), hro⟩
  · exact heldSo_row B _ os.length (by omega) 1 (by omega) W hW.1
  · exact heldStk_any B d r sd wa sh _ L.length (by omega) _ (by omega) (by omega) W hW.2
  · exact ⟨row_of hW.1 (fun q hq => hb.block q (row_lt hW.1 q hq).2), row_of hW.2 (fun q hq => hb.block q (row_lt hW.2 q hq).2)⟩
set_option maxHeartbeats 16000000 in
set_option maxRecDepth 8000 in
theorem walk' (rsa : Option Addr) (rsc : Nat) (rs : List RSk) (hl_rs : rs.length ≤ maxLen) (hp_rs : ∀ r ∈ rs, SkWide r) (w : World) (hr_rs : ReadsSk w.heap.size w rsa rs) :
    Calls Try.prog 4 #[.slice rsa rs.length rsc] w fun e w' => e = .returned (.bool true) ∧ Below w.heap.size w w' := by
  have HR_rs : Hid (ReadsSk w.heap.size w rsa rs) := hr_rs
  have HZ_rs : Hid (∀ W x, 0 ≤ x → x ≤ 1048576 → ReadsSk W.heap.size W rsa rs → Calls Try.prog 10 #[.slice rsa rs.length rsc, .int .i64 x] W fun e w' => ∃ y : Int, e = .returned (.int .i64 y) ∧ (y < 0 ∨ (0 ≤ y ∧ y ≤ 1048576 ∧ rs.length ≤ 1048576 ∧ ∀ r ∈ rs, SkOK r)) ∧ Below W.heap.size W w') := fun W x h0 h1 h => (szSks_any rsa rsc rs hl_rs hp_rs x h0 h1 W h).mono (by rintro e w' h; exact h)
  clear hr_rs
  have HWd_rs : Hid (∀ r ∈ rs, SkWide r) := hp_rs
  clear hp_rs
  go_enter Try.func4, Try.ntmps4
  have B0 : Hid (Below w.heap.size w w) := Below.refl _ _
  go_wp2_with fail
  (first | go_at_call 10 | skip)
  refine (HZ_rs.out w 1048576 (by omega) (by omega) ((HR_rs.out.below B0.out).mono B0.out.size)).mono ?_
  rintro e w1 ⟨x0, rfl, hy, hb⟩
  have KX0 : Hid (x0 < 0 ∨ (0 ≤ x0 ∧ x0 ≤ 1048576 ∧ rs.length ≤ 1048576 ∧ ∀ r ∈ rs, SkOK r)) := hy
  have BZ0 : Hid (Below w.heap.size w w1) := chain B0.out hb
  clear hy hb
  by_cases hneg0 : x0 < 0
  · go_wp2
    go_ret
    exact ⟨rfl, BZ0.out⟩
  obtain ⟨hx0, hlen_rs, hok_rs⟩ : (0 ≤ x0 ∧ x0 ≤ 1048576) ∧ rs.length ≤ 1048576 ∧ ∀ r ∈ rs, SkOK r := by
    rcases KX0.out with h | ⟨h0, h1, h2, h3⟩
    · omega
    · exact ⟨⟨h0, h1⟩, h2, h3⟩
  have HOK_rs : Hid (∀ r ∈ rs, SkOK r) := hok_rs
  clear hok_rs KX0 HZ_rs
  have hT_rs : Hid (∀ W, Below w.heap.size w W → Calls Try.prog 12 #[.slice rsa rs.length rsc] W fun e w' => e = .returned (.slice (some ⟨W.heap.size, 0, none⟩) rs.length rs.length) ∧ Below W.heap.size W w' ∧ W.heap.size < w'.heap.size ∧ SksAt w' W.heap.size 0 rs ∧ FreeSk w' W.heap.size rs.length) := fun W hW => toSks_any rsa rsc rs hlen_rs W ((HR_rs.out.below hW).mono hW.size)
  have hS : Hid (∀ rsx W, ReadsSk W.heap.size W rsx rs → Calls Try.prog 11 #[.slice rsx rs.length rs.length] W (StkA (srO rs) (srS rs) (srC rs) W)) := fun ia W h1 => specStk_any ia rs.length rs HOK_rs.out W h1
  have hI : Hid (∀ rsx W, ReadsSk W.heap.size W rsx rs → Calls Try.prog 7 #[.slice rsx rs.length rs.length] W (StkA (srO rs) (srS rs) (srC rs) W)) := fun ia W h1 => implStk_any ia rs.length rs HWd_rs.out HOK_rs.out W h1
  obtain ⟨hol, hll⟩ := sr_sizes rs
  unfold StkA at hS hI
  generalize srO rs = os at *
  generalize srC rs = c at *
  generalize (srS rs).day = d at *
  generalize (srS rs).rc = r at *
  generalize (srS rs).sd = sd at *
  generalize (srS rs).wa = wa at *
  generalize (srS rs).sh = sh at *
  generalize (srS rs).L = L at *
  clear HWd_rs
  clear HR_rs
  have hcc : ∀ x : Int, (x != x) = false := fun x => by simp
  have hcc_c := hcc (c)
  clear hcc
  -- the specification's answer
  go_wp2_with fail
  (first | go_at_call 12 | skip)
  refine (hT_rs.out w1 BZ0.out).mono ?_
  rintro e w2 ⟨rfl, hb, hz, hi, hf⟩
  have B_w2 : Hid (Below w.heap.size w w2) := chain BZ0.out hb
  have Xs_rs : Hid (w1.heap.size < w2.heap.size ∧ SksAt w2 w1.heap.size 0 rs ∧ FreeSk w2 w1.heap.size rs.length) := ⟨hz, hi, hf⟩
  clear hb hz hi hf
  go_wp2_with fail
  (first | go_at_call 11 | skip)
  refine (hS.out _ w2 (.inr ⟨_, _, rfl, Xs_rs.out.1, Xs_rs.out.2.1⟩)).mono ?_
  rintro e w3 ⟨taW, tcW, laW, lcW, rfl, hAW, hb⟩
  have AW5 : Hid (AnsK w2.heap.size os L (.slice taW os.length tcW) (.slice laW L.length lcW) w3) := hAW
  have B5 : Hid (Below w.heap.size w w3) := chain B_w2.out hb
  clear hb hAW hS Xs_rs
  have AW6 : Hid (∀ W, Below (w3.alloc (Obj.cells #[.int .i64 d, .int .i64 r, .int .i64 sd, .int .i64 wa, .int .i64 sh, .slice laW L.length lcW] 29)).heap.size (w3.alloc (Obj.cells #[.int .i64 d, .int .i64 r, .int .i64 sd, .int .i64 wa, .int .i64 sh, .slice laW L.length lcW] 29)) W → (AnsK w2.heap.size os L (.slice taW os.length tcW) (.slice laW L.length lcW) W) ∧ W.heap[w3.heap.size]? = some (.cells #[.int .i64 d, .int .i64 r, .int .i64 sd, .int .i64 wa, .int .i64 sh, .slice laW L.length lcW] 29 (0, 0))) := fun W hW => ⟨own_later AW5.out (chain (below_alloc _ _) hW), (hW.block _ (by simp)).trans (heapNew _ _)⟩
  have B6 : Hid (Below w.heap.size w (w3.alloc (Obj.cells #[.int .i64 d, .int .i64 r, .int .i64 sd, .int .i64 wa, .int .i64 sh, .slice laW L.length lcW] 29))) := chain B5.out (below_alloc _ _)
  go_wp2_with fail
  generalize (w3.alloc (Obj.cells #[.int .i64 d, .int .i64 r, .int .i64 sd, .int .i64 wa, .int .i64 sh, .slice laW L.length lcW] 29)) = W6 at *
  generalize w3.heap.size = bw at *
  clear AW5 B5
  -- the copies, and the program's answer
  go_wp2_with fail
  (first | go_at_call 12 | skip)
  refine (hT_rs.out W6 B6.out).mono ?_
  rintro e w4 ⟨rfl, hb, hz, hi, hf⟩
  have B_w4 : Hid (Below w.heap.size w w4) := chain B6.out hb
  have D_w4 : Hid (Below W6.heap.size W6 w4) := hb
  have Xx_rs : Hid (W6.heap.size < w4.heap.size ∧ SksAt w4 W6.heap.size 0 rs ∧ FreeSk w4 W6.heap.size rs.length) := ⟨hz, hi, hf⟩
  clear hb hz hi hf
  go_wp2_with fail
  (first | go_at_call 7 | skip)
  refine (hI.out _ w4 (.inr ⟨_, _, rfl, Xx_rs.out.1, Xx_rs.out.2.1⟩)).mono ?_
  rintro e w5 ⟨taG, tcG, laG, lcG, rfl, hAG, hb9⟩
  have AG9 : Hid (AnsK w4.heap.size os L (.slice taG os.length tcG) (.slice laG L.length lcG) w5) := hAG
  have HMk := marks_of hol hll d r sd wa sh AG9.out
  obtain ⟨K1, K2, P1, P2, hm1, hm2, hh1, hh2, hPl⟩ := HMk
  have HM1 : Hid (∀ W, (∀ q, w4.heap.size ≤ q → q < w5.heap.size → W.heap[q]? = w5.heap[q]?) → w5.heap.size ≤ W.heap.size → Calls Try.prog 17 #[.slice taG os.length tcG, .int .i64 1] W fun e w' => e = .returned (.int .i64 (K1 : Int)) ∧ Fr (fun q => w4.heap.size ≤ q ∧ q < w5.heap.size) W w' ∧ P1 w') := hm1
  have HM2 : Hid (∀ W, P1 W → Calls Try.prog 18 #[.agg #[.int .i64 d, .int .i64 r, .int .i64 sd, .int .i64 wa, .int .i64 sh, .slice laG L.length lcG], .int .i64 (K1 : Int)] W fun e w' => e = .returned (.int .i64 (K2 : Int)) ∧ Fr (fun q => w4.heap.size ≤ q ∧ q < w5.heap.size) W w' ∧ P2 w') := hm2
  have HH1 : Hid (∀ W, P2 W → Calls Try.prog 19 #[.slice taG os.length tcG, .int .i64 1] W fun e w' => e = .returned (.int .i64 (K1 : Int)) ∧ Below W.heap.size W w') := hh1
  have HH2 : Hid (∀ W, P2 W → Calls Try.prog 20 #[.agg #[.int .i64 d, .int .i64 r, .int .i64 sd, .int .i64 wa, .int .i64 sh, .slice laG L.length lcG], .int .i64 (K1 : Int)] W fun e w' => e = .returned (.int .i64 (K2 : Int)) ∧ Below W.heap.size W w') := hh2
  have HPl : Hid (∀ W W', P2 W → Below W.heap.size W W' → P2 W') := hPl
  have hKK : ((K2 : Int) != (K2 : Int)) = false := by simp
  have hKn1 : ¬ (K1 : Int) < 0 := by omega
  have hKn2 : ¬ (K2 : Int) < 0 := by omega
  have B10 : Hid (Below w4.heap.size w4 (w5.alloc (Obj.cells #[.int .i64 d, .int .i64 r, .int .i64 sd, .int .i64 wa, .int .i64 sh, .slice laG L.length lcG] 29))) := chain hb9 (below_alloc _ _)
  have AG10 : Hid (∀ W, (∀ q, w4.heap.size ≤ q → q ≤ w5.heap.size → W.heap[q]? = (w5.alloc (Obj.cells #[.int .i64 d, .int .i64 r, .int .i64 sd, .int .i64 wa, .int .i64 sh, .slice laG L.length lcG] 29)).heap[q]?) → (AnsK w4.heap.size os L (.slice taG os.length tcG) (.slice laG L.length lcG) W) ∧ W.heap[w5.heap.size]? = some (.cells #[.int .i64 d, .int .i64 r, .int .i64 sd, .int .i64 wa, .int .i64 sh, .slice laG L.length lcG] 29 (0, 0)) ∧ (∀ q, w4.heap.size ≤ q → q < w5.heap.size → W.heap[q]? = w5.heap[q]?)) := fun W hW => by
    have h1 : ∀ q, w4.heap.size ≤ q → q < w5.heap.size → W.heap[q]? = w5.heap[q]? := fun q h1 h2 => (hW q h1 (by omega)).trans (Below.heap_alloc _ _ _ h2)
    exact ⟨own_same AG9.out h1, (hW _ hb9.size (Nat.le_refl _)).trans (heapNew _ _), h1⟩
  have Z10 : Hid (w5.heap.size < (w5.alloc (Obj.cells #[.int .i64 d, .int .i64 r, .int .i64 sd, .int .i64 wa, .int .i64 sh, .slice laG L.length lcG] 29)).heap.size ∧ w4.heap.size ≤ w5.heap.size) := ⟨by simp, hb9.size⟩
  clear hb9 hAG hPl AG9 hm1 hh1 hm2 hh2
  go_wp2_with fail
  generalize hW10 : (w5.alloc (Obj.cells #[.int .i64 d, .int .i64 r, .int .i64 sd, .int .i64 wa, .int .i64 sh, .slice laG L.length lcG] 29)) = W10 at *
  generalize hgb : w5.heap.size = gb at *
  clear hW10
  clear hgb
  have Q10 : Hid (∀ W, Below W10.heap.size W10 W → (∀ q, w4.heap.size ≤ q → q ≤ gb → W.heap[q]? = W10.heap[q]?)) := fun W hW q _ h2 => hW.block q (by have := Z10.out.1; omega)
  have E10 : Hid (∀ W, Below W10.heap.size W10 W → Below W6.heap.size W6 W ∧ Below w4.heap.size w4 W) := fun W hW => by
    have h1 := chain B10.out hW
    exact ⟨chain D_w4.out h1, h1⟩
  have EQ := eq_both hol hll d r sd wa sh W10 (AG10.out _ (fun _ _ _ => rfl)).1 (AW6.out _ (E10.out _ (Below.refl _ _)).1).1
  have EQ0 : Hid (∀ W', Below W10.heap.size W10 W' → Calls Try.prog 13 #[.slice taG os.length tcG, .slice taW os.length tcW] W' fun e w' => e = .returned (.bool true) ∧ Below W'.heap.size W' w') := EQ.1
  have EQ1 : Hid (∀ W', Below W10.heap.size W10 W' → Calls Try.prog 14 #[.agg #[.int .i64 d, .int .i64 r, .int .i64 sd, .int .i64 wa, .int .i64 sh, .slice laG L.length lcG], .agg #[.int .i64 d, .int .i64 r, .int .i64 sd, .int .i64 wa, .int .i64 sh, .slice laW L.length lcW]] W' fun e w' => e = .returned (.bool true) ∧ Below W'.heap.size W' w') := EQ.2
  clear EQ
  have p_W10 : Hid (Below W10.heap.size W10 W10) := Below.refl _ _
  go_wp2_with fail
  (first | go_at_call 13 | skip)
  refine (EQ0.out _ p_W10.out).mono ?_
  rintro e w6 ⟨rfl, hb⟩
  have p_w6 : Hid (Below W10.heap.size W10 w6) := chain p_W10.out hb
  clear hb EQ0 p_W10 
  have hbxA := (AG10.out w6 (Q10.out w6 p_w6.out)).2.1
  have hbxW := (AW6.out w6 (E10.out w6 p_w6.out).1).2
  have y0 := blkCell hbxA 0 _ rfl
  have z0 := blkCell hbxW 0 _ rfl
  have y1 := blkCell hbxA 1 _ rfl
  have z1 := blkCell hbxW 1 _ rfl
  have y2 := blkCell hbxA 2 _ rfl
  have z2 := blkCell hbxW 2 _ rfl
  have y3 := blkCell hbxA 3 _ rfl
  have z3 := blkCell hbxW 3 _ rfl
  have y4 := blkCell hbxA 4 _ rfl
  have z4 := blkCell hbxW 4 _ rfl
  have y5 := blkCell hbxA 5 _ rfl
  have z5 := blkCell hbxW 5 _ rfl
  clear hbxA hbxW
  go_wp2_with fail
  (first | go_at_call 14 | skip)
  refine (EQ1.out _ p_w6.out).mono ?_
  rintro e w7 ⟨rfl, hb⟩
  have p_w7 : Hid (Below W10.heap.size W10 w7) := chain p_w6.out hb
  clear hb EQ1 p_w6 y0 z0 y1 z1 y2 z2 y3 z3 y4 z4 y5 z5
  -- the copies are as they were
  go_wp2_with fail
  (first | go_at_call 12 | skip)
  refine (hT_rs.out w7 (chain B_w4.out (E10.out _ p_w7.out).2)).mono ?_
  rintro e w8 ⟨rfl, hb, hz, hi, _⟩
  have p_w8 : Hid (Below W10.heap.size W10 w8) := chain p_w7.out hb
  have V1 : Hid (ReadsSk w8.heap.size w8 (some ⟨w7.heap.size, 0, none⟩) rs) := .inr ⟨_, _, rfl, hz, hi⟩
  have V2 : Hid (ReadsSk w8.heap.size w8 (some ⟨W6.heap.size, 0, none⟩) rs) := .inr ⟨_, _, rfl, Nat.lt_of_lt_of_le Xx_rs.out.1 (E10.out _ p_w8.out).2.size, Xx_rs.out.2.1.below (E10.out _ p_w8.out).2 Xx_rs.out.1⟩
  clear hb hz hi p_w7
  go_wp2_with fail
  (first | go_at_call 15 | skip)
  refine (eqSks_any _ _ _ _ rs hlen_rs w8 V2.out V1.out).mono ?_
  rintro e w9 ⟨rfl, hb⟩
  have p_w9 : Hid (Below W10.heap.size W10 w9) := chain p_w8.out hb
  clear hb V1 V2 p_w8
  -- the copies are marked
  have M_rs : Hid (SksAt w9 W6.heap.size 0 rs ∧ FreeSk w9 W6.heap.size rs.length ∧ W6.heap.size < w9.heap.size) := by
    have hd := (E10.out _ p_w9.out).2
    exact ⟨Xx_rs.out.2.1.below hd Xx_rs.out.1, Xx_rs.out.2.2.below hd Xx_rs.out.1, Nat.lt_of_lt_of_le Xx_rs.out.1 hd.size⟩
  have SS : Hid (Below W6.heap.size W6 w9 ∧ Below w.heap.size w w9 ∧ W10.heap.size ≤ w9.heap.size ∧ (∀ q, w4.heap.size ≤ q → q ≤ gb → w9.heap[q]? = W10.heap[q]?)) := ⟨(E10.out _ p_w9.out).1, chain B_w4.out (E10.out _ p_w9.out).2, p_w9.out.size, Q10.out _ p_w9.out⟩
  clear p_w9
  have ZZ : Hid (W6.heap.size ≤ w4.heap.size ∧ w.heap.size ≤ W6.heap.size) := ⟨D_w4.out.size, B6.out.size⟩
  have ZB0 : Hid (W6.heap.size ≤ W6.heap.size ∧ W6.heap.size < w4.heap.size) := ⟨Nat.le_refl _, Xx_rs.out.1⟩
  obtain ⟨KA0, hKA0⟩ : ∃ K : Nat, K = 1 + rs.length * 5 := ⟨_, rfl⟩
  have MM0 : Hid (Mk W6.heap.size (rs.length * 5) w9 w9) := Mk.start M_rs.out.2.2 (sks_some M_rs.out.1) M_rs.out.2.1
  have HMA0 : Hid (Calls Try.prog 16 #[.slice (some ⟨W6.heap.size, 0, none⟩) rs.length rs.length, .int .i64 1] w9 fun e w' => e = .returned (.int .i64 (KA0 : Int)) ∧ Mk W6.heap.size (rs.length * 5) w9 w') := by
    have h := markSks_any W6.heap.size rs.length rs.length hlen_rs 1 (by omega) (by omega) w9 MM0.out
    rw [show ((1 : Nat) : Int) + (rs.length : Int) * 5 = (KA0 : Int) by omega] at h
    exact h
  clear MM0
  have hKB0 : 1 ≤ KA0 ∧ KA0 ≤ 20000000 := by omega
  clear hKA0
  go_wp2_with fail
  (first | go_at_call 16 | skip)
  refine HMA0.out.mono ?_
  rintro e w10 ⟨rfl, hm⟩
  have SN : Hid (Below W6.heap.size W6 w10 ∧ Below w.heap.size w w10 ∧ W10.heap.size ≤ w10.heap.size ∧ (∀ q, w4.heap.size ≤ q → q ≤ gb → w10.heap[q]? = W10.heap[q]?)) := by
    have h1 := hm.1.1
    have h2 := hm.1.2
    obtain ⟨s1, s2, s3, s4⟩ := SS.out
    have hz := ZZ.out
    have hq := Z10.out.1
    have hb0 := ZB0.out
    refine ⟨s1.trans (h1.mono (by omega)), s2.trans (h1.mono (by omega)), Nat.le_trans s3 h1.size, fun q k1 k2 => (h2.2 q (by omega) (by omega)).trans (s4 q k1 k2)⟩
  clear hm HMA0 SS M_rs
  have SS := SN
  clear SN
  have hKAz : decide ((KA0 : Int) < 0) = false := decide_eq_false (by omega)
  have hKAy : ¬ ((KA0 : Int) < 0) := by omega
  clear hKB0
  have Q18 : Hid (∀ W, Below w10.heap.size w10 W → (∀ q, w4.heap.size ≤ q → q ≤ gb → W.heap[q]? = W10.heap[q]?)) := fun W hW q h1 h2 => (hW.block q (by have := SS.out.2.2.1; have := Z10.out.1; omega)).trans (SS.out.2.2.2 q h1 h2)
  have EQ := eq_both hol hll d r sd wa sh w10 (AG10.out _ SS.out.2.2.2).1 (AW6.out _ SS.out.1).1
  have EQ0 : Hid (∀ W', Below w10.heap.size w10 W' → Calls Try.prog 13 #[.slice taG os.length tcG, .slice taW os.length tcW] W' fun e w' => e = .returned (.bool true) ∧ Below W'.heap.size W' w') := EQ.1
  have EQ1 : Hid (∀ W', Below w10.heap.size w10 W' → Calls Try.prog 14 #[.agg #[.int .i64 d, .int .i64 r, .int .i64 sd, .int .i64 wa, .int .i64 sh, .slice laG L.length lcG], .agg #[.int .i64 d, .int .i64 r, .int .i64 sd, .int .i64 wa, .int .i64 sh, .slice laW L.length lcW]] W' fun e w' => e = .returned (.bool true) ∧ Below W'.heap.size W' w') := EQ.2
  clear EQ
  have p_w10 : Hid (Below w10.heap.size w10 w10) := Below.refl _ _
  go_wp2_with fail
  (first | go_at_call 13 | skip)
  refine (EQ0.out _ p_w10.out).mono ?_
  rintro e w11 ⟨rfl, hb⟩
  have p_w11 : Hid (Below w10.heap.size w10 w11) := chain p_w10.out hb
  clear hb EQ0 p_w10 
  have hbxA := (AG10.out w11 (Q18.out w11 p_w11.out)).2.1
  have hbxW := (AW6.out w11 (chain SS.out.1 p_w11.out)).2
  have y0 := blkCell hbxA 0 _ rfl
  have z0 := blkCell hbxW 0 _ rfl
  have y1 := blkCell hbxA 1 _ rfl
  have z1 := blkCell hbxW 1 _ rfl
  have y2 := blkCell hbxA 2 _ rfl
  have z2 := blkCell hbxW 2 _ rfl
  have y3 := blkCell hbxA 3 _ rfl
  have z3 := blkCell hbxW 3 _ rfl
  have y4 := blkCell hbxA 4 _ rfl
  have z4 := blkCell hbxW 4 _ rfl
  have y5 := blkCell hbxA 5 _ rfl
  have z5 := blkCell hbxW 5 _ rfl
  clear hbxA hbxW
  go_wp2_with fail
  (first | go_at_call 14 | skip)
  refine (EQ1.out _ p_w11.out).mono ?_
  rintro e w12 ⟨rfl, hb⟩
  have p_w12 : Hid (Below w10.heap.size w10 w12) := chain p_w11.out hb
  clear hb EQ1 p_w11 y0 z0 y1 z1 y2 z2 y3 z3 y4 z4 y5 z5
  -- the answer is marked, and held
  have G20 : Hid (w12.heap[gb]? = some (.cells #[.int .i64 d, .int .i64 r, .int .i64 sd, .int .i64 wa, .int .i64 sh, .slice laG L.length lcG] 29 (0, 0)) ∧ gb < w12.heap.size) := ⟨(AG10.out _ (Q18.out _ p_w12.out)).2.1, Nat.lt_of_lt_of_le Z10.out.1 (Nat.le_trans SS.out.2.2.1 p_w12.out.size)⟩
  have FF : Hid (Fr (fun q => w4.heap.size ≤ q ∧ q < gb) w12 w12) := Fr.refl _ _
  go_wp2_with fail
  (first | go_at_call 17 | skip)
  refine (HM1.out _ (AG10.out _ (Q18.out _ p_w12.out)).2.2 (Nat.le_trans (Nat.le_of_lt Z10.out.1) (Nat.le_trans SS.out.2.2.1 p_w12.out.size))).mono ?_
  rintro e w13 ⟨rfl, hf, hP⟩
  have FN : Hid (Fr (fun q => w4.heap.size ≤ q ∧ q < gb) w12 w13) := FF.out.trans hf
  have HP1 : Hid (P1 w13) := hP
  clear hf hP FF 
  have FF := FN
  clear FN
  have hbx := (FF.out.block gb G20.out.2 (fun e => by omega)).trans G20.out.1
  have y0 := blkCell hbx 0 _ rfl
  have y1 := blkCell hbx 1 _ rfl
  have y2 := blkCell hbx 2 _ rfl
  have y3 := blkCell hbx 3 _ rfl
  have y4 := blkCell hbx 4 _ rfl
  have y5 := blkCell hbx 5 _ rfl
  clear hbx
  go_wp2_with fail
  (first | go_at_call 18 | skip)
  refine (HM2.out _ HP1.out).mono ?_
  rintro e w14 ⟨rfl, hf, hP⟩
  have FN : Hid (Fr (fun q => w4.heap.size ≤ q ∧ q < gb) w12 w14) := FF.out.trans hf
  have HP2 : Hid (P2 w14) := hP
  clear hf hP FF HP1 y0 y1 y2 y3 y4 y5
  have FF := FN
  clear FN
  have S22 : Hid (Below W6.heap.size W6 w14 ∧ Below w.heap.size w w14 ∧ w14.heap[gb]? = some (.cells #[.int .i64 d, .int .i64 r, .int .i64 sd, .int .i64 wa, .int .i64 sh, .slice laG L.length lcG] 29 (0, 0))) := by
    have h1 := chain SS.out.1 p_w12.out
    have h2 := chain SS.out.2.1 p_w12.out
    have hz := ZZ.out
    refine ⟨Fr.below h1 FF.out h1.size (fun q hq => by omega), Fr.below h2 FF.out h2.size (fun q hq => by omega), (FF.out.block gb G20.out.2 (fun e => by omega)).trans G20.out.1⟩
  clear FF G20 p_w12 Q18 SS HM1 HM2
  have p_m : Hid (Below w14.heap.size w14 w14) := Below.refl _ _
  go_wp2_with fail
  (first | go_at_call 19 | skip)
  refine (HH1.out _ (HPl.out _ _ HP2.out p_m.out)).mono ?_
  rintro e w15 ⟨rfl, hb⟩
  have p_w15 : Hid (Below w14.heap.size w14 w15) := chain p_m.out hb
  clear hb p_m 
  have hbx := (p_w15.out.block gb (blkLt S22.out.2.2)).trans S22.out.2.2
  have y0 := blkCell hbx 0 _ rfl
  have y1 := blkCell hbx 1 _ rfl
  have y2 := blkCell hbx 2 _ rfl
  have y3 := blkCell hbx 3 _ rfl
  have y4 := blkCell hbx 4 _ rfl
  have y5 := blkCell hbx 5 _ rfl
  clear hbx
  go_wp2_with fail
  (first | go_at_call 20 | skip)
  refine (HH2.out _ (HPl.out _ _ HP2.out p_w15.out)).mono ?_
  rintro e w16 ⟨rfl, hb⟩
  have p_w16 : Hid (Below w14.heap.size w14 w16) := chain p_w15.out hb
  clear hb p_w15 y0 y1 y2 y3 y4 y5
  -- another call
  have BX : Hid (Below w.heap.size w w16) := chain S22.out.2.1 p_w16.out
  go_wp2_with fail
  (first | go_at_call 12 | skip)
  refine (hT_rs.out w16 (chain S22.out.2.1 p_w16.out)).mono ?_
  rintro e w17 ⟨rfl, hb, hz, hi, hf⟩
  have p_w17 : Hid (Below w14.heap.size w14 w17) := chain p_w16.out hb
  have XH_rs : Hid (w16.heap.size < w17.heap.size ∧ SksAt w17 w16.heap.size 0 rs) := ⟨hz, hi⟩
  clear hb hz hi hf p_w16
  clear BX
  go_wp2_with fail
  (first | go_at_call 7 | skip)
  refine (hI.out _ w17 (.inr ⟨_, _, rfl, XH_rs.out.1, XH_rs.out.2⟩)).mono ?_
  rintro e w18 ⟨taH, tcH, laH, lcH, rfl, hAH, hb⟩
  have p28 : Hid (Below w14.heap.size w14 (w18.alloc (Obj.cells #[.int .i64 d, .int .i64 r, .int .i64 sd, .int .i64 wa, .int .i64 sh, .slice laH L.length lcH] 29))) := chain p_w17.out (chain hb (below_alloc _ _))
  have AH28 : Hid (∀ W, Below (w18.alloc (Obj.cells #[.int .i64 d, .int .i64 r, .int .i64 sd, .int .i64 wa, .int .i64 sh, .slice laH L.length lcH] 29)).heap.size (w18.alloc (Obj.cells #[.int .i64 d, .int .i64 r, .int .i64 sd, .int .i64 wa, .int .i64 sh, .slice laH L.length lcH] 29)) W → (AnsK w17.heap.size os L (.slice taH os.length tcH) (.slice laH L.length lcH) W) ∧ W.heap[w18.heap.size]? = some (.cells #[.int .i64 d, .int .i64 r, .int .i64 sd, .int .i64 wa, .int .i64 sh, .slice laH L.length lcH] 29 (0, 0))) := fun W hW => ⟨own_later hAH (chain (below_alloc _ _) hW), (hW.block _ (by simp)).trans (heapNew _ _)⟩
  clear hb hAH p_w17 hI XH_rs hT_rs
  go_wp2_with fail
  generalize (w18.alloc (Obj.cells #[.int .i64 d, .int .i64 r, .int .i64 sd, .int .i64 wa, .int .i64 sh, .slice laH L.length lcH] 29)) = W28 at *
  generalize w18.heap.size = hbx8 at *
  have EQ := eq_both hol hll d r sd wa sh W28 (AH28.out _ (Below.refl _ _)).1 (AW6.out _ (chain S22.out.1 p28.out)).1
  have EQ0 : Hid (∀ W', Below W28.heap.size W28 W' → Calls Try.prog 13 #[.slice taH os.length tcH, .slice taW os.length tcW] W' fun e w' => e = .returned (.bool true) ∧ Below W'.heap.size W' w') := EQ.1
  have EQ1 : Hid (∀ W', Below W28.heap.size W28 W' → Calls Try.prog 14 #[.agg #[.int .i64 d, .int .i64 r, .int .i64 sd, .int .i64 wa, .int .i64 sh, .slice laH L.length lcH], .agg #[.int .i64 d, .int .i64 r, .int .i64 sd, .int .i64 wa, .int .i64 sh, .slice laW L.length lcW]] W' fun e w' => e = .returned (.bool true) ∧ Below W'.heap.size W' w') := EQ.2
  clear EQ
  have p_W28 : Hid (Below W28.heap.size W28 W28) := Below.refl _ _
  go_wp2_with fail
  (first | go_at_call 13 | skip)
  refine (EQ0.out _ p_W28.out).mono ?_
  rintro e w19 ⟨rfl, hb⟩
  have p_w19 : Hid (Below W28.heap.size W28 w19) := chain p_W28.out hb
  clear hb EQ0 p_W28 
  have hbxA := (AH28.out w19 p_w19.out).2
  have hbxW := (AW6.out w19 (chain S22.out.1 (chain p28.out p_w19.out))).2
  have y0 := blkCell hbxA 0 _ rfl
  have z0 := blkCell hbxW 0 _ rfl
  have y1 := blkCell hbxA 1 _ rfl
  have z1 := blkCell hbxW 1 _ rfl
  have y2 := blkCell hbxA 2 _ rfl
  have z2 := blkCell hbxW 2 _ rfl
  have y3 := blkCell hbxA 3 _ rfl
  have z3 := blkCell hbxW 3 _ rfl
  have y4 := blkCell hbxA 4 _ rfl
  have z4 := blkCell hbxW 4 _ rfl
  have y5 := blkCell hbxA 5 _ rfl
  have z5 := blkCell hbxW 5 _ rfl
  clear hbxA hbxW
  go_wp2_with fail
  (first | go_at_call 14 | skip)
  refine (EQ1.out _ p_w19.out).mono ?_
  rintro e w20 ⟨rfl, hb⟩
  have p_w20 : Hid (Below W28.heap.size W28 w20) := chain p_w19.out hb
  clear hb EQ1 p_w19 y0 z0 y1 z1 y2 z2 y3 z3 y4 z4 y5 z5
  have pe : Hid (Below w14.heap.size w14 w20) := chain p28.out p_w20.out
  clear p_w20 p28 AH28 AW6
  go_wp2_with fail
  (first | go_at_call 19 | skip)
  refine (HH1.out _ (HPl.out _ _ HP2.out pe.out)).mono ?_
  rintro e w21 ⟨rfl, hb⟩
  have p_w21 : Hid (Below w14.heap.size w14 w21) := chain pe.out hb
  clear hb pe 
  have hbx := (p_w21.out.block gb (blkLt S22.out.2.2)).trans S22.out.2.2
  have y0 := blkCell hbx 0 _ rfl
  have y1 := blkCell hbx 1 _ rfl
  have y2 := blkCell hbx 2 _ rfl
  have y3 := blkCell hbx 3 _ rfl
  have y4 := blkCell hbx 4 _ rfl
  have y5 := blkCell hbx 5 _ rfl
  clear hbx
  go_wp2_with fail
  (first | go_at_call 20 | skip)
  refine (HH2.out _ (HPl.out _ _ HP2.out p_w21.out)).mono ?_
  rintro e w22 ⟨rfl, hb⟩
  have p_w22 : Hid (Below w14.heap.size w14 w22) := chain p_w21.out hb
  clear hb p_w21 y0 y1 y2 y3 y4 y5
  go_wp2
  go_ret
  exact ⟨rfl, chain S22.out.2.1 p_w22.out⟩
theorem walk (a : Option Addr) (len cap : Nat) (rs : List RSk) (w : World) (h : IsSks w a len cap rs) :
    Calls Try.prog 4 #[.slice a len cap] w fun e w' => e = .returned (.bool true) ∧ Below w.heap.size w w' := by
  obtain ⟨rfl, h2, h3, h4, h5⟩ := h
  exact walk' a cap rs (Nat.le_trans h2 h3) h4 w h5

theorem own : ownKnob Try.prog.godebug = none := by kernel_rfl
theorem laidOut : laidOutB Try.prog = true := by kernel_rfl

set_option maxRecDepth 100000 in
theorem lifted (os : Os) (started : os.Started) (H : Type) (enc : TypeId × Value → H) :
    ReturnsInHanded {} Try.checked os 4 .any (Rows.fnExactStockRunSpec.pre6 enc Try.prog Try.f4 Rows.fnExactStockRunRow.domain false) (Rows.fnExactStockRunSpec.post enc Try.prog Try.f4 false true false false) := by
  refine returnsInHanded_of_change (C := Try.checked) own started (by kernel_rfl) Try.func4
    (ChangeSpec.witness6 (enc := enc) (C := Try.checked) false ⟨#[], #[.slice none 0 0], []⟩ 8 (by kernel_rfl) (by kernel_rfl) (by kernel_rfl) (by kernel_rfl)) ?_
  intro W base args ds gs before hval0 hW hcnd _
  have hval : ∀ (j : Nat) t v, Try.f4.params[j]? = some t → args[j]? = some v → Value.okWide Try.prog W .any base t v := hval0
  have hW' := hW
  obtain ⟨p, q, hA0, hV, rfl, hfz, hnd⟩ := hW
  have hA : DataW.TrodAll enc Try.prog W 0 (fun _ => true) true Try.f4.params.toList args.toList ds p := hA0
  rw [Try.params4] at hA hval
  obtain ⟨v0, vs0, d0, ds0, p0, q0, hargs, rfl, rfl, h0, r0⟩ := trodAll_cons hA
  obtain ⟨rfl, rfl, rfl⟩ := trodAll_nil r0
  obtain rfl : args = #[v0] := by cases args; simp_all
  obtain ⟨rfl, rfl⟩ := trodVars_none hV
  have k0 := h0
  have lt0 : ∀ x ∈ p0, x.block < W.heap.size := by obtain ⟨m, hm⟩ := k0; exact DataW.trod_lt m _ _ _ hm
  obtain ⟨a0, len0, cap0, rfl⟩ := okWide_slice Try.underlying41 (hval 0 41 v0 rfl rfl)
  obtain ⟨z0, w0⟩ : ∃ zs, IsSks W a0 len0 cap0 zs := by
    obtain ⟨fuel, hf⟩ := h0
    exact openSks (by simpa [Value.cells] using hf)
  clear hA0 hval0
  refine (walk a0 len0 cap0 z0 W w0).mono fun e W' ⟨he, bel⟩ => ?_
  subst he
  exact ⟨_, rfl, _, _, _, [], _, [], hW', trodAll_mk1 (shut_bool Try.underlying4 _), (trodAll_cons_mk (Below.trod laidOut (by kernel_rfl) (of_decide_eq_true (by kernel_rfl)) k0 bel lt0) trodAll_mk0), rfl, bel.frame _, fun h => by cases h⟩

theorem over : Rows.fnExactStockRunRow.holds Try.pinned (OpenSpec.ofChange Rows.fnExactStockRunSpec) :=
  OpenClaim.holds_of_wide 4 Try.f4 rfl rfl rfl rfl rfl rfl rfl ⟨rfl, rfl, rfl, rfl, rfl⟩ rfl rfl rfl rfl rfl (by kernel_rfl) Try.func4 (by kernel_rfl)
    (of_decide_eq_true (by kernel_rfl)) (by unfold Func.isWrapper; first | (rw [if_pos (by decide +kernel)]; kernel_rfl) | (rw [if_neg (by decide +kernel)]; exact ⟨rfl, rfl⟩))
    (fun os started H enc _ => lifted os started H enc)
end StockLaw

theorem fnExactStockRun_holds : Rows.FnExactStockRunSaid := StockLaw.over
end Go.Proofs.Ytdhdecbdcfdmeaa
