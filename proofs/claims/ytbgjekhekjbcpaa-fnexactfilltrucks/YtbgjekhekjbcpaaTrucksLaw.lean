/-
  For every list of loads and every truck the law FnExactFillTrucks answers true: the program's FillTrucks answers as the specification's, writes into no argument, and its answer owns its memory; with no condition.
-/
import Derived.Test.YtbgjekhekjbcpaaTkD
import Derived.Test.YtbgjekhekjbcpaaLdM
import Derived.Test.YtbgjekhekjbcpaaLdF
import Derived.Test.YtbgjekhekjbcpaaOwn2
namespace Go.Proofs.Ytbgjekhekjbcpaa
open Go.ChangeShapes Go.WideShapes Go.ChangeAt Go.RowKit Go.Joins Go.Deep
set_option linter.unusedVariables false

namespace TrucksLaw
/-- L owns its memory; the slice has the capacity cp. -/
def OwnC (B : Nat) (W : World) (g : Option Addr) (cp : Nat) (L : List Int) : Prop := Own2 B W g L
def WfI (x : Int) : Prop := (Lit.int .i64 x).wf = true
theorem own_same {B : Nat} {L : List Int} {g : Option Addr} {cp : Nat} {W W' : World} (h : OwnC B W g cp L) (hs : ∀ q, B ≤ q → q < W.heap.size → W'.heap[q]? = W.heap[q]?) : OwnC B W' g cp L := by
  rcases h with h | ⟨b, hg, hB, hlt, hi, hf⟩
  · exact .inl h
  · have e := hs b hB hlt
    refine .inr ⟨b, hg, hB, blkLt (e.trans (Array.getElem?_eq_getElem hlt)), fun i h => (World.cell?_of_block (w := W) (a := ⟨b, 0 + i, none⟩) e).trans (hi i h), fun i h => (World.frozen?_of_block (w := W) (a := ⟨b, 0 + i, none⟩) e).trans (hf i h)⟩
theorem own_later {B : Nat} {L : List Int} {g : Option Addr} {cp : Nat} {W W' : World} (h : OwnC B W g cp L) (hb : Below W.heap.size W W') : OwnC B W' g cp L := own_same h (fun q _ h2 => hb.block q h2)
theorem eq_both {L : List Int} (hll : L.length ≤ 40) {ga1 ga2 : Option Addr} {gc1 gc2 B1 B2 : Nat} (W : World) (h1 : OwnC B1 W ga1 gc1 L) (h2 : OwnC B2 W ga2 gc2 L) :
    ∀ W', Below W.heap.size W W' → Calls Try.prog 26 #[.slice ga1 L.length gc1, .slice ga2 L.length gc2] W' fun e w' => e = .returned (.bool true) ∧ Below W'.heap.size W' w' := fun W' hW => by
  refine (eqInts_any W'.heap.size ga1 ga2 gc1 gc2 L L (by omega) (by omega) W' (Own2.reads (own_later h1 hW)) (Own2.reads (own_later h2 hW))).mono ?_
  rintro e w' ⟨rfl, hb⟩
  exact ⟨by rw [decide_eq_true rfl], hb⟩
set_option maxHeartbeats 1000000 in
theorem markR_any (b off n cap : Nat) (hn : n ≤ 100000000) (k0 : Int) (h0 : 0 ≤ k0) (h1 : k0 ≤ 100000000) (w : World) (hc : ∀ i, i < n → (w.cell? ⟨b, off + i, none⟩).isSome = true) (hf : FreeAt w b off n) :
    Calls Try.prog 29 #[.slice (some ⟨b, off, none⟩) n cap, .int .i64 k0] w fun e w' => e = .returned (.int .i64 (k0 + (n : Int))) ∧ (Fr (fun q => q = b) w w' ∧ Others b w w') ∧ IntsAt w' b off (marks k0 n) := by
  have HC : Hid (∀ i, i < n → (w.cell? ⟨b, off + i, none⟩).isSome = true) := hc
  have HF : Hid (FreeAt w b off n) := hf
  clear hc hf
  go_enter Try.func29, Try.ntmps29
  go_wp2
  go_loopw [1, 5] (fun k i wr => ∃ j : Nat, j ≤ n ∧ i = .int .i64 (j : Int) ∧ k = .int .i64 (k0 + (j : Int)) ∧ (Fr (fun q => q = b) w wr ∧ Others b w wr) ∧ (∀ i, i < n → (wr.cell? ⟨b, off + i, none⟩).isSome = true) ∧ ∀ i, i < j → wr.cell? ⟨b, off + i, none⟩ = some (.int .i64 (k0 + (i : Int)))) (fun _ i _ => n - (intOf i).toNat)
  case atStart => exact ⟨0, Nat.zero_le _, rfl, by simp, ⟨Fr.refl _ _, Others.refl _ _⟩, HC.out, fun i hi => by omega⟩
  case round =>
    obtain ⟨j, hj, rfl, rfl, ho, hs, hm⟩ := hrel
    have HO : Hid (Fr (fun q => q = b) w wr ∧ Others b w wr) := ho
    have HS : Hid (∀ i, i < n → (wr.cell? ⟨b, off + i, none⟩).isSome = true) := hs
    have HM : Hid (∀ i, i < j → wr.cell? ⟨b, off + i, none⟩ = some (.int .i64 (k0 + (i : Int)))) := hm
    clear ho hs hm
    by_cases hlt : j < n
    · have hlt' : (j : Int) < (n : Int) := by omega
      obtain ⟨v, hv⟩ := Option.isSome_iff_exists.mp (HS.out j hlt)
      have hfz : wr.frozen? ⟨b, off + j, none⟩ = false := (HO.out.2.2.1 b (off + j)).trans (HF.out j hlt)
      go_wp2
      go_roundw
      case rel =>
        refine ⟨j + 1, by omega, by go_num, by go_num, ⟨HO.out.1.set rfl _ _, HO.out.2.set _ _⟩, fun i hi => ?_, fun i hi => ?_⟩
        · by_cases e : i = j
          · rw [e, World.cell?_setCell_same _ _ _ hv]; rfl
          · rw [World.cell?_setCell_other _ _ _ _ (fun h => e (by first | (simp at h; omega) | (simp at h; done) | (cases h; rfl)))]; exact HS.out i hi
        · by_cases e : i = j
          · rw [e]; exact World.cell?_setCell_same _ _ _ hv
          · rw [World.cell?_setCell_other _ _ _ _ (fun h => e (by first | (simp at h; omega) | (simp at h; done) | (cases h; rfl)))]; exact HM.out i (by omega)
      case measure => simp [intOf]; omega
    · have e : j = n := by omega
      have HE : Hid (j = n) := e
      clear e
      go_wp2
      go_ret
      refine ⟨ret_int (by rw [HE.out]), HO.out, fun i hi => ?_⟩
      rw [marks_length] at hi
      rw [marks_getD k0 n i hi]
      exact HM.out i (by have := HE.out; omega)

theorem marks_of {L : List Int} (hll : L.length ≤ 40) {ga : Option Addr} {gc B : Nat} {W0 : World} (h : OwnC B W0 ga gc L) :
    ∃ (K1 : Nat) (P1 : World → Prop),
      (∀ W, (∀ q, B ≤ q → q < W0.heap.size → W.heap[q]? = W0.heap[q]?) → W0.heap.size ≤ W.heap.size → Calls Try.prog 29 #[.slice ga L.length gc, .int .i64 1] W fun e w' => e = .returned (.int .i64 (K1 : Int)) ∧ Fr (fun q => B ≤ q ∧ q < W0.heap.size) W w' ∧ P1 w') ∧
      (∀ W, P1 W → Calls Try.prog 30 #[.slice ga L.length gc, .int .i64 1] W fun e w' => e = .returned (.int .i64 (K1 : Int)) ∧ Below W.heap.size W w') ∧
      (∀ W W', P1 W → Below W.heap.size W W' → P1 W') := by
  have e1 : (1 : Int) + (L.length : Int) = ((1 + L.length : Nat) : Int) := by omega
  rcases h with h | ⟨b, hg, hB, hlt, hi, hf⟩
  · subst h
    refine ⟨1, fun _ => True, fun W _ _ => ?_, fun W _ => ?_, fun _ _ _ _ => trivial⟩
    · refine (mark_none ga gc 1 W).mono ?_
      rintro e w' ⟨rfl, rfl⟩
      exact ⟨rfl, Fr.refl _ _, trivial⟩
    · refine (held_none ga gc 1 W).mono ?_
      rintro e w' ⟨rfl, rfl⟩
      exact ⟨rfl, Below.refl _ _⟩
  · subst hg
    refine ⟨1 + L.length, fun W => IntsAt W b 0 (marks 1 L.length) ∧ b < W.heap.size, fun W hW hz => ?_, fun W hW => ?_, fun W W' h hb => ⟨h.1.below hb h.2, Nat.lt_of_lt_of_le h.2 hb.size⟩⟩
    · have e := hW b hB hlt
      have hc : ∀ i, i < L.length → (W.cell? ⟨b, 0 + i, none⟩).isSome = true := fun i h => by rw [World.cell?_of_block (w := W0) (a := ⟨b, 0 + i, none⟩) e, hi i h]; rfl
      have hfz : FreeAt W b 0 L.length := fun i h => (World.frozen?_of_block (w := W0) (a := ⟨b, 0 + i, none⟩) e).trans (hf i h)
      refine (markR_any b 0 L.length gc (by omega) 1 (by omega) (by omega) W hc hfz).mono ?_
      rintro e w' ⟨rfl, ho, hm⟩
      exact ⟨by rw [e1], ho.1.mono (fun q hq => by rw [hq]; exact ⟨hB, hlt⟩), hm, Nat.lt_of_lt_of_le (Nat.lt_of_lt_of_le hlt hz) ho.1.size⟩
    · refine (held_any b 0 L.length gc (by omega) 1 (by omega) (by omega) W hW.1).mono ?_
      rintro e w' ⟨rfl, rfl⟩
      exact ⟨by rw [e1], Below.refl _ _⟩
set_option maxHeartbeats 16000000 in
set_option maxRecDepth 8000 in
theorem walk' (rsa : Option Addr) (rsc : Nat) (rs : List RLd) (hl_rs : rs.length ≤ maxLen) (hp_rs : ∀ r ∈ rs, LdWide r) (tr : Int) (hw_tr : WfI tr) (w : World) (hr_rs : ReadsLd w.heap.size w rsa rs) :
    Calls Try.prog 8 #[.slice rsa rs.length rsc, .int .i64 tr] w fun e w' => e = .returned (.bool true) ∧ Below w.heap.size w w' := by
  have HR_rs : Hid (ReadsLd w.heap.size w rsa rs) := hr_rs
  have HZ_rs : Hid (∀ W x, 0 ≤ x → x ≤ 1048576 → ReadsLd W.heap.size W rsa rs → Calls Try.prog 23 #[.slice rsa rs.length rsc, .int .i64 x] W fun e w' => ∃ y : Int, e = .returned (.int .i64 y) ∧ (y < 0 ∨ (0 ≤ y ∧ y ≤ 1048576 ∧ rs.length ≤ 1048576 ∧ ∀ r ∈ rs, LdOK r)) ∧ Below W.heap.size W w') := fun W x h0 h1 h => (szLds_any rsa rsc rs hl_rs x h0 h1 W).mono (by rintro e w' ⟨⟨y, he, hy⟩, hw⟩; subst hw; exact ⟨y, he, hy.imp id (fun h => ⟨h.1, by omega, by omega, fun _ _ => trivial⟩), Below.refl _ _⟩)
  clear hr_rs hp_rs
  go_enter Try.func8, Try.ntmps8
  have B0 : Hid (Below w.heap.size w w) := Below.refl _ _
  go_wp2_with fail
  (first | go_at_call 23 | skip)
  refine (HZ_rs.out w 1048576 (by omega) (by omega) ((HR_rs.out.below B0.out).mono B0.out.size)).mono ?_
  rintro e w1 ⟨x0, rfl, hy, hb⟩
  have KX0 : Hid (x0 < 0 ∨ (0 ≤ x0 ∧ x0 ≤ 1048576 ∧ rs.length ≤ 1048576 ∧ ∀ r ∈ rs, LdOK r)) := hy
  have BZ0 : Hid (Below w.heap.size w w1) := chain B0.out hb
  clear hy hb
  by_cases hneg0 : x0 < 0
  · go_wp2
    go_ret
    exact ⟨rfl, BZ0.out⟩
  obtain ⟨hx0, hlen_rs, hok_rs⟩ : (0 ≤ x0 ∧ x0 ≤ 1048576) ∧ rs.length ≤ 1048576 ∧ ∀ r ∈ rs, LdOK r := by
    rcases KX0.out with h | ⟨h0, h1, h2, h3⟩
    · omega
    · exact ⟨⟨h0, h1⟩, h2, h3⟩
  have HOK_rs : Hid (∀ r ∈ rs, LdOK r) := hok_rs
  clear hok_rs KX0 HZ_rs
  have hT_rs : Hid (∀ W, Below w.heap.size w W → Calls Try.prog 25 #[.slice rsa rs.length rsc] W fun e w' => e = .returned (.slice (some ⟨W.heap.size, 0, none⟩) rs.length rs.length) ∧ Below W.heap.size W w' ∧ W.heap.size < w'.heap.size ∧ LdsAt w' W.heap.size 0 rs ∧ FreeLd w' W.heap.size rs.length) := fun W hW => toLds_any rsa rsc rs hlen_rs W ((HR_rs.out.below hW).mono hW.size)
  have hS : Hid (∀ rsx W, ReadsLd W.heap.size W rsx rs → Calls Try.prog 24 #[.slice rsx rs.length rs.length, .int .i64 tr] W (AnsT W (tkL rs tr) (tkT rs tr) (tkC rs tr))) := fun ia W h1 => specTrucks_any ia rs.length rs tr (by omega) W h1
  have hI : Hid (∀ rsx W, ReadsLd W.heap.size W rsx rs → Calls Try.prog 14 #[.slice rsx rs.length rs.length, .int .i64 tr] W (AnsT W (tkL rs tr) (tkT rs tr) (tkC rs tr))) := fun ia W h1 => implTrucks_any ia rs.length rs tr (by omega) W h1
  have hll := tk_le rs tr
  unfold AnsT at hS hI
  generalize tkL rs tr = L at *
  generalize tkT rs tr = n at *
  generalize tkC rs tr = c at *
  clear HR_rs
  have hcc : ∀ x : Int, (x != x) = false := fun x => by simp
  have hcc_n := hcc (n)
  have hcc_c := hcc (c)
  clear hcc
  -- the specification's answer
  go_wp2_with fail
  (first | go_at_call 25 | skip)
  refine (hT_rs.out w1 BZ0.out).mono ?_
  rintro e w2 ⟨rfl, hb, hz, hi, hf⟩
  have B_w2 : Hid (Below w.heap.size w w2) := chain BZ0.out hb
  have Xs_rs : Hid (w1.heap.size < w2.heap.size ∧ LdsAt w2 w1.heap.size 0 rs ∧ FreeLd w2 w1.heap.size rs.length) := ⟨hz, hi, hf⟩
  clear hb hz hi hf
  go_wp2_with fail
  (first | go_at_call 24 | skip)
  refine (hS.out _ w2 (.inr ⟨_, _, rfl, Xs_rs.out.1, Xs_rs.out.2.1⟩)).mono ?_
  rintro e w3 ⟨gaW, gcW, rfl, hAW, hb⟩
  have AW5 : Hid (OwnC w2.heap.size w3 gaW gcW L) := hAW
  have B5 : Hid (Below w.heap.size w w3) := chain B_w2.out hb
  clear hb hAW hS Xs_rs
  have AW6 : Hid (∀ W, Below w3.heap.size w3 W → (OwnC w2.heap.size W gaW gcW L) ∧ True) := fun W hW => ⟨own_later AW5.out hW, trivial⟩
  have B6 : Hid (Below w.heap.size w w3) := B5.out
  go_wp2_with fail
  generalize w3 = W6 at *
  clear AW5 B5
  -- the copies, and the program's answer
  go_wp2_with fail
  (first | go_at_call 25 | skip)
  refine (hT_rs.out W6 B6.out).mono ?_
  rintro e w4 ⟨rfl, hb, hz, hi, hf⟩
  have B_w4 : Hid (Below w.heap.size w w4) := chain B6.out hb
  have D_w4 : Hid (Below W6.heap.size W6 w4) := hb
  have Xx_rs : Hid (W6.heap.size < w4.heap.size ∧ LdsAt w4 W6.heap.size 0 rs ∧ FreeLd w4 W6.heap.size rs.length) := ⟨hz, hi, hf⟩
  clear hb hz hi hf
  go_wp2_with fail
  (first | go_at_call 14 | skip)
  refine (hI.out _ w4 (.inr ⟨_, _, rfl, Xx_rs.out.1, Xx_rs.out.2.1⟩)).mono ?_
  rintro e w5 ⟨gaG, gcG, rfl, hAG, hb9⟩
  have AG9 : Hid (OwnC w4.heap.size w5 gaG gcG L) := hAG
  have HMk := marks_of hll AG9.out
  obtain ⟨K1, P1, hm1, hh1, hPl⟩ := HMk
  have HM1 : Hid (∀ W, (∀ q, w4.heap.size ≤ q → q < w5.heap.size → W.heap[q]? = w5.heap[q]?) → w5.heap.size ≤ W.heap.size → Calls Try.prog 29 #[.slice gaG L.length gcG, .int .i64 1] W fun e w' => e = .returned (.int .i64 (K1 : Int)) ∧ Fr (fun q => w4.heap.size ≤ q ∧ q < w5.heap.size) W w' ∧ P1 w') := hm1
  have HH1 : Hid (∀ W, P1 W → Calls Try.prog 30 #[.slice gaG L.length gcG, .int .i64 1] W fun e w' => e = .returned (.int .i64 (K1 : Int)) ∧ Below W.heap.size W w') := hh1
  have HPl : Hid (∀ W W', P1 W → Below W.heap.size W W' → P1 W') := hPl
  have hKK : ((K1 : Int) != (K1 : Int)) = false := by simp
  have hKn1 : ¬ (K1 : Int) < 0 := by omega
  have B10 : Hid (Below w4.heap.size w4 w5) := hb9
  have AG10 : Hid (∀ W, (∀ q, w4.heap.size ≤ q → q < w5.heap.size → W.heap[q]? = w5.heap[q]?) → (OwnC w4.heap.size W gaG gcG L) ∧ True ∧ (∀ q, w4.heap.size ≤ q → q < w5.heap.size → W.heap[q]? = w5.heap[q]?)) := fun W hW => ⟨own_same AG9.out hW, trivial, hW⟩
  have Z10 : Hid (w5.heap.size ≤ w5.heap.size ∧ w4.heap.size ≤ w5.heap.size) := ⟨Nat.le_refl _, hb9.size⟩
  clear hb9 hAG hPl AG9 hm1 hh1
  go_wp2_with fail
  generalize hW10 : w5 = W10 at *
  obtain ⟨gb, hgb⟩ : ∃ gb, W10.heap.size = gb := ⟨_, rfl⟩
  rw [hgb] at AG10 Z10 HM1
  skip
  have Q10 : Hid (∀ W, Below W10.heap.size W10 W → (∀ q, w4.heap.size ≤ q → q < gb → W.heap[q]? = W10.heap[q]?)) := fun W hW q _ h2 => hW.block q (by omega)
  have E10 : Hid (∀ W, Below W10.heap.size W10 W → Below W6.heap.size W6 W ∧ Below w4.heap.size w4 W) := fun W hW => by
    have h1 := chain B10.out hW
    exact ⟨chain D_w4.out h1, h1⟩
  have EQ := eq_both hll W10 (AG10.out _ (fun _ _ _ => rfl)).1 (AW6.out _ (E10.out _ (Below.refl _ _)).1).1
  have EQ0 : Hid (∀ W', Below W10.heap.size W10 W' → Calls Try.prog 26 #[.slice gaG L.length gcG, .slice gaW L.length gcW] W' fun e w' => e = .returned (.bool true) ∧ Below W'.heap.size W' w') := EQ
  clear EQ
  have p_W10 : Hid (Below W10.heap.size W10 W10) := Below.refl _ _
  go_wp2_with fail
  (first | go_at_call 26 | skip)
  refine (EQ0.out _ p_W10.out).mono ?_
  rintro e w6 ⟨rfl, hb⟩
  have p_w6 : Hid (Below W10.heap.size W10 w6) := chain p_W10.out hb
  clear hb EQ0 p_W10 
  -- the copies are as they were
  go_wp2_with fail
  (first | go_at_call 25 | skip)
  refine (hT_rs.out w6 (chain B_w4.out (E10.out _ p_w6.out).2)).mono ?_
  rintro e w7 ⟨rfl, hb, hz, hi, _⟩
  have p_w7 : Hid (Below W10.heap.size W10 w7) := chain p_w6.out hb
  have V1 : Hid (ReadsLd w7.heap.size w7 (some ⟨w6.heap.size, 0, none⟩) rs) := .inr ⟨_, _, rfl, hz, hi⟩
  have V2 : Hid (ReadsLd w7.heap.size w7 (some ⟨W6.heap.size, 0, none⟩) rs) := .inr ⟨_, _, rfl, Nat.lt_of_lt_of_le Xx_rs.out.1 (E10.out _ p_w7.out).2.size, Xx_rs.out.2.1.below (E10.out _ p_w7.out).2 Xx_rs.out.1⟩
  clear hb hz hi p_w6
  go_wp2_with fail
  (first | go_at_call 27 | skip)
  refine (eqLds_any _ _ _ _ rs hlen_rs w7 V2.out V1.out).mono ?_
  rintro e w8 ⟨rfl, hb⟩
  have p_w8 : Hid (Below W10.heap.size W10 w8) := chain p_w7.out hb
  clear hb V1 V2 p_w7
  -- the copies are marked
  have M_rs : Hid (LdsAt w8 W6.heap.size 0 rs ∧ FreeLd w8 W6.heap.size rs.length ∧ W6.heap.size < w8.heap.size) := by
    have hd := (E10.out _ p_w8.out).2
    exact ⟨Xx_rs.out.2.1.below hd Xx_rs.out.1, Xx_rs.out.2.2.below hd Xx_rs.out.1, Nat.lt_of_lt_of_le Xx_rs.out.1 hd.size⟩
  have SS : Hid (Below W6.heap.size W6 w8 ∧ Below w.heap.size w w8 ∧ W10.heap.size ≤ w8.heap.size ∧ (∀ q, w4.heap.size ≤ q → q < gb → w8.heap[q]? = W10.heap[q]?)) := ⟨(E10.out _ p_w8.out).1, chain B_w4.out (E10.out _ p_w8.out).2, p_w8.out.size, Q10.out _ p_w8.out⟩
  clear p_w8
  have ZZ : Hid (W6.heap.size ≤ w4.heap.size ∧ w.heap.size ≤ W6.heap.size) := ⟨D_w4.out.size, B6.out.size⟩
  have ZB0 : Hid (W6.heap.size ≤ W6.heap.size ∧ W6.heap.size < w4.heap.size) := ⟨Nat.le_refl _, Xx_rs.out.1⟩
  obtain ⟨KA0, hKA0⟩ : ∃ K : Nat, K = 1 + rs.length * 2 := ⟨_, rfl⟩
  have MM0 : Hid (Mk W6.heap.size (rs.length * 2) w8 w8) := Mk.start M_rs.out.2.2 (lds_some M_rs.out.1) M_rs.out.2.1
  have HMA0 : Hid (Calls Try.prog 28 #[.slice (some ⟨W6.heap.size, 0, none⟩) rs.length rs.length, .int .i64 1] w8 fun e w' => e = .returned (.int .i64 (KA0 : Int)) ∧ Mk W6.heap.size (rs.length * 2) w8 w') := by
    have h := markLds_any W6.heap.size rs.length rs.length hlen_rs 1 (by omega) (by omega) w8 MM0.out
    rw [show ((1 : Nat) : Int) + (rs.length : Int) * 2 = (KA0 : Int) by omega] at h
    exact h
  clear MM0
  have hKB0 : 1 ≤ KA0 ∧ KA0 ≤ 20000000 := by omega
  clear hKA0
  go_wp2_with fail
  (first | go_at_call 28 | skip)
  refine HMA0.out.mono ?_
  rintro e w9 ⟨rfl, hm⟩
  have SN : Hid (Below W6.heap.size W6 w9 ∧ Below w.heap.size w w9 ∧ W10.heap.size ≤ w9.heap.size ∧ (∀ q, w4.heap.size ≤ q → q < gb → w9.heap[q]? = W10.heap[q]?)) := by
    have h1 := hm.1.1
    have h2 := hm.1.2
    obtain ⟨s1, s2, s3, s4⟩ := SS.out
    have hz := ZZ.out
    have hq := Z10.out.1
    have hb0 := ZB0.out
    refine ⟨s1.trans (h1.mono (by omega)), s2.trans (h1.mono (by omega)), Nat.le_trans s3 h1.size, fun q k1 k2 => (h2.2 q (by omega) (by omega)).trans (s4 q k1 k2)⟩
  clear hm HMA0 SS M_rs
  have SS := SN
  clear SN
  have hKAz : decide ((KA0 : Int) < 0) = false := decide_eq_false (by omega)
  have hKAy : ¬ ((KA0 : Int) < 0) := by omega
  clear hKB0
  have Q18 : Hid (∀ W, Below w9.heap.size w9 W → (∀ q, w4.heap.size ≤ q → q < gb → W.heap[q]? = W10.heap[q]?)) := fun W hW q h1 h2 => (hW.block q (by have := SS.out.2.2.1; omega)).trans (SS.out.2.2.2 q h1 h2)
  have EQ := eq_both hll w9 (AG10.out _ SS.out.2.2.2).1 (AW6.out _ SS.out.1).1
  have EQ0 : Hid (∀ W', Below w9.heap.size w9 W' → Calls Try.prog 26 #[.slice gaG L.length gcG, .slice gaW L.length gcW] W' fun e w' => e = .returned (.bool true) ∧ Below W'.heap.size W' w') := EQ
  clear EQ
  have p_w9 : Hid (Below w9.heap.size w9 w9) := Below.refl _ _
  go_wp2_with fail
  (first | go_at_call 26 | skip)
  refine (EQ0.out _ p_w9.out).mono ?_
  rintro e w10 ⟨rfl, hb⟩
  have p_w10 : Hid (Below w9.heap.size w9 w10) := chain p_w9.out hb
  clear hb EQ0 p_w9 
  -- the answer is marked, and held
  have FF : Hid (Fr (fun q => w4.heap.size ≤ q ∧ q < gb) w10 w10) := Fr.refl _ _
  go_wp2_with fail
  (first | go_at_call 29 | skip)
  refine (HM1.out _ (AG10.out _ (Q18.out _ p_w10.out)).2.2 (Nat.le_trans Z10.out.1 (Nat.le_trans (hgb ▸ SS.out.2.2.1) p_w10.out.size))).mono ?_
  rintro e w11 ⟨rfl, hf, hP⟩
  have FN : Hid (Fr (fun q => w4.heap.size ≤ q ∧ q < gb) w10 w11) := FF.out.trans hf
  have HP1 : Hid (P1 w11) := hP
  clear hf hP FF 
  have FF := FN
  clear FN
  have S22 : Hid (Below W6.heap.size W6 w11 ∧ Below w.heap.size w w11 ∧ True) := by
    have h1 := chain SS.out.1 p_w10.out
    have h2 := chain SS.out.2.1 p_w10.out
    have hz := ZZ.out
    refine ⟨Fr.below h1 FF.out h1.size (fun q hq => by omega), Fr.below h2 FF.out h2.size (fun q hq => by omega), trivial⟩
  clear FF p_w10 Q18 SS HM1
  have p_m : Hid (Below w11.heap.size w11 w11) := Below.refl _ _
  go_wp2_with fail
  (first | go_at_call 30 | skip)
  refine (HH1.out _ (HPl.out _ _ HP1.out p_m.out)).mono ?_
  rintro e w12 ⟨rfl, hb⟩
  have p_w12 : Hid (Below w11.heap.size w11 w12) := chain p_m.out hb
  clear hb p_m 
  -- another call
  have BX : Hid (Below w.heap.size w w12) := chain S22.out.2.1 p_w12.out
  go_wp2_with fail
  (first | go_at_call 25 | skip)
  refine (hT_rs.out w12 (chain S22.out.2.1 p_w12.out)).mono ?_
  rintro e w13 ⟨rfl, hb, hz, hi, hf⟩
  have p_w13 : Hid (Below w11.heap.size w11 w13) := chain p_w12.out hb
  have XH_rs : Hid (w12.heap.size < w13.heap.size ∧ LdsAt w13 w12.heap.size 0 rs) := ⟨hz, hi⟩
  clear hb hz hi hf p_w12
  clear BX
  go_wp2_with fail
  (first | go_at_call 14 | skip)
  refine (hI.out _ w13 (.inr ⟨_, _, rfl, XH_rs.out.1, XH_rs.out.2⟩)).mono ?_
  rintro e w14 ⟨gaH, gcH, rfl, hAH, hb⟩
  have p28 : Hid (Below w11.heap.size w11 w14) := chain p_w13.out hb
  have AH28 : Hid (∀ W, Below w14.heap.size w14 W → (OwnC w13.heap.size W gaH gcH L) ∧ True) := fun W hW => ⟨own_later hAH hW, trivial⟩
  clear hb hAH p_w13 hI XH_rs hT_rs
  go_wp2_with fail
  generalize w14 = W28 at *
  have EQ := eq_both hll W28 (AH28.out _ (Below.refl _ _)).1 (AW6.out _ (chain S22.out.1 p28.out)).1
  have EQ0 : Hid (∀ W', Below W28.heap.size W28 W' → Calls Try.prog 26 #[.slice gaH L.length gcH, .slice gaW L.length gcW] W' fun e w' => e = .returned (.bool true) ∧ Below W'.heap.size W' w') := EQ
  clear EQ
  have p_W28 : Hid (Below W28.heap.size W28 W28) := Below.refl _ _
  go_wp2_with fail
  (first | go_at_call 26 | skip)
  refine (EQ0.out _ p_W28.out).mono ?_
  rintro e w15 ⟨rfl, hb⟩
  have p_w15 : Hid (Below W28.heap.size W28 w15) := chain p_W28.out hb
  clear hb EQ0 p_W28 
  have pe : Hid (Below w11.heap.size w11 w15) := chain p28.out p_w15.out
  clear p_w15 p28 AH28 AW6
  go_wp2_with fail
  (first | go_at_call 30 | skip)
  refine (HH1.out _ (HPl.out _ _ HP1.out pe.out)).mono ?_
  rintro e w16 ⟨rfl, hb⟩
  have p_w16 : Hid (Below w11.heap.size w11 w16) := chain pe.out hb
  clear hb pe 
  go_wp2
  go_ret
  exact ⟨rfl, chain S22.out.2.1 p_w16.out⟩
theorem walk (a : Option Addr) (len cap : Nat) (rs : List RLd) (tr : Int) (wtr : (Lit.int .i64 tr).wf = true) (w : World) (h : IsLds w a len cap rs) :
    Calls Try.prog 8 #[.slice a len cap, .int .i64 tr] w fun e w' => e = .returned (.bool true) ∧ Below w.heap.size w w' := by
  obtain ⟨rfl, h2, h3, h4, h5⟩ := h
  exact walk' a cap rs (Nat.le_trans h2 h3) h4 tr wtr w h5

theorem own : ownKnob Try.prog.godebug = none := by kernel_rfl
theorem laidOut : laidOutB Try.prog = true := by kernel_rfl

set_option maxRecDepth 100000 in
theorem lifted (os : Os) (started : os.Started) (H : Type) (enc : TypeId × Value → H) :
    ReturnsInHanded {} Try.checked os 8 .any (Rows.fnExactFillTrucksSpec.pre6 enc Try.prog Try.f8 Rows.fnExactFillTrucksRow.domain false) (Rows.fnExactFillTrucksSpec.post enc Try.prog Try.f8 false true false false) := by
  refine returnsInHanded_of_change (C := Try.checked) own started (by kernel_rfl) Try.func8
    (ChangeSpec.witness6 (enc := enc) (C := Try.checked) false ⟨#[], #[.slice none 0 0, .int .i64 0], []⟩ 8 (by kernel_rfl) (by kernel_rfl) (by kernel_rfl) (by kernel_rfl)) ?_
  intro W base args ds gs before hval0 hW hcnd _
  have hval : ∀ (j : Nat) t v, Try.f8.params[j]? = some t → args[j]? = some v → Value.okWide Try.prog W .any base t v := hval0
  have hW' := hW
  obtain ⟨p, q, hA0, hV, rfl, hfz, hnd⟩ := hW
  have hA : DataW.TrodAll enc Try.prog W 0 (fun _ => true) true Try.f8.params.toList args.toList ds p := hA0
  rw [Try.params8] at hA hval
  obtain ⟨v0, vs0, d0, ds0, p0, q0, hargs, rfl, rfl, h0, r0⟩ := trodAll_cons hA
  obtain ⟨v1, vs1, d1, ds1, p1, q1, rfl, rfl, rfl, h1, r1⟩ := trodAll_cons r0
  obtain ⟨rfl, rfl, rfl⟩ := trodAll_nil r1
  obtain rfl : args = #[v0, v1] := by cases args; simp_all
  obtain ⟨rfl, rfl⟩ := trodVars_none hV
  have k0 := h0
  have lt0 : ∀ x ∈ p0, x.block < W.heap.size := by obtain ⟨m, hm⟩ := k0; exact DataW.trod_lt m _ _ _ hm
  have k1 := h1
  have lt1 : ∀ x ∈ p1, x.block < W.heap.size := by obtain ⟨m, hm⟩ := k1; exact DataW.trod_lt m _ _ _ hm
  obtain ⟨a0, len0, cap0, rfl⟩ := okWide_slice Try.underlying52 (hval 0 52 v0 rfl rfl)
  obtain ⟨z0, w0⟩ : ∃ zs, IsLds W a0 len0 cap0 zs := by
    obtain ⟨fuel, hf⟩ := h0
    exact openLds (by simpa [Value.cells] using hf)
  obtain ⟨a1, rfl, rfl, rfl, w1⟩ := open_int Try.underlying3 (hval 1 3 v1 rfl rfl) h1
  clear hA0 hval0
  refine (walk a0 len0 cap0 z0 a1 w1 W w0).mono fun e W' ⟨he, bel⟩ => ?_
  subst he
  exact ⟨_, rfl, _, _, _, [], _, [], hW', trodAll_mk1 (shut_bool Try.underlying4 _), (trodAll_cons_mk (Below.trod laidOut (by kernel_rfl) (of_decide_eq_true (by kernel_rfl)) k0 bel lt0) (trodAll_cons_mk (Below.trod laidOut (by kernel_rfl) (of_decide_eq_true (by kernel_rfl)) k1 bel lt1) trodAll_mk0)), rfl, bel.frame _, fun h => by cases h⟩

theorem over : Rows.fnExactFillTrucksRow.holds Try.pinned (OpenSpec.ofChange Rows.fnExactFillTrucksSpec) :=
  OpenClaim.holds_of_wide 8 Try.f8 rfl rfl rfl rfl rfl rfl rfl ⟨rfl, rfl, rfl, rfl, rfl⟩ rfl rfl rfl rfl rfl (by kernel_rfl) Try.func8 (by kernel_rfl)
    (of_decide_eq_true (by kernel_rfl)) (by unfold Func.isWrapper; first | (rw [if_pos (by decide +kernel)]; kernel_rfl) | (rw [if_neg (by decide +kernel)]; exact ⟨rfl, rfl⟩))
    (fun os started H enc _ => lifted os started H enc)
end TrucksLaw

theorem fnExactFillTrucks_holds : Rows.FnExactFillTrucksSaid := TrucksLaw.over
end Go.Proofs.Ytbgjekhekjbcpaa
