/-
  For every list of items and every list of acts the law FnExactTillRun answers true: the program's TillRun answers as the specification's, field by field, writes into no argument, and its answer owns its memory; with no condition.
-/
import Derived.Test.YthcahmjgfjeckaaGreatM32
import Derived.Test.YthcahmjgfjeckaaGreatM44
import Derived.Test.YthcahmjgfjeckaaGreatM46
import Derived.Test.YthcahmjgfjeckaaGreatM47
namespace Go.Proofs.YthcahmjgfjeckaaGreat
open Go.ChangeShapes Go.WideShapes Go.ChangeAt Go.RowKit Go.Joins Go.Deep
set_option linter.unusedVariables false

namespace TillLaw
/-- What TillRun answers. -/
def TillP (R : ByteArray → Int × ByteArray × Int × Int) (Bf : RIt → Bool) (its : List RIt) (acts : List RTa) (W : World) (e : Ending) (w' : World) : Prop := ∃ tv lv kv cv ks, e = .returned (.tuple #[tv, .agg #[lv, .int .i64 (tillT R Bf its acts).sh, kv, .int .i64 (tillT R Bf its acts).sl, .int .i64 (tillT R Bf its acts).tk, .int .i64 (tillT R Bf its acts).dp, cv], .int .i64 (tillC Bf its acts)]) ∧ AnsT W.heap.size (tillO R Bf its acts) (tillT R Bf its acts) tv lv kv cv ks w' ∧ Below W.heap.size W w'
theorem obR_len (os : List (Int × Int)) : (obR os).length = os.length := by simp [obR]
theorem ansT_len {B : Nat} {os : List (Int × Int)} {t : Tl} {tv lv kv cv : Value} {ks : List Kb} {W : World} (h : AnsT B os t tv lv kv cv ks W) : ks.length = t.kept.length := by rw [← h.kept, List.length_map]
theorem till_sizes (R : ByteArray → Int × ByteArray × Int × Int) (hv : ∀ s, 0 ≤ (R s).2.2.1 ∧ (R s).2.2.1 ≤ 99999) (Bf : RIt → Bool) (hBn : ∀ r, Bf r = true → ItN r) (its : List RIt) (acts : List RTa) :
    (tillO R Bf its acts).length ≤ 200 ∧ (tillT R Bf its acts).ls.length ≤ 50 ∧ (tillT R Bf its acts).kept.length ≤ 5 ∧ (∀ k ∈ (tillT R Bf its acts).kept, k.1.length ≤ 50) ∧ (tillT R Bf its acts).cs.length ≤ 9 := by
  rcases till_ways R Bf its acts with ⟨_, _, h1, h2⟩ | ⟨_, _, _, _, h1, h2⟩ | ⟨_, _, _, _, _, h1, h2⟩ | ⟨_, _, h3, h4, _, h1, h2⟩
  · rw [h1, h2]; simp [tlN]
  · rw [h1, h2]; simp [tlN]
  · rw [h1, h2]; simp [tlN]
  · rw [h1, h2]
    have ht := runT_OK hv (itAll_N hBn h3).2 acts acts.length
    exact ⟨by rw [runO_len]; exact h4, ht.now.len, ht.many, fun k hk => (ht.kept k hk).len, by rw [ht.cs.1]; omega⟩
theorem eq_both {B1 B2 : Nat} {os : List (Int × Int)} {t : Tl} {ta1 la1 ka1 ca1 ta2 la2 ka2 ca2 : Option Addr} {tc1 lc1 kc1 cc1 tc2 lc2 kc2 cc2 no nl nk nc : Nat} {ks1 ks2 : List Kb} (hn : os.length = no ∧ t.ls.length = nl ∧ t.kept.length = nk ∧ t.cs.length = nc) (hol : no ≤ 200) (hll : nl ≤ 50) (hkl : nk ≤ 5) (hkk : ∀ k ∈ t.kept, k.1.length ≤ 50) (hcl : nc ≤ 9) (sh sl tk dp : Int) (W : World)
    (h1 : AnsT B1 os t (.slice ta1 no tc1) (.slice la1 nl lc1) (.slice ka1 nk kc1) (.slice ca1 nc cc1) ks1 W) (h2 : AnsT B2 os t (.slice ta2 no tc2) (.slice la2 nl lc2) (.slice ka2 nk kc2) (.slice ca2 nc cc2) ks2 W) :
    (Calls Tryz.prog 10 #[.slice ta1 no tc1, .slice ta2 no tc2] W fun e w' => e = .returned (.bool true) ∧ Below W.heap.size W w') ∧
    ∀ W', Below W.heap.size W W' → Calls Tryz.prog 11 #[.agg #[.slice la1 nl lc1, .int .i64 sh, .slice ka1 nk kc1, .int .i64 sl, .int .i64 tk, .int .i64 dp, .slice ca1 nc cc1], .agg #[.slice la2 nl lc2, .int .i64 sh, .slice ka2 nk kc2, .int .i64 sl, .int .i64 tk, .int .i64 dp, .slice ca2 nc cc2]] W' fun e w' => e = .returned (.bool true) ∧ Below W'.heap.size W' w' := by
  obtain ⟨rfl, rfl, rfl, rfl⟩ := hn
  refine ⟨?_, fun W' hW => ?_⟩
  · have := eqObs_any ta1 ta2 tc1 tc2 (obR os) (by rw [obR_len]; omega) W (told_reads h1.told) (told_reads h2.told)
    rwa [obR_len] at this
  · have k1 := h1.later hW
    have k2 := h2.later hW
    exact eqTill_any la1 la2 lc1 lc2 t.ls (by omega) sh ka1 ka2 kc1 kc2 t.kept (by omega) (fun k hk => by have := hkk k hk; omega) sl tk dp ca1 ca2 cc1 cc2 t.cs (by omega) W' (rowLn_reads k1.lrow).2 (rowLn_reads k2.lrow).2 k1.rdBk k2.rdBk (ints_reads k1.crow) (ints_reads k2.crow)
theorem kBs_sum (k0 : Nat) (ns : Nat → Nat) (n : Nat) (h : ∀ i, i < n → ns i ≤ 50) : ∀ i, i ≤ n → kBs k0 ns i ≤ k0 + i * 201
  | 0, _ => by simp [kBs]
  | i + 1, hi => by
    have := kBs_sum k0 ns n h i (by omega)
    have := h i (by omega)
    rw [kBs]; omega
/-- Marks on all rows of an answer that was given at W0, and what is held against them. -/
theorem marks_of {B : Nat} {os : List (Int × Int)} {t : Tl} {ta la ka ca : Option Addr} {tc lc kc cc no nl nk nc : Nat} {ks : List Kb} {W0 : World} (hn : os.length = no ∧ t.ls.length = nl ∧ t.kept.length = nk ∧ t.cs.length = nc) (hol : no ≤ 200) (hll : nl ≤ 50) (hkl : nk ≤ 5) (hkk : ∀ k ∈ t.kept, k.1.length ≤ 50) (hcl : nc ≤ 9) (sh sl tk dp : Int)
    (h : AnsT B os t (.slice ta no tc) (.slice la nl lc) (.slice ka nk kc) (.slice ca nc cc) ks W0) :
    ∃ (K1 K3 : Nat) (P1 P2 : World → Prop),
      (∀ W, (∀ q, B ≤ q → q < W0.heap.size → W.heap[q]? = W0.heap[q]?) → W0.heap.size ≤ W.heap.size → Calls Tryz.prog 16 #[.slice ta no tc, .int .i64 1] W fun e w' => e = .returned (.int .i64 (K1 : Int)) ∧ Fr (fun q => B ≤ q ∧ q < W0.heap.size) W w' ∧ P1 w') ∧
      (∀ W, P1 W → Calls Tryz.prog 17 #[.agg #[.slice la nl lc, .int .i64 sh, .slice ka nk kc, .int .i64 sl, .int .i64 tk, .int .i64 dp, .slice ca nc cc], .int .i64 (K1 : Int)] W fun e w' => e = .returned (.int .i64 (K3 : Int)) ∧ Fr (fun q => B ≤ q ∧ q < W0.heap.size) W w' ∧ P2 w') ∧
      (∀ W, P2 W → Calls Tryz.prog 18 #[.slice ta no tc, .int .i64 1] W fun e w' => e = .returned (.int .i64 (K1 : Int)) ∧ Below W.heap.size W w') ∧
      (∀ W, P2 W → Calls Tryz.prog 19 #[.agg #[.slice la nl lc, .int .i64 sh, .slice ka nk kc, .int .i64 sl, .int .i64 tk, .int .i64 dp, .slice ca nc cc], .int .i64 (K1 : Int)] W fun e w' => e = .returned (.int .i64 (K3 : Int)) ∧ Below W.heap.size W w') ∧
      (∀ W W', P2 W → Below W.heap.size W W' → P2 W') := by
  have hkn : ks.length = nk := by rw [ansT_len h]; exact hn.2.2.1
  have hnsz : ∀ i, i < nk → ksN ks i ≤ 50 := fun i hi => by
    unfold ksN
    exact getKb (p := fun k => k.ls.length ≤ 50) (fun k hk => hkk (k.ls, k.sh) (by rw [← h.kept]; exact List.mem_map.2 ⟨k, hk, rfl⟩)) (by omega)
  have hr := h.rows'
  rw [hn.1, hn.2.1, hn.2.2.2, hkn] at hr
  have hlt := hr.lt
  have hs1 := kBs_sum (kT1 (1 + no * 2) nl) (ksN ks) nk hnsz nk (Nat.le_refl _)
  have hk3 : kT3 (1 + no * 2) nl (ksN ks) nk nc ≤ 10000000 := by unfold kT3 kT2 kT1 at *; omega
  refine ⟨1 + no * 2, kT3 (1 + no * 2) nl (ksN ks) nk nc, RwT B (.slice ta no tc) no (mkV 1 (no * 2)) (.slice la nl lc) nl (lnCells t.ls) (.slice ka nk kc) nk (ksV ks) (ksN ks) (ksS ks) (ksC ks) (.slice ca nc cc) nc (t.cs.map (Value.int .i64)), RwM B (1 + no * 2) (.slice ta no tc) no (.slice la nl lc) nl (.slice ka nk kc) nk (ksV ks) (ksN ks) (.slice ca nc cc) nc, fun W hW hz => ?_, fun W hW => ?_, fun W hW => ?_, fun W hW => ?_, fun W W' hW hb => ?_⟩
  · have hR := hr.same (W' := W) (fun q hq => hW q (hlt q hq).1 (hlt q hq).2)
    refine (markOb_row B _ no (by omega) 1 (by omega) _ W hR.told).mono ?_
    rintro e w' ⟨he, hf, hro⟩
    refine ⟨he, hf.mono (fun q hq => hlt q (.inl hq)), hro, row_of hR.lrow (fun q hq => hf.block q (row_lt hR.lrow q hq).2 (fun e => apartBL hR.lrow hR.told (by decide) q hq e)), hR.bk.same (fun q hq => hf.block q (hR.bk.lt q hq).2 (fun e => ?_)), row_of hR.crow (fun q hq => hf.block q (row_lt hR.crow q hq).2 (fun e => apartBL hR.crow hR.told (by decide) q hq e)), hR.far⟩
    rcases hq with hq | ⟨i, hi, hq⟩
    · exact apartBL hR.bk.row hR.told (by decide) q hq e
    · exact apartBL (hR.bk.each i hi) hR.told (by decide) q hq e
  · refine (markTill_any B _ no _ _ nl _ _ nk _ _ _ _ _ nc _ (by omega) (by omega) (fun i hi => by have := hnsz i hi; omega) (by omega) sh sl tk dp _ hk3 W hW).mono ?_
    rintro e w' ⟨he, hf, hro⟩
    exact ⟨he, hf.mono (fun q hq => hlt q hq), hro⟩
  · have hM : RwT _ _ _ _ _ _ _ _ _ _ _ _ _ _ _ _ _ := hW
    exact heldOb_row B _ no (by omega) 1 (by omega) W hM.told
  · exact heldTill_any B _ no _ nl _ nk _ _ _ nc (by omega) (by omega) (fun i hi => by have := hnsz i hi; omega) (by omega) sh sl tk dp _ hk3 W hW
  · exact RwT.later hW hb
set_option maxHeartbeats 16000000 in
set_option maxRecDepth 8000 in
theorem walk' (a : Option Addr) (ca : Nat) (its : List RIt) (hl : its.length ≤ maxLen) (hp : ∀ r ∈ its, ItWide r) (b : Option Addr) (cb : Nat) (acts : List RTa) (hal : acts.length ≤ maxLen) (hap : ∀ r ∈ acts, TaWide r) (w : World) (hr : ReadsIt w.heap.size w a its) (ks : ReadsTa w.heap.size w b acts) :
    Calls Tryz.prog 3 #[.slice a its.length ca, .slice b acts.length cb] w fun e w' => e = .returned (.bool true) ∧ Below w.heap.size w w' := by
  have HR : Hid (ReadsIt w.heap.size w a its) := hr
  have KR : Hid (ReadsTa w.heap.size w b acts) := ks
  have HZ : Hid (∀ w, ReadsIt w.heap.size w a its → Calls Tryz.prog 4 #[.slice a its.length ca, .int .i64 1048576] w (SzIt its w)) := fun w h => szIts_any a ca its hl hp 1048576 (by omega) (by omega) w h
  have KZ : Hid (∀ w x, 0 ≤ x → x ≤ 1048576 → ReadsTa w.heap.size w b acts → Calls Tryz.prog 5 #[.slice b acts.length cb, .int .i64 x] w (SzTa acts w)) := fun w x h0 h1 h => szTas_any b cb acts hal hap x h0 h1 w h
  clear hr ks hp hap hl hal
  go_enter Tryz.func3, Tryz.ntmps3
  go_wp2_with (go_at_call 4; refine (HZ.out _ HR.out).mono ?_; rintro e w1 ⟨x, rfl, hx, hb1⟩; have HX : Hid (x < 0 ∨ (0 ≤ x ∧ x ≤ 1048576 ∧ its.length ≤ 1048576 ∧ ∀ r ∈ its, ItOK r)) := hx; have B1 : Hid (Below w.heap.size w w1) := hb1; clear hx hb1)
  · go_ret
    exact ⟨rfl, B1.out⟩
  rcases HX.out with h | ⟨hx0, hx1, hlen, hok⟩
  · omega
  have HOK : Hid (∀ r ∈ its, ItOK r) := hok
  clear hok HX HZ
  (first | go_at_call 5 | skip)
  refine (KZ.out w1 x hx0 hx1 ((KR.out.below B1.out).mono B1.out.size)).mono ?_
  rintro e w2 ⟨y, rfl, hy, hb2⟩
  have KX : Hid _ := hy
  have B2 : Hid (Below w.heap.size w w2) := chain B1.out hb2
  clear hy hb2
  go_wp2_with fail
  · go_ret
    exact ⟨rfl, B2.out⟩
  rcases KX.out with h | ⟨hy0, hy1, halen, _⟩
  · omega
  clear KX KZ
  obtain ⟨Bf, hBi, hBs, hBn⟩ := its_both2
  obtain ⟨R, hRi, hRs, hRv⟩ := scans_both
  have hS : Hid (∀ ia aa W, ReadsIt W.heap.size W ia its → ReadsTa W.heap.size W aa acts → Calls Tryz.prog 6 #[.slice ia its.length its.length, .slice aa acts.length acts.length] W (TillP R Bf its acts W)) := fun ia aa W h1 h2 => specTill_any Bf hBs hBn R hRs hRv ia its.length its (Nat.le_refl _) HOK.out aa acts.length acts (by omega) (by omega) W h1 h2
  have hI : Hid (∀ ia aa W, ReadsIt W.heap.size W ia its → ReadsTa W.heap.size W aa acts → Calls Tryz.prog 9 #[.slice ia its.length its.length, .slice aa acts.length acts.length] W (TillP R Bf its acts W)) := fun ia aa W h1 h2 => implTill_any Bf hBi hBn R hRi hRv ia its.length its (Nat.le_refl _) aa acts.length acts (by omega) (by omega) W h1 h2
  have hTI : Hid (∀ W, Below w.heap.size w W → Calls Tryz.prog 7 #[.slice a its.length ca] W fun e w' => e = .returned (.slice (some ⟨W.heap.size, 0, none⟩) its.length its.length) ∧ Below W.heap.size W w' ∧ W.heap.size < w'.heap.size ∧ ItsAt w' W.heap.size 0 its ∧ FreeIt w' W.heap.size its.length) := fun W hW => toIts_any a ca its hlen W ((HR.out.below hW).mono hW.size)
  have hTA : Hid (∀ W, Below w.heap.size w W → Calls Tryz.prog 8 #[.slice b acts.length cb] W fun e w' => e = .returned (.slice (some ⟨W.heap.size, 0, none⟩) acts.length acts.length) ∧ Below W.heap.size W w' ∧ W.heap.size < w'.heap.size ∧ TasAt w' W.heap.size 0 acts ∧ FreeTa w' W.heap.size acts.length) := fun W hW => toTas_any b cb acts halen W ((KR.out.below hW).mono hW.size)
  obtain ⟨hol, hll, hkl, hkls, hcl⟩ := till_sizes R hRv Bf hBn its acts
  clear hBi hBs hBn hRi hRs hRv HR KR
  unfold TillP at hS hI
  generalize tillO R Bf its acts = os at *
  generalize tillT R Bf its acts = t at *
  generalize tillC Bf its acts = c at *
  obtain ⟨sh, hsh⟩ : ∃ x, x = t.sh := ⟨_, rfl⟩
  obtain ⟨sl, hsl⟩ : ∃ x, x = t.sl := ⟨_, rfl⟩
  obtain ⟨tk, htk⟩ : ∃ x, x = t.tk := ⟨_, rfl⟩
  obtain ⟨dp, hdp⟩ : ∃ x, x = t.dp := ⟨_, rfl⟩
  rw [← hsh, ← hsl, ← htk, ← hdp] at hS hI
  clear hsh hsl htk hdp
  obtain ⟨no, hno⟩ : ∃ x, os.length = x := ⟨_, rfl⟩
  obtain ⟨nl, hnl⟩ : ∃ x, t.ls.length = x := ⟨_, rfl⟩
  obtain ⟨nk, hnk⟩ : ∃ x, t.kept.length = x := ⟨_, rfl⟩
  obtain ⟨nc, hnc⟩ : ∃ x, t.cs.length = x := ⟨_, rfl⟩
  rw [hno] at hol
  rw [hnl] at hll
  rw [hnk] at hkl
  rw [hnc] at hcl
  have HLn : Hid (os.length = no ∧ t.ls.length = nl ∧ t.kept.length = nk ∧ t.cs.length = nc) := ⟨hno, hnl, hnk, hnc⟩
  have HKs : Hid (∀ k ∈ t.kept, k.1.length ≤ 50) := hkls
  clear hkls
  -- the specification's answer
  (first | go_at_call 7 | skip)
  refine (hTI.out w2 B2.out).mono ?_
  rintro e w3 ⟨rfl, hb3, hz3, hi3, _⟩
  have B3 : Hid (Below w.heap.size w w3) := chain B2.out hb3
  have X3 : Hid (w2.heap.size < w3.heap.size ∧ ItsAt w3 w2.heap.size 0 its) := ⟨hz3, hi3⟩
  clear hb3 hz3 hi3 hno hnl hnk hnc
  go_wp2_with fail
  (first | go_at_call 8 | skip)
  refine (hTA.out w3 B3.out).mono ?_
  rintro e w4 ⟨rfl, hb4, hz4, hi4, _⟩
  have B4 : Hid (Below w.heap.size w w4) := chain B3.out hb4
  have X4 : Hid (ReadsIt w4.heap.size w4 (some ⟨w2.heap.size, 0, none⟩) its) := .inr ⟨_, _, rfl, Nat.lt_of_lt_of_le X3.out.1 hb4.size, X3.out.2.below hb4 X3.out.1⟩
  have Y4 : Hid (ReadsTa w4.heap.size w4 (some ⟨w3.heap.size, 0, none⟩) acts) := .inr ⟨_, _, rfl, hz4, hi4⟩
  clear hb4 hz4 hi4 X3
  go_wp2_with fail
  (first | go_at_call 6 | skip)
  refine (hS.out _ _ w4 X4.out Y4.out).mono ?_
  rintro e w5 ⟨tvW, lvW, kvW, cvW, ksW, rfl, hAW, hb5⟩
  obtain ⟨hno, hnl, hnk, hnc⟩ := HLn.out
  obtain ⟨taW, tcW, htW⟩ := row_slice hAW.told
  obtain ⟨laW, lcW, hlW⟩ := row_slice hAW.lrow
  obtain ⟨kaW, kcW, hkW⟩ := row_slice hAW.krow
  obtain ⟨caW, ccW, hcW⟩ := row_slice hAW.crow
  rw [ansT_len hAW] at hkW
  rw [hno] at htW
  rw [hnl] at hlW
  rw [hnk] at hkW
  rw [hnc] at hcW
  subst htW hlW hkW hcW
  have AW5 : Hid (AnsT w4.heap.size os t (.slice taW no tcW) (.slice laW nl lcW) (.slice kaW nk kcW) (.slice caW nc ccW) ksW w5) := hAW
  have B5 : Hid (Below w.heap.size w w5) := chain B4.out hb5
  clear hno hnl hnk hnc hb5 hAW X4 Y4 hS
  have AW6 : Hid (∀ W, Below (w5.alloc (Obj.cells #[.slice laW nl lcW, .int .i64 sh, .slice kaW nk kcW, .int .i64 sl, .int .i64 tk, .int .i64 dp, .slice caW nc ccW] 33)).heap.size (w5.alloc (Obj.cells #[.slice laW nl lcW, .int .i64 sh, .slice kaW nk kcW, .int .i64 sl, .int .i64 tk, .int .i64 dp, .slice caW nc ccW] 33)) W → AnsT w4.heap.size os t (.slice taW no tcW) (.slice laW nl lcW) (.slice kaW nk kcW) (.slice caW nc ccW) ksW W ∧ W.heap[w5.heap.size]? = some (.cells #[.slice laW nl lcW, .int .i64 sh, .slice kaW nk kcW, .int .i64 sl, .int .i64 tk, .int .i64 dp, .slice caW nc ccW] 33 (0, 0))) := fun W hW => ⟨AW5.out.later (chain (below_alloc _ _) hW), (hW.block _ (by simp)).trans (heapNew _ _)⟩
  have B6 : Hid (Below w.heap.size w (w5.alloc (Obj.cells #[.slice laW nl lcW, .int .i64 sh, .slice kaW nk kcW, .int .i64 sl, .int .i64 tk, .int .i64 dp, .slice caW nc ccW] 33))) := chain B5.out (below_alloc _ _)
  have hcc : (c != c) = false := by simp
  go_wp2_with fail
  generalize (w5.alloc (Obj.cells #[.slice laW nl lcW, .int .i64 sh, .slice kaW nk kcW, .int .i64 sl, .int .i64 tk, .int .i64 dp, .slice caW nc ccW] 33)) = W6 at *
  generalize w5.heap.size = bw at *
  clear AW5 B5
  -- the copies, and the program's answer
  (first | go_at_call 7 | skip)
  refine (hTI.out W6 B6.out).mono ?_
  rintro e w7 ⟨rfl, hb7, hz7, hi7, hf7⟩
  have B7 : Hid (Below w.heap.size w w7) := chain B6.out hb7
  have D7 : Hid (Below W6.heap.size W6 w7) := hb7
  have X7 : Hid (W6.heap.size < w7.heap.size ∧ ItsAt w7 W6.heap.size 0 its ∧ FreeIt w7 W6.heap.size its.length) := ⟨hz7, hi7, hf7⟩
  clear hb7 hz7 hi7 hf7
  go_wp2_with fail
  (first | go_at_call 8 | skip)
  refine (hTA.out w7 B7.out).mono ?_
  rintro e w8 ⟨rfl, hb8, hz8, hi8, hf8⟩
  have B8 : Hid (Below w.heap.size w w8) := chain B7.out hb8
  have D8 : Hid (Below W6.heap.size W6 w8) := chain D7.out hb8
  have X8 : Hid (W6.heap.size < w8.heap.size ∧ ItsAt w8 W6.heap.size 0 its ∧ FreeIt w8 W6.heap.size its.length) := ⟨Nat.lt_of_lt_of_le X7.out.1 hb8.size, X7.out.2.1.below hb8 X7.out.1, X7.out.2.2.below hb8 X7.out.1⟩
  have Y8 : Hid (w7.heap.size < w8.heap.size ∧ TasAt w8 w7.heap.size 0 acts ∧ FreeTa w8 w7.heap.size acts.length) := ⟨hz8, hi8, hf8⟩
  have Z67 : Hid (W6.heap.size < w7.heap.size) := X7.out.1
  clear hb8 hz8 hi8 hf8 X7 B7 D7
  go_wp2_with fail
  (first | go_at_call 9 | skip)
  refine (hI.out _ _ w8 (.inr ⟨_, _, rfl, X8.out.1, X8.out.2.1⟩) (.inr ⟨_, _, rfl, Y8.out.1, Y8.out.2.1⟩)).mono ?_
  rintro e w9 ⟨tvG, lvG, kvG, cvG, ksG, rfl, hAG, hb9⟩
  obtain ⟨hno, hnl, hnk, hnc⟩ := HLn.out
  obtain ⟨taG, tcG, htG⟩ := row_slice hAG.told
  obtain ⟨laG, lcG, hlG⟩ := row_slice hAG.lrow
  obtain ⟨kaG, kcG, hkG⟩ := row_slice hAG.krow
  obtain ⟨caG, ccG, hcG⟩ := row_slice hAG.crow
  rw [ansT_len hAG] at hkG
  rw [hno] at htG
  rw [hnl] at hlG
  rw [hnk] at hkG
  rw [hnc] at hcG
  subst htG hlG hkG hcG
  have AG9 : Hid (AnsT w8.heap.size os t (.slice taG no tcG) (.slice laG nl lcG) (.slice kaG nk kcG) (.slice caG nc ccG) ksG w9) := hAG
  have HMk := marks_of HLn.out hol hll hkl HKs.out hcl sh sl tk dp AG9.out
  obtain ⟨K1, K3, P1, P2, hm1, hm2, hh1, hh2, hP2⟩ := HMk
  have HM1 : Hid (∀ W, (∀ q, w8.heap.size ≤ q → q < w9.heap.size → W.heap[q]? = w9.heap[q]?) → w9.heap.size ≤ W.heap.size → Calls Tryz.prog 16 #[.slice taG no tcG, .int .i64 1] W fun e w' => e = .returned (.int .i64 (K1 : Int)) ∧ Fr (fun q => w8.heap.size ≤ q ∧ q < w9.heap.size) W w' ∧ P1 w') := hm1
  have HM2 : Hid (∀ W, P1 W → Calls Tryz.prog 17 #[.agg #[.slice laG nl lcG, .int .i64 sh, .slice kaG nk kcG, .int .i64 sl, .int .i64 tk, .int .i64 dp, .slice caG nc ccG], .int .i64 (K1 : Int)] W fun e w' => e = .returned (.int .i64 (K3 : Int)) ∧ Fr (fun q => w8.heap.size ≤ q ∧ q < w9.heap.size) W w' ∧ P2 w') := hm2
  have HH1 : Hid (∀ W, P2 W → Calls Tryz.prog 18 #[.slice taG no tcG, .int .i64 1] W fun e w' => e = .returned (.int .i64 (K1 : Int)) ∧ Below W.heap.size W w') := hh1
  have HH2 : Hid (∀ W, P2 W → Calls Tryz.prog 19 #[.agg #[.slice laG nl lcG, .int .i64 sh, .slice kaG nk kcG, .int .i64 sl, .int .i64 tk, .int .i64 dp, .slice caG nc ccG], .int .i64 (K1 : Int)] W fun e w' => e = .returned (.int .i64 (K3 : Int)) ∧ Below W.heap.size W w') := hh2
  have HP2 : Hid (∀ W W', P2 W → Below W.heap.size W W' → P2 W') := hP2
  have hKK : ((K3 : Int) != (K3 : Int)) = false := by simp
  have hK1 : ¬ (K1 : Int) < 0 := by omega
  have hK3 : ¬ (K3 : Int) < 0 := by omega
  have B10 : Hid (Below w8.heap.size w8 (w9.alloc (Obj.cells #[.slice laG nl lcG, .int .i64 sh, .slice kaG nk kcG, .int .i64 sl, .int .i64 tk, .int .i64 dp, .slice caG nc ccG] 33))) := chain hb9 (below_alloc _ _)
  have AG10 : Hid (∀ W, (∀ q, w8.heap.size ≤ q → q ≤ w9.heap.size → W.heap[q]? = (w9.alloc (Obj.cells #[.slice laG nl lcG, .int .i64 sh, .slice kaG nk kcG, .int .i64 sl, .int .i64 tk, .int .i64 dp, .slice caG nc ccG] 33)).heap[q]?) → AnsT w8.heap.size os t (.slice taG no tcG) (.slice laG nl lcG) (.slice kaG nk kcG) (.slice caG nc ccG) ksG W ∧ W.heap[w9.heap.size]? = some (.cells #[.slice laG nl lcG, .int .i64 sh, .slice kaG nk kcG, .int .i64 sl, .int .i64 tk, .int .i64 dp, .slice caG nc ccG] 33 (0, 0)) ∧ (∀ q, w8.heap.size ≤ q → q < w9.heap.size → W.heap[q]? = w9.heap[q]?)) := fun W hW => by
    have h1 : ∀ q, w8.heap.size ≤ q → q < w9.heap.size → W.heap[q]? = w9.heap[q]? := fun q h1 h2 => (hW q h1 (by omega)).trans (Below.heap_alloc _ _ _ h2)
    exact ⟨AG9.out.same h1, (hW _ hb9.size (Nat.le_refl _)).trans (heapNew _ _), h1⟩
  have Z10 : Hid (w9.heap.size < (w9.alloc (Obj.cells #[.slice laG nl lcG, .int .i64 sh, .slice kaG nk kcG, .int .i64 sl, .int .i64 tk, .int .i64 dp, .slice caG nc ccG] 33)).heap.size ∧ w8.heap.size ≤ w9.heap.size) := ⟨by simp, hb9.size⟩
  clear hno hnl hnk hnc hb9 hAG hm1 hm2 hh1 hh2 hP2 AG9
  go_wp2_with fail
  generalize (w9.alloc (Obj.cells #[.slice laG nl lcG, .int .i64 sh, .slice kaG nk kcG, .int .i64 sl, .int .i64 tk, .int .i64 dp, .slice caG nc ccG] 33)) = W10 at *
  generalize w9.heap.size = gb at *
  have Q10 : Hid (∀ W, Below W10.heap.size W10 W → (∀ q, w8.heap.size ≤ q → q ≤ gb → W.heap[q]? = W10.heap[q]?)) := fun W hW q _ h2 => hW.block q (by have := Z10.out.1; omega)
  have E10 : Hid (∀ W, Below W10.heap.size W10 W → Below W6.heap.size W6 W ∧ Below w8.heap.size w8 W) := fun W hW => by
    have h1 := chain B10.out hW
    exact ⟨chain D8.out h1, h1⟩
  have EQ11 := eq_both HLn.out hol hll hkl HKs.out hcl sh sl tk dp W10 (AG10.out _ (fun _ _ _ => rfl)).1 (AW6.out _ (E10.out _ (Below.refl _ _)).1).1
  have EO11 : Hid (Calls Tryz.prog 10 #[.slice taG no tcG, .slice taW no tcW] W10 fun e w' => e = .returned (.bool true) ∧ Below W10.heap.size W10 w') := EQ11.1
  have ET11 : Hid (∀ W', Below W10.heap.size W10 W' → Calls Tryz.prog 11 #[.agg #[.slice laG nl lcG, .int .i64 sh, .slice kaG nk kcG, .int .i64 sl, .int .i64 tk, .int .i64 dp, .slice caG nc ccG], .agg #[.slice laW nl lcW, .int .i64 sh, .slice kaW nk kcW, .int .i64 sl, .int .i64 tk, .int .i64 dp, .slice caW nc ccW]] W' fun e w' => e = .returned (.bool true) ∧ Below W'.heap.size W' w') := EQ11.2
  clear EQ11
  go_wp2_with fail
  (first | go_at_call 10 | skip)
  refine EO11.out.mono ?_
  rintro e w11 ⟨rfl, hb11⟩
  have p11 : Hid (Below W10.heap.size W10 w11) := hb11
  have hbxA := (AG10.out w11 (Q10.out w11 p11.out)).2.1
  have hbxW := (AW6.out w11 (E10.out w11 p11.out).1).2
  have y0 := blkCell hbxA 0 _ rfl
  have y1 := blkCell hbxA 1 _ rfl
  have y2 := blkCell hbxA 2 _ rfl
  have y3 := blkCell hbxA 3 _ rfl
  have y4 := blkCell hbxA 4 _ rfl
  have y5 := blkCell hbxA 5 _ rfl
  have y6 := blkCell hbxA 6 _ rfl
  have z0 := blkCell hbxW 0 _ rfl
  have z1 := blkCell hbxW 1 _ rfl
  have z2 := blkCell hbxW 2 _ rfl
  have z3 := blkCell hbxW 3 _ rfl
  have z4 := blkCell hbxW 4 _ rfl
  have z5 := blkCell hbxW 5 _ rfl
  have z6 := blkCell hbxW 6 _ rfl
  clear hb11 EO11 hbxA hbxW
  go_wp2_with fail
  (first | go_at_call 11 | skip)
  refine (ET11.out _ p11.out).mono ?_
  rintro e w12 ⟨rfl, hb12⟩
  have p12 : Hid (Below W10.heap.size W10 w12) := chain p11.out hb12
  clear hb12 ET11 p11
  clear y0 y1 y2 y3 y4 y5 y6
  clear z0 z1 z2 z3 z4 z5 z6
  -- the copies are as they were
  go_wp2_with fail
  (first | go_at_call 7 | skip)
  refine (hTI.out w12 (chain B8.out (E10.out _ p12.out).2)).mono ?_
  rintro e w13 ⟨rfl, hb13, hz13, hi13, _⟩
  have p13 : Hid (Below W10.heap.size W10 w13) := chain p12.out hb13
  have V13 : Hid (ReadsIt w13.heap.size w13 (some ⟨w12.heap.size, 0, none⟩) its) := .inr ⟨_, _, rfl, hz13, hi13⟩
  have X13 : Hid (ReadsIt w13.heap.size w13 (some ⟨W6.heap.size, 0, none⟩) its) := .inr ⟨_, _, rfl, Nat.lt_of_lt_of_le X8.out.1 (E10.out _ p13.out).2.size, X8.out.2.1.below (E10.out _ p13.out).2 X8.out.1⟩
  clear hb13 hz13 hi13 p12
  go_wp2_with fail
  (first | go_at_call 12 | skip)
  refine (eqIts_any _ _ _ _ its hlen w13 X13.out V13.out).mono ?_
  rintro e w14 ⟨rfl, hb14⟩
  have p14 : Hid (Below W10.heap.size W10 w14) := chain p13.out hb14
  clear hb14 V13 X13 p13
  go_wp2_with fail
  (first | go_at_call 8 | skip)
  refine (hTA.out w14 (chain B8.out (E10.out _ p14.out).2)).mono ?_
  rintro e w15 ⟨rfl, hb15, hz15, hi15, _⟩
  have p15 : Hid (Below W10.heap.size W10 w15) := chain p14.out hb15
  have V15 : Hid (ReadsTa w15.heap.size w15 (some ⟨w14.heap.size, 0, none⟩) acts) := .inr ⟨_, _, rfl, hz15, hi15⟩
  have X15 : Hid (ReadsTa w15.heap.size w15 (some ⟨w7.heap.size, 0, none⟩) acts) := .inr ⟨_, _, rfl, Nat.lt_of_lt_of_le Y8.out.1 (E10.out _ p15.out).2.size, Y8.out.2.1.below (E10.out _ p15.out).2 Y8.out.1⟩
  clear hb15 hz15 hi15 p14
  go_wp2_with fail
  (first | go_at_call 13 | skip)
  refine (eqTas_any _ _ _ _ acts halen w15 X15.out V15.out).mono ?_
  rintro e w16 ⟨rfl, hb16⟩
  have p16 : Hid (Below W10.heap.size W10 w16) := chain p15.out hb16
  clear hb16 V15 X15 p15
  -- the copies are marked
  have M16 : Hid (Mk W6.heap.size (its.length * 5) w16 w16) := by
    have hd := (E10.out _ p16.out).2
    exact Mk.start (Nat.lt_of_lt_of_le X8.out.1 hd.size) (its_some (X8.out.2.1.below hd X8.out.1)) (X8.out.2.2.below hd X8.out.1)
  have M16' : Hid (TasAt w16 w7.heap.size 0 acts ∧ FreeTa w16 w7.heap.size acts.length ∧ w7.heap.size < w16.heap.size) := by
    have hd := (E10.out _ p16.out).2
    exact ⟨Y8.out.2.1.below hd Y8.out.1, Y8.out.2.2.below hd Y8.out.1, Nat.lt_of_lt_of_le Y8.out.1 hd.size⟩
  obtain ⟨KI, hKI⟩ : ∃ KI : Nat, KI = 1 + its.length * 5 := ⟨_, rfl⟩
  obtain ⟨KA, hKA⟩ : ∃ KA : Nat, KA = KI + acts.length * 3 := ⟨_, rfl⟩
  have HMI : Hid (∀ W, Mk W6.heap.size (its.length * 5) W W → Calls Tryz.prog 14 #[.slice (some ⟨W6.heap.size, 0, none⟩) its.length its.length, .int .i64 1] W fun e w' => e = .returned (.int .i64 (KI : Int)) ∧ Mk W6.heap.size (its.length * 5) W w') := fun W hW => by
    have h := markIts_any W6.heap.size its.length its.length hlen 1 (by omega) (by omega) W hW
    rw [show ((1 : Nat) : Int) + (its.length : Int) * 5 = (KI : Int) by omega] at h
    exact h
  have HMA : Hid (∀ W, Mk w7.heap.size (acts.length * 3) W W → Calls Tryz.prog 15 #[.slice (some ⟨w7.heap.size, 0, none⟩) acts.length acts.length, .int .i64 (KI : Int)] W fun e w' => e = .returned (.int .i64 (KA : Int)) ∧ Mk w7.heap.size (acts.length * 3) W w') := fun W hW => by
    have h := markTas_any w7.heap.size acts.length acts.length halen KI (by omega) (by omega) W hW
    rw [show (KI : Int) + (acts.length : Int) * 3 = (KA : Int) by omega] at h
    exact h
  have hKA0 : decide ((KA : Int) < 0) = false := decide_eq_false (by omega)
  clear hKI hKA
  go_wp2_with fail
  (first | go_at_call 14 | skip)
  refine (HMI.out _ M16.out).mono ?_
  rintro e w17 ⟨rfl, hm17⟩
  have S17 : Hid (Below W6.heap.size W6 w17 ∧ Below w.heap.size w w17 ∧ W10.heap.size ≤ w17.heap.size ∧ (∀ q, w8.heap.size ≤ q → q ≤ gb → w17.heap[q]? = W10.heap[q]?)) := by
    have h1 := hm17.1.1
    have h2 := hm17.1.2
    have e1 := E10.out _ p16.out
    refine ⟨e1.1.trans h1, (chain B8.out e1.2).trans (h1.mono (B6.out.size)), Nat.le_trans p16.out.size h1.size, fun q k1 k2 => ?_⟩
    have hx := X8.out.1
    have hz := Z10.out.1
    have hs := p16.out.size
    exact (h2.2 q (by omega) (by omega)).trans (Q10.out _ p16.out q k1 k2)
  have M17 : Hid (Mk w7.heap.size (acts.length * 3) w17 w17) := by
    have h2 := hm17.1.2
    have hz := Z67.out
    have hk : w17.heap[w7.heap.size]? = w16.heap[w7.heap.size]? := h2.2 _ (by omega) M16'.out.2.2
    refine Mk.start (Nat.lt_of_lt_of_le M16'.out.2.2 h2.1) (fun j hj => ?_) (fun j hj => ?_)
    · rw [World.cell?_of_block (w := w16) (a := ⟨w7.heap.size, j, none⟩) hk]
      exact tas_some M16'.out.1 j hj
    · rw [World.frozen?_of_block (w := w16) (a := ⟨w7.heap.size, j, none⟩) hk]
      exact M16'.out.2.1 j hj
  clear hm17 M16 M16' HMI
  go_wp2_with fail
  (first | go_at_call 15 | skip)
  refine (HMA.out _ M17.out).mono ?_
  rintro e w18 ⟨rfl, hm18⟩
  have S18 : Hid (Below W6.heap.size W6 w18 ∧ Below w.heap.size w w18 ∧ W10.heap.size ≤ w18.heap.size ∧ (∀ q, w8.heap.size ≤ q → q ≤ gb → w18.heap[q]? = W10.heap[q]?)) := by
    have h1 := hm18.1.1
    have h2 := hm18.1.2
    obtain ⟨s1, s2, s3, s4⟩ := S17.out
    have hz := Z67.out
    have hy := Y8.out.1
    have hq := Z10.out.1
    have hw := B6.out.size
    refine ⟨s1.trans (h1.mono (by omega)), s2.trans (h1.mono (by omega)), Nat.le_trans s3 h1.size, fun q k1 k2 => (h2.2 q (by omega) (by omega)).trans (s4 q k1 k2)⟩
  clear hm18 M17 HMA S17
  have Q18 : Hid (∀ W, Below w18.heap.size w18 W → (∀ q, w8.heap.size ≤ q → q ≤ gb → W.heap[q]? = W10.heap[q]?)) := fun W hW q h1 h2 => (hW.block q (by have := S18.out.2.2.1; have := Z10.out.1; omega)).trans (S18.out.2.2.2 q h1 h2)
  have EQ19 := eq_both HLn.out hol hll hkl HKs.out hcl sh sl tk dp w18 (AG10.out _ S18.out.2.2.2).1 (AW6.out _ S18.out.1).1
  have EO19 : Hid (Calls Tryz.prog 10 #[.slice taG no tcG, .slice taW no tcW] w18 fun e w' => e = .returned (.bool true) ∧ Below w18.heap.size w18 w') := EQ19.1
  have ET19 : Hid (∀ W', Below w18.heap.size w18 W' → Calls Tryz.prog 11 #[.agg #[.slice laG nl lcG, .int .i64 sh, .slice kaG nk kcG, .int .i64 sl, .int .i64 tk, .int .i64 dp, .slice caG nc ccG], .agg #[.slice laW nl lcW, .int .i64 sh, .slice kaW nk kcW, .int .i64 sl, .int .i64 tk, .int .i64 dp, .slice caW nc ccW]] W' fun e w' => e = .returned (.bool true) ∧ Below W'.heap.size W' w') := EQ19.2
  clear EQ19
  go_wp2_with fail
  (first | go_at_call 10 | skip)
  refine EO19.out.mono ?_
  rintro e w19 ⟨rfl, hb19⟩
  have p19 : Hid (Below w18.heap.size w18 w19) := hb19
  have hbxA := (AG10.out w19 (Q18.out w19 p19.out)).2.1
  have hbxW := (AW6.out w19 (chain S18.out.1 p19.out)).2
  have y0 := blkCell hbxA 0 _ rfl
  have y1 := blkCell hbxA 1 _ rfl
  have y2 := blkCell hbxA 2 _ rfl
  have y3 := blkCell hbxA 3 _ rfl
  have y4 := blkCell hbxA 4 _ rfl
  have y5 := blkCell hbxA 5 _ rfl
  have y6 := blkCell hbxA 6 _ rfl
  have z0 := blkCell hbxW 0 _ rfl
  have z1 := blkCell hbxW 1 _ rfl
  have z2 := blkCell hbxW 2 _ rfl
  have z3 := blkCell hbxW 3 _ rfl
  have z4 := blkCell hbxW 4 _ rfl
  have z5 := blkCell hbxW 5 _ rfl
  have z6 := blkCell hbxW 6 _ rfl
  clear hb19 EO19 hbxA hbxW
  go_wp2_with fail
  (first | go_at_call 11 | skip)
  refine (ET19.out _ p19.out).mono ?_
  rintro e w20 ⟨rfl, hb20⟩
  have p20 : Hid (Below w18.heap.size w18 w20) := chain p19.out hb20
  clear hb20 ET19 p19
  clear y0 y1 y2 y3 y4 y5 y6
  clear z0 z1 z2 z3 z4 z5 z6
  -- the answer is marked, and held
  go_wp2_with fail
  (first | go_at_call 16 | skip)
  refine (HM1.out _ (AG10.out _ (Q18.out _ p20.out)).2.2 (Nat.le_trans (Nat.le_of_lt Z10.out.1) (Nat.le_trans S18.out.2.2.1 p20.out.size))).mono ?_
  rintro e w21 ⟨rfl, hf21, hP21⟩
  have F21 : Hid (Fr (fun q => w8.heap.size ≤ q ∧ q < gb) w20 w21) := hf21
  have HP21 : Hid (P1 w21) := hP21
  have G20 : Hid (w20.heap[gb]? = some (.cells #[.slice laG nl lcG, .int .i64 sh, .slice kaG nk kcG, .int .i64 sl, .int .i64 tk, .int .i64 dp, .slice caG nc ccG] 33 (0, 0)) ∧ gb < w20.heap.size) := ⟨(AG10.out _ (Q18.out _ p20.out)).2.1, Nat.lt_of_lt_of_le Z10.out.1 (Nat.le_trans S18.out.2.2.1 p20.out.size)⟩
  have G21 : Hid (w21.heap[gb]? = some (.cells #[.slice laG nl lcG, .int .i64 sh, .slice kaG nk kcG, .int .i64 sl, .int .i64 tk, .int .i64 dp, .slice caG nc ccG] 33 (0, 0))) := (F21.out.block gb G20.out.2 (fun e => by omega)).trans G20.out.1
  have y0 := blkCell G21.out 0 _ rfl
  have y1 := blkCell G21.out 1 _ rfl
  have y2 := blkCell G21.out 2 _ rfl
  have y3 := blkCell G21.out 3 _ rfl
  have y4 := blkCell G21.out 4 _ rfl
  have y5 := blkCell G21.out 5 _ rfl
  have y6 := blkCell G21.out 6 _ rfl
  clear hf21 hP21
  go_wp2_with fail
  (first | go_at_call 17 | skip)
  refine (HM2.out _ HP21.out).mono ?_
  rintro e w22 ⟨rfl, hf22, hP22⟩
  have F22 : Hid (Fr (fun q => w8.heap.size ≤ q ∧ q < gb) w20 w22) := F21.out.trans hf22
  have HP22 : Hid (P2 w22) := hP22
  have S22 : Hid (Below W6.heap.size W6 w22 ∧ Below w.heap.size w w22 ∧ w22.heap[gb]? = some (.cells #[.slice laG nl lcG, .int .i64 sh, .slice kaG nk kcG, .int .i64 sl, .int .i64 tk, .int .i64 dp, .slice caG nc ccG] 33 (0, 0))) := by
    have h1 := chain S18.out.1 p20.out
    have h2 := chain S18.out.2.1 p20.out
    have hx := X8.out.1
    have hw := B6.out.size
    refine ⟨Fr.below h1 F22.out h1.size (fun q hq => by omega), Fr.below h2 F22.out h2.size (fun q hq => by omega), (F22.out.block gb G20.out.2 (fun e => by omega)).trans G20.out.1⟩
  clear hf22 hP22 HP21 F21 G21 F22 G20 p20 Q18 S18 HM1 HM2
  clear y0 y1 y2 y3 y4 y5 y6
  go_wp2_with fail
  (first | go_at_call 18 | skip)
  refine (HH1.out _ HP22.out).mono ?_
  rintro e w23 ⟨rfl, hb23⟩
  have p23 : Hid (Below w22.heap.size w22 w23) := hb23
  have hbx := (hb23.block gb (blkLt S22.out.2.2)).trans S22.out.2.2
  have y0 := blkCell hbx 0 _ rfl
  have y1 := blkCell hbx 1 _ rfl
  have y2 := blkCell hbx 2 _ rfl
  have y3 := blkCell hbx 3 _ rfl
  have y4 := blkCell hbx 4 _ rfl
  have y5 := blkCell hbx 5 _ rfl
  have y6 := blkCell hbx 6 _ rfl
  clear hb23 hbx
  go_wp2_with fail
  (first | go_at_call 19 | skip)
  refine (HH2.out _ (HP2.out _ _ HP22.out p23.out)).mono ?_
  rintro e w24 ⟨rfl, hb24⟩
  have p24 : Hid (Below w22.heap.size w22 w24) := chain p23.out hb24
  clear hb24 p23
  clear y0 y1 y2 y3 y4 y5 y6
  -- another call
  go_wp2_with fail
  (first | go_at_call 7 | skip)
  refine (hTI.out w24 (chain S22.out.2.1 p24.out)).mono ?_
  rintro e w25 ⟨rfl, hb25, hz25, hi25, _⟩
  have p25 : Hid (Below w22.heap.size w22 w25) := chain p24.out hb25
  have X25 : Hid (w24.heap.size < w25.heap.size ∧ ItsAt w25 w24.heap.size 0 its) := ⟨hz25, hi25⟩
  clear hb25 hz25 hi25 p24
  go_wp2_with fail
  (first | go_at_call 8 | skip)
  refine (hTA.out w25 (chain S22.out.2.1 p25.out)).mono ?_
  rintro e w26 ⟨rfl, hb26, hz26, hi26, _⟩
  have p26 : Hid (Below w22.heap.size w22 w26) := chain p25.out hb26
  have X26 : Hid (ReadsIt w26.heap.size w26 (some ⟨w24.heap.size, 0, none⟩) its) := .inr ⟨_, _, rfl, Nat.lt_of_lt_of_le X25.out.1 hb26.size, X25.out.2.below hb26 X25.out.1⟩
  have Y26 : Hid (ReadsTa w26.heap.size w26 (some ⟨w25.heap.size, 0, none⟩) acts) := .inr ⟨_, _, rfl, hz26, hi26⟩
  clear hb26 hz26 hi26 p25 X25
  go_wp2_with fail
  (first | go_at_call 9 | skip)
  refine (hI.out _ _ w26 X26.out Y26.out).mono ?_
  rintro e w27 ⟨tvH, lvH, kvH, cvH, ksH, rfl, hAH, hb27⟩
  obtain ⟨hno, hnl, hnk, hnc⟩ := HLn.out
  obtain ⟨taH, tcH, htH⟩ := row_slice hAH.told
  obtain ⟨laH, lcH, hlH⟩ := row_slice hAH.lrow
  obtain ⟨kaH, kcH, hkH⟩ := row_slice hAH.krow
  obtain ⟨caH, ccH, hcH⟩ := row_slice hAH.crow
  rw [ansT_len hAH] at hkH
  rw [hno] at htH
  rw [hnl] at hlH
  rw [hnk] at hkH
  rw [hnc] at hcH
  subst htH hlH hkH hcH
  have p28 : Hid (Below w22.heap.size w22 (w27.alloc (Obj.cells #[.slice laH nl lcH, .int .i64 sh, .slice kaH nk kcH, .int .i64 sl, .int .i64 tk, .int .i64 dp, .slice caH nc ccH] 33))) := chain p26.out (chain hb27 (below_alloc _ _))
  have AH28 : Hid (∀ W, Below (w27.alloc (Obj.cells #[.slice laH nl lcH, .int .i64 sh, .slice kaH nk kcH, .int .i64 sl, .int .i64 tk, .int .i64 dp, .slice caH nc ccH] 33)).heap.size (w27.alloc (Obj.cells #[.slice laH nl lcH, .int .i64 sh, .slice kaH nk kcH, .int .i64 sl, .int .i64 tk, .int .i64 dp, .slice caH nc ccH] 33)) W → AnsT w26.heap.size os t (.slice taH no tcH) (.slice laH nl lcH) (.slice kaH nk kcH) (.slice caH nc ccH) ksH W ∧ W.heap[w27.heap.size]? = some (.cells #[.slice laH nl lcH, .int .i64 sh, .slice kaH nk kcH, .int .i64 sl, .int .i64 tk, .int .i64 dp, .slice caH nc ccH] 33 (0, 0))) := fun W hW => ⟨hAH.later (chain (below_alloc _ _) hW), (hW.block _ (by simp)).trans (heapNew _ _)⟩
  clear hno hnl hnk hnc hb27 hAH X26 Y26 p26 hI hTI hTA
  go_wp2_with fail
  generalize (w27.alloc (Obj.cells #[.slice laH nl lcH, .int .i64 sh, .slice kaH nk kcH, .int .i64 sl, .int .i64 tk, .int .i64 dp, .slice caH nc ccH] 33)) = W28 at *
  generalize w27.heap.size = hb at *
  have EQ29 := eq_both HLn.out hol hll hkl HKs.out hcl sh sl tk dp W28 (AH28.out _ (Below.refl _ _)).1 (AW6.out _ (chain S22.out.1 p28.out)).1
  have EO29 : Hid (Calls Tryz.prog 10 #[.slice taH no tcH, .slice taW no tcW] W28 fun e w' => e = .returned (.bool true) ∧ Below W28.heap.size W28 w') := EQ29.1
  have ET29 : Hid (∀ W', Below W28.heap.size W28 W' → Calls Tryz.prog 11 #[.agg #[.slice laH nl lcH, .int .i64 sh, .slice kaH nk kcH, .int .i64 sl, .int .i64 tk, .int .i64 dp, .slice caH nc ccH], .agg #[.slice laW nl lcW, .int .i64 sh, .slice kaW nk kcW, .int .i64 sl, .int .i64 tk, .int .i64 dp, .slice caW nc ccW]] W' fun e w' => e = .returned (.bool true) ∧ Below W'.heap.size W' w') := EQ29.2
  clear EQ29
  go_wp2_with fail
  (first | go_at_call 10 | skip)
  refine EO29.out.mono ?_
  rintro e w29 ⟨rfl, hb29⟩
  have p29 : Hid (Below W28.heap.size W28 w29) := hb29
  have hbxA := (AH28.out w29 p29.out).2
  have hbxW := (AW6.out w29 (chain S22.out.1 (chain p28.out p29.out))).2
  have y0 := blkCell hbxA 0 _ rfl
  have y1 := blkCell hbxA 1 _ rfl
  have y2 := blkCell hbxA 2 _ rfl
  have y3 := blkCell hbxA 3 _ rfl
  have y4 := blkCell hbxA 4 _ rfl
  have y5 := blkCell hbxA 5 _ rfl
  have y6 := blkCell hbxA 6 _ rfl
  have z0 := blkCell hbxW 0 _ rfl
  have z1 := blkCell hbxW 1 _ rfl
  have z2 := blkCell hbxW 2 _ rfl
  have z3 := blkCell hbxW 3 _ rfl
  have z4 := blkCell hbxW 4 _ rfl
  have z5 := blkCell hbxW 5 _ rfl
  have z6 := blkCell hbxW 6 _ rfl
  clear hb29 EO29 hbxA hbxW
  go_wp2_with fail
  (first | go_at_call 11 | skip)
  refine (ET29.out _ p29.out).mono ?_
  rintro e w30 ⟨rfl, hb30⟩
  have p30 : Hid (Below W28.heap.size W28 w30) := chain p29.out hb30
  clear hb30 ET29 p29
  clear y0 y1 y2 y3 y4 y5 y6
  clear z0 z1 z2 z3 z4 z5 z6
  have p31 : Hid (Below w22.heap.size w22 w30) := chain p28.out p30.out
  clear p28 p30 AH28 AW6
  go_wp2_with fail
  (first | go_at_call 18 | skip)
  refine (HH1.out _ (HP2.out _ _ HP22.out p31.out)).mono ?_
  rintro e w32 ⟨rfl, hb32⟩
  have p32 : Hid (Below w22.heap.size w22 w32) := chain p31.out hb32
  have hbx := (p32.out.block gb (blkLt S22.out.2.2)).trans S22.out.2.2
  have y0 := blkCell hbx 0 _ rfl
  have y1 := blkCell hbx 1 _ rfl
  have y2 := blkCell hbx 2 _ rfl
  have y3 := blkCell hbx 3 _ rfl
  have y4 := blkCell hbx 4 _ rfl
  have y5 := blkCell hbx 5 _ rfl
  have y6 := blkCell hbx 6 _ rfl
  clear hb32 hbx p31
  go_wp2_with fail
  (first | go_at_call 19 | skip)
  refine (HH2.out _ (HP2.out _ _ HP22.out p32.out)).mono ?_
  rintro e w33 ⟨rfl, hb33⟩
  have p33 : Hid (Below w.heap.size w w33) := chain S22.out.2.1 (chain p32.out hb33)
  clear hb33 p32
  clear y0 y1 y2 y3 y4 y5 y6
  go_wp2
  go_ret
  exact ⟨rfl, p33.out⟩

theorem walk (a : Option Addr) (len ca : Nat) (its : List RIt) (b : Option Addr) (blen cb : Nat) (acts : List RTa) (w : World) (h : IsIts w a len ca its) (k : IsTas w b blen cb acts) :
    Calls Tryz.prog 3 #[.slice a len ca, .slice b blen cb] w fun e w' => e = .returned (.bool true) ∧ Below w.heap.size w w' := by
  obtain ⟨rfl, h2, h3, h4, h5⟩ := h
  obtain ⟨rfl, k2, k3, k4, k5⟩ := k
  exact walk' a ca its (Nat.le_trans h2 h3) h4 b cb acts (Nat.le_trans k2 k3) k4 w h5 k5

theorem own : ownKnob Tryz.prog.godebug = none := by kernel_rfl
theorem laidOut : laidOutB Tryz.prog = true := by kernel_rfl

set_option maxRecDepth 100000 in
theorem lifted (os : Os) (started : os.Started) (H : Type) (enc : TypeId × Value → H) :
    ReturnsInHanded {} Tryz.checked os 3 .any (Rows.fnExactTillRunSpec.pre6 enc Tryz.prog Tryz.f3 Rows.fnExactTillRunRow.domain false) (Rows.fnExactTillRunSpec.post enc Tryz.prog Tryz.f3 false true false false) := by
  refine returnsInHanded_of_change (C := Tryz.checked) own started (by kernel_rfl) Tryz.func3
    (ChangeSpec.witness6 (enc := enc) (C := Tryz.checked) false ⟨#[], #[.slice none 0 0, .slice none 0 0], []⟩ 8 (by kernel_rfl) (by kernel_rfl) (by kernel_rfl) (by kernel_rfl)) ?_
  intro W base args ds gs before hval0 hW hcnd _
  have hval : ∀ (j : Nat) t v, Tryz.f3.params[j]? = some t → args[j]? = some v → Value.okWide Tryz.prog W .any base t v := hval0
  have hW' := hW
  obtain ⟨p, q, hA0, hV, rfl, hfz, hnd⟩ := hW
  have hA : DataW.TrodAll enc Tryz.prog W 0 (fun _ => true) true Tryz.f3.params.toList args.toList ds p := hA0
  rw [Tryz.params3] at hA hval
  obtain ⟨v0, vs0, d0, ds0, p0, q0, hargs, rfl, rfl, h0, r0⟩ := trodAll_cons hA
  obtain ⟨v1, vs1, d1, ds1, p1, q1, rfl, rfl, rfl, h1, r1⟩ := trodAll_cons r0
  obtain ⟨rfl, rfl, rfl⟩ := trodAll_nil r1
  obtain rfl : args = #[v0, v1] := by cases args; simp_all
  obtain ⟨rfl, rfl⟩ := trodVars_none hV
  have k0 := h0
  have lt0 : ∀ x ∈ p0, x.block < W.heap.size := by obtain ⟨m, hm⟩ := k0; exact DataW.trod_lt m _ _ _ hm
  have k1 := h1
  have lt1 : ∀ x ∈ p1, x.block < W.heap.size := by obtain ⟨m, hm⟩ := k1; exact DataW.trod_lt m _ _ _ hm
  obtain ⟨a0, len0, cap0, rfl⟩ := okWide_slice Tryz.underlying22 (hval 0 22 v0 rfl rfl)
  obtain ⟨z0, w0⟩ : ∃ zs, IsIts W a0 len0 cap0 zs := by
    obtain ⟨fuel, hf⟩ := h0
    exact openIts (by simpa [Value.cells] using hf)
  obtain ⟨a1, len1, cap1, rfl⟩ := okWide_slice Tryz.underlying23 (hval 1 23 v1 rfl rfl)
  obtain ⟨z1, w1⟩ : ∃ zs, IsTas W a1 len1 cap1 zs := by
    obtain ⟨fuel, hf⟩ := h1
    exact openTas (by simpa [Value.cells] using hf)
  clear hA0 hval0
  refine (walk a0 len0 cap0 z0 a1 len1 cap1 z1 W w0 w1).mono fun e W' ⟨he, bel⟩ => ?_
  subst he
  exact ⟨_, rfl, _, _, _, [], _, [], hW', trodAll_mk1 (shut_bool Tryz.underlying4 _), (trodAll_cons_mk (Below.trod laidOut (by kernel_rfl) (of_decide_eq_true (by kernel_rfl)) k0 bel lt0) (trodAll_cons_mk (Below.trod laidOut (by kernel_rfl) (of_decide_eq_true (by kernel_rfl)) k1 bel lt1) trodAll_mk0)), rfl, bel.frame _, fun h => by cases h⟩

theorem over : Rows.fnExactTillRunRow.holds Tryz.pinned (OpenSpec.ofChange Rows.fnExactTillRunSpec) :=
  OpenClaim.holds_of_wide 3 Tryz.f3 rfl rfl rfl rfl rfl rfl rfl ⟨rfl, rfl, rfl, rfl, rfl⟩ rfl rfl rfl rfl rfl (by kernel_rfl) Tryz.func3 (by kernel_rfl)
    (of_decide_eq_true (by kernel_rfl)) (by unfold Func.isWrapper; first | (rw [if_pos (by decide +kernel)]; kernel_rfl) | (rw [if_neg (by decide +kernel)]; exact ⟨rfl, rfl⟩))
    (fun os started H enc _ => lifted os started H enc)
end TillLaw

theorem fnExactTillRun_holds : Rows.FnExactTillRunSaid := TillLaw.over
end Go.Proofs.YthcahmjgfjeckaaGreat
