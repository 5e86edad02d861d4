/-
  For every two lists of bytes the law FnChange answers true: of drawn right coins, and some of them, the program makes what these come to, of coins that are held, with no more coins than these; for any amount it answers as the specification; with no condition.
-/
import Derived.Test.YtngnmlifbjpkoaaDrawHo
import Derived.Test.YtngnmlifbjpkoaaChD
import Derived.Test.YtngnmlifbjpkoaaChF
namespace Go.Proofs.Ytngnmlifbjpkoaa
open Go.ChangeShapes Go.WideShapes Go.ChangeAt Go.RowKit Go.Joins
set_option linter.unusedVariables false

namespace FnChange
set_option maxHeartbeats 1000000 in
theorem sameInts_any (a b : Option Addr) (ca cb : Nat) (L : List Int) (hl : L.length ≤ 1000) (w : World) (ra : Reads w.heap.size w a L) (rb : Reads w.heap.size w b L) :
    Calls Try.prog 11 #[.slice a L.length ca, .slice b L.length cb] w fun e w' => e = .returned (.bool true) ∧ Below w.heap.size w w' := by
  have HA : Hid (Reads w.heap.size w a L) := ra
  have HB : Hid (Reads w.heap.size w b L) := rb
  clear ra rb
  have hne : ((L.length : Int) != (L.length : Int)) = false := by simp
  go_enter Try.func11, Try.ntmps11
  go_wp2
  go_loopw [5] (fun c wr => ∃ k : Nat, k ≤ L.length ∧ c = .int .i64 (k : Int) ∧ Below w.heap.size w wr) (fun c _ => L.length - (intOf c).toNat)
  case atStart => exact ⟨0, Nat.zero_le _, rfl, Below.refl _ _⟩
  case round =>
    obtain ⟨k, hk, rfl, hb⟩ := hrel
    have HK : Hid (Below w.heap.size w wr) := hb
    clear hb
    by_cases hlt : k < L.length
    · have hlt' : (k : Int) < (L.length : Int) := by omega
      rcases HA.out with h | ⟨b0, o0, ha, hB0, ia⟩
      · rw [h] at hlt; simp at hlt
      rcases HB.out with h | ⟨b1, o1, hb, hB1, ib⟩
      · rw [h] at hlt; simp at hlt
      have c0 := (ia.below HK.out hB0) k hlt
      have c1 := (ib.below HK.out hB1) k hlt
      rw [ha, hb]
      clear ia ib
      have hxx : ∀ x : Int, (x != x) = false := fun x => by simp
      generalize L.getD k 0 = x at *
      have hx := hxx x
      go_wp2
      go_quiet (fail)
      go_wp2
      exact ⟨⟨k + 1, by omega, by go_num, below_drewN HK.out _⟩, by simp [intOf]; omega⟩
    · have hle : (L.length : Int) ≤ (k : Int) := by omega
      go_wp2
      go_ret
      exact ⟨rfl, HK.out⟩


theorem wrt_congr (rs : List RCo) (f g : Nat → Nat) : ∀ k, (∀ i, i < k → f i = g i) → wrt rs f k = wrt rs g k
  | 0, _ => rfl
  | k + 1, h => by
    show wrt rs f k + _ * f k = wrt rs g k + _ * g k
    rw [wrt_congr rs f g k (fun i hi => h i (by omega)), h k (by omega)]
theorem cnt_congr (f g : Nat → Nat) : ∀ k, (∀ i, i < k → f i = g i) → cnt f k = cnt g k
  | 0, _ => rfl
  | k + 1, h => by
    show cnt f k + f k = cnt g k + g k
    rw [cnt_congr f g k (fun i hi => h i (by omega)), h k (by omega)]
/-- What is told of the coins that some of them come to. -/
theorem told (rs : List RCo) (h : heAll rs = true) (L : List Int) (hL : ∀ i, i < rs.length → 0 ≤ L.getD i 0 ∧ L.getD i 0 ≤ (rs.getD i zCo).ct) (hd : wrt rs (cF L) rs.length ≤ 10000) :
    ∃ K : List Int, chList ((wrt rs (cF L) rs.length : Nat) : Int) rs = K ∧ chCode ((wrt rs (cF L) rs.length : Nat) : Int) rs = 0 ∧ K.length = rs.length ∧ (∀ i, i < rs.length → 0 ≤ K.getD i 0 ∧ K.getD i 0 ≤ (rs.getD i zCo).ct) ∧ wrt rs (cF K) rs.length = wrt rs (cF L) rs.length ∧ cnt (cF K) rs.length ≤ cnt (cF L) rs.length := by
  have hm := (heAll_mem h).2
  obtain ⟨c0, c1, c2, c3⟩ := change_some rs h (cF L) (fun i hi => by have := hL i hi; unfold cF; omega) hd
  have hg : ∀ i, i < rs.length → (chL rs (wrt rs (cF L) rs.length)).getD i 0 = (tkF rs (wrt rs (cF L) rs.length) i : Int) := fun i hi => by
    unfold chL cnS tkF
    simp [List.getD_eq_getElem?_getD, hi]
  refine ⟨chL rs (wrt rs (cF L) rs.length), by rw [ch_some c0, Int.toNat_natCast], c0, by simp [chL], fun i hi => ?_, ?_, ?_⟩
  · rw [hg i hi]
    have h1 := c3 i hi
    have h2 := getCo hm hi
    omega
  · exact (wrt_congr rs _ (tkF rs (wrt rs (cF L) rs.length)) rs.length (fun i hi => by show ((chL rs _).getD i 0).toNat = _; rw [hg i hi, Int.toNat_natCast])).trans c1
  · refine Nat.le_trans (Nat.le_of_eq ?_) c2
    exact cnt_congr _ _ rs.length (fun i hi => by show ((chL rs _).getD i 0).toNat = _; rw [hg i hi, Int.toNat_natCast])
theorem chList_len (d : Int) (rs : List RCo) : (chList d rs).length ≤ rs.length := by
  unfold chList
  split
  · simp [chL]
  · simp

set_option maxHeartbeats 8000000 in
set_option maxRecDepth 4000 in
theorem walk (a0 : Option Addr) (len0 cap0 : Nat) (z0 : List Int) (a1 : Option Addr) (len1 cap1 : Nat) (z1 : List Int) (w : World) (r0 : RowB w.heap.size w a0 len0 z0) (r1 : RowB w.heap.size w a1 len1 z1) :
    Calls Try.prog 3 #[.slice a0 len0 cap0, .slice a1 len1 cap1] w fun e w' => e = .returned (.bool true) ∧ Below w.heap.size w w' := by
  by_cases hbig : (1048576 : Int) < (len0 : Int)
  · clear r0 r1
    go_enter Try.func3, Try.ntmps3
    go_wp2
    go_ret
    exact ⟨rfl, Below.refl _ _⟩
  have hbig' : (len0 : Int) ≤ 1048576 := by omega
  by_cases hbig1 : (1048576 : Int) < (len1 : Int)
  · clear r0 r1
    go_enter Try.func3, Try.ntmps3
    go_wp2
    go_ret
    exact ⟨rfl, Below.refl _ _⟩
  have hbig1' : (len1 : Int) ≤ 1048576 := by omega
  have hT := heldOf_any a0 len0 cap0 z0 w r0
  have R1 : Hid (RowB w.heap.size w a1 len1 z1) := r1
  clear r0 r1 hbig hbig1
  go_enter Try.func3, Try.ntmps3
  go_wp2_with fail
  (first | go_at_call 4 | skip)
  refine hT.mono ?_
  rintro e w1 ⟨rs, L, g, cp, g1, cp1, rfl, hll, hall, hl9, hLc, hw10, hco, hgl, hin, hgl1, hb1⟩
  clear hT
  have hmem := (heAll_mem hall).2
  obtain ⟨K, hK, hK0, hKl, hKc, hKw, hKn⟩ := told rs hall L hLc hw10
  have hL60 : ∀ i, i < rs.length → 0 ≤ L.getD i 0 ∧ L.getD i 0 ≤ 60 := fun i hi => by have h1 := hLc i hi; have h2 := getCo hmem hi; omega
  have hK60 : ∀ i, i < rs.length → 0 ≤ K.getD i 0 ∧ K.getD i 0 ≤ 60 := fun i hi => by have h1 := hKc i hi; have h2 := getCo hmem hi; omega
  have HC : Hid (∀ W, Below w1.heap.size w1 W → ReadsCo W.heap.size W (some ⟨g, 0, none⟩) rs) := fun W hW => .inr ⟨_, _, rfl, Nat.lt_of_lt_of_le hgl hW.size, hco.below hW hgl⟩
  have HL : Hid (∀ W, Below w1.heap.size w1 W → Reads W.heap.size W (some ⟨g1, 0, none⟩) L) := fun W hW => .inr ⟨_, _, rfl, Nat.lt_of_lt_of_le hgl1 hW.size, hin.below hW hgl1⟩
  have HW : Hid (∀ W, Below w1.heap.size w1 W → Calls Try.prog 5 #[.slice (some ⟨g, 0, none⟩) rs.length cp, .slice (some ⟨g1, 0, none⟩) rs.length cp1] W fun e w' => e = .returned (.int .i64 ((wrt rs (cF L) rs.length : Nat) : Int)) ∧ Below W.heap.size W w') := fun W hW => worth_any1 _ _ _ _ rs L hll (by omega) hmem hL60 W (HC.out W hW) (HL.out W hW)
  have HW2 : Hid (∀ W k kc, Below w1.heap.size w1 W → Reads W.heap.size W k K → Calls Try.prog 5 #[.slice (some ⟨g, 0, none⟩) rs.length cp, .slice k rs.length kc] W fun e w' => e = .returned (.int .i64 ((wrt rs (cF L) rs.length : Nat) : Int)) ∧ Below W.heap.size W w') := fun W k kc hW hk => by
    have := worth_any1 (some ⟨g, 0, none⟩) k cp kc rs K hKl (by omega) hmem hK60 W (HC.out W hW) hk
    rwa [hKw] at this
  have HS1 : Hid (∀ W, Below w1.heap.size w1 W → Calls Try.prog 8 #[.slice (some ⟨g1, 0, none⟩) rs.length cp1] W fun e w' => e = .returned (.int .i64 ((cnt (cF L) rs.length : Nat) : Int)) ∧ Below W.heap.size W w') := fun W hW => by
    have := sum_co (some ⟨g1, 0, none⟩) cp1 L (by omega) (fun i hi => hL60 i (by omega)) W (HL.out W hW)
    rwa [hll] at this
  have HS2 : Hid (∀ W k kc, Reads W.heap.size W k K → Calls Try.prog 8 #[.slice k rs.length kc] W fun e w' => e = .returned (.int .i64 ((cnt (cF K) rs.length : Nat) : Int)) ∧ Below W.heap.size W w') := fun W k kc hk => by
    have := sum_co k kc K (by omega) (fun i hi => hK60 i (by omega)) W hk
    rwa [hKl] at this
  have HI : Hid (∀ W, Below w1.heap.size w1 W → Calls Try.prog 6 #[.int .i64 ((wrt rs (cF L) rs.length : Nat) : Int), .slice (some ⟨g, 0, none⟩) rs.length cp] W fun e w' => AnsC W.heap.size w' K 0 e ∧ Below W.heap.size W w') := fun W hW => by
    have := implChange_any (some ⟨g, 0, none⟩) cp rs (by omega) ((wrt rs (cF L) rs.length : Nat) : Int) W (HC.out W hW)
    rwa [hK, hK0] at this
  have HI2 : Hid (∀ W d, Below w1.heap.size w1 W → Calls Try.prog 6 #[.int .i64 d, .slice (some ⟨g, 0, none⟩) rs.length cp] W fun e w' => AnsC W.heap.size w' (chList d rs) (chCode d rs) e ∧ Below W.heap.size W w') := fun W d hW => implChange_any (some ⟨g, 0, none⟩) cp rs (by omega) d W (HC.out W hW)
  have HP : Hid (∀ W d, Below w1.heap.size w1 W → Calls Try.prog 10 #[.int .i64 d, .slice (some ⟨g, 0, none⟩) rs.length cp] W fun e w' => AnsC W.heap.size w' (chList d rs) (chCode d rs) e ∧ Below W.heap.size W w') := fun W d hW => specChange_any (some ⟨g, 0, none⟩) cp rs (by omega) d W (HC.out W hW)
  have HH : Hid (∀ W, Below w1.heap.size w1 W → Calls Try.prog 7 #[.slice (some ⟨g, 0, none⟩) rs.length cp] W fun e w' => e = .returned (.bool true) ∧ Below W.heap.size W w') := fun W hW => by
    have := implHeld_any (some ⟨g, 0, none⟩) cp rs (by omega) W (HC.out W hW)
    rwa [hall] at this
  have HKc : Hid (∀ i, i < rs.length → 0 ≤ K.getD i 0 ∧ K.getD i 0 ≤ (rs.getD i zCo).ct) := hKc
  have HKl : Hid (K.length = rs.length) := hKl
  have HCo : Hid (∀ W, Below w1.heap.size w1 W → CosAt W g 0 rs) := fun W hW => hco.below hW hgl
  have HB1 : Hid (Below w.heap.size w w1) := hb1
  have HM : Hid (∀ d, (chList d rs).length ≤ rs.length) := fun d => chList_len d rs
  have hwb : ((wrt rs (cF L) rs.length : Nat) : Int) ≤ 10000 := by omega
  have hcb : ((cnt (cF K) rs.length : Nat) : Int) ≤ ((cnt (cF L) rs.length : Nat) : Int) := by omega
  have hne : ∀ x : Int, (x != x) = false := fun x => by simp
  generalize wrt rs (cF L) rs.length = D at *
  generalize cnt (cF L) rs.length = CL at *
  generalize cnt (cF K) rs.length = CK at *
  have hD := hne (D : Int)
  have hcd : decide (CL < CK) = false := by simp; omega
  have hLn := hne (rs.length : Int)
  clear hne hco hin hLc hmem hKc hL60 hK60 hK hK0 hKw hKn hall hll hKl hb1 hw10 HC
  go_wp2_with fail
  (first | go_at_call 5 | skip)
  refine (HW.out w1 (Below.refl _ _)).mono ?_
  rintro e w2 ⟨rfl, hb2⟩
  have HB2 : Hid (Below w1.heap.size w1 w2) := hb2
  clear hb2 HW
  go_wp2_with fail
  (first | go_at_call 6 | skip)
  refine (HI.out w2 HB2.out).mono ?_
  rintro e w3 ⟨⟨k, kc, rfl, hown⟩, hb3⟩
  have HB3 : Hid (Below w1.heap.size w1 w3) := chain HB2.out hb3
  have HK : Hid (∀ W, Below w3.heap.size w3 W → Reads W.heap.size W k K) := fun W hW => (hown.reads.below hW).mono hW.size
  rw [HKl.out]
  clear hb3 HB2 HI hown
  go_wp2_with fail
  (first | go_at_call 7 | skip)
  refine (HH.out w3 HB3.out).mono ?_
  rintro e w4 ⟨rfl, hb4⟩
  have HB4 : Hid (Below w3.heap.size w3 w4) := hb4
  clear hb4 HH
  go_wp2_with fail
  (first | go_at_call 5 | skip)
  refine (HW2.out w4 k kc (chain HB3.out HB4.out) (HK.out w4 HB4.out)).mono ?_
  rintro e w5 ⟨rfl, hb5⟩
  have HB5 : Hid (Below w3.heap.size w3 w5) := chain HB4.out hb5
  clear hb5 HW2 HB4
  go_wp2_with fail
  (first | go_at_call 8 | skip)
  refine (HS2.out w5 k kc (HK.out w5 HB5.out)).mono ?_
  rintro e w6 ⟨rfl, hb6⟩
  have HB6 : Hid (Below w3.heap.size w3 w6) := chain HB5.out hb6
  clear hb6 HS2 HB5
  go_wp2_with fail
  (first | go_at_call 8 | skip)
  refine (HS1.out w6 (chain HB3.out HB6.out)).mono ?_
  rintro e w7 ⟨rfl, hb7⟩
  have HB7 : Hid (Below w3.heap.size w3 w7) := chain HB6.out hb7
  clear hb7 HS1 HB6
  go_wp2
  go_loopw [4, 10] (fun _ x wr => ∃ j : Nat, j ≤ rs.length ∧ x = .int .i64 (j : Int) ∧ Below w3.heap.size w3 wr) (fun _ x _ => rs.length - (intOf x).toNat)
  case atStart => exact ⟨0, Nat.zero_le _, rfl, HB7.out⟩
  case round =>
    obtain ⟨j, hj, rfl, hb⟩ := hrel
    have HB : Hid (Below w3.heap.size w3 wr) := hb
    clear hb HB7
    by_cases hlt : j < rs.length
    · have hlt' : (j : Int) < (rs.length : Int) := by omega
      rcases HK.out wr HB.out with h | ⟨b0, o0, ha, hB0, ia⟩
      · exfalso; have := HKl.out; rw [h] at this; simp at this; omega
      subst ha
      have q2 := ia j (by rw [HKl.out]; exact hlt)
      obtain ⟨q0, q1⟩ := HCo.out wr (chain HB3.out HB.out) j hlt
      rw [Nat.zero_add] at q0 q1
      have gk := HKc.out j hlt
      clear ia
      generalize rs.getD j zCo = r at *
      obtain ⟨rv, rc⟩ := r
      generalize K.getD j 0 = x at *
      dsimp only at q0 q1 gk
      go_wp2
      go_quiet (fail)
      go_wp2
      go_roundw
      case rel => exact ⟨j + 1, by omega, by go_num, below_drewN HB.out _⟩
      case measure => simp [intOf]; omega
    · have hle : (rs.length : Int) ≤ (j : Int) := by omega
      have B8 : Hid (Below w1.heap.size w1 wr) := chain HB3.out HB.out
      have hat := at_any wr.heap.size a1 len1 cap1 z1 0 200 wr ((R1.out.below (chain HB1.out B8.out)).mono (chain HB1.out B8.out).size) (by omega) (by omega) (by omega)
      clear HB HKc HKl HK hlt hj HB3
      go_wp2_with fail
      (first | go_at_call 9 | skip)
      refine hat.mono ?_
      rintro e w8 ⟨d, rfl, ⟨hd0, hd1⟩, hb8⟩
      have B9 : Hid (Below w1.heap.size w1 w8) := chain B8.out hb8
      clear hb8 hat B8
      go_wp2_with fail
      (first | go_at_call 6 | skip)
      refine (HI2.out w8 d B9.out).mono ?_
      rintro e w9 ⟨⟨k2, kc2, rfl, own2⟩, hb9⟩
      have B10 : Hid (Below w1.heap.size w1 w9) := chain B9.out hb9
      have O2 : Hid (Own2 w8.heap.size w9 k2 (chList d rs)) := own2
      clear own2 hb9 HI2 B9
      go_wp2_with fail
      (first | go_at_call 10 | skip)
      refine (HP.out w9 d B10.out).mono ?_
      rintro e w10 ⟨⟨k3, kc3, rfl, own3⟩, hb10⟩
      have B11 : Hid (Below w.heap.size w w10) := chain HB1.out (chain B10.out hb10)
      have R2 : Hid (Reads w10.heap.size w10 k2 (chList d rs)) := (O2.out.reads.below hb10).mono hb10.size
      have R3 : Hid (Reads w10.heap.size w10 k3 (chList d rs)) := own3.reads
      have hml := HM.out d
      clear own3 hb10 HP B10 O2
      generalize chCode d rs = c at *
      generalize chList d rs = M at *
      have hcc : (c == c) = true := by simp
      go_wp2_with fail
      (first | go_at_call 11 | skip)
      refine (sameInts_any k2 k3 kc2 kc3 M (by omega) w10 R2.out R3.out).mono ?_
      rintro e w11 ⟨rfl, hb11⟩
      have B12 : Hid (Below w.heap.size w w11) := chain B11.out hb11
      clear hb11
      go_wp2
      go_ret
      exact ⟨rfl, B12.out⟩

theorem own : ownKnob Try.prog.godebug = none := by kernel_rfl
theorem laidOut : laidOutB Try.prog = true := by kernel_rfl

set_option maxRecDepth 100000 in
theorem lifted (os : Os) (started : os.Started) (H : Type) (enc : TypeId × Value → H) :
    ReturnsInHanded {} Try.checked os 3 .any (Rows.fnChangeSpec.pre6 enc Try.prog Try.f3 Rows.fnChangeRow.domain false) (Rows.fnChangeSpec.post enc Try.prog Try.f3 false true false false) := by
  refine returnsInHanded_of_change (C := Try.checked) own started (by kernel_rfl) Try.func3
    (ChangeSpec.witness6 (enc := enc) (C := Try.checked) false ⟨#[], #[.slice none 0 0, .slice none 0 0], []⟩ 8 (by kernel_rfl) (by kernel_rfl) (by kernel_rfl) (by kernel_rfl)) ?_
  intro W base args ds gs before hval0 hW hcnd _
  have hval : ∀ (j : Nat) t v, Try.f3.params[j]? = some t → args[j]? = some v → Value.okWide Try.prog W .any base t v := hval0
  have hW' := hW
  obtain ⟨p, q, hA0, hV, rfl, hfz, hnd⟩ := hW
  have hA : DataW.TrodAll enc Try.prog W 0 (fun _ => true) true Try.f3.params.toList args.toList ds p := hA0
  rw [Try.params3] at hA hval
  obtain ⟨v0, vs0, d0, ds0, p0, q0, hargs, rfl, rfl, h0, r0⟩ := trodAll_cons hA
  obtain ⟨v1, vs1, d1, ds1, p1, q1, rfl, rfl, rfl, h1, r1⟩ := trodAll_cons r0
  obtain ⟨rfl, rfl, rfl⟩ := trodAll_nil r1
  obtain rfl : args = #[v0, v1] := by cases args; simp_all
  obtain ⟨rfl, rfl⟩ := trodVars_none hV
  have k0 := h0
  have lt0 : ∀ x ∈ p0, x.block < W.heap.size := by obtain ⟨m, hm⟩ := k0; exact DataW.trod_lt m _ _ _ hm
  have k1 := h1
  have lt1 : ∀ x ∈ p1, x.block < W.heap.size := by obtain ⟨m, hm⟩ := k1; exact DataW.trod_lt m _ _ _ hm
  obtain ⟨a0, len0, cap0, rfl⟩ := okWide_slice Try.underlying22 (hval 0 22 v0 rfl rfl)
  obtain ⟨z0, w0⟩ : ∃ zs, IsRow .u8 W a0 len0 cap0 zs := by
    obtain ⟨fuel, hf⟩ := h0
    rcases open_ints Try.underlying22 Try.underlying5 (by kernel_rfl) hf with ⟨hcs, _⟩ | ⟨x, l, c, zs, hcs, _, hl, hm, hz, _, hcell, hwz⟩
    · simp [Value.cells] at hcs
      obtain ⟨rfl, rfl, rfl⟩ := hcs
      exact ⟨[], .inl ⟨rfl, rfl, rfl, rfl⟩⟩
    · simp [Value.cells] at hcs
      obtain ⟨rfl, rfl, rfl⟩ := hcs
      exact ⟨zs, .inr ⟨_, rfl, hl, hm, by simpa using hz, hcell, hwz⟩⟩
  obtain ⟨a1, len1, cap1, rfl⟩ := okWide_slice Try.underlying22 (hval 1 22 v1 rfl rfl)
  obtain ⟨z1, w1⟩ : ∃ zs, IsRow .u8 W a1 len1 cap1 zs := by
    obtain ⟨fuel, hf⟩ := h1
    rcases open_ints Try.underlying22 Try.underlying5 (by kernel_rfl) hf with ⟨hcs, _⟩ | ⟨x, l, c, zs, hcs, _, hl, hm, hz, _, hcell, hwz⟩
    · simp [Value.cells] at hcs
      obtain ⟨rfl, rfl, rfl⟩ := hcs
      exact ⟨[], .inl ⟨rfl, rfl, rfl, rfl⟩⟩
    · simp [Value.cells] at hcs
      obtain ⟨rfl, rfl, rfl⟩ := hcs
      exact ⟨zs, .inr ⟨_, rfl, hl, hm, by simpa using hz, hcell, hwz⟩⟩
  clear hA0 hval0
  refine (walk a0 len0 cap0 z0 a1 len1 cap1 z1 W (rowB_of _ _ _ _ _ w0) (rowB_of _ _ _ _ _ w1)).mono fun e W' ⟨he, bel⟩ => ?_
  subst he
  exact ⟨_, rfl, _, _, _, [], _, [], hW', trodAll_mk1 (shut_bool Try.underlying4 _), (trodAll_cons_mk (Below.trod laidOut (by kernel_rfl) (of_decide_eq_true (by kernel_rfl)) k0 bel lt0) (trodAll_cons_mk (Below.trod laidOut (by kernel_rfl) (of_decide_eq_true (by kernel_rfl)) k1 bel lt1) trodAll_mk0)), rfl, bel.frame _, fun h => by cases h⟩

theorem over : Rows.fnChangeRow.holds Try.pinned (OpenSpec.ofChange Rows.fnChangeSpec) :=
  OpenClaim.holds_of_wide 3 Try.f3 rfl rfl rfl rfl rfl rfl rfl ⟨rfl, rfl, rfl, rfl, rfl⟩ rfl rfl rfl rfl rfl (by kernel_rfl) Try.func3 (by kernel_rfl)
    (of_decide_eq_true (by kernel_rfl)) (by unfold Func.isWrapper; first | (rw [if_pos (by decide +kernel)]; kernel_rfl) | (rw [if_neg (by decide +kernel)]; exact ⟨rfl, rfl⟩))
    (fun os started H enc _ => lifted os started H enc)
end FnChange

theorem fnChange_holds : Rows.FnChangeSaid := FnChange.over
end Go.Proofs.Ytngnmlifbjpkoaa
