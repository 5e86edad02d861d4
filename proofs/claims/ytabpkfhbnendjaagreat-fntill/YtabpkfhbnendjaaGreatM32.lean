/-
  Texts of this claim laid together: DrawTa.
-/
import Derived.Test.YtabpkfhbnendjaaGreatM30
import Derived.Test.YtabpkfhbnendjaaGreatM15
/-
  The source's methods, each with what stays: every block but the source's own.
-/
namespace Go.Proofs.YtabpkfhbnendjaaGreat
open Go.ChangeShapes Go.WideShapes Go.ChangeAt Go.RowKit Go.Deep
set_option linter.unusedVariables false

/-- What lies below b stays, and every block but b. -/
structure Drwn (b : Nat) (w w' : World) : Prop where
  bel : Below b w w'
  kp : ∀ k, k ≠ b → k < w.heap.size → w'.heap[k]? = w.heap[k]?
theorem Drwn.refl (b : Nat) (w : World) : Drwn b w w := ⟨Below.refl _ _, fun _ _ _ => rfl⟩
theorem Drwn.trans {b : Nat} {w w' w'' : World} (h : Drwn b w w') (k : Drwn b w' w'') : Drwn b w w'' := ⟨h.bel.trans k.bel, fun c h1 h2 => (k.kp c h1 (Nat.lt_of_lt_of_le h2 h.bel.size)).trans (h.kp c h1 h2)⟩
theorem Drwn.apt {b : Nat} {w w' : World} (h : Below b w w') (k : Apt b w w') : Drwn b w w' := ⟨h, fun c h1 _ => k c h1⟩
theorem Drwn.below {b : Nat} {w w' : World} (hb : b < w.heap.size) (h : Below w.heap.size w w') : Drwn b w w' := ⟨h.mono (by omega), fun c _ h2 => h.block c h2⟩
theorem Drwn.later {b : Nat} {w w' w'' : World} (h : Drwn b w w') (hb : b < w.heap.size) (k : Below w'.heap.size w' w'') : Drwn b w w'' := h.trans (Drwn.below (Nat.lt_of_lt_of_le hb h.bel.size) k)
theorem Src.below {w w' : World} {b : Nat} {a : Option Addr} {len cap : Nat} {x s : Int} (h : Src w b a len cap x s) (hb : Below w.heap.size w w') : Src w' b a len cap x s := by
  obtain ⟨h0, h1, h2, f1, f2, hlt, r⟩ := h
  exact ⟨(hb.cell (p := ⟨b, 0, none⟩) hlt).trans h0, (hb.cell (p := ⟨b, 1, none⟩) hlt).trans h1, (hb.cell (p := ⟨b, 2, none⟩) hlt).trans h2, (hb.frozen (p := ⟨b, 1, none⟩) hlt).trans f1, (hb.frozen (p := ⟨b, 2, none⟩) hlt).trans f2, Nat.lt_of_lt_of_le hlt hb.size, r⟩
theorem dec_digit (x : Nat) (h : x < 10) : (decS x).size = 1 ∧ allD (decS x).data.toList = true := by
  unfold decS
  rw [Lib.decDigits_one h]
  have e : (UInt8.ofNat (48 + x)).toNat = 48 + x := by simp; omega
  have : dg (UInt8.ofNat (48 + x)) = true := (dg_iff _).mpr (by rw [e]; omega)
  exact ⟨rfl, by unfold allD; show (List.all [_] dg) = true; rw [List.all_cons, this]; rfl⟩
theorem allD_app (a b : ByteArray) (ha : allD a.data.toList = true) (hb : allD b.data.toList = true) : allD (a ++ b).data.toList = true := by
  unfold allD at *; simp only [ByteArray.data_append, Array.toList_append, List.all_append, ha, hb]; rfl

theorem next_anyV (B b : Nat) (a : Option Addr) (len cap : Nat) (zs : List Int) (n at' seed : Int) (w : World) (hB : B ≤ b) (hs : Src w b a len cap at' seed) (hr : RowB B w a len zs) (a1 : at' ≤ 999999999000) (hn : n ≤ 1000000000000) :
    Calls Tryz.prog 19 #[.pointer (some ⟨b, 0, none⟩), .int .i64 n] w fun e w' => ∃ x at2 s' : Int, e = .returned (.int .i64 x) ∧ Drawn x n ∧ at' ≤ at2 ∧ at2 ≤ at' + 3 ∧ Src w' b a len cap at2 s' ∧ Below B w w' ∧ Apt b w w' := by
  by_cases hs' : n ≤ 256
  · exact next_anyA B b a len cap zs n at' seed w hB hs hr a1 hs'
  have h1 : 1 < n := by omega
  have h2 : 256 < n := by omega
  have hbyte := byte_anyA B b a len cap zs at' seed w hB hs hr (by omega)
  have hbyte2 := fun s' w1 (hs1 : Src w1 b a len cap (at' + 1) s') (hb1 : Below B w w1) => byte_anyA B b a len cap zs (at' + 1) s' w1 hB hs1 (hr.below hb1) (by omega)
  have hbyte3 := fun s' w1 (hs1 : Src w1 b a len cap (at' + 1 + 1) s') (hb1 : Below B w w1) => byte_anyA B b a len cap zs (at' + 1 + 1) s' w1 hB hs1 (hr.below hb1) (by omega)
  clear hr
  go_enter Tryz.func19, Tryz.ntmps19
  go_wp2_with (first | (go_at_call 41; refine hbyte.mono ?_; rintro e w1 ⟨x, s', rfl, hx0, hx1, hs1, hb1, hf1⟩) | (go_at_call 41; refine (hbyte2 _ _ hs1 hb1).mono ?_; rintro e w2 ⟨y, s2, rfl, hy0, hy1, hs2, hb2, hf2⟩; replace hb2 := hb1.trans hb2; replace hf2 := hf1.trans hf2) | (go_at_call 41; refine (hbyte3 _ _ hs2 hb2).mono ?_; rintro e w3 ⟨z, s3, rfl, hz0, hz1, hs3, hb3, hf3⟩; replace hb3 := hb2.trans hb3; replace hf3 := hf2.trans hf3))
  go_ret
  exact ⟨_, _, _, rfl, drawn_mod _ n (by omega) h1, by omega, by omega, hs3, hb3, hf3⟩
theorem next_D (b : Nat) (a : Option Addr) (len cap : Nat) (zs : List Int) (n at' seed : Int) (w : World) (hs : Src w b a len cap at' seed) (hr : RowB b w a len zs) (a1 : at' ≤ 1000000) (hn : n ≤ 1000000) :
    Calls Tryz.prog 19 #[.pointer (some ⟨b, 0, none⟩), .int .i64 n] w fun e w' => ∃ x at2 s' : Int, e = .returned (.int .i64 x) ∧ Drawn x n ∧ at' ≤ at2 ∧ at2 ≤ at' + 3 ∧ Src w' b a len cap at2 s' ∧ Drwn b w w' :=
  (next_anyV b b a len cap zs n at' seed w (Nat.le_refl _) hs hr (by omega) (by omega)).mono fun e w' ⟨x, a2, s', h1, h2, h3, h4, h5, h6, h7⟩ => ⟨x, a2, s', h1, h2, h3, h4, h5, Drwn.apt h6 h7⟩
theorem chance_D (b : Nat) (a : Option Addr) (len cap : Nat) (zs : List Int) (n at' seed : Int) (w : World) (hs : Src w b a len cap at' seed) (hr : RowB b w a len zs) (a1 : at' ≤ 1000000) (hn : 1 ≤ n) (hn' : n ≤ 256) :
    Calls Tryz.prog 27 #[.pointer (some ⟨b, 0, none⟩), .int .i64 n] w fun e w' => ∃ (x : Bool) (at2 s' : Int), e = .returned (.bool x) ∧ at' ≤ at2 ∧ at2 ≤ at' + 3 ∧ Src w' b a len cap at2 s' ∧ Drwn b w w' := by
  have hnx := next_D b a len cap zs n at' seed w hs hr (by omega) (by omega)
  go_enter Tryz.func27, Tryz.ntmps27
  go_wp2_with (go_at_call 19; refine hnx.mono ?_; rintro e w1 ⟨x, a2, s2, rfl, hx, h1, h2, h3, h4⟩)
  go_ret
  exact ⟨_, a2, s2, rfl, h1, h2, h3, h4⟩
theorem pick_v (B b bl : Nat) (a : Option Addr) (len cap : Nat) (zs : List Int) (at' seed : Int) (ss : List ByteArray) (w : World) (hB : B ≤ b) (hs : Src w b a len cap at' seed) (hr : RowB B w a len zs) (a1 : at' ≤ 999999999000)
    (hl : 1 ≤ ss.length) (hl' : ss.length ≤ 256) (hne : bl ≠ b) (hc : ∀ j, j < ss.length → w.cell? ⟨bl, j, none⟩ = some (.string (ss.getD j ⟨#[]⟩))) (c : Nat) :
    Calls Tryz.prog 26 #[.pointer (some ⟨b, 0, none⟩), .slice (some ⟨bl, 0, none⟩) ss.length c] w fun e w' => ∃ (j : Nat) (at2 s' : Int), j < ss.length ∧ e = .returned (.string (ss.getD j ⟨#[]⟩)) ∧ at' ≤ at2 ∧ at2 ≤ at' + 3 ∧ Src w' b a len cap at2 s' ∧ Below B w w' ∧ Apt b w w' := by
  have hn := next_anyA B b a len cap zs (ss.length : Int) at' seed w hB hs hr a1 (by omega)
  have HC : Hid (∀ j, j < ss.length → w.cell? ⟨bl, j, none⟩ = some (.string (ss.getD j ⟨#[]⟩))) := hc
  have hz : ((ss.length : Int) == 0) = false := by rw [beq_eq_false_iff_ne]; omega
  have hz' : ¬ (ss.length : Int) = 0 := by omega
  clear hc hs hr
  go_enter Tryz.func26, Tryz.ntmps26
  go_wp2_with fail
  (first | go_at_call 19 | skip)
  refine hn.mono ?_
  rintro e w1 ⟨x, at2, s', rfl, hx, q1, q2, hs1, hb1, ha1⟩
  obtain ⟨j, rfl⟩ : ∃ j : Nat, x = (j : Int) := ⟨x.toNat, by have := hx.1; omega⟩
  have hj : j < ss.length := by rcases hx.2 with h | h <;> omega
  have hj' : (j : Int) < (ss.length : Int) := by omega
  have cj : w1.cell? ⟨bl, j, none⟩ = some (.string (ss.getD j ⟨#[]⟩)) := (World.cell?_of_block (w := w) (a := ⟨bl, j, none⟩) (ha1 bl hne)).trans (HC.out j hj)
  have HS1 : Hid (Src w1 b a len cap at2 s' ∧ Below B w w1 ∧ Apt b w w1) := ⟨hs1, hb1, ha1⟩
  clear hs1 hb1 ha1 hx
  generalize hq : ss.getD j ⟨#[]⟩ = q at *
  go_wp2
  go_ret
  exact ⟨j, at2, s', hj, by rw [hq]; rfl, q1, q2, HS1.out.1, HS1.out.2.1, HS1.out.2.2⟩
theorem pick_D (b bl : Nat) (a : Option Addr) (len cap : Nat) (zs : List Int) (at' seed : Int) (ss : List ByteArray) (w : World) (hs : Src w b a len cap at' seed) (hr : RowB b w a len zs) (a1 : at' ≤ 1000000)
    (hl : 1 ≤ ss.length) (hl' : ss.length ≤ 256) (hne : bl ≠ b) (hc : ∀ j, j < ss.length → w.cell? ⟨bl, j, none⟩ = some (.string (ss.getD j ⟨#[]⟩))) (c : Nat) :
    Calls Tryz.prog 26 #[.pointer (some ⟨b, 0, none⟩), .slice (some ⟨bl, 0, none⟩) ss.length c] w fun e w' => ∃ (j : Nat) (at2 s' : Int), j < ss.length ∧ e = .returned (.string (ss.getD j ⟨#[]⟩)) ∧ at' ≤ at2 ∧ at2 ≤ at' + 3 ∧ Src w' b a len cap at2 s' ∧ Drwn b w w' :=
  (pick_v b b bl a len cap zs at' seed ss w (Nat.le_refl _) hs hr (by omega) hl hl' hne hc c).mono fun e w' ⟨j, a2, s', h1, h2, h3, h4, h5, h6, h7⟩ => ⟨j, a2, s', h1, h2, h3, h4, h5, Drwn.apt h6 h7⟩
/-- The digits that were drawn so far. -/
def DigV (b : Nat) (a : Option Addr) (len cap : Nat) (at' : Int) (w : World) (n k : Nat) (v : Value) (wr : World) : Prop :=
  ∃ (T : ByteArray) (at2 s' : Int), v = .string T ∧ T.size = n - k ∧ allD T.data.toList = true ∧ at' ≤ at2 ∧ at2 ≤ at' + 3 * ((n : Int) - (k : Int)) ∧ Src wr b a len cap at2 s' ∧ Drwn b w wr
set_option maxHeartbeats 800000 in
theorem digits_D (b : Nat) (a : Option Addr) (len cap : Nat) (zs : List Int) (n : Nat) (at' seed : Int) (w : World) (hn : n ≤ 12) (hs : Src w b a len cap at' seed) (hr : RowB b w a len zs) (a1 : at' ≤ 900000) :
    Calls Tryz.prog 42 #[.pointer (some ⟨b, 0, none⟩), .int .i64 (n : Int)] w fun e w' => ∃ (T : ByteArray) (at2 s' : Int), e = .returned (.string T) ∧ T.size = n ∧ allD T.data.toList = true ∧ at' ≤ at2 ∧ at2 ≤ at' + 36 ∧ Src w' b a len cap at2 s' ∧ Drwn b w w' := by
  have HS : Hid (Src w b a len cap at' seed) := hs
  have HR : Hid (RowB b w a len zs) := hr
  have HB : Hid (b < w.heap.size) := hs.2.2.2.2.2.1
  have ha0 : (0 : Int) ≤ at' := hs.2.2.2.2.2.2.1
  clear hs hr
  go_enter Tryz.func42, Tryz.ntmps42
  go_wp2
  go_loopw [1, 5] (fun m v wr => ∃ k : Nat, k ≤ n ∧ m = .int .i64 (k : Int) ∧ DigV b a len cap at' w n k v wr) (fun m _ _ => (intOf m).toNat)
  case atStart => exact ⟨n, Nat.le_refl _, rfl, ⟨⟨#[]⟩, at', seed, rfl, by rw [Nat.sub_self]; rfl, rfl, by omega, by omega, HS.out, Drwn.refl _ _⟩⟩
  case round =>
    obtain ⟨k, hk, rfl, T, at2, s', rfl, hT, hd, h1, h2, hsrc, hb⟩ := hrel
    have HD : Hid (allD T.data.toList = true) := hd
    have HSr : Hid (Src wr b a len cap at2 s') := hsrc
    have HBr : Hid (Drwn b w wr) := hb
    have hTs : T.size ≤ 12 := by omega
    clear hd hsrc hb
    by_cases h0 : 0 < k
    · have h0' : (0 : Int) < (k : Int) := by omega
      have hnx := next_D b a len cap zs 10 at2 s' wr HSr.out (HR.out.below HBr.out.bel) (by omega) (by omega)
      go_wp2_with fail
      go_at_call 19
      refine hnx.mono ?_
      rintro e w1 ⟨x, at3, s3, rfl, ⟨hx0, hx1⟩, h3, h4, hsrc1, hb1⟩
      obtain ⟨y, rfl⟩ : ∃ y : Nat, x = (y : Int) := ⟨x.toNat, by omega⟩
      have hy : y < 10 := by omega
      have HS1 : Hid (Src w1 b a len cap at3 s3) := hsrc1
      have HB1 : Hid (Drwn b wr w1) := hb1
      clear hnx hsrc1 hb1 hx1 hx0
      have hdg := fun w => digits_any y (by omega) w
      have HY : Hid ((decS y).size = 1 ∧ allD (decS y).data.toList = true) := dec_digit y hy
      have hadd := fun w => run_string_add_sum (P := Tryz.prog) w T (decS y) (by rw [HY.out.1]; omega)
      go_wp2_with fail
      go_at_call 21
      refine (hdg _).mono ?_
      rintro e w2 ⟨rfl, hb2⟩
      have HB2 : Hid (Below w1.heap.size w1 w2) := hb2
      clear hb2 hdg
      go_wp2
      go_roundw
      case rel =>
        refine ⟨k - 1, by omega, by first | go_num | (congr 1; omega), _, at3, s3, rfl, ?_, allD_app _ _ HD.out HY.out.2, by omega, by omega, HS1.out.below HB2.out, (HBr.out.trans HB1.out).later HB.out HB2.out⟩
        rw [ByteArray.size_append, HY.out.1]; omega
      case measure => simp [intOf]; omega
    · have hk0 : k = 0 := by omega
      have hle : (k : Int) ≤ 0 := by omega
      go_wp2
      go_ret
      exact ⟨T, at2, s', rfl, by omega, HD.out, by omega, by omega, HSr.out, HBr.out⟩
theorem run_slice12 (s : ByteArray) (h : 12 ≤ s.size) (w : World) : (Instr.slice 9 (.string s) none (some (.int .i64 12)) none).run Tryz.prog w = .ok (.string (s.extract 0 12)) w := by
  simp [go_sem]
  omega
set_option maxHeartbeats 1600000 in
theorem scan_D (b : Nat) (a : Option Addr) (len cap : Nat) (zs : List Int) (at' seed : Int) (w : World) (hs : Src w b a len cap at' seed) (hr : RowB b w a len zs) (a1 : at' ≤ 800000) :
    Calls Tryz.prog 25 #[.pointer (some ⟨b, 0, none⟩)] w fun e w' => ∃ (t : ByteArray) (at2 s' : Int), e = .returned (.string t) ∧ t.size ≤ 13 ∧ at' ≤ at2 ∧ at2 ≤ at' + 42 ∧ Src w' b a len cap at2 s' ∧ Drwn b w w' := by
  have HR : Hid (RowB b w a len zs) := hr
  have HBs : Hid (b < w.heap.size) := hs.2.2.2.2.2.1
  have ha0 : (0 : Int) ≤ at' := hs.2.2.2.2.2.2.1
  have hnx := next_D b a len cap zs 4 at' seed w hs hr (by omega) (by omega)
  clear hs hr
  go_enter Tryz.func25, Tryz.ntmps25
  go_wp2_with fail
  go_at_call 19
  refine hnx.mono ?_
  rintro e w1 ⟨x0, at1, s1, rfl, ⟨hx0, hx1⟩, h1, h2, hs1, hb1⟩
  have HS1 : Hid (Src w1 b a len cap at1 s1) := hs1
  have HB1 : Hid (Drwn b w w1) := hb1
  clear hs1 hb1 hnx
  rcases (by omega : x0 = 0 ∨ x0 = 1 ∨ x0 = 2 ∨ x0 = 3) with rfl | rfl | rfl | rfl
  · have hdr := digits_D b a len cap zs 7 at1 s1 w1 (by omega) HS1.out (HR.out.below HB1.out.bel) (by omega)
    go_wp2_with fail
    go_at_call 42
    refine hdr.mono ?_
    rintro e w2 ⟨T, at2, s2, rfl, hT, hTd, hq1, hq2, hs2, hb2⟩
    have HTD : Hid (allD T.data.toList = true) := hTd
    have HSm : Hid (Src w2 b a len cap at2 s2) := hs2
    have HBm : Hid (Drwn b w w2) := HB1.out.trans hb2
    clear hb2 hs2 hdr hTd
    obtain ⟨M, hM⟩ : ∃ M, M = T := ⟨_, rfl⟩
    have hMs : M.size ≤ 12 := by rw [hM]; omega
    have HMd : Hid (allD M.data.toList = true) := by show _ = _; rw [hM]; exact HTD.out
    subst hM
    have hck := fun w => l02Check_any M (by omega) HMd.out w
    obtain ⟨x, hx⟩ : ∃ x : Nat, cd M.data.toList = (x : Int) := ⟨(cd M.data.toList).toNat, by have := cd_in M.data.toList; omega⟩
    have hx9 : x < 10 := by have := cd_in M.data.toList; omega
    rw [hx] at hck
    clear hx
    have hdg := fun w => digits_any x (by omega) w
    have HY : Hid ((decS x).size = 1 ∧ allD (decS x).data.toList = true) := dec_digit x hx9
    have hadd := fun w => run_string_add_sum (P := Tryz.prog) w M (decS x) (by rw [HY.out.1]; omega)
    go_wp2_with fail
    go_at_call 22
    refine (hck _).mono ?_
    rintro e w7 ⟨rfl, hw7⟩
    subst hw7
    go_wp2_with fail
    go_at_call 21
    refine (hdg _).mono ?_
    rintro e w8 ⟨rfl, hb8⟩
    go_wp2
    go_ret
    exact ⟨_, at2, s2, rfl, by rw [ByteArray.size_append, HY.out.1]; omega, by omega, by omega, HSm.out.below hb8, HBm.out.later HBs.out hb8⟩
  · have hdr := digits_D b a len cap zs 10 at1 s1 w1 (by omega) HS1.out (HR.out.below HB1.out.bel) (by omega)
    go_wp2_with fail
    go_at_call 42
    refine hdr.mono ?_
    rintro e w2 ⟨T, at2, s2, rfl, hT, hTd, hq1, hq2, hs2, hb2⟩
    have HTD : Hid (allD T.data.toList = true) := hTd
    have HSm : Hid (Src w2 b a len cap at2 s2) := hs2
    have HBm : Hid (Drwn b w w2) := HB1.out.trans hb2
    clear hb2 hs2 hdr hTd
    have hsz : (⟨#[50, 48]⟩ : ByteArray).size = 2 := rfl
    have hap := fun w => run_string_add_sum (P := Tryz.prog) w ⟨#[50, 48]⟩ T (by rw [hsz]; omega)
    obtain ⟨M, hM⟩ : ∃ M, M = ⟨#[50, 48]⟩ ++ T := ⟨_, rfl⟩
    have hMs : M.size ≤ 12 := by rw [hM, ByteArray.size_append, hsz]; omega
    have HMd : Hid (allD M.data.toList = true) := by show _ = _; rw [hM]; exact allD_app _ _ (by decide) HTD.out
    rw [← hM] at hap
    clear hM
    have hck := fun w => l02Check_any M (by omega) HMd.out w
    obtain ⟨x, hx⟩ : ∃ x : Nat, cd M.data.toList = (x : Int) := ⟨(cd M.data.toList).toNat, by have := cd_in M.data.toList; omega⟩
    have hx9 : x < 10 := by have := cd_in M.data.toList; omega
    rw [hx] at hck
    clear hx
    have hdg := fun w => digits_any x (by omega) w
    have HY : Hid ((decS x).size = 1 ∧ allD (decS x).data.toList = true) := dec_digit x hx9
    have hadd := fun w => run_string_add_sum (P := Tryz.prog) w M (decS x) (by rw [HY.out.1]; omega)
    go_wp2_with fail
    go_at_call 22
    refine (hck _).mono ?_
    rintro e w7 ⟨rfl, hw7⟩
    subst hw7
    go_wp2_with fail
    go_at_call 21
    refine (hdg _).mono ?_
    rintro e w8 ⟨rfl, hb8⟩
    go_wp2
    go_ret
    exact ⟨_, at2, s2, rfl, by rw [ByteArray.size_append, HY.out.1]; omega, by omega, by omega, HSm.out.below hb8, HBm.out.later HBs.out hb8⟩
  · have hdr := digits_D b a len cap zs 10 at1 s1 w1 (by omega) HS1.out (HR.out.below HB1.out.bel) (by omega)
    go_wp2_with fail
    go_at_call 42
    refine hdr.mono ?_
    rintro e w2 ⟨T, at2, s2, rfl, hT, hTd, hq1, hq2, hs2, hb2⟩
    have HTD : Hid (allD T.data.toList = true) := hTd
    have HSm : Hid (Src w2 b a len cap at2 s2) := hs2
    have HBm : Hid (Drwn b w w2) := HB1.out.trans hb2
    clear hb2 hs2 hdr hTd
    have hsz : (⟨#[50, 49]⟩ : ByteArray).size = 2 := rfl
    have hap := fun w => run_string_add_sum (P := Tryz.prog) w ⟨#[50, 49]⟩ T (by rw [hsz]; omega)
    obtain ⟨M, hM⟩ : ∃ M, M = ⟨#[50, 49]⟩ ++ T := ⟨_, rfl⟩
    have hMs : M.size ≤ 12 := by rw [hM, ByteArray.size_append, hsz]; omega
    have HMd : Hid (allD M.data.toList = true) := by show _ = _; rw [hM]; exact allD_app _ _ (by decide) HTD.out
    rw [← hM] at hap
    clear hM
    have hck := fun w => l02Check_any M (by omega) HMd.out w
    obtain ⟨x, hx⟩ : ∃ x : Nat, cd M.data.toList = (x : Int) := ⟨(cd M.data.toList).toNat, by have := cd_in M.data.toList; omega⟩
    have hx9 : x < 10 := by have := cd_in M.data.toList; omega
    rw [hx] at hck
    clear hx
    have hdg := fun w => digits_any x (by omega) w
    have HY : Hid ((decS x).size = 1 ∧ allD (decS x).data.toList = true) := dec_digit x hx9
    have hadd := fun w => run_string_add_sum (P := Tryz.prog) w M (decS x) (by rw [HY.out.1]; omega)
    go_wp2_with fail
    go_at_call 22
    refine (hck _).mono ?_
    rintro e w7 ⟨rfl, hw7⟩
    subst hw7
    go_wp2_with fail
    go_at_call 21
    refine (hdg _).mono ?_
    rintro e w8 ⟨rfl, hb8⟩
    go_wp2
    go_ret
    exact ⟨_, at2, s2, rfl, by rw [ByteArray.size_append, HY.out.1]; omega, by omega, by omega, HSm.out.below hb8, HBm.out.later HBs.out hb8⟩
  · have hbb := HS1.out.2.2.2.2.2.1
    have hpk := pick_D b w1.heap.size a len cap zs at1 s1 [⟨#[52]⟩, ⟨#[53, 48]⟩, ⟨#[57, 55, 56]⟩, ⟨#[51]⟩, ⟨#[55]⟩] (w1.alloc (Obj.cells #[.string ⟨#[52]⟩, .string ⟨#[53, 48]⟩, .string ⟨#[57, 55, 56]⟩, .string ⟨#[51]⟩, .string ⟨#[55]⟩] 9)) (HS1.out.below (below_alloc _ _)) (HR.out.below (HB1.out.later HBs.out (below_alloc _ _)).bel) (by omega) (by simp) (by simp) (by omega) (fun j hj => by
      have e := blkCell (heapNew w1 (Obj.cells #[.string ⟨#[52]⟩, .string ⟨#[53, 48]⟩, .string ⟨#[57, 55, 56]⟩, .string ⟨#[51]⟩, .string ⟨#[55]⟩] 9))
      have hj5 : j < 5 := hj
      rcases (by omega : j = 0 ∨ j = 1 ∨ j = 2 ∨ j = 3 ∨ j = 4) with rfl | rfl | rfl | rfl | rfl
      · exact e 0 _ rfl
      · exact e 1 _ rfl
      · exact e 2 _ rfl
      · exact e 3 _ rfl
      · exact e 4 _ rfl) 5
    go_wp2_with fail
    go_at_call 26
    refine hpk.mono ?_
    rintro e w2 ⟨j, at2, s2, hj, rfl, hq1, hq2, hs2, hb2⟩
    have hj5 : j < 5 := hj
    obtain ⟨Q, hQ⟩ : ∃ Q : ByteArray, Q = [⟨#[52]⟩, ⟨#[53, 48]⟩, ⟨#[57, 55, 56]⟩, ⟨#[51]⟩, ⟨#[55]⟩].getD j ⟨#[]⟩ := ⟨_, rfl⟩
    have hQ' : 1 ≤ Q.size ∧ Q.size ≤ 3 ∧ allD Q.data.toList = true := by
      rw [hQ]
      rcases (by omega : j = 0 ∨ j = 1 ∨ j = 2 ∨ j = 3 ∨ j = 4) with rfl | rfl | rfl | rfl | rfl <;> exact ⟨by decide, by decide, by decide⟩
    obtain ⟨hQ1, hQ2, hQ3⟩ := hQ'
    rw [← hQ]
    have HB2 : Hid (Drwn b w w2) := (HB1.out.later HBs.out (below_alloc _ _)).trans hb2
    have hdr := digits_D b a len cap zs 12 at2 s2 w2 (by omega) hs2 (HR.out.below HB2.out.bel) (by omega)
    clear hpk hs2 hb2 hQ hj hj5
    go_wp2_with fail
    go_at_call 42
    refine hdr.mono ?_
    rintro e w3 ⟨T, at3, s3, rfl, hT, hTd, hq3, hq4, hs3, hb3⟩
    have HSm : Hid (Src w3 b a len cap at3 s3) := hs3
    have HBm : Hid (Drwn b w w3) := HB2.out.trans hb3
    have hap := fun w => run_string_add_sum (P := Tryz.prog) w Q T (by omega)
    have hsl := fun w => run_slice12 (Q ++ T) (by rw [ByteArray.size_append]; omega) w
    obtain ⟨M, hM⟩ : ∃ M, M = (Q ++ T).extract 0 12 := ⟨_, rfl⟩
    have hMs : M.size ≤ 12 := by rw [hM, ByteArray.size_extract]; omega
    have HMd : Hid (allD M.data.toList = true) := by
      show _ = _
      rw [hM, Lib.extract_data]
      exact allD_take _ _ (by rw [List.drop_zero]; exact allD_app _ _ hQ3 hTd)
    rw [← hM] at hsl
    clear hM hs3 hb3 hdr hTd HB2
    have hck := fun w => l02Check_any M (by omega) HMd.out w
    obtain ⟨x, hx⟩ : ∃ x : Nat, cd M.data.toList = (x : Int) := ⟨(cd M.data.toList).toNat, by have := cd_in M.data.toList; omega⟩
    have hx9 : x < 10 := by have := cd_in M.data.toList; omega
    rw [hx] at hck
    clear hx
    have hdg := fun w => digits_any x (by omega) w
    have HY : Hid ((decS x).size = 1 ∧ allD (decS x).data.toList = true) := dec_digit x hx9
    have hadd := fun w => run_string_add_sum (P := Tryz.prog) w M (decS x) (by rw [HY.out.1]; omega)
    go_wp2_with fail
    go_at_call 22
    refine (hck _).mono ?_
    rintro e w7 ⟨rfl, hw7⟩
    subst hw7
    go_wp2_with fail
    go_at_call 21
    refine (hdg _).mono ?_
    rintro e w8 ⟨rfl, hb8⟩
    go_wp2
    go_ret
    exact ⟨_, at3, s3, rfl, by rw [ByteArray.size_append, HY.out.1]; omega, by omega, by omega, HSm.out.below hb8, HBm.out.later HBs.out hb8⟩
theorem odd_D (b : Nat) (a : Option Addr) (len cap : Nat) (zs : List Int) (at' seed : Int) (w : World) (hs : Src w b a len cap at' seed) (hr : RowB b w a len zs) (a1 : at' ≤ 1000000) :
    Calls Tryz.prog 24 #[.pointer (some ⟨b, 0, none⟩)] w fun e w' => ∃ x at2 s' : Int, e = .returned (.int .i64 x) ∧ (-9223372036854775808 ≤ x ∧ x ≤ 9223372036854775807) ∧ at' ≤ at2 ∧ at2 ≤ at' + 3 ∧ Src w' b a len cap at2 s' ∧ Drwn b w w' := by
  have hbb := hs.2.2.2.2.2.1
  have HB0 : Hid (Drwn b w (w.alloc (Obj.cells #[.int .i64 0, .int .i64 (-1), .int .i64 1, .int .i64 2, .int .i64 63, .int .i64 64, .int .i64 65, .int .i64 4096, .int .i64 4097, .int .i64 9223372036854775807, .int .i64 (-9223372036854775808), .int .i64 30] 3))) := Drwn.below hbb (below_alloc _ _)
  have hnx := next_D b a len cap zs 12 at' seed (w.alloc (Obj.cells #[.int .i64 0, .int .i64 (-1), .int .i64 1, .int .i64 2, .int .i64 63, .int .i64 64, .int .i64 65, .int .i64 4096, .int .i64 4097, .int .i64 9223372036854775807, .int .i64 (-9223372036854775808), .int .i64 30] 3)) (hs.below (below_alloc _ _)) (hr.below HB0.out.bel) (by omega) (by omega)
  clear hs hr
  go_enter Tryz.func24, Tryz.ntmps24
  go_wp2_with fail
  (first | go_at_call 19 | skip)
  refine hnx.mono ?_
  rintro e w1 ⟨x, a2, s2, rfl, ⟨hx0, hx1⟩, h1, h2, h3, h4⟩
  have hz : w1.heap[w.heap.size]? = some (.cells #[.int .i64 0, .int .i64 (-1), .int .i64 1, .int .i64 2, .int .i64 63, .int .i64 64, .int .i64 65, .int .i64 4096, .int .i64 4097, .int .i64 9223372036854775807, .int .i64 (-9223372036854775808), .int .i64 30] 3 (0, 0)) := (h4.kp _ (by omega) (by simp)).trans (heapNew _ _)
  have e := blkCell hz
  rcases (by omega : x = 0 ∨ x = 1 ∨ x = 2 ∨ x = 3 ∨ x = 4 ∨ x = 5 ∨ x = 6 ∨ x = 7 ∨ x = 8 ∨ x = 9 ∨ x = 10 ∨ x = 11) with rfl | rfl | rfl | rfl | rfl | rfl | rfl | rfl | rfl | rfl | rfl | rfl
  · have c0 := e 0 _ rfl
    simp only [List.getElem_toArray, List.getElem_cons_zero] at c0
    clear e hz hnx
    go_wp2
    go_ret
    exact ⟨_, a2, s2, rfl, by omega, h1, h2, h3, HB0.out.trans h4⟩
  · have c0 := e 1 _ rfl
    simp only [List.getElem_toArray, List.getElem_cons_zero, List.getElem_cons_succ] at c0
    clear e hz hnx
    go_wp2
    go_ret
    exact ⟨_, a2, s2, rfl, by omega, h1, h2, h3, HB0.out.trans h4⟩
  · have c0 := e 2 _ rfl
    simp only [List.getElem_toArray, List.getElem_cons_zero, List.getElem_cons_succ] at c0
    clear e hz hnx
    go_wp2
    go_ret
    exact ⟨_, a2, s2, rfl, by omega, h1, h2, h3, HB0.out.trans h4⟩
  · have c0 := e 3 _ rfl
    simp only [List.getElem_toArray, List.getElem_cons_zero, List.getElem_cons_succ] at c0
    clear e hz hnx
    go_wp2
    go_ret
    exact ⟨_, a2, s2, rfl, by omega, h1, h2, h3, HB0.out.trans h4⟩
  · have c0 := e 4 _ rfl
    simp only [List.getElem_toArray, List.getElem_cons_zero, List.getElem_cons_succ] at c0
    clear e hz hnx
    go_wp2
    go_ret
    exact ⟨_, a2, s2, rfl, by omega, h1, h2, h3, HB0.out.trans h4⟩
  · have c0 := e 5 _ rfl
    simp only [List.getElem_toArray, List.getElem_cons_zero, List.getElem_cons_succ] at c0
    clear e hz hnx
    go_wp2
    go_ret
    exact ⟨_, a2, s2, rfl, by omega, h1, h2, h3, HB0.out.trans h4⟩
  · have c0 := e 6 _ rfl
    simp only [List.getElem_toArray, List.getElem_cons_zero, List.getElem_cons_succ] at c0
    clear e hz hnx
    go_wp2
    go_ret
    exact ⟨_, a2, s2, rfl, by omega, h1, h2, h3, HB0.out.trans h4⟩
  · have c0 := e 7 _ rfl
    simp only [List.getElem_toArray, List.getElem_cons_zero, List.getElem_cons_succ] at c0
    clear e hz hnx
    go_wp2
    go_ret
    exact ⟨_, a2, s2, rfl, by omega, h1, h2, h3, HB0.out.trans h4⟩
  · have c0 := e 8 _ rfl
    simp only [List.getElem_toArray, List.getElem_cons_zero, List.getElem_cons_succ] at c0
    clear e hz hnx
    go_wp2
    go_ret
    exact ⟨_, a2, s2, rfl, by omega, h1, h2, h3, HB0.out.trans h4⟩
  · have c0 := e 9 _ rfl
    simp only [List.getElem_toArray, List.getElem_cons_zero, List.getElem_cons_succ] at c0
    clear e hz hnx
    go_wp2
    go_ret
    exact ⟨_, a2, s2, rfl, by omega, h1, h2, h3, HB0.out.trans h4⟩
  · have c0 := e 10 _ rfl
    simp only [List.getElem_toArray, List.getElem_cons_zero, List.getElem_cons_succ] at c0
    clear e hz hnx
    go_wp2
    go_ret
    exact ⟨_, a2, s2, rfl, by omega, h1, h2, h3, HB0.out.trans h4⟩
  · have c0 := e 11 _ rfl
    simp only [List.getElem_toArray, List.getElem_cons_zero, List.getElem_cons_succ] at c0
    clear e hz hnx
    go_wp2
    go_ret
    exact ⟨_, a2, s2, rfl, by omega, h1, h2, h3, HB0.out.trans h4⟩
end Go.Proofs.YtabpkfhbnendjaaGreat
