/-
  Contracts of the specification's draws of codes (digits, pick, scan, ScanOf): whatever is drawn, it is a right code.
-/
import Derived.Test.YtlejmjpjlbiojaaDoorSrcFar
import Derived.Test.YtlejmjpjlbiojaaDoorCheck
import Derived.Test.YtlejmjpjlbiojaaDoorDec
namespace Go.Proofs.YtlejmjpjlbiojaaDoor
open Go.ChangeShapes Go.WideShapes Go.ChangeAt Go.RowKit
set_option linter.unusedVariables false

theorem Src.below {w w' : World} {b : Nat} {a : Option Addr} {len cap : Nat} {x s : Int} (h : Src w b a len cap x s) (hb : Below w.heap.size w w') : Src w' b a len cap x s := by
  obtain ⟨h0, h1, h2, f1, f2, hlt, r⟩ := h
  exact ⟨(hb.cell (p := ⟨b, 0, none⟩) hlt).trans h0, (hb.cell (p := ⟨b, 1, none⟩) hlt).trans h1, (hb.cell (p := ⟨b, 2, none⟩) hlt).trans h2, (hb.frozen (p := ⟨b, 1, none⟩) hlt).trans f1, (hb.frozen (p := ⟨b, 2, none⟩) hlt).trans f2, Nat.lt_of_lt_of_le hlt hb.size, r⟩
theorem dec_digit (x : Nat) (h : x < 10) : (decS x).size = 1 ∧ allD (decS x).data.toList = true := by
  unfold decS
  rw [Lib.decDigits_one h]
  have e : (UInt8.ofNat (48 + x)).toNat = 48 + x := by simp; omega
  have : dg (UInt8.ofNat (48 + x)) = true := (dg_iff _).mpr (by rw [e]; omega)
  exact ⟨rfl, by unfold allD; show (List.all [_] dg) = true; rw [List.all_cons, this]; rfl⟩
theorem allD_app (a b : ByteArray) (ha : allD a.data.toList = true) (hb : allD b.data.toList = true) : allD (a ++ b).data.toList = true := by
  unfold allD at *; simp only [ByteArray.data_append, Array.toList_append, List.all_append, ha, hb]; rfl

/-- The digits that were drawn so far. -/
def DigTo (B b : Nat) (a : Option Addr) (len cap : Nat) (at' : Int) (w : World) (n k : Nat) (v : Value) (wr : World) : Prop :=
  ∃ (T : ByteArray) (at2 s' : Int), v = .string T ∧ T.size = n - k ∧ allD T.data.toList = true ∧ at' ≤ at2 ∧ at2 ≤ at' + 3 * ((n : Int) - (k : Int)) ∧ Src wr b a len cap at2 s' ∧ Below B w wr

set_option maxHeartbeats 800000 in
theorem srcDigits (B b : Nat) (a : Option Addr) (len cap : Nat) (zs : List Int) (n : Nat) (at' seed : Int) (w : World) (hn : n ≤ 12) (hB : B ≤ b) (hs : Src w b a len cap at' seed) (hr : RowB B w a len zs) (a1 : at' ≤ 999999990000) :
    Calls Tryd.prog 32 #[.pointer (some ⟨b, 0, none⟩), .int .i64 (n : Int)] w fun e w' => ∃ (T : ByteArray) (at2 s' : Int), e = .returned (.string T) ∧ T.size = n ∧ allD T.data.toList = true ∧ at' ≤ at2 ∧ at2 ≤ at' + 36 ∧ Src w' b a len cap at2 s' ∧ Below B w w' := by
  have HS : Hid (Src w b a len cap at' seed) := hs
  have HR : Hid (RowB B w a len zs) := hr
  have HB : Hid (B < w.heap.size) := by show B < _; have := hs.2.2.2.2.2.1; omega
  have ha0 : (0 : Int) ≤ at' := hs.2.2.2.2.2.2.1
  clear hs hr
  go_enter Tryd.func32, Tryd.ntmps32
  go_wp2
  go_loopw [1, 5] (fun m v wr => ∃ k : Nat, k ≤ n ∧ m = .int .i64 (k : Int) ∧ DigTo B b a len cap at' w n k v wr) (fun m _ _ => (intOf m).toNat)
  case atStart => exact ⟨n, Nat.le_refl _, rfl, ⟨⟨#[]⟩, at', seed, rfl, by rw [Nat.sub_self]; rfl, rfl, by omega, by omega, HS.out, Below.refl _ _⟩⟩
  case round =>
    obtain ⟨k, hk, rfl, T, at2, s', rfl, hT, hd, h1, h2, hsrc, hb⟩ := hrel
    have HD : Hid (allD T.data.toList = true) := hd
    have HSr : Hid (Src wr b a len cap at2 s') := hsrc
    have HBr : Hid (Below B w wr) := hb
    have hTs : T.size ≤ 12 := by omega
    clear hd hsrc hb
    by_cases h0 : 0 < k
    · have h0' : (0 : Int) < (k : Int) := by omega
      have hnx := next_any B b a len cap zs 10 at2 s' wr hB HSr.out (HR.out.below HBr.out) (by omega) (by omega)
      go_wp2_with fail
      go_at_call 31
      refine hnx.mono ?_
      rintro e w1 ⟨x, at3, s3, rfl, ⟨hx0, hx1⟩, h3, h4, hsrc1, hb1⟩
      obtain ⟨y, rfl⟩ : ∃ y : Nat, x = (y : Int) := ⟨x.toNat, by omega⟩
      have hy : y < 10 := by omega
      have HS1 : Hid (Src w1 b a len cap at3 s3) := hsrc1
      have HB1 : Hid (Below B wr w1) := hb1
      clear hnx hsrc1 hb1 hx1 hx0
      have hdg := fun w => digits_any y (by omega) w
      have HY : Hid ((decS y).size = 1 ∧ allD (decS y).data.toList = true) := dec_digit y hy
      have hadd := fun w => run_string_add_sum (P := Tryd.prog) w T (decS y) (by rw [HY.out.1]; omega)
      go_wp2_with fail
      go_at_call 30
      refine (hdg _).mono ?_
      rintro e w2 ⟨rfl, hb2⟩
      have HB2 : Hid (Below w1.heap.size w1 w2) := hb2
      clear hb2 hdg
      go_wp2
      go_roundw
      case rel =>
        refine ⟨k - 1, by omega, by first | go_num | (congr 1; omega), _, at3, s3, rfl, ?_, allD_app _ _ HD.out HY.out.2, by omega, by omega, HS1.out.below HB2.out, ?_⟩
        · rw [ByteArray.size_append, HY.out.1]; omega
        · have hsz := HBr.out.size
          have hsz1 := HB1.out.size
          have := HB.out
          exact (HBr.out.trans HB1.out).trans (HB2.out.mono (by omega))
      case measure => simp [intOf]; omega
    · have hk0 : k = 0 := by omega
      have hle : (k : Int) ≤ 0 := by omega
      go_wp2
      go_ret
      exact ⟨T, at2, s', rfl, by omega, HD.out, by omega, by omega, HSr.out, HBr.out⟩

theorem cd_nonneg (l : List UInt8) : 0 ≤ cd l ∧ cd l ≤ 9 := by unfold cd; omega
/-- A right code: 7 or 12 digits and their check digit. -/
def Right (t : ByteArray) : Prop := ∃ (M : ByteArray) (x : Nat), (M.size = 7 ∨ M.size = 12) ∧ allD M.data.toList = true ∧ cd M.data.toList = (x : Int) ∧ x < 10 ∧ t = M ++ decS x

theorem run_slice12 (s : ByteArray) (h : 12 ≤ s.size) (w : World) : (Instr.slice 9 (.string s) none (some (.int .i64 12)) none).run Tryd.prog w = .ok (.string (s.extract 0 12)) w := by
  simp [go_sem]
  omega
theorem pick_any (B b g : Nat) (a : Option Addr) (len cap : Nat) (zs : List Int) (t0 t1 t2 t3 t4 : ByteArray) (at' seed : Int) (w : World) (hB : B ≤ b) (hs : Src w b a len cap at' seed) (hr : RowB B w a len zs) (a1 : at' ≤ 999999990000) (hg : g ≠ b)
    (c0 : w.cell? ⟨g, 0, none⟩ = some (.string t0)) (c1 : w.cell? ⟨g, 1, none⟩ = some (.string t1)) (c2 : w.cell? ⟨g, 2, none⟩ = some (.string t2)) (c3 : w.cell? ⟨g, 3, none⟩ = some (.string t3)) (c4 : w.cell? ⟨g, 4, none⟩ = some (.string t4)) :
    Calls Tryd.prog 33 #[.pointer (some ⟨b, 0, none⟩), .slice (some ⟨g, 0, none⟩) 5 5] w fun e w' => ∃ (T : ByteArray) (at2 s' : Int), e = .returned (.string T) ∧ (T = t0 ∨ T = t1 ∨ T = t2 ∨ T = t3 ∨ T = t4) ∧ at' ≤ at2 ∧ at2 ≤ at' + 3 ∧ Src w' b a len cap at2 s' ∧ Below B w w' := by
  have hnx := next_anyF B b a len cap zs 5 at' seed w hB hs hr (by omega) (by omega)
  clear hs
  go_enter Tryd.func33, Tryd.ntmps33
  go_wp2_with fail
  go_at_call 31
  refine hnx.mono ?_
  rintro e w1 ⟨x, at3, s3, rfl, ⟨hx0, hx1⟩, h3, h4, hsrc1, hb1, hf1⟩
  have HS1 : Hid (Src w1 b a len cap at3 s3) := hsrc1
  have HB1 : Hid (Below B w w1) := hb1
  rw [← hf1 g 0 hg] at c0
  rw [← hf1 g 1 hg] at c1
  rw [← hf1 g 2 hg] at c2
  rw [← hf1 g 3 hg] at c3
  rw [← hf1 g 4 hg] at c4
  clear hnx hsrc1 hb1 hf1
  rcases (by omega : x = 0 ∨ x = 1 ∨ x = 2 ∨ x = 3 ∨ x = 4) with rfl | rfl | rfl | rfl | rfl
  all_goals
    go_wp2
    go_ret
    exact ⟨_, at3, s3, rfl, by simp, h3, h4, HS1.out, HB1.out⟩

set_option maxHeartbeats 1600000 in
theorem scan_any (B b : Nat) (a : Option Addr) (len cap : Nat) (zs : List Int) (seed : Int) (w : World) (hB : B ≤ b) (hs : Src w b a len cap 0 seed) (hr : RowB B w a len zs) :
    Calls Tryd.prog 15 #[.pointer (some ⟨b, 0, none⟩)] w fun e w' => ∃ t, e = .returned (.string t) ∧ Right t ∧ Below B w w' := by
  have HR : Hid (RowB B w a len zs) := hr
  have hbs := hs.2.2.2.2.2.1
  have hnx := next_any B b a len cap zs 4 0 seed w hB hs hr (by omega) (by omega)
  clear hs hr
  go_enter Tryd.func15, Tryd.ntmps15
  go_wp2_with fail
  go_at_call 31
  refine hnx.mono ?_
  rintro e w1 ⟨x0, at1, s1, rfl, ⟨hx0, hx1⟩, h1, h2, hs1, hb1⟩
  have HS1 : Hid (Src w1 b a len cap at1 s1) := hs1
  have HB1 : Hid (Below B w w1) := hb1
  clear hs1 hb1 hnx
  rcases (by omega : x0 = 0 ∨ x0 = 1 ∨ x0 = 2 ∨ x0 = 3) with hx | hx | hx | hx
  · obtain rfl : x0 = 0 := by omega
    have hdr := srcDigits B b a len cap zs 7 at1 s1 w1 (by omega) hB HS1.out (HR.out.below HB1.out) (by omega)
    go_wp2_with fail
    go_at_call 32
    refine hdr.mono ?_
    rintro e w2 ⟨T, at2, s2, rfl, hT, hTd, _, _, hs2, hb2⟩
    have hTD : Hid (allD T.data.toList = true) := hTd
    have HBm : Hid (Below B w w2) := HB1.out.trans hb2
    clear hb2 hs2 hdr hTd
    obtain ⟨M, hM⟩ : ∃ M, M = T := ⟨_, rfl⟩
    have hMs : M.size = 7 := by rw [hM]; exact hT
    have HMd : Hid (allD M.data.toList = true) := by show _ = _; rw [hM]; exact hTD.out
    subst hM
    have HMs : Hid (M.size = 7 ∨ M.size = 12) := by show _ ∨ _; omega
    have hm20 : M.size ≤ 20 := by omega
    have hck := fun w => l02Check_any M (by omega) HMd.out w
    obtain ⟨x, hx⟩ : ∃ x : Nat, cd M.data.toList = (x : Int) := ⟨(cd M.data.toList).toNat, by have := cd_nonneg M.data.toList; omega⟩
    have hx9 : x < 10 := by have := cd_nonneg M.data.toList; omega
    have HX : Hid (cd M.data.toList = (x : Int)) := hx
    rw [hx] at hck
    clear hx
    have hdg := fun w => digits_any x (by omega) w
    have HY : Hid ((decS x).size = 1 ∧ allD (decS x).data.toList = true) := dec_digit x hx9
    have hadd := fun w => run_string_add_sum (P := Tryd.prog) w M (decS x) (by rw [HY.out.1]; omega)
    go_wp2_with fail
    go_at_call 25
    refine (hck _).mono ?_
    rintro e w7 ⟨rfl, hw7⟩
    subst hw7
    go_wp2_with fail
    go_at_call 30
    refine (hdg _).mono ?_
    rintro e w8 ⟨rfl, hb8⟩
    go_wp2
    go_ret
    exact ⟨_, rfl, ⟨M, x, HMs.out, HMd.out, HX.out, hx9, rfl⟩, HBm.out.trans (hb8.mono (by have := HBm.out.size; omega))⟩
  · obtain rfl : x0 = 1 := by omega
    have hdr := srcDigits B b a len cap zs 10 at1 s1 w1 (by omega) hB HS1.out (HR.out.below HB1.out) (by omega)
    go_wp2_with fail
    go_at_call 32
    refine hdr.mono ?_
    rintro e w2 ⟨T, at2, s2, rfl, hT, hTd, _, _, hs2, hb2⟩
    have hsz : (⟨#[50, 48]⟩ : ByteArray).size = 2 := rfl
    have hap := fun w => run_string_add_sum (P := Tryd.prog) w ⟨#[50, 48]⟩ T (by rw [hsz]; omega)
    have hTD : Hid (allD T.data.toList = true) := hTd
    have HBm : Hid (Below B w w2) := HB1.out.trans hb2
    clear hb2 hs2 hdr hTd
    obtain ⟨M, hM⟩ : ∃ M, M = ⟨#[50, 48]⟩ ++ T := ⟨_, rfl⟩
    have hMs : M.size = 12 := by rw [hM, ByteArray.size_append, hsz]; omega
    have HMd : Hid (allD M.data.toList = true) := by show _ = _; rw [hM]; exact allD_app _ _ (by decide) hTD.out
    rw [← hM] at hap
    clear hM
    have HMs : Hid (M.size = 7 ∨ M.size = 12) := by show _ ∨ _; omega
    have hm20 : M.size ≤ 20 := by omega
    have hck := fun w => l02Check_any M (by omega) HMd.out w
    obtain ⟨x, hx⟩ : ∃ x : Nat, cd M.data.toList = (x : Int) := ⟨(cd M.data.toList).toNat, by have := cd_nonneg M.data.toList; omega⟩
    have hx9 : x < 10 := by have := cd_nonneg M.data.toList; omega
    have HX : Hid (cd M.data.toList = (x : Int)) := hx
    rw [hx] at hck
    clear hx
    have hdg := fun w => digits_any x (by omega) w
    have HY : Hid ((decS x).size = 1 ∧ allD (decS x).data.toList = true) := dec_digit x hx9
    have hadd := fun w => run_string_add_sum (P := Tryd.prog) w M (decS x) (by rw [HY.out.1]; omega)
    go_wp2_with fail
    go_at_call 25
    refine (hck _).mono ?_
    rintro e w7 ⟨rfl, hw7⟩
    subst hw7
    go_wp2_with fail
    go_at_call 30
    refine (hdg _).mono ?_
    rintro e w8 ⟨rfl, hb8⟩
    go_wp2
    go_ret
    exact ⟨_, rfl, ⟨M, x, HMs.out, HMd.out, HX.out, hx9, rfl⟩, HBm.out.trans (hb8.mono (by have := HBm.out.size; omega))⟩
  · obtain rfl : x0 = 2 := by omega
    have hdr := srcDigits B b a len cap zs 10 at1 s1 w1 (by omega) hB HS1.out (HR.out.below HB1.out) (by omega)
    go_wp2_with fail
    go_at_call 32
    refine hdr.mono ?_
    rintro e w2 ⟨T, at2, s2, rfl, hT, hTd, _, _, hs2, hb2⟩
    have hsz : (⟨#[50, 49]⟩ : ByteArray).size = 2 := rfl
    have hap := fun w => run_string_add_sum (P := Tryd.prog) w ⟨#[50, 49]⟩ T (by rw [hsz]; omega)
    have hTD : Hid (allD T.data.toList = true) := hTd
    have HBm : Hid (Below B w w2) := HB1.out.trans hb2
    clear hb2 hs2 hdr hTd
    obtain ⟨M, hM⟩ : ∃ M, M = ⟨#[50, 49]⟩ ++ T := ⟨_, rfl⟩
    have hMs : M.size = 12 := by rw [hM, ByteArray.size_append, hsz]; omega
    have HMd : Hid (allD M.data.toList = true) := by show _ = _; rw [hM]; exact allD_app _ _ (by decide) hTD.out
    rw [← hM] at hap
    clear hM
    have HMs : Hid (M.size = 7 ∨ M.size = 12) := by show _ ∨ _; omega
    have hm20 : M.size ≤ 20 := by omega
    have hck := fun w => l02Check_any M (by omega) HMd.out w
    obtain ⟨x, hx⟩ : ∃ x : Nat, cd M.data.toList = (x : Int) := ⟨(cd M.data.toList).toNat, by have := cd_nonneg M.data.toList; omega⟩
    have hx9 : x < 10 := by have := cd_nonneg M.data.toList; omega
    have HX : Hid (cd M.data.toList = (x : Int)) := hx
    rw [hx] at hck
    clear hx
    have hdg := fun w => digits_any x (by omega) w
    have HY : Hid ((decS x).size = 1 ∧ allD (decS x).data.toList = true) := dec_digit x hx9
    have hadd := fun w => run_string_add_sum (P := Tryd.prog) w M (decS x) (by rw [HY.out.1]; omega)
    go_wp2_with fail
    go_at_call 25
    refine (hck _).mono ?_
    rintro e w7 ⟨rfl, hw7⟩
    subst hw7
    go_wp2_with fail
    go_at_call 30
    refine (hdg _).mono ?_
    rintro e w8 ⟨rfl, hb8⟩
    go_wp2
    go_ret
    exact ⟨_, rfl, ⟨M, x, HMs.out, HMd.out, HX.out, hx9, rfl⟩, HBm.out.trans (hb8.mono (by have := HBm.out.size; omega))⟩
  · obtain rfl : x0 = 3 := by omega
    have hpk := fun W (hsW : Src W b a len cap at1 s1) (hbW : Below B w W) (g : Nat) (hg : g ≠ b) c0 c1 c2 c3 c4 => pick_any B b g a len cap zs ⟨#[52]⟩ ⟨#[53, 48]⟩ ⟨#[57, 55, 56]⟩ ⟨#[51]⟩ ⟨#[55]⟩ at1 s1 W hB hsW (HR.out.below hbW) (by omega) hg c0 c1 c2 c3 c4
    go_wp2_with fail
    go_at_call 33
    have hbb := HS1.out.2.2.2.2.2.1
    refine (hpk _ (HS1.out.below (below_alloc _ _)) (HB1.out.trans ((below_alloc _ _).mono (by have := HB1.out.size; omega))) _ (by omega) (cell_of_row _ _ 0 _ _ _ (heap_alloc_new _ _)) (cell_of_row _ _ 1 _ _ _ (heap_alloc_new _ _)) (cell_of_row _ _ 2 _ _ _ (heap_alloc_new _ _)) (cell_of_row _ _ 3 _ _ _ (heap_alloc_new _ _)) (cell_of_row _ _ 4 _ _ _ (heap_alloc_new _ _))).mono ?_
    rintro e w2 ⟨Q, at2, s2, rfl, hQ, hq1, hq2, hs2, hb2⟩
    have hQ' : 1 ≤ Q.size ∧ Q.size ≤ 3 ∧ allD Q.data.toList = true := by
      rcases hQ with rfl | rfl | rfl | rfl | rfl <;> exact ⟨by decide, by decide, by decide⟩
    obtain ⟨hQ1, hQ2, hQ3⟩ := hQ'
    have HB2 : Hid (Below B w w2) := (HB1.out.trans ((below_alloc _ _).mono (by have := HB1.out.size; omega))).trans hb2
    have hdr := srcDigits B b a len cap zs 12 at2 s2 w2 (by omega) hB hs2 (HR.out.below HB2.out) (by omega)
    clear hpk hs2 hb2 hQ
    go_wp2_with fail
    go_at_call 32
    refine hdr.mono ?_
    rintro e w3 ⟨T, at3, s3, rfl, hT, hTd, _, _, hs3, hb3⟩
    have hTD : Hid (allD T.data.toList = true) := hTd
    have HBm : Hid (Below B w w3) := HB2.out.trans hb3
    clear hb3 hs3 hdr hTd
    have hap := fun w => run_string_add_sum (P := Tryd.prog) w Q T (by omega)
    have hsl := fun w => run_slice12 (Q ++ T) (by rw [ByteArray.size_append]; omega) w
    obtain ⟨M, hM⟩ : ∃ M, M = (Q ++ T).extract 0 12 := ⟨_, rfl⟩
    have hMs : M.size = 12 := by rw [hM]; simp; omega
    have HMd : Hid (allD M.data.toList = true) := by
      show _ = _
      rw [hM, Lib.extract_data]; exact allD_take _ _ (by simpa using allD_app _ _ hQ3 hTD.out)
    rw [← hM] at hsl
    clear hM
    have HMs : Hid (M.size = 7 ∨ M.size = 12) := by show _ ∨ _; omega
    have hm20 : M.size ≤ 20 := by omega
    have hck := fun w => l02Check_any M (by omega) HMd.out w
    obtain ⟨x, hx⟩ : ∃ x : Nat, cd M.data.toList = (x : Int) := ⟨(cd M.data.toList).toNat, by have := cd_nonneg M.data.toList; omega⟩
    have hx9 : x < 10 := by have := cd_nonneg M.data.toList; omega
    have HX : Hid (cd M.data.toList = (x : Int)) := hx
    rw [hx] at hck
    clear hx
    have hdg := fun w => digits_any x (by omega) w
    have HY : Hid ((decS x).size = 1 ∧ allD (decS x).data.toList = true) := dec_digit x hx9
    have hadd := fun w => run_string_add_sum (P := Tryd.prog) w M (decS x) (by rw [HY.out.1]; omega)
    go_wp2_with fail
    go_at_call 25
    refine (hck _).mono ?_
    rintro e w7 ⟨rfl, hw7⟩
    subst hw7
    go_wp2_with fail
    go_at_call 30
    refine (hdg _).mono ?_
    rintro e w8 ⟨rfl, hb8⟩
    go_wp2
    go_ret
    exact ⟨_, rfl, ⟨M, x, HMs.out, HMd.out, HX.out, hx9, rfl⟩, HBm.out.trans (hb8.mono (by have := HBm.out.size; omega))⟩
end Go.Proofs.YtlejmjpjlbiojaaDoor
