/-
  For every price, stock, percents, demand the law FnExactBestMarks answers true: the program's BestMarks answers as the specification's, writes into no argument, keeps nothing of one, and its answer owns its memory, behind another call too; with no condition.
-/
import Derived.Test.YtlcnhkhkhlpghaaMrZ
namespace Go.Proofs.Ytlcnhkhkhlpghaa
open Go.ChangeShapes Go.WideShapes Go.ChangeAt Go.RowKit Go.Joins
open Go.ChangeMaps (open_string shut_string)
set_option linter.unusedVariables false

namespace BestMarksLaw
set_option maxHeartbeats 8000000 in
set_option maxRecDepth 4000 in
theorem walk' (price stock : Int) (a : Option Addr) (ca : Nat) (ps : List Int) (hl : ps.length ≤ maxLen) (b : Option Addr) (cb : Nat) (cs : LL) (hk : cs.length ≤ maxLen) (hp : ∀ r ∈ cs, DmWide r) (w : World) (ha : Reads w.heap.size w a ps) (hb : ReadsDm w.heap.size w b cs) :
    Calls Try.prog 6 #[.int .i64 price, .int .i64 stock, .slice a ps.length ca, .slice b cs.length cb] w fun e w' => e = .returned (.bool true) ∧ Below w.heap.size w w' := by
  have HA : Hid (Reads w.heap.size w a ps) := ha
  have HD : Hid (ReadsDm w.heap.size w b cs) := hb
  have HZ : Hid (∀ w, ReadsDm w.heap.size w b cs → Calls Try.prog 13 #[.slice b cs.length cb, .int .i64 1048576] w (SzDms cs w)) := fun w h => szDms_any b cb cs hk hp 1048576 (by omega) (by omega) w h
  clear ha hb hp
  by_cases hbig : (1048576 : Int) < (ps.length : Int)
  · go_enter Try.func6, Try.ntmps6
    go_wp2
    go_ret
    exact ⟨rfl, Below.refl _ _⟩
  have hpl : ps.length ≤ 1048576 := by omega
  go_enter Try.func6, Try.ntmps6
  go_wp2_with (go_at_call 13; refine (HZ.out _ HD.out).mono ?_; rintro e w1 ⟨x, rfl, hx, hb1⟩; have HX : Hid (x < 0 ∨ (0 ≤ x ∧ x ≤ 1048576 ∧ cs.length ≤ 1048576 ∧ totDm cs ≤ 1048576 ∧ ∀ r ∈ cs, DmOK r)) := hx; have B_0 : Hid (Below w.heap.size w w1) := hb1; clear hx hb1)
  · go_ret
    exact ⟨rfl, B_0.out⟩
  rcases HX.out with h | ⟨_, _, hlen, htot, hok⟩
  · omega
  have HOK : Hid (∀ r ∈ cs, DmOK r) := hok
  have hSp : Hid (∀ a ca b cb W, Reads W.heap.size W a ps → ReadsDm W.heap.size W b cs → Calls Try.prog 24 #[.int .i64 price, .int .i64 stock, .slice a ps.length ca, .slice b cs.length cb] W (AnsWb price stock ps cs W)) := fun a ca b cb W h1 h2 => specBestMarks_any price stock a ca ps (by omega) b cb cs (by omega) HOK.out W h1 h2
  have hIm : Hid (∀ a ca b cb W, Reads W.heap.size W a ps → ReadsDm W.heap.size W b cs → Calls Try.prog 9 #[.int .i64 price, .int .i64 stock, .slice a ps.length ca, .slice b cs.length cb] W (AnsMb price stock ps cs W)) := fun a ca b cb W h1 h2 => implBestMarks_any price stock a ca ps (by omega) b cb cs (by omega) HOK.out W h1 h2
  have hTD : Hid (∀ w, ReadsDm w.heap.size w b cs → Calls Try.prog 16 #[.slice b cs.length cb] w fun e w' => ∃ g, e = .returned (.slice (some ⟨g, 0, none⟩) cs.length cs.length) ∧ Below w.heap.size w w' ∧ OwnDm w.heap.size w' g cs) := fun w h => (toDms_any b cb cs hlen HOK.out w h).mono fun e w' ⟨h1, h2, h3⟩ => ⟨_, h1, h2, h3⟩
  have hTP : Hid (∀ w, Reads w.heap.size w a ps → Calls Try.prog 15 #[.slice a ps.length ca] w fun e w' => ∃ g, e = .returned (.slice (some ⟨g, 0, none⟩) ps.length ps.length) ∧ Below w.heap.size w w' ∧ Own2 w.heap.size w' (some ⟨g, 0, none⟩) ps) := fun w h => (toInts_any a ca ps (by omega) w h).mono fun e w' ⟨h1, h2, h3, h4, h5⟩ => ⟨_, h1, h2, .inr ⟨_, rfl, Nat.le_refl _, h3, h4, h5⟩⟩
  have hL : (bmL price stock ps cs).length ≤ 1048576 := bmL_len price stock ps cs
  have hSl : (bmS price stock ps cs).length ≤ 1048576 := bmS_len price stock ps cs
  unfold AnsWb at hSp
  unfold AnsMb at hIm
  generalize bmL price stock ps cs = L at *
  generalize bmS price stock ps cs = S at *
  generalize mkF price stock ps cs = pc at *
  generalize bmV price stock ps cs = us at *
  generalize bmE price stock ps cs = ga at *
  have hkF := kAtD_sum (1 + ps.length) cs cs.length (Nat.le_refl _)
  rw [List.take_length] at hkF
  have HMF : Hid (∀ lo hi g W, DmMk lo hi W g cs.length (fun i => (cs.getD i []).length) → Calls Try.prog 21 #[.slice (some ⟨g, 0, none⟩) cs.length cs.length, .int .i64 ((1 + ps.length : Nat) : Int)] W fun e w' => e = .returned (.int .i64 (kAtD (1 + ps.length) (fun i => (cs.getD i []).length) cs.length : Int)) ∧ Span lo hi W w') := fun lo hi g W h => markDms_any lo hi g cs.length cs.length _ hlen (fun i hi => getDm HOK.out hi) (1 + ps.length) (by omega) (by omega) W h
  have hkF2 : kAtD (1 + ps.length) (fun i => (cs.getD i []).length) cs.length ≤ 80000000 := by omega
  clear hkF hok HX HZ
  generalize kAtD (1 + ps.length) (fun i => (cs.getD i []).length) cs.length = kF at *
  have hpc : (pc != pc) = false := by simp
  (first | go_at_call 15 | skip)
  refine (hTP.out w1 (HA.out.later B_0.out)).mono ?_
  rintro e w2 ⟨g2, rfl, hb, ho⟩
  have B_1 : Hid (Below w.heap.size w w2) := chain B_0.out hb
  have RP_1 : Hid (Reads w2.heap.size w2 (some ⟨g2, 0, none⟩) ps) := ho.reads
  clear hb ho B_0
  go_wp2_with fail
  (first | go_at_call 16 | skip)
  refine (hTD.out w2 (HD.out.later B_1.out)).mono ?_
  rintro e w3 ⟨g3, rfl, hb, ho⟩
  have B_2 : Hid (Below w.heap.size w w3) := chain B_1.out hb
  have RP_2 : Hid (Reads w3.heap.size w3 (some ⟨g2, 0, none⟩) ps) := RP_1.out.later hb
  clear B_1 RP_1
  have RD_2 : Hid (ReadsDm w3.heap.size w3 (some ⟨g3, 0, none⟩) cs) := ho.reads
  clear hb ho
  go_wp2_with fail
  (first | go_at_call 24 | skip)
  refine (hSp.out _ _ _ _ w3 RP_2.out RD_2.out).mono ?_
  rintro e w4 ⟨q4, c4, s4, d4, rfl, o4, p4, hb⟩
  clear RP_2
  clear RD_2
  have B_3 : Hid (Below w.heap.size w w4) := chain B_2.out hb
  clear B_2
  have RW_3 : Hid (RowI w3.heap.size w4.heap.size w4 q4 L) := o4
  have SW_3 : Hid (RowI w3.heap.size w4.heap.size w4 s4 S) := p4
  have s34 : w3.heap.size ≤ w4.heap.size := hb.size
  clear hb o4 p4
  obtain ⟨w5, hw5⟩ : ∃ w5, w5 = w4.alloc (Obj.cells #[.slice q4 L.length c4, .slice s4 S.length d4, .int .i64 us, .int .i64 ga] 28) := ⟨_, rfl⟩
  obtain ⟨b8, hb8⟩ : ∃ b8, b8 = w4.heap.size := ⟨_, rfl⟩
  have HW5 : Hid (w5 = w4.alloc (Obj.cells #[.slice q4 L.length c4, .slice s4 S.length d4, .int .i64 us, .int .i64 ga] 28) ∧ b8 = w4.heap.size) := ⟨hw5, hb8⟩
  have hb : Below w4.heap.size w4 w5 := by rw [hw5]; exact below_alloc _ _
  have s48 : w4.heap.size ≤ b8 := by rw [hb8]; exact Nat.le_refl _
  have B_4 : Hid (Below w.heap.size w w5) := chain B_3.out hb
  have RW_4 : Hid (RowI w3.heap.size w4.heap.size w5 q4 L) := RW_3.out.later hb
  have SW_4 : Hid (RowI w3.heap.size w4.heap.size w5 s4 S) := SW_3.out.later hb
  clear B_3 RW_3 SW_3
  have PW_4 : Hid (MpAt w5 b8 q4 L.length c4 s4 S.length d4 us ga) := by show MpAt _ _ _ _ _ _ _ _ _ _; rw [hw5, hb8]; exact MpAt.new _ _ _ _ _ _ _ _ _ _
  have s85 : b8 < w5.heap.size := PW_4.out.2
  have HBz : Hid (w.heap.size ≤ w5.heap.size) := B_4.out.size
  clear hb hw5 hb8
  go_upto_region 8 with fail
  rw [← HW5.out.1, ← HW5.out.2]
  clear HW5
  go_wp2_with fail
  (first | go_at_call 15 | skip)
  refine (hTP.out w5 (HA.out.later B_4.out)).mono ?_
  rintro e w6 ⟨g6, rfl, hb, ho⟩
  have B_5 : Hid (Below w.heap.size w w6) := chain B_4.out hb
  have RW_5 : Hid (RowI w3.heap.size w4.heap.size w6 q4 L) := RW_4.out.later hb
  have SW_5 : Hid (RowI w3.heap.size w4.heap.size w6 s4 S) := SW_4.out.later hb
  have PW_5 : Hid (MpAt w6 b8 q4 L.length c4 s4 S.length d4 us ga) := PW_4.out.later hb
  clear B_4 RW_4 SW_4 PW_4
  have XP_5 : Hid (RowI w5.heap.size w6.heap.size w6 (some ⟨g6, 0, none⟩) ps) := ho.rowI
  have s56 : w5.heap.size ≤ w6.heap.size := hb.size
  clear hb ho
  go_wp2_with fail
  (first | go_at_call 16 | skip)
  refine (hTD.out w6 (HD.out.later B_5.out)).mono ?_
  rintro e w7 ⟨g7, rfl, hb, ho⟩
  have B_6 : Hid (Below w.heap.size w w7) := chain B_5.out hb
  have RW_6 : Hid (RowI w3.heap.size w4.heap.size w7 q4 L) := RW_5.out.later hb
  have SW_6 : Hid (RowI w3.heap.size w4.heap.size w7 s4 S) := SW_5.out.later hb
  have PW_6 : Hid (MpAt w7 b8 q4 L.length c4 s4 S.length d4 us ga) := PW_5.out.later hb
  have XP_6 : Hid (RowI w5.heap.size w6.heap.size w7 (some ⟨g6, 0, none⟩) ps) := XP_5.out.later hb
  clear B_5 RW_5 SW_5 PW_5 XP_5
  have XD_6 : Hid (ReadsDm w7.heap.size w7 (some ⟨g7, 0, none⟩) cs) := ho.reads
  have XM_6 : Hid (DmMk w6.heap.size w7.heap.size w7 g7 cs.length (fun i => (cs.getD i []).length)) := ho.mk
  have s67 : w6.heap.size ≤ w7.heap.size := hb.size
  clear hb ho
  go_wp2_with fail
  (first | go_at_call 9 | skip)
  refine (hIm.out _ _ _ _ w7 XP_6.out.reads XD_6.out).mono ?_
  rintro e w8 ⟨q8, c8, s8, d8, mid8, rfl, ⟨m8a, m8b⟩, o8, p8, hb⟩
  have B_7 : Hid (Below w.heap.size w w8) := chain B_6.out hb
  have RW_7 : Hid (RowI w3.heap.size w4.heap.size w8 q4 L) := RW_6.out.later hb
  have SW_7 : Hid (RowI w3.heap.size w4.heap.size w8 s4 S) := SW_6.out.later hb
  have PW_7 : Hid (MpAt w8 b8 q4 L.length c4 s4 S.length d4 us ga) := PW_6.out.later hb
  have XP_7 : Hid (RowI w5.heap.size w6.heap.size w8 (some ⟨g6, 0, none⟩) ps) := XP_6.out.later hb
  have XD_7 : Hid (ReadsDm w8.heap.size w8 (some ⟨g7, 0, none⟩) cs) := XD_6.out.later hb
  have XM_7 : Hid (DmMk w6.heap.size w7.heap.size w8 g7 cs.length (fun i => (cs.getD i []).length)) := XM_6.out.later hb
  clear B_6 RW_6 SW_6 PW_6 XP_6 XD_6 XM_6
  have RG_7 : Hid (RowI w7.heap.size mid8 w8 q8 L) := o8
  have SG_7 : Hid (RowI mid8 w8.heap.size w8 s8 S) := p8
  have s78 : w7.heap.size ≤ w8.heap.size := hb.size
  clear hb o8 p8
  obtain ⟨w9, hw9⟩ : ∃ w9, w9 = w8.alloc (Obj.cells #[.slice q8 L.length c8, .slice s8 S.length d8, .int .i64 us, .int .i64 ga] 28) := ⟨_, rfl⟩
  obtain ⟨b12, hb12⟩ : ∃ b12, b12 = w8.heap.size := ⟨_, rfl⟩
  have HW9 : Hid (w9 = w8.alloc (Obj.cells #[.slice q8 L.length c8, .slice s8 S.length d8, .int .i64 us, .int .i64 ga] 28) ∧ b12 = w8.heap.size) := ⟨hw9, hb12⟩
  have hb : Below w8.heap.size w8 w9 := by rw [hw9]; exact below_alloc _ _
  have s8b : w8.heap.size ≤ b12 := by rw [hb12]; exact Nat.le_refl _
  have B_8 : Hid (Below w.heap.size w w9) := chain B_7.out hb
  have RW_8 : Hid (RowI w3.heap.size w4.heap.size w9 q4 L) := RW_7.out.later hb
  have SW_8 : Hid (RowI w3.heap.size w4.heap.size w9 s4 S) := SW_7.out.later hb
  have PW_8 : Hid (MpAt w9 b8 q4 L.length c4 s4 S.length d4 us ga) := PW_7.out.later hb
  have XP_8 : Hid (RowI w5.heap.size w6.heap.size w9 (some ⟨g6, 0, none⟩) ps) := XP_7.out.later hb
  have XD_8 : Hid (ReadsDm w9.heap.size w9 (some ⟨g7, 0, none⟩) cs) := XD_7.out.later hb
  have XM_8 : Hid (DmMk w6.heap.size w7.heap.size w9 g7 cs.length (fun i => (cs.getD i []).length)) := XM_7.out.later hb
  have RG_8 : Hid (RowI w7.heap.size mid8 w9 q8 L) := RG_7.out.later hb
  have SG_8 : Hid (RowI mid8 w8.heap.size w9 s8 S) := SG_7.out.later hb
  clear B_7 RW_7 SW_7 PW_7 XP_7 XD_7 XM_7 RG_7 SG_7
  have PG_8 : Hid (MpAt w9 b12 q8 L.length c8 s8 S.length d8 us ga) := by show MpAt _ _ _ _ _ _ _ _ _ _; rw [hw9, hb12]; exact MpAt.new _ _ _ _ _ _ _ _ _ _
  have s9z : w8.heap.size ≤ w9.heap.size := hb.size
  clear hb hw9 hb12
  go_upto_region 11 with fail
  rw [← HW9.out.1, ← HW9.out.2]
  clear HW9
  obtain ⟨⟨e0, e1, e2, e3⟩, _⟩ := PW_8.out
  obtain ⟨⟨f0, f1, f2, f3⟩, _⟩ := PG_8.out
  go_wp2_with fail
  (first | go_at_call 17 | skip)
  clear e0 e1 e2 e3 f0 f1 f2 f3
  refine (eqMp_any us ga q8 q4 s8 s4 c8 c4 d8 d4 L S hL hSl w9 RG_8.out.reads RW_8.out.reads SG_8.out.reads SW_8.out.reads).mono ?_
  rintro e w10 ⟨rfl, hb⟩
  have B_9 : Hid (Below w.heap.size w w10) := chain B_8.out hb
  have RW_9 : Hid (RowI w3.heap.size w4.heap.size w10 q4 L) := RW_8.out.later hb
  have SW_9 : Hid (RowI w3.heap.size w4.heap.size w10 s4 S) := SW_8.out.later hb
  have PW_9 : Hid (MpAt w10 b8 q4 L.length c4 s4 S.length d4 us ga) := PW_8.out.later hb
  have XP_9 : Hid (RowI w5.heap.size w6.heap.size w10 (some ⟨g6, 0, none⟩) ps) := XP_8.out.later hb
  have XD_9 : Hid (ReadsDm w10.heap.size w10 (some ⟨g7, 0, none⟩) cs) := XD_8.out.later hb
  have XM_9 : Hid (DmMk w6.heap.size w7.heap.size w10 g7 cs.length (fun i => (cs.getD i []).length)) := XM_8.out.later hb
  have RG_9 : Hid (RowI w7.heap.size mid8 w10 q8 L) := RG_8.out.later hb
  have SG_9 : Hid (RowI mid8 w8.heap.size w10 s8 S) := SG_8.out.later hb
  have PG_9 : Hid (MpAt w10 b12 q8 L.length c8 s8 S.length d8 us ga) := PG_8.out.later hb
  clear B_8 RW_8 SW_8 PW_8 XP_8 XD_8 XM_8 RG_8 SG_8 PG_8
  clear hb
  go_wp2_with fail
  (first | go_at_call 15 | skip)
  refine (hTP.out w10 (HA.out.later B_9.out)).mono ?_
  rintro e w11 ⟨g11, rfl, hb, ho⟩
  have B_10 : Hid (Below w.heap.size w w11) := chain B_9.out hb
  have RW_10 : Hid (RowI w3.heap.size w4.heap.size w11 q4 L) := RW_9.out.later hb
  have SW_10 : Hid (RowI w3.heap.size w4.heap.size w11 s4 S) := SW_9.out.later hb
  have PW_10 : Hid (MpAt w11 b8 q4 L.length c4 s4 S.length d4 us ga) := PW_9.out.later hb
  have XP_10 : Hid (RowI w5.heap.size w6.heap.size w11 (some ⟨g6, 0, none⟩) ps) := XP_9.out.later hb
  have XD_10 : Hid (ReadsDm w11.heap.size w11 (some ⟨g7, 0, none⟩) cs) := XD_9.out.later hb
  have XM_10 : Hid (DmMk w6.heap.size w7.heap.size w11 g7 cs.length (fun i => (cs.getD i []).length)) := XM_9.out.later hb
  have RG_10 : Hid (RowI w7.heap.size mid8 w11 q8 L) := RG_9.out.later hb
  have SG_10 : Hid (RowI mid8 w8.heap.size w11 s8 S) := SG_9.out.later hb
  have PG_10 : Hid (MpAt w11 b12 q8 L.length c8 s8 S.length d8 us ga) := PG_9.out.later hb
  clear B_9 RW_9 SW_9 PW_9 XP_9 XD_9 XM_9 RG_9 SG_9 PG_9
  have TP : Hid (Reads w11.heap.size w11 (some ⟨g11, 0, none⟩) ps) := ho.reads
  clear hb ho
  go_wp2_with fail
  (first | go_at_call 18 | skip)
  refine (eqZis_any _ _ _ _ ps hpl w11 XP_10.out.reads TP.out).mono ?_
  rintro e w12 ⟨rfl, hb⟩
  have B_11 : Hid (Below w.heap.size w w12) := chain B_10.out hb
  have RW_11 : Hid (RowI w3.heap.size w4.heap.size w12 q4 L) := RW_10.out.later hb
  have SW_11 : Hid (RowI w3.heap.size w4.heap.size w12 s4 S) := SW_10.out.later hb
  have PW_11 : Hid (MpAt w12 b8 q4 L.length c4 s4 S.length d4 us ga) := PW_10.out.later hb
  have XP_11 : Hid (RowI w5.heap.size w6.heap.size w12 (some ⟨g6, 0, none⟩) ps) := XP_10.out.later hb
  have XD_11 : Hid (ReadsDm w12.heap.size w12 (some ⟨g7, 0, none⟩) cs) := XD_10.out.later hb
  have XM_11 : Hid (DmMk w6.heap.size w7.heap.size w12 g7 cs.length (fun i => (cs.getD i []).length)) := XM_10.out.later hb
  have RG_11 : Hid (RowI w7.heap.size mid8 w12 q8 L) := RG_10.out.later hb
  have SG_11 : Hid (RowI mid8 w8.heap.size w12 s8 S) := SG_10.out.later hb
  have PG_11 : Hid (MpAt w12 b12 q8 L.length c8 s8 S.length d8 us ga) := PG_10.out.later hb
  clear B_10 RW_10 SW_10 PW_10 XP_10 XD_10 XM_10 RG_10 SG_10 PG_10
  clear hb TP
  go_wp2_with fail
  (first | go_at_call 16 | skip)
  refine (hTD.out w12 (HD.out.later B_11.out)).mono ?_
  rintro e w13 ⟨g13, rfl, hb, ho⟩
  have B_12 : Hid (Below w.heap.size w w13) := chain B_11.out hb
  have RW_12 : Hid (RowI w3.heap.size w4.heap.size w13 q4 L) := RW_11.out.later hb
  have SW_12 : Hid (RowI w3.heap.size w4.heap.size w13 s4 S) := SW_11.out.later hb
  have PW_12 : Hid (MpAt w13 b8 q4 L.length c4 s4 S.length d4 us ga) := PW_11.out.later hb
  have XP_12 : Hid (RowI w5.heap.size w6.heap.size w13 (some ⟨g6, 0, none⟩) ps) := XP_11.out.later hb
  have XD_12 : Hid (ReadsDm w13.heap.size w13 (some ⟨g7, 0, none⟩) cs) := XD_11.out.later hb
  have XM_12 : Hid (DmMk w6.heap.size w7.heap.size w13 g7 cs.length (fun i => (cs.getD i []).length)) := XM_11.out.later hb
  have RG_12 : Hid (RowI w7.heap.size mid8 w13 q8 L) := RG_11.out.later hb
  have SG_12 : Hid (RowI mid8 w8.heap.size w13 s8 S) := SG_11.out.later hb
  have PG_12 : Hid (MpAt w13 b12 q8 L.length c8 s8 S.length d8 us ga) := PG_11.out.later hb
  clear B_11 RW_11 SW_11 PW_11 XP_11 XD_11 XM_11 RG_11 SG_11 PG_11
  have TD : Hid (ReadsDm w13.heap.size w13 (some ⟨g13, 0, none⟩) cs) := ho.reads
  clear hb ho
  go_wp2_with fail
  (first | go_at_call 19 | skip)
  refine (eqDms_any _ _ _ _ cs hlen HOK.out w13 XD_12.out TD.out).mono ?_
  rintro e w14 ⟨rfl, hb⟩
  have B_13 : Hid (Below w.heap.size w w14) := chain B_12.out hb
  have RW_13 : Hid (RowI w3.heap.size w4.heap.size w14 q4 L) := RW_12.out.later hb
  have SW_13 : Hid (RowI w3.heap.size w4.heap.size w14 s4 S) := SW_12.out.later hb
  have PW_13 : Hid (MpAt w14 b8 q4 L.length c4 s4 S.length d4 us ga) := PW_12.out.later hb
  have XP_13 : Hid (RowI w5.heap.size w6.heap.size w14 (some ⟨g6, 0, none⟩) ps) := XP_12.out.later hb
  have XD_13 : Hid (ReadsDm w14.heap.size w14 (some ⟨g7, 0, none⟩) cs) := XD_12.out.later hb
  have XM_13 : Hid (DmMk w6.heap.size w7.heap.size w14 g7 cs.length (fun i => (cs.getD i []).length)) := XM_12.out.later hb
  have RG_13 : Hid (RowI w7.heap.size mid8 w14 q8 L) := RG_12.out.later hb
  have SG_13 : Hid (RowI mid8 w8.heap.size w14 s8 S) := SG_12.out.later hb
  have PG_13 : Hid (MpAt w14 b12 q8 L.length c8 s8 S.length d8 us ga) := PG_12.out.later hb
  clear B_12 RW_12 SW_12 PW_12 XP_12 XD_12 XM_12 RG_12 SG_12 PG_12
  clear hb TD
  have hB0w : w.heap.size ≤ w5.heap.size := HBz.out
  go_wp2_with fail
  (first | go_at_call 20 | skip)
  refine (markI_any _ _ _ _ ps hpl 1 (by omega) w14 XP_13.out).mono ?_
  rintro e w15 ⟨rfl, hs, _⟩
  clear XP_13
  clear XD_13
  have B_14 : Hid (Below w.heap.size w w15) := B_13.out.trans (hs.1.mono hB0w)
  have RW_14 : Hid (RowI w3.heap.size w4.heap.size w15 q4 L) := RW_13.out.below hs.1 (by omega)
  have SW_14 : Hid (RowI w3.heap.size w4.heap.size w15 s4 S) := SW_13.out.below hs.1 (by omega)
  have PW_14 : Hid (MpAt w15 b8 q4 L.length c4 s4 S.length d4 us ga) := PW_13.out.low hs.1 s85
  have XM_14 : Hid (DmMk w6.heap.size w7.heap.size w15 g7 cs.length (fun i => (cs.getD i []).length)) := XM_13.out.apart hs (Nat.le_refl _)
  have RG_14 : Hid (RowI w7.heap.size mid8 w15 q8 L) := RG_13.out.apart hs (by omega)
  have SG_14 : Hid (RowI mid8 w8.heap.size w15 s8 S) := SG_13.out.apart hs (by omega)
  have PG_14 : Hid (MpAt w15 b12 q8 L.length c8 s8 S.length d8 us ga) := PG_13.out.above hs (by omega)
  clear B_13 RW_13 SW_13 PW_13 XM_13 RG_13 SG_13 PG_13
  clear hs
  go_wp2_with fail
  (first | go_at_call 21 | skip)
  refine (HMF.out _ _ _ w15 XM_14.out).mono ?_
  rintro e w16 ⟨rfl, hs⟩
  clear XM_14
  have B_15 : Hid (Below w.heap.size w w16) := B_14.out.trans (hs.1.mono (by omega))
  have RW_15 : Hid (RowI w3.heap.size w4.heap.size w16 q4 L) := RW_14.out.below hs.1 (by omega)
  have SW_15 : Hid (RowI w3.heap.size w4.heap.size w16 s4 S) := SW_14.out.below hs.1 (by omega)
  have PW_15 : Hid (MpAt w16 b8 q4 L.length c4 s4 S.length d4 us ga) := PW_14.out.low hs.1 (by omega)
  have RG_15 : Hid (RowI w7.heap.size mid8 w16 q8 L) := RG_14.out.apart hs (by omega)
  have SG_15 : Hid (RowI mid8 w8.heap.size w16 s8 S) := SG_14.out.apart hs (by omega)
  have PG_15 : Hid (MpAt w16 b12 q8 L.length c8 s8 S.length d8 us ga) := PG_14.out.above hs (by omega)
  clear B_14 RW_14 SW_14 PW_14 RG_14 SG_14 PG_14
  clear hs
  have p1 : ¬ ((kF : Int) < 0) := by omega
  obtain ⟨⟨e0, e1, e2, e3⟩, _⟩ := PW_15.out
  obtain ⟨⟨f0, f1, f2, f3⟩, _⟩ := PG_15.out
  go_wp2_with fail
  (first | go_at_call 17 | skip)
  clear e0 e1 e2 e3 f0 f1 f2 f3
  refine (eqMp_any us ga q8 q4 s8 s4 c8 c4 d8 d4 L S hL hSl w16 RG_15.out.reads RW_15.out.reads SG_15.out.reads SW_15.out.reads).mono ?_
  rintro e w17 ⟨rfl, hb⟩
  have B_16 : Hid (Below w.heap.size w w17) := chain B_15.out hb
  have RW_16 : Hid (RowI w3.heap.size w4.heap.size w17 q4 L) := RW_15.out.later hb
  have SW_16 : Hid (RowI w3.heap.size w4.heap.size w17 s4 S) := SW_15.out.later hb
  have PW_16 : Hid (MpAt w17 b8 q4 L.length c4 s4 S.length d4 us ga) := PW_15.out.later hb
  have RG_16 : Hid (RowI w7.heap.size mid8 w17 q8 L) := RG_15.out.later hb
  have SG_16 : Hid (RowI mid8 w8.heap.size w17 s8 S) := SG_15.out.later hb
  have PG_16 : Hid (MpAt w17 b12 q8 L.length c8 s8 S.length d8 us ga) := PG_15.out.later hb
  clear B_15 RW_15 SW_15 PW_15 RG_15 SG_15 PG_15
  clear hb
  obtain ⟨⟨f0, f1, f2, f3⟩, _⟩ := PG_16.out
  go_wp2_with fail
  (first | go_at_call 22 | skip)
  clear f0 f1 f2 f3
  refine (markMp_any us ga w7.heap.size mid8 w8.heap.size q8 s8 c8 d8 L S hL hSl w17 RG_16.out SG_16.out (Nat.le_trans s8b (Nat.le_of_lt PG_16.out.2)) m8a m8b).mono ?_
  rintro e w18 ⟨rfl, hs, hr, hr2⟩
  have RM_16 : Hid (RowI w7.heap.size mid8 w18 q8 (marks 1 L.length)) := hr
  have SM_16 : Hid (RowI mid8 w8.heap.size w18 s8 (marks ((1 + L.length : Nat) : Int) S.length)) := hr2
  clear RG_16
  clear SG_16
  have B_17 : Hid (Below w.heap.size w w18) := B_16.out.trans (hs.1.mono (by omega))
  have RW_17 : Hid (RowI w3.heap.size w4.heap.size w18 q4 L) := RW_16.out.below hs.1 (by omega)
  have SW_17 : Hid (RowI w3.heap.size w4.heap.size w18 s4 S) := SW_16.out.below hs.1 (by omega)
  have PW_17 : Hid (MpAt w18 b8 q4 L.length c4 s4 S.length d4 us ga) := PW_16.out.low hs.1 (by omega)
  have PG_17 : Hid (MpAt w18 b12 q8 L.length c8 s8 S.length d8 us ga) := PG_16.out.above hs s8b
  clear B_16 RW_16 SW_16 PW_16 PG_16
  have RM_17 := RM_16
  have SM_17 := SM_16
  clear hs hr hr2 RM_16 SM_16
  have p2 : ¬ (((1 + L.length + S.length : Nat) : Int) < 0) := by omega
  have p3 : (((1 + L.length + S.length : Nat) : Int) != ((1 + L.length + S.length : Nat) : Int)) = false := by simp
  obtain ⟨kL, hkL⟩ : ∃ kL, kL = 1 + L.length + S.length := ⟨_, rfl⟩
  have HHd : Hid (∀ W, RowI w7.heap.size mid8 W q8 (marks 1 L.length) → RowI mid8 w8.heap.size W s8 (marks ((1 + L.length : Nat) : Int) S.length) → Calls Try.prog 23 #[.agg #[.slice q8 L.length c8, .slice s8 S.length d8, .int .i64 us, .int .i64 ga], .int .i64 1] W fun e w' => e = .returned (.int .i64 (kL : Int)) ∧ Below W.heap.size W w') := fun W h k => by rw [hkL]; exact heldMp_any us ga _ _ _ q8 s8 c8 d8 L.length S.length hL hSl W h k
  rw [← hkL] at p2 p3 ⊢
  clear hkL
  obtain ⟨⟨f0, f1, f2, f3⟩, _⟩ := PG_17.out
  go_wp2_with fail
  (first | go_at_call 23 | skip)
  clear f0 f1 f2 f3
  refine (HHd.out w18 RM_17.out SM_17.out).mono ?_
  rintro e w19 ⟨rfl, hb⟩
  have B_18 : Hid (Below w.heap.size w w19) := chain B_17.out hb
  have RW_18 : Hid (RowI w3.heap.size w4.heap.size w19 q4 L) := RW_17.out.later hb
  have SW_18 : Hid (RowI w3.heap.size w4.heap.size w19 s4 S) := SW_17.out.later hb
  have PW_18 : Hid (MpAt w19 b8 q4 L.length c4 s4 S.length d4 us ga) := PW_17.out.later hb
  have PG_18 : Hid (MpAt w19 b12 q8 L.length c8 s8 S.length d8 us ga) := PG_17.out.later hb
  have RM_18 : Hid (RowI w7.heap.size mid8 w19 q8 (marks 1 L.length)) := RM_17.out.later hb
  have SM_18 : Hid (RowI mid8 w8.heap.size w19 s8 (marks ((1 + L.length : Nat) : Int) S.length)) := SM_17.out.later hb
  clear B_17 RW_17 SW_17 PW_17 PG_17 RM_17 SM_17
  clear hb
  go_wp2_with fail
  (first | go_at_call 15 | skip)
  refine (hTP.out w19 (HA.out.later B_18.out)).mono ?_
  rintro e w20 ⟨g20, rfl, hb, ho⟩
  have B_19 : Hid (Below w.heap.size w w20) := chain B_18.out hb
  have RW_19 : Hid (RowI w3.heap.size w4.heap.size w20 q4 L) := RW_18.out.later hb
  have SW_19 : Hid (RowI w3.heap.size w4.heap.size w20 s4 S) := SW_18.out.later hb
  have PW_19 : Hid (MpAt w20 b8 q4 L.length c4 s4 S.length d4 us ga) := PW_18.out.later hb
  have PG_19 : Hid (MpAt w20 b12 q8 L.length c8 s8 S.length d8 us ga) := PG_18.out.later hb
  have RM_19 : Hid (RowI w7.heap.size mid8 w20 q8 (marks 1 L.length)) := RM_18.out.later hb
  have SM_19 : Hid (RowI mid8 w8.heap.size w20 s8 (marks ((1 + L.length : Nat) : Int) S.length)) := SM_18.out.later hb
  clear B_18 RW_18 SW_18 PW_18 PG_18 RM_18 SM_18
  have TP_19 : Hid (Reads w20.heap.size w20 (some ⟨g20, 0, none⟩) ps) := ho.reads
  clear hb ho
  go_wp2_with fail
  (first | go_at_call 16 | skip)
  refine (hTD.out w20 (HD.out.later B_19.out)).mono ?_
  rintro e w21 ⟨g21, rfl, hb, ho⟩
  have B_20 : Hid (Below w.heap.size w w21) := chain B_19.out hb
  have RW_20 : Hid (RowI w3.heap.size w4.heap.size w21 q4 L) := RW_19.out.later hb
  have SW_20 : Hid (RowI w3.heap.size w4.heap.size w21 s4 S) := SW_19.out.later hb
  have PW_20 : Hid (MpAt w21 b8 q4 L.length c4 s4 S.length d4 us ga) := PW_19.out.later hb
  have PG_20 : Hid (MpAt w21 b12 q8 L.length c8 s8 S.length d8 us ga) := PG_19.out.later hb
  have RM_20 : Hid (RowI w7.heap.size mid8 w21 q8 (marks 1 L.length)) := RM_19.out.later hb
  have SM_20 : Hid (RowI mid8 w8.heap.size w21 s8 (marks ((1 + L.length : Nat) : Int) S.length)) := SM_19.out.later hb
  have TP_20 : Hid (Reads w21.heap.size w21 (some ⟨g20, 0, none⟩) ps) := TP_19.out.later hb
  clear B_19 RW_19 SW_19 PW_19 PG_19 RM_19 SM_19 TP_19
  have TD_20 : Hid (ReadsDm w21.heap.size w21 (some ⟨g21, 0, none⟩) cs) := ho.reads
  clear hb ho
  go_wp2_with fail
  (first | go_at_call 9 | skip)
  refine (hIm.out _ _ _ _ w21 TP_20.out TD_20.out).mono ?_
  rintro e w22 ⟨q22, c22, s22, d22, mid22, rfl, _, o22, p22, hb⟩
  clear TP_20
  clear TD_20
  have B_21 : Hid (Below w.heap.size w w22) := chain B_20.out hb
  have RW_21 : Hid (RowI w3.heap.size w4.heap.size w22 q4 L) := RW_20.out.later hb
  have SW_21 : Hid (RowI w3.heap.size w4.heap.size w22 s4 S) := SW_20.out.later hb
  have PW_21 : Hid (MpAt w22 b8 q4 L.length c4 s4 S.length d4 us ga) := PW_20.out.later hb
  have PG_21 : Hid (MpAt w22 b12 q8 L.length c8 s8 S.length d8 us ga) := PG_20.out.later hb
  have RM_21 : Hid (RowI w7.heap.size mid8 w22 q8 (marks 1 L.length)) := RM_20.out.later hb
  have SM_21 : Hid (RowI mid8 w8.heap.size w22 s8 (marks ((1 + L.length : Nat) : Int) S.length)) := SM_20.out.later hb
  clear B_20 RW_20 SW_20 PW_20 PG_20 RM_20 SM_20
  have RH_21 : Hid (RowI w21.heap.size mid22 w22 q22 L) := o22
  have SH_21 : Hid (RowI mid22 w22.heap.size w22 s22 S) := p22
  clear hb o22 p22
  obtain ⟨w23, hw23⟩ : ∃ w23, w23 = w22.alloc (Obj.cells #[.slice q22 L.length c22, .slice s22 S.length d22, .int .i64 us, .int .i64 ga] 28) := ⟨_, rfl⟩
  obtain ⟨b17, hb17⟩ : ∃ b17, b17 = w22.heap.size := ⟨_, rfl⟩
  have HW23 : Hid (w23 = w22.alloc (Obj.cells #[.slice q22 L.length c22, .slice s22 S.length d22, .int .i64 us, .int .i64 ga] 28) ∧ b17 = w22.heap.size) := ⟨hw23, hb17⟩
  have hb : Below w22.heap.size w22 w23 := by rw [hw23]; exact below_alloc _ _
  have B_22 : Hid (Below w.heap.size w w23) := chain B_21.out hb
  have RW_22 : Hid (RowI w3.heap.size w4.heap.size w23 q4 L) := RW_21.out.later hb
  have SW_22 : Hid (RowI w3.heap.size w4.heap.size w23 s4 S) := SW_21.out.later hb
  have PW_22 : Hid (MpAt w23 b8 q4 L.length c4 s4 S.length d4 us ga) := PW_21.out.later hb
  have PG_22 : Hid (MpAt w23 b12 q8 L.length c8 s8 S.length d8 us ga) := PG_21.out.later hb
  have RM_22 : Hid (RowI w7.heap.size mid8 w23 q8 (marks 1 L.length)) := RM_21.out.later hb
  have SM_22 : Hid (RowI mid8 w8.heap.size w23 s8 (marks ((1 + L.length : Nat) : Int) S.length)) := SM_21.out.later hb
  have RH_22 : Hid (RowI w21.heap.size mid22 w23 q22 L) := RH_21.out.later hb
  have SH_22 : Hid (RowI mid22 w22.heap.size w23 s22 S) := SH_21.out.later hb
  clear B_21 RW_21 SW_21 PW_21 PG_21 RM_21 SM_21 RH_21 SH_21
  have PH_22 : Hid (MpAt w23 b17 q22 L.length c22 s22 S.length d22 us ga) := by show MpAt _ _ _ _ _ _ _ _ _ _; rw [hw23, hb17]; exact MpAt.new _ _ _ _ _ _ _ _ _ _
  clear hb hw23 hb17
  go_upto_region 31 with fail
  rw [← HW23.out.1, ← HW23.out.2]
  clear HW23
  obtain ⟨⟨e0, e1, e2, e3⟩, _⟩ := PW_22.out
  obtain ⟨⟨f0, f1, f2, f3⟩, _⟩ := PH_22.out
  go_wp2_with fail
  (first | go_at_call 17 | skip)
  clear e0 e1 e2 e3 f0 f1 f2 f3
  refine (eqMp_any us ga q22 q4 s22 s4 c22 c4 d22 d4 L S hL hSl w23 RH_22.out.reads RW_22.out.reads SH_22.out.reads SW_22.out.reads).mono ?_
  rintro e w24 ⟨rfl, hb⟩
  have B_23 : Hid (Below w.heap.size w w24) := chain B_22.out hb
  have RW_23 : Hid (RowI w3.heap.size w4.heap.size w24 q4 L) := RW_22.out.later hb
  have SW_23 : Hid (RowI w3.heap.size w4.heap.size w24 s4 S) := SW_22.out.later hb
  have PW_23 : Hid (MpAt w24 b8 q4 L.length c4 s4 S.length d4 us ga) := PW_22.out.later hb
  have PG_23 : Hid (MpAt w24 b12 q8 L.length c8 s8 S.length d8 us ga) := PG_22.out.later hb
  have RM_23 : Hid (RowI w7.heap.size mid8 w24 q8 (marks 1 L.length)) := RM_22.out.later hb
  have SM_23 : Hid (RowI mid8 w8.heap.size w24 s8 (marks ((1 + L.length : Nat) : Int) S.length)) := SM_22.out.later hb
  have RH_23 : Hid (RowI w21.heap.size mid22 w24 q22 L) := RH_22.out.later hb
  have SH_23 : Hid (RowI mid22 w22.heap.size w24 s22 S) := SH_22.out.later hb
  have PH_23 : Hid (MpAt w24 b17 q22 L.length c22 s22 S.length d22 us ga) := PH_22.out.later hb
  clear B_22 RW_22 SW_22 PW_22 PG_22 RM_22 SM_22 RH_22 SH_22 PH_22
  clear hb
  clear PH_23
  clear RH_23
  clear SH_23
  clear PW_23
  clear RW_23
  clear SW_23
  obtain ⟨⟨f0, f1, f2, f3⟩, _⟩ := PG_23.out
  go_wp2_with fail
  (first | go_at_call 23 | skip)
  clear f0 f1 f2 f3
  refine (HHd.out w24 RM_23.out SM_23.out).mono ?_
  rintro e w25 ⟨rfl, hb⟩
  have B_24 : Hid (Below w.heap.size w w25) := chain B_23.out hb
  have PG_24 : Hid (MpAt w25 b12 q8 L.length c8 s8 S.length d8 us ga) := PG_23.out.later hb
  have RM_24 : Hid (RowI w7.heap.size mid8 w25 q8 (marks 1 L.length)) := RM_23.out.later hb
  have SM_24 : Hid (RowI mid8 w8.heap.size w25 s8 (marks ((1 + L.length : Nat) : Int) S.length)) := SM_23.out.later hb
  clear B_23 PG_23 RM_23 SM_23
  clear hb
  go_wp2
  go_ret
  exact ⟨rfl, B_24.out⟩

theorem walk (price : Int) (hprice : (Lit.int .i64 price).wf = true) (stock : Int) (hstock : (Lit.int .i64 stock).wf = true) (a : Option Addr) (la ca : Nat) (xs : List Int) (b : Option Addr) (lb cb : Nat) (cs : LL) (w : World) (h : IsRow .i64 w a la ca xs) (i : IsDms w b lb cb cs) :
    Calls Try.prog 6 #[.int .i64 price, .int .i64 stock, .slice a la ca, .slice b lb cb] w fun e w' => e = .returned (.bool true) ∧ Below w.heap.size w w' := by
  obtain ⟨rfl, i2, i3, i4, i5⟩ := i
  obtain ⟨h1, h2, h3, h4⟩ := reads_of_row h
  have := walk' price stock a ca (xs.take la) (by rw [h1]; exact Nat.le_trans h2 h3) b cb cs (Nat.le_trans i2 i3) i4 w h4 i5
  rw [h1] at this
  exact this

theorem own : ownKnob Try.prog.godebug = none := by kernel_rfl
theorem laidOut : laidOutB Try.prog = true := by kernel_rfl

set_option maxRecDepth 100000 in
theorem lifted (os : Os) (started : os.Started) (H : Type) (enc : TypeId × Value → H) :
    ReturnsInHanded {} Try.checked os 6 .any (Rows.fnExactBestMarksSpec.pre6 enc Try.prog Try.f6 Rows.fnExactBestMarksRow.domain false) (Rows.fnExactBestMarksSpec.post enc Try.prog Try.f6 false true false false) := by
  refine returnsInHanded_of_change (C := Try.checked) own started (by kernel_rfl) Try.func6
    (ChangeSpec.witness6 (enc := enc) (C := Try.checked) false ⟨#[], #[.int .i64 0, .int .i64 0, .slice none 0 0, .slice none 0 0], []⟩ 8 (by kernel_rfl) (by kernel_rfl) (by kernel_rfl) (by kernel_rfl)) ?_
  intro W base args ds gs before hval0 hW hcnd _
  have hval : ∀ (j : Nat) t v, Try.f6.params[j]? = some t → args[j]? = some v → Value.okWide Try.prog W .any base t v := hval0
  have hW' := hW
  obtain ⟨p, q, hA0, hV, rfl, hfz, hnd⟩ := hW
  have hA : DataW.TrodAll enc Try.prog W 0 (fun _ => true) true Try.f6.params.toList args.toList ds p := hA0
  rw [Try.params6] at hA hval
  obtain ⟨v0, vs0, d0, ds0, p0, q0, hargs, rfl, rfl, h0, r0⟩ := trodAll_cons hA
  obtain ⟨v1, vs1, d1, ds1, p1, q1, rfl, rfl, rfl, h1, r1⟩ := trodAll_cons r0
  obtain ⟨v2, vs2, d2, ds2, p2, q2, rfl, rfl, rfl, h2, r2⟩ := trodAll_cons r1
  obtain ⟨v3, vs3, d3, ds3, p3, q3, rfl, rfl, rfl, h3, r3⟩ := trodAll_cons r2
  obtain ⟨rfl, rfl, rfl⟩ := trodAll_nil r3
  obtain rfl : args = #[v0, v1, v2, v3] := by cases args; simp_all
  obtain ⟨rfl, rfl⟩ := trodVars_none hV
  have k0 := h0
  have lt0 : ∀ x ∈ p0, x.block < W.heap.size := by obtain ⟨m, hm⟩ := k0; exact DataW.trod_lt m _ _ _ hm
  have k1 := h1
  have lt1 : ∀ x ∈ p1, x.block < W.heap.size := by obtain ⟨m, hm⟩ := k1; exact DataW.trod_lt m _ _ _ hm
  have k2 := h2
  have lt2 : ∀ x ∈ p2, x.block < W.heap.size := by obtain ⟨m, hm⟩ := k2; exact DataW.trod_lt m _ _ _ hm
  have k3 := h3
  have lt3 : ∀ x ∈ p3, x.block < W.heap.size := by obtain ⟨m, hm⟩ := k3; exact DataW.trod_lt m _ _ _ hm
  obtain ⟨a0, rfl, rfl, rfl, w0⟩ := open_int Try.underlying3 (hval 0 3 v0 rfl rfl) h0
  obtain ⟨a1, rfl, rfl, rfl, w1⟩ := open_int Try.underlying3 (hval 1 3 v1 rfl rfl) h1
  obtain ⟨a2, len2, cap2, rfl⟩ := okWide_slice Try.underlying23 (hval 2 23 v2 rfl rfl)
  obtain ⟨z2, w2⟩ : ∃ zs, IsRow .i64 W a2 len2 cap2 zs := by
    obtain ⟨fuel, hf⟩ := h2
    rcases open_ints Try.underlying23 Try.underlying3 (by kernel_rfl) hf with ⟨hcs, _⟩ | ⟨x, l, c, zs, hcs, _, hl, hm, hz, _, hcell, hwz⟩
    · simp [Value.cells] at hcs
      obtain ⟨rfl, rfl, rfl⟩ := hcs
      exact ⟨[], .inl ⟨rfl, rfl, rfl, rfl⟩⟩
    · simp [Value.cells] at hcs
      obtain ⟨rfl, rfl, rfl⟩ := hcs
      exact ⟨zs, .inr ⟨_, rfl, hl, hm, by simpa using hz, hcell, hwz⟩⟩
  obtain ⟨a3, len3, cap3, rfl⟩ := okWide_slice Try.underlying24 (hval 3 24 v3 rfl rfl)
  obtain ⟨z3, w3⟩ : ∃ zs, IsDms W a3 len3 cap3 zs := by
    obtain ⟨fuel, hf⟩ := h3
    exact openDms (by simpa [Value.cells] using hf)
  clear hA0 hval0
  refine (walk a0 w0 a1 w1 a2 len2 cap2 z2 a3 len3 cap3 z3 W w2 w3).mono fun e W' ⟨he, bel⟩ => ?_
  subst he
  exact ⟨_, rfl, _, _, _, [], _, [], hW', trodAll_mk1 (shut_bool Try.underlying4 _), (trodAll_cons_mk (Below.trod laidOut (by kernel_rfl) (of_decide_eq_true (by kernel_rfl)) k0 bel lt0) (trodAll_cons_mk (Below.trod laidOut (by kernel_rfl) (of_decide_eq_true (by kernel_rfl)) k1 bel lt1) (trodAll_cons_mk (Below.trod laidOut (by kernel_rfl) (of_decide_eq_true (by kernel_rfl)) k2 bel lt2) (trodAll_cons_mk (Below.trod laidOut (by kernel_rfl) (of_decide_eq_true (by kernel_rfl)) k3 bel lt3) trodAll_mk0)))), rfl, bel.frame _, fun h => by cases h⟩

theorem over : Rows.fnExactBestMarksRow.holds Try.pinned (OpenSpec.ofChange Rows.fnExactBestMarksSpec) :=
  OpenClaim.holds_of_wide 6 Try.f6 rfl rfl rfl rfl rfl rfl rfl ⟨rfl, rfl, rfl, rfl, rfl⟩ rfl rfl rfl rfl rfl (by kernel_rfl) Try.func6 (by kernel_rfl)
    (of_decide_eq_true (by kernel_rfl)) (by unfold Func.isWrapper; first | (rw [if_pos (by decide +kernel)]; kernel_rfl) | (rw [if_neg (by decide +kernel)]; exact ⟨rfl, rfl⟩))
    (fun os started H enc _ => lifted os started H enc)
end BestMarksLaw

theorem fnExactBestMarks_holds : Rows.FnExactBestMarksSaid := BestMarksLaw.over
end Go.Proofs.Ytlcnhkhkhlpghaa
