/-
  For every list of facings, width the law FnExactBestShelf answers true: the program's BestShelf answers as the specification's, writes into no argument, keeps nothing of one, and its answer owns its memory, behind another call too; with no condition.
-/
import Derived.Test.YtphefbaogfknoaaFpA
import Derived.Test.YtphefbaogfknoaaFcO
import Derived.Test.YtphefbaogfknoaaFeZ
namespace Go.Proofs.Ytphefbaogfknoaa
open Go.ChangeShapes Go.WideShapes Go.ChangeAt Go.RowKit Go.Joins
open Go.ChangeMaps (open_string shut_string)
set_option linter.unusedVariables false

namespace BestShelfLaw
set_option maxHeartbeats 8000000 in
set_option maxRecDepth 4000 in
theorem walk' (a : Option Addr) (ca : Nat) (rs : List CFc) (hl : rs.length ≤ maxLen) (hp : ∀ r ∈ rs, FcWide r) (wd : Int) (w : World) (hr : ReadsFc w.heap.size w a rs) :
    Calls Try.prog 6 #[.slice a rs.length ca, .int .i64 wd] w fun e w' => e = .returned (.bool true) ∧ Below w.heap.size w w' := by
  have HR : Hid (ReadsFc w.heap.size w a rs) := hr
  have HZ : Hid (∀ w, ReadsFc w.heap.size w a rs → Calls Try.prog 12 #[.slice a rs.length ca, .int .i64 1048576] w (SzFcs rs w)) := fun w h => szFcs_any a ca rs hl hp 1048576 (by omega) (by omega) w h
  clear hr hp
  go_enter Try.func6, Try.ntmps6
  go_wp2_with (go_at_call 12; refine (HZ.out _ HR.out).mono ?_; rintro e w1 ⟨x, rfl, hx, hb1⟩; have HX : Hid (x < 0 ∨ (0 ≤ x ∧ x ≤ 1048576 ∧ rs.length ≤ 1048576 ∧ totFc rs ≤ 1048576 ∧ ∀ r ∈ rs, FcOK r)) := hx; have B_0 : Hid (Below w.heap.size w w1) := hb1; clear hx hb1)
  · go_ret
    exact ⟨rfl, B_0.out⟩
  rcases HX.out with h | ⟨_, _, hlen, htot, hok⟩
  · omega
  have HOK : Hid (∀ r ∈ rs, FcOK r) := hok
  have hS : Hid (∀ a ca W, ReadsFc W.heap.size W a rs → Calls Try.prog 11 #[.slice a rs.length ca, .int .i64 wd] W (AnsBs rs wd W)) := fun a ca W h => specBestShelf_any a ca rs (by omega) HOK.out wd W h
  have hI : Hid (∀ a ca W, ReadsFc W.heap.size W a rs → Calls Try.prog 9 #[.slice a rs.length ca, .int .i64 wd] W (AnsBs rs wd W)) := fun a ca W h => implBestShelf_any a ca rs (by omega) HOK.out wd W h
  have hTF : Hid (∀ w, ReadsFc w.heap.size w a rs → Calls Try.prog 14 #[.slice a rs.length ca] w fun e w' => ∃ g, e = .returned (.slice (some ⟨g, 0, none⟩) rs.length rs.length) ∧ Below w.heap.size w w' ∧ OwnFc w.heap.size w' g rs) := fun w h => (toFcs_any a ca rs hlen HOK.out w h).mono fun e w' ⟨h1, h2, h3⟩ => ⟨_, h1, h2, h3⟩
  have hL : (bsL rs wd).length ≤ 1048576 := bsL_len rs wd
  unfold AnsBs at hS hI
  generalize bsL rs wd = L at *
  generalize bsCode rs wd = pc at *
  generalize bsUs rs wd = us at *
  generalize bsGa rs wd = ga at *
  have hkF := kAtF_sum 1 rs rs.length (Nat.le_refl _)
  rw [List.take_length] at hkF
  have HMF : Hid (∀ lo hi g W, FcMk lo hi W g rs.length (fun i => (rs.getD i zFc).gs.length) → Calls Try.prog 20 #[.slice (some ⟨g, 0, none⟩) rs.length rs.length, .int .i64 1] W fun e w' => e = .returned (.int .i64 (kAtF 1 (fun i => (rs.getD i zFc).gs.length) rs.length : Int)) ∧ Span lo hi W w') := fun lo hi g W h => markFcs_any lo hi g rs.length rs.length _ hlen (fun i hi => (getFc HOK.out hi).2) 1 (by omega) (by omega) W h
  have hkF2 : kAtF 1 (fun i => (rs.getD i zFc).gs.length) rs.length ≤ 90000000 := by omega
  clear hkF hok HX HZ
  generalize kAtF 1 (fun i => (rs.getD i zFc).gs.length) rs.length = kF at *
  have hpc : (pc != pc) = false := by simp
  (first | go_at_call 14 | skip)
  refine (hTF.out w1 (HR.out.later B_0.out)).mono ?_
  rintro e w2 ⟨g2, rfl, hb, ho⟩
  have B_1 : Hid (Below w.heap.size w w2) := chain B_0.out hb
  have RF_1 : Hid (ReadsFc w2.heap.size w2 (some ⟨g2, 0, none⟩) rs) := ho.reads
  clear hb ho B_0
  go_wp2_with fail
  (first | go_at_call 11 | skip)
  refine (hS.out _ _ w2 RF_1.out).mono ?_
  rintro e w4 ⟨q4, c4, rfl, o4, hb⟩
  clear RF_1
  have B_2 : Hid (Below w.heap.size w w4) := chain B_1.out hb
  clear B_1
  have RW_2 : Hid (RowI w2.heap.size w4.heap.size w4 q4 L) := o4.rowI
  have s34 : w2.heap.size ≤ w4.heap.size := hb.size
  clear hb o4
  obtain ⟨w5, hw5⟩ : ∃ w5, w5 = w4.alloc (Obj.cells #[.slice q4 L.length c4, .int .i64 us, .int .i64 ga] 28) := ⟨_, rfl⟩
  obtain ⟨b8, hb8⟩ : ∃ b8, b8 = w4.heap.size := ⟨_, rfl⟩
  have HW5 : Hid (w5 = w4.alloc (Obj.cells #[.slice q4 L.length c4, .int .i64 us, .int .i64 ga] 28) ∧ b8 = w4.heap.size) := ⟨hw5, hb8⟩
  have hb : Below w4.heap.size w4 w5 := by rw [hw5]; exact below_alloc _ _
  have s48 : w4.heap.size ≤ b8 := by rw [hb8]; exact Nat.le_refl _
  have B_3 : Hid (Below w.heap.size w w5) := chain B_2.out hb
  have RW_3 : Hid (RowI w2.heap.size w4.heap.size w5 q4 L) := RW_2.out.later hb
  clear B_2 RW_2
  have PW_3 : Hid (PlAt w5 b8 q4 L.length c4 us ga) := by show PlAt _ _ _ _ _ _ _; rw [hw5, hb8]; exact PlAt.new _ _ _ _ _ _ _
  have s85 : b8 < w5.heap.size := PW_3.out.2.2.2
  have HBz : Hid (w.heap.size ≤ w5.heap.size) := B_3.out.size
  clear hb hw5 hb8
  go_upto_region 6 with fail
  rw [← HW5.out.1, ← HW5.out.2]
  clear HW5
  go_wp2_with fail
  (first | go_at_call 14 | skip)
  refine (hTF.out w5 (HR.out.later B_3.out)).mono ?_
  rintro e w6 ⟨g6, rfl, hb, ho⟩
  have B_4 : Hid (Below w.heap.size w w6) := chain B_3.out hb
  have RW_4 : Hid (RowI w2.heap.size w4.heap.size w6 q4 L) := RW_3.out.later hb
  have PW_4 : Hid (PlAt w6 b8 q4 L.length c4 us ga) := PW_3.out.later hb
  clear B_3 RW_3 PW_3
  have XF_4 : Hid (ReadsFc w6.heap.size w6 (some ⟨g6, 0, none⟩) rs) := ho.reads
  have XM_4 : Hid (FcMk w5.heap.size w6.heap.size w6 g6 rs.length (fun i => (rs.getD i zFc).gs.length)) := ho.mk
  have s56 : w5.heap.size ≤ w6.heap.size := hb.size
  clear hb ho
  go_wp2_with fail
  (first | go_at_call 9 | skip)
  refine (hI.out _ _ w6 XF_4.out).mono ?_
  rintro e w8 ⟨q8, c8, rfl, o8, hb⟩
  have B_5 : Hid (Below w.heap.size w w8) := chain B_4.out hb
  have RW_5 : Hid (RowI w2.heap.size w4.heap.size w8 q4 L) := RW_4.out.later hb
  have PW_5 : Hid (PlAt w8 b8 q4 L.length c4 us ga) := PW_4.out.later hb
  have XF_5 : Hid (ReadsFc w8.heap.size w8 (some ⟨g6, 0, none⟩) rs) := XF_4.out.later hb
  have XM_5 : Hid (FcMk w5.heap.size w6.heap.size w8 g6 rs.length (fun i => (rs.getD i zFc).gs.length)) := XM_4.out.later hb
  clear B_4 RW_4 PW_4 XF_4 XM_4
  have RG_5 : Hid (RowI w6.heap.size w8.heap.size w8 q8 L) := o8.rowI
  have s78 : w6.heap.size ≤ w8.heap.size := hb.size
  clear hb o8
  obtain ⟨w9, hw9⟩ : ∃ w9, w9 = w8.alloc (Obj.cells #[.slice q8 L.length c8, .int .i64 us, .int .i64 ga] 28) := ⟨_, rfl⟩
  obtain ⟨b12, hb12⟩ : ∃ b12, b12 = w8.heap.size := ⟨_, rfl⟩
  have HW9 : Hid (w9 = w8.alloc (Obj.cells #[.slice q8 L.length c8, .int .i64 us, .int .i64 ga] 28) ∧ b12 = w8.heap.size) := ⟨hw9, hb12⟩
  have hb : Below w8.heap.size w8 w9 := by rw [hw9]; exact below_alloc _ _
  have s8b : w8.heap.size ≤ b12 := by rw [hb12]; exact Nat.le_refl _
  have B_6 : Hid (Below w.heap.size w w9) := chain B_5.out hb
  have RW_6 : Hid (RowI w2.heap.size w4.heap.size w9 q4 L) := RW_5.out.later hb
  have PW_6 : Hid (PlAt w9 b8 q4 L.length c4 us ga) := PW_5.out.later hb
  have XF_6 : Hid (ReadsFc w9.heap.size w9 (some ⟨g6, 0, none⟩) rs) := XF_5.out.later hb
  have XM_6 : Hid (FcMk w5.heap.size w6.heap.size w9 g6 rs.length (fun i => (rs.getD i zFc).gs.length)) := XM_5.out.later hb
  have RG_6 : Hid (RowI w6.heap.size w8.heap.size w9 q8 L) := RG_5.out.later hb
  clear B_5 RW_5 PW_5 XF_5 XM_5 RG_5
  have PG_6 : Hid (PlAt w9 b12 q8 L.length c8 us ga) := by show PlAt _ _ _ _ _ _ _; rw [hw9, hb12]; exact PlAt.new _ _ _ _ _ _ _
  have s9z : w8.heap.size ≤ w9.heap.size := hb.size
  clear hb hw9 hb12
  go_upto_region 8 with fail
  rw [← HW9.out.1, ← HW9.out.2]
  clear HW9
  obtain ⟨e0, e1, e2, _⟩ := PW_6.out
  obtain ⟨f0, f1, f2, _⟩ := PG_6.out
  go_wp2_with fail
  (first | go_at_call 18 | skip)
  clear e0 e1 e2 f0 f1 f2
  refine (eqPlan_any us ga q8 q4 c8 c4 L hL w9 RG_6.out.reads RW_6.out.reads).mono ?_
  rintro e w10 ⟨rfl, hb⟩
  have B_7 : Hid (Below w.heap.size w w10) := chain B_6.out hb
  have RW_7 : Hid (RowI w2.heap.size w4.heap.size w10 q4 L) := RW_6.out.later hb
  have PW_7 : Hid (PlAt w10 b8 q4 L.length c4 us ga) := PW_6.out.later hb
  have XF_7 : Hid (ReadsFc w10.heap.size w10 (some ⟨g6, 0, none⟩) rs) := XF_6.out.later hb
  have XM_7 : Hid (FcMk w5.heap.size w6.heap.size w10 g6 rs.length (fun i => (rs.getD i zFc).gs.length)) := XM_6.out.later hb
  have RG_7 : Hid (RowI w6.heap.size w8.heap.size w10 q8 L) := RG_6.out.later hb
  have PG_7 : Hid (PlAt w10 b12 q8 L.length c8 us ga) := PG_6.out.later hb
  clear B_6 RW_6 PW_6 XF_6 XM_6 RG_6 PG_6
  clear hb
  go_wp2_with fail
  (first | go_at_call 14 | skip)
  refine (hTF.out w10 (HR.out.later B_7.out)).mono ?_
  rintro e w11 ⟨g11, rfl, hb, ho⟩
  have B_8 : Hid (Below w.heap.size w w11) := chain B_7.out hb
  have RW_8 : Hid (RowI w2.heap.size w4.heap.size w11 q4 L) := RW_7.out.later hb
  have PW_8 : Hid (PlAt w11 b8 q4 L.length c4 us ga) := PW_7.out.later hb
  have XF_8 : Hid (ReadsFc w11.heap.size w11 (some ⟨g6, 0, none⟩) rs) := XF_7.out.later hb
  have XM_8 : Hid (FcMk w5.heap.size w6.heap.size w11 g6 rs.length (fun i => (rs.getD i zFc).gs.length)) := XM_7.out.later hb
  have RG_8 : Hid (RowI w6.heap.size w8.heap.size w11 q8 L) := RG_7.out.later hb
  have PG_8 : Hid (PlAt w11 b12 q8 L.length c8 us ga) := PG_7.out.later hb
  clear B_7 RW_7 PW_7 XF_7 XM_7 RG_7 PG_7
  have TF : Hid (ReadsFc w11.heap.size w11 (some ⟨g11, 0, none⟩) rs) := ho.reads
  clear hb ho
  go_wp2_with fail
  (first | go_at_call 15 | skip)
  refine (eqFcs_any _ _ _ _ rs hlen HOK.out w11 XF_8.out TF.out).mono ?_
  rintro e w12 ⟨rfl, hb⟩
  have B_9 : Hid (Below w.heap.size w w12) := chain B_8.out hb
  have RW_9 : Hid (RowI w2.heap.size w4.heap.size w12 q4 L) := RW_8.out.later hb
  have PW_9 : Hid (PlAt w12 b8 q4 L.length c4 us ga) := PW_8.out.later hb
  have XF_9 : Hid (ReadsFc w12.heap.size w12 (some ⟨g6, 0, none⟩) rs) := XF_8.out.later hb
  have XM_9 : Hid (FcMk w5.heap.size w6.heap.size w12 g6 rs.length (fun i => (rs.getD i zFc).gs.length)) := XM_8.out.later hb
  have RG_9 : Hid (RowI w6.heap.size w8.heap.size w12 q8 L) := RG_8.out.later hb
  have PG_9 : Hid (PlAt w12 b12 q8 L.length c8 us ga) := PG_8.out.later hb
  clear B_8 RW_8 PW_8 XF_8 XM_8 RG_8 PG_8
  clear hb TF
  have hB0w : w.heap.size ≤ w5.heap.size := HBz.out
  go_wp2_with fail
  (first | go_at_call 20 | skip)
  refine (HMF.out _ _ _ w12 XM_9.out).mono ?_
  rintro e w15 ⟨rfl, hs⟩
  clear XF_9
  clear XM_9
  have B_10 : Hid (Below w.heap.size w w15) := B_9.out.trans (hs.1.mono hB0w)
  have RW_10 : Hid (RowI w2.heap.size w4.heap.size w15 q4 L) := RW_9.out.below hs.1 (by omega)
  have PW_10 : Hid (PlAt w15 b8 q4 L.length c4 us ga) := PW_9.out.low hs.1 s85
  have RG_10 : Hid (RowI w6.heap.size w8.heap.size w15 q8 L) := RG_9.out.apart hs (by omega)
  have PG_10 : Hid (PlAt w15 b12 q8 L.length c8 us ga) := PG_9.out.above hs (by omega)
  clear B_9 RW_9 PW_9 RG_9 PG_9
  clear hs
  have p1 : ¬ ((kF : Int) < 0) := by omega
  obtain ⟨e0, e1, e2, _⟩ := PW_10.out
  obtain ⟨f0, f1, f2, _⟩ := PG_10.out
  go_wp2_with fail
  (first | go_at_call 18 | skip)
  clear e0 e1 e2 f0 f1 f2
  refine (eqPlan_any us ga q8 q4 c8 c4 L hL w15 RG_10.out.reads RW_10.out.reads).mono ?_
  rintro e w17 ⟨rfl, hb⟩
  have B_11 : Hid (Below w.heap.size w w17) := chain B_10.out hb
  have RW_11 : Hid (RowI w2.heap.size w4.heap.size w17 q4 L) := RW_10.out.later hb
  have PW_11 : Hid (PlAt w17 b8 q4 L.length c4 us ga) := PW_10.out.later hb
  have RG_11 : Hid (RowI w6.heap.size w8.heap.size w17 q8 L) := RG_10.out.later hb
  have PG_11 : Hid (PlAt w17 b12 q8 L.length c8 us ga) := PG_10.out.later hb
  clear B_10 RW_10 PW_10 RG_10 PG_10
  clear hb
  obtain ⟨f0, f1, f2, _⟩ := PG_11.out
  go_wp2_with fail
  (first | go_at_call 22 | skip)
  clear f0 f1 f2
  refine (markPlan_any us ga w6.heap.size w8.heap.size q8 c8 L hL w17 RG_11.out (Nat.le_trans s8b (Nat.le_of_lt PG_11.out.2.2.2)) s78).mono ?_
  rintro e w18 ⟨rfl, hs, hr⟩
  have RM_11 : Hid (RowI w6.heap.size w8.heap.size w18 q8 (marks 1 L.length)) := hr
  clear RG_11
  have B_12 : Hid (Below w.heap.size w w18) := B_11.out.trans (hs.1.mono (by omega))
  have RW_12 : Hid (RowI w2.heap.size w4.heap.size w18 q4 L) := RW_11.out.below hs.1 (by omega)
  have PW_12 : Hid (PlAt w18 b8 q4 L.length c4 us ga) := PW_11.out.low hs.1 (by omega)
  have PG_12 : Hid (PlAt w18 b12 q8 L.length c8 us ga) := PG_11.out.above hs s8b
  clear B_11 RW_11 PW_11 PG_11
  have RM_12 := RM_11
  clear hs hr RM_11
  have p2 : ¬ (((1 + L.length : Nat) : Int) < 0) := by omega
  have p3 : (((1 + L.length : Nat) : Int) != ((1 + L.length : Nat) : Int)) = false := by simp
  obtain ⟨kL, hkL⟩ : ∃ kL, kL = 1 + L.length := ⟨_, rfl⟩
  have HHd : Hid (∀ W, RowI w6.heap.size w8.heap.size W q8 (marks 1 L.length) → Calls Try.prog 23 #[.agg #[.slice q8 L.length c8, .int .i64 us, .int .i64 ga], .int .i64 1] W fun e w' => e = .returned (.int .i64 (kL : Int)) ∧ Below W.heap.size W w') := fun W h => by rw [hkL]; exact heldPlan_any us ga _ _ q8 c8 L.length hL W h
  rw [← hkL] at p2 p3 ⊢
  clear hkL
  obtain ⟨f0, f1, f2, _⟩ := PG_12.out
  go_wp2_with fail
  (first | go_at_call 23 | skip)
  clear f0 f1 f2
  refine (HHd.out w18 RM_12.out).mono ?_
  rintro e w19 ⟨rfl, hb⟩
  have B_13 : Hid (Below w.heap.size w w19) := chain B_12.out hb
  have RW_13 : Hid (RowI w2.heap.size w4.heap.size w19 q4 L) := RW_12.out.later hb
  have PW_13 : Hid (PlAt w19 b8 q4 L.length c4 us ga) := PW_12.out.later hb
  have PG_13 : Hid (PlAt w19 b12 q8 L.length c8 us ga) := PG_12.out.later hb
  have RM_13 : Hid (RowI w6.heap.size w8.heap.size w19 q8 (marks 1 L.length)) := RM_12.out.later hb
  clear B_12 RW_12 PW_12 PG_12 RM_12
  clear hb
  go_wp2_with fail
  (first | go_at_call 14 | skip)
  refine (hTF.out w19 (HR.out.later B_13.out)).mono ?_
  rintro e w20 ⟨g20, rfl, hb, ho⟩
  have B_14 : Hid (Below w.heap.size w w20) := chain B_13.out hb
  have RW_14 : Hid (RowI w2.heap.size w4.heap.size w20 q4 L) := RW_13.out.later hb
  have PW_14 : Hid (PlAt w20 b8 q4 L.length c4 us ga) := PW_13.out.later hb
  have PG_14 : Hid (PlAt w20 b12 q8 L.length c8 us ga) := PG_13.out.later hb
  have RM_14 : Hid (RowI w6.heap.size w8.heap.size w20 q8 (marks 1 L.length)) := RM_13.out.later hb
  clear B_13 RW_13 PW_13 PG_13 RM_13
  have TF_14 : Hid (ReadsFc w20.heap.size w20 (some ⟨g20, 0, none⟩) rs) := ho.reads
  clear hb ho
  go_wp2_with fail
  (first | go_at_call 9 | skip)
  refine (hI.out _ _ w20 TF_14.out).mono ?_
  rintro e w22 ⟨q22, c22, rfl, o22, hb⟩
  clear TF_14
  have B_15 : Hid (Below w.heap.size w w22) := chain B_14.out hb
  have RW_15 : Hid (RowI w2.heap.size w4.heap.size w22 q4 L) := RW_14.out.later hb
  have PW_15 : Hid (PlAt w22 b8 q4 L.length c4 us ga) := PW_14.out.later hb
  have PG_15 : Hid (PlAt w22 b12 q8 L.length c8 us ga) := PG_14.out.later hb
  have RM_15 : Hid (RowI w6.heap.size w8.heap.size w22 q8 (marks 1 L.length)) := RM_14.out.later hb
  clear B_14 RW_14 PW_14 PG_14 RM_14
  have RH_15 : Hid (RowI w20.heap.size w22.heap.size w22 q22 L) := o22.rowI
  clear hb o22
  obtain ⟨w23, hw23⟩ : ∃ w23, w23 = w22.alloc (Obj.cells #[.slice q22 L.length c22, .int .i64 us, .int .i64 ga] 28) := ⟨_, rfl⟩
  obtain ⟨b17, hb17⟩ : ∃ b17, b17 = w22.heap.size := ⟨_, rfl⟩
  have HW23 : Hid (w23 = w22.alloc (Obj.cells #[.slice q22 L.length c22, .int .i64 us, .int .i64 ga] 28) ∧ b17 = w22.heap.size) := ⟨hw23, hb17⟩
  have hb : Below w22.heap.size w22 w23 := by rw [hw23]; exact below_alloc _ _
  have B_16 : Hid (Below w.heap.size w w23) := chain B_15.out hb
  have RW_16 : Hid (RowI w2.heap.size w4.heap.size w23 q4 L) := RW_15.out.later hb
  have PW_16 : Hid (PlAt w23 b8 q4 L.length c4 us ga) := PW_15.out.later hb
  have PG_16 : Hid (PlAt w23 b12 q8 L.length c8 us ga) := PG_15.out.later hb
  have RM_16 : Hid (RowI w6.heap.size w8.heap.size w23 q8 (marks 1 L.length)) := RM_15.out.later hb
  have RH_16 : Hid (RowI w20.heap.size w22.heap.size w23 q22 L) := RH_15.out.later hb
  clear B_15 RW_15 PW_15 PG_15 RM_15 RH_15
  have PH_16 : Hid (PlAt w23 b17 q22 L.length c22 us ga) := by show PlAt _ _ _ _ _ _ _; rw [hw23, hb17]; exact PlAt.new _ _ _ _ _ _ _
  clear hb hw23 hb17
  go_upto_region 25 with fail
  rw [← HW23.out.1, ← HW23.out.2]
  clear HW23
  obtain ⟨e0, e1, e2, _⟩ := PW_16.out
  obtain ⟨f0, f1, f2, _⟩ := PH_16.out
  go_wp2_with fail
  (first | go_at_call 18 | skip)
  clear e0 e1 e2 f0 f1 f2
  refine (eqPlan_any us ga q22 q4 c22 c4 L hL w23 RH_16.out.reads RW_16.out.reads).mono ?_
  rintro e w24 ⟨rfl, hb⟩
  have B_17 : Hid (Below w.heap.size w w24) := chain B_16.out hb
  have RW_17 : Hid (RowI w2.heap.size w4.heap.size w24 q4 L) := RW_16.out.later hb
  have PW_17 : Hid (PlAt w24 b8 q4 L.length c4 us ga) := PW_16.out.later hb
  have PG_17 : Hid (PlAt w24 b12 q8 L.length c8 us ga) := PG_16.out.later hb
  have RM_17 : Hid (RowI w6.heap.size w8.heap.size w24 q8 (marks 1 L.length)) := RM_16.out.later hb
  have RH_17 : Hid (RowI w20.heap.size w22.heap.size w24 q22 L) := RH_16.out.later hb
  have PH_17 : Hid (PlAt w24 b17 q22 L.length c22 us ga) := PH_16.out.later hb
  clear B_16 RW_16 PW_16 PG_16 RM_16 RH_16 PH_16
  clear hb
  clear PH_17
  clear RH_17
  clear PW_17
  clear RW_17
  obtain ⟨f0, f1, f2, _⟩ := PG_17.out
  go_wp2_with fail
  (first | go_at_call 23 | skip)
  clear f0 f1 f2
  refine (HHd.out w24 RM_17.out).mono ?_
  rintro e w25 ⟨rfl, hb⟩
  have B_18 : Hid (Below w.heap.size w w25) := chain B_17.out hb
  have PG_18 : Hid (PlAt w25 b12 q8 L.length c8 us ga) := PG_17.out.later hb
  have RM_18 : Hid (RowI w6.heap.size w8.heap.size w25 q8 (marks 1 L.length)) := RM_17.out.later hb
  clear B_17 PG_17 RM_17
  clear hb
  go_wp2
  go_ret
  exact ⟨rfl, B_18.out⟩

theorem walk (a : Option Addr) (len cap : Nat) (rs : List CFc) (wd : Int) (hw : (Lit.int .i64 wd).wf = true) (w : World) (h : IsFcs w a len cap rs) :
    Calls Try.prog 6 #[.slice a len cap, .int .i64 wd] w fun e w' => e = .returned (.bool true) ∧ Below w.heap.size w w' := by
  obtain ⟨rfl, h2, h3, h4, h5⟩ := h
  exact walk' a cap rs (Nat.le_trans h2 h3) h4 wd w h5

theorem own : ownKnob Try.prog.godebug = none := by kernel_rfl
theorem laidOut : laidOutB Try.prog = true := by kernel_rfl

set_option maxRecDepth 100000 in
theorem lifted (os : Os) (started : os.Started) (H : Type) (enc : TypeId × Value → H) :
    ReturnsInHanded {} Try.checked os 6 .any (Rows.fnExactBestShelfSpec.pre6 enc Try.prog Try.f6 Rows.fnExactBestShelfRow.domain false) (Rows.fnExactBestShelfSpec.post enc Try.prog Try.f6 false true false false) := by
  refine returnsInHanded_of_change (C := Try.checked) own started (by kernel_rfl) Try.func6
    (ChangeSpec.witness6 (enc := enc) (C := Try.checked) false ⟨#[], #[.slice none 0 0, .int .i64 0], []⟩ 8 (by kernel_rfl) (by kernel_rfl) (by kernel_rfl) (by kernel_rfl)) ?_
  intro W base args ds gs before hval0 hW hcnd _
  have hval : ∀ (j : Nat) t v, Try.f6.params[j]? = some t → args[j]? = some v → Value.okWide Try.prog W .any base t v := hval0
  have hW' := hW
  obtain ⟨p, q, hA0, hV, rfl, hfz, hnd⟩ := hW
  have hA : DataW.TrodAll enc Try.prog W 0 (fun _ => true) true Try.f6.params.toList args.toList ds p := hA0
  rw [Try.params6] at hA hval
  obtain ⟨v0, vs0, d0, ds0, p0, q0, hargs, rfl, rfl, h0, r0⟩ := trodAll_cons hA
  obtain ⟨v1, vs1, d1, ds1, p1, q1, rfl, rfl, rfl, h1, r1⟩ := trodAll_cons r0
  obtain ⟨rfl, rfl, rfl⟩ := trodAll_nil r1
  obtain rfl : args = #[v0, v1] := by cases args; simp_all
  obtain ⟨rfl, rfl⟩ := trodVars_none hV
  have k0 := h0
  have lt0 : ∀ x ∈ p0, x.block < W.heap.size := by obtain ⟨m, hm⟩ := k0; exact DataW.trod_lt m _ _ _ hm
  have k1 := h1
  have lt1 : ∀ x ∈ p1, x.block < W.heap.size := by obtain ⟨m, hm⟩ := k1; exact DataW.trod_lt m _ _ _ hm
  obtain ⟨a0, len0, cap0, rfl⟩ := okWide_slice Try.underlying34 (hval 0 34 v0 rfl rfl)
  obtain ⟨z0, w0⟩ : ∃ zs, IsFcs W a0 len0 cap0 zs := by
    obtain ⟨fuel, hf⟩ := h0
    exact openFcs (by simpa [Value.cells] using hf)
  obtain ⟨a1, rfl, rfl, rfl, w1⟩ := open_int Try.underlying3 (hval 1 3 v1 rfl rfl) h1
  clear hA0 hval0
  refine (walk a0 len0 cap0 z0 a1 w1 W w0).mono fun e W' ⟨he, bel⟩ => ?_
  subst he
  exact ⟨_, rfl, _, _, _, [], _, [], hW', trodAll_mk1 (shut_bool Try.underlying4 _), (trodAll_cons_mk (Below.trod laidOut (by kernel_rfl) (of_decide_eq_true (by kernel_rfl)) k0 bel lt0) (trodAll_cons_mk (Below.trod laidOut (by kernel_rfl) (of_decide_eq_true (by kernel_rfl)) k1 bel lt1) trodAll_mk0)), rfl, bel.frame _, fun h => by cases h⟩

theorem over : Rows.fnExactBestShelfRow.holds Try.pinned (OpenSpec.ofChange Rows.fnExactBestShelfSpec) :=
  OpenClaim.holds_of_wide 6 Try.f6 rfl rfl rfl rfl rfl rfl rfl ⟨rfl, rfl, rfl, rfl, rfl⟩ rfl rfl rfl rfl rfl (by kernel_rfl) Try.func6 (by kernel_rfl)
    (of_decide_eq_true (by kernel_rfl)) (by unfold Func.isWrapper; first | (rw [if_pos (by decide +kernel)]; kernel_rfl) | (rw [if_neg (by decide +kernel)]; exact ⟨rfl, rfl⟩))
    (fun os started H enc _ => lifted os started H enc)
end BestShelfLaw

theorem fnExactBestShelf_holds : Rows.FnExactBestShelfSaid := BestShelfLaw.over
end Go.Proofs.Ytphefbaogfknoaa
