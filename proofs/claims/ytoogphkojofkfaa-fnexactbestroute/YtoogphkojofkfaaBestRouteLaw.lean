/-
  For all stops and every begin the law FnExactBestRoute answers true: the program's BestRoute answers as the specification's, writes into no argument, keeps nothing of one, and its answer owns its memory, behind another call too; with no condition.
-/
import Derived.Test.YtoogphkojofkfaaRwZ
import Derived.Test.YtoogphkojofkfaaRwY
import Derived.Test.YtoogphkojofkfaaHpF
import Derived.Test.YtoogphkojofkfaaHpM
namespace Go.Proofs.Ytoogphkojofkfaa
open Go.ChangeShapes Go.WideShapes Go.ChangeAt Go.RowKit Go.Joins
open Go.ChangeMaps (open_string shut_string)
set_option linter.unusedVariables false

namespace BestRouteLaw
theorem _root_.Go.Proofs.Ytoogphkojofkfaa.ReadsHp.later {w w' : World} {a : Option Addr} {rs : List RHp} (h : ReadsHp w.heap.size w a rs) (hb : Below w.heap.size w w') : ReadsHp w'.heap.size w' a rs := (h.below hb).mono hb.size
/-- Stops of one's own in a band. -/
structure HpO (lo hi : Nat) (W : World) (g : Nat) (cs : List RHp) : Prop where
  band : lo ≤ g ∧ g < hi ∧ hi ≤ W.heap.size
  at' : HpsAt W g 0 cs
  free : FreeHp W g cs.length
theorem HpO.later {lo hi : Nat} {W W' : World} {g : Nat} {cs : List RHp} (h : HpO lo hi W g cs) (hb : Below W.heap.size W W') : HpO lo hi W' g cs :=
  ⟨⟨h.band.1, h.band.2.1, Nat.le_trans h.band.2.2 hb.size⟩, h.at'.below hb (by have := h.band; omega), h.free.below hb (by have := h.band; omega)⟩
theorem HpO.reads {lo hi : Nat} {W : World} {g : Nat} {cs : List RHp} (h : HpO lo hi W g cs) : ReadsHp W.heap.size W (some ⟨g, 0, none⟩) cs := .inr ⟨g, 0, rfl, by have := h.band; omega, h.at'⟩
set_option maxHeartbeats 8000000 in
set_option maxRecDepth 4000 in
theorem walk' (b : Option Addr) (cb : Nat) (cs : List RHp) (bg : Int) (hk : cs.length ≤ maxLen) (w : World) (hb : ReadsHp w.heap.size w b cs) :
    Calls Try.prog 4 #[.slice b cs.length cb, .int .i64 bg] w fun e w' => e = .returned (.bool true) ∧ Below w.heap.size w w' := by
  have HD : Hid (ReadsHp w.heap.size w b cs) := hb
  have hZ := szHps_any b cb cs hk 1048576 (by omega) (by omega) w
  clear hb
  go_enter Try.func4, Try.ntmps4
  go_wp2_with (go_at_call 12; refine hZ.mono ?_; rintro e w1 ⟨⟨x, rfl, hx⟩, hw1⟩; rw [hw1]; have HX : Hid (x < 0 ∨ (0 ≤ x ∧ x + (cs.length : Int) ≤ 1048576)) := hx; clear hx hw1 w1)
  · go_ret
    exact ⟨rfl, by repeat (first | exact Below.refl _ _ | refine chain ?_ (below_alloc _ _))⟩
  rcases HX.out with h | ⟨h, hlen0⟩
  · omega
  have hlen : cs.length ≤ 1048576 := by omega
  have B_0 : Hid (Below w.heap.size w w) := Below.refl _ _
  have hSp : Hid (∀ b cb W, ReadsHp W.heap.size W b cs → Calls Try.prog 9 #[.slice b cs.length cb, .int .i64 bg] W (AnsW (brC cs bg) (brL cs bg) (brA cs bg) (brW cs bg) (brE cs bg) W)) := fun b cb W h2 => specBestRoute_any b cb cs bg (by omega) W h2
  have hIm : Hid (∀ b cb W, ReadsHp W.heap.size W b cs → Calls Try.prog 6 #[.slice b cs.length cb, .int .i64 bg] W (AnsM (brC cs bg) (brL cs bg) (brA cs bg) (brW cs bg) (brE cs bg) W)) := fun b cb W h2 => implBestRoute_any b cb cs bg (by omega) W h2
  have hTD : Hid (∀ w, ReadsHp w.heap.size w b cs → Calls Try.prog 13 #[.slice b cs.length cb] w fun e w' => ∃ g, e = .returned (.slice (some ⟨g, 0, none⟩) cs.length cs.length) ∧ Below w.heap.size w w' ∧ HpO w.heap.size w'.heap.size w' g cs) := fun w h => (toHps_any b cb cs hlen w h).mono fun e w' ⟨h1, h2, h3, h4, h5⟩ => ⟨_, h1, h2, ⟨⟨Nat.le_refl _, h3, Nat.le_refl _⟩, h4, h5⟩⟩
  have hL : (brL cs bg).length ≤ 1048576 := brL_len cs bg
  have hSl : (brA cs bg).length ≤ 1048576 := brA_len cs bg
  generalize brC cs bg = pc at *
  generalize brL cs bg = L at *
  generalize brA cs bg = S at *
  generalize brW cs bg = us at *
  generalize brE cs bg = ga at *
  have HMF : Hid (∀ lo hi g W, HpO lo hi W g cs → Calls Try.prog 16 #[.slice (some ⟨g, 0, none⟩) cs.length cs.length, .int .i64 1] W fun e w' => e = .returned (.int .i64 ((1 + cs.length * 5 : Nat) : Int)) ∧ Go.Proofs.Ytoogphkojofkfaa.Span lo hi W w') := fun lo hi g W h => by
    have e1 : ((1 + cs.length * 5 : Nat) : Int) = (1 : Int) + (cs.length : Int) * 5 := by omega
    rw [e1]
    refine (markHps_any g cs.length cs.length hlen 1 (by omega) (by omega) W (Mk.start (by have := h.band; omega) (hps_some h.at') (fun q hq => h.free q hq))).mono ?_
    rintro e w' ⟨rfl, hm⟩
    exact ⟨rfl, Span.ofMk hm h.band.1 h.band.2.1⟩
  have hkF2 : 1 + cs.length * 5 ≤ 80000000 := by omega
  clear HX hlen0 h
  generalize 1 + cs.length * 5 = kF at *
  have hpc : (pc != pc) = false := by simp
  (first | go_at_call 13 | skip)
  refine (hTD.out w (HD.out.later B_0.out)).mono ?_
  rintro e w3 ⟨g3, rfl, hb, ho⟩
  have B_1 : Hid (Below w.heap.size w w3) := chain B_0.out hb
  have RD_1 : Hid (ReadsHp w3.heap.size w3 (some ⟨g3, 0, none⟩) cs) := ho.reads
  clear hb ho B_0
  go_wp2_with fail
  (first | go_at_call 9 | skip)
  refine (hSp.out _ _ w3 RD_1.out).mono ?_
  rintro e w4 ⟨q4, c4, s4, d4, rfl, o4, p4, hb⟩
  clear RD_1
  have B_2 : Hid (Below w.heap.size w w4) := chain B_1.out hb
  clear B_1
  have RW_2 : Hid (RowI w3.heap.size w4.heap.size w4 q4 L) := o4
  have SW_2 : Hid (RowI w3.heap.size w4.heap.size w4 s4 S) := p4
  have s34 : w3.heap.size ≤ w4.heap.size := hb.size
  clear hb o4 p4
  obtain ⟨w5, hw5⟩ : ∃ w5, w5 = w4.alloc (Obj.cells #[.slice q4 L.length c4, .slice s4 S.length d4, .int .i64 us, .int .i64 ga] 28) := ⟨_, rfl⟩
  obtain ⟨b8, hb8⟩ : ∃ b8, b8 = w4.heap.size := ⟨_, rfl⟩
  have HW5 : Hid (w5 = w4.alloc (Obj.cells #[.slice q4 L.length c4, .slice s4 S.length d4, .int .i64 us, .int .i64 ga] 28) ∧ b8 = w4.heap.size) := ⟨hw5, hb8⟩
  have hb : Below w4.heap.size w4 w5 := by rw [hw5]; exact below_alloc _ _
  have s48 : w4.heap.size ≤ b8 := by rw [hb8]; exact Nat.le_refl _
  have B_3 : Hid (Below w.heap.size w w5) := chain B_2.out hb
  have RW_3 : Hid (RowI w3.heap.size w4.heap.size w5 q4 L) := RW_2.out.later hb
  have SW_3 : Hid (RowI w3.heap.size w4.heap.size w5 s4 S) := SW_2.out.later hb
  clear B_2 RW_2 SW_2
  have PW_3 : Hid (MpAt w5 b8 q4 L.length c4 s4 S.length d4 us ga) := by show MpAt _ _ _ _ _ _ _ _ _ _; rw [hw5, hb8]; exact MpAt.new _ _ _ _ _ _ _ _ _ _
  have s85 : b8 < w5.heap.size := PW_3.out.2
  have HBz : Hid (w.heap.size ≤ w5.heap.size) := B_3.out.size
  clear hb hw5 hb8
  go_upto_region 6 with fail
  rw [← HW5.out.1, ← HW5.out.2]
  clear HW5
  go_wp2_with fail
  (first | go_at_call 13 | skip)
  refine (hTD.out w5 (HD.out.later B_3.out)).mono ?_
  rintro e w7 ⟨g7, rfl, hb, ho⟩
  have B_4 : Hid (Below w.heap.size w w7) := chain B_3.out hb
  have RW_4 : Hid (RowI w3.heap.size w4.heap.size w7 q4 L) := RW_3.out.later hb
  have SW_4 : Hid (RowI w3.heap.size w4.heap.size w7 s4 S) := SW_3.out.later hb
  have PW_4 : Hid (MpAt w7 b8 q4 L.length c4 s4 S.length d4 us ga) := PW_3.out.later hb
  clear B_3 RW_3 SW_3 PW_3
  have XD_4 : Hid (HpO w5.heap.size w7.heap.size w7 g7 cs) := ho
  have s57 : w5.heap.size ≤ w7.heap.size := hb.size
  clear hb ho
  go_wp2_with fail
  (first | go_at_call 6 | skip)
  refine (hIm.out _ _ w7 XD_4.out.reads).mono ?_
  rintro e w8 ⟨q8, c8, s8, d8, mid8, rfl, ⟨m8a, m8b⟩, o8, p8, hb⟩
  have B_5 : Hid (Below w.heap.size w w8) := chain B_4.out hb
  have RW_5 : Hid (RowI w3.heap.size w4.heap.size w8 q4 L) := RW_4.out.later hb
  have SW_5 : Hid (RowI w3.heap.size w4.heap.size w8 s4 S) := SW_4.out.later hb
  have PW_5 : Hid (MpAt w8 b8 q4 L.length c4 s4 S.length d4 us ga) := PW_4.out.later hb
  have XD_5 : Hid (HpO w5.heap.size w7.heap.size w8 g7 cs) := XD_4.out.later hb
  clear B_4 RW_4 SW_4 PW_4 XD_4
  have RG_5 : Hid (RowI w7.heap.size mid8 w8 q8 L) := o8
  have SG_5 : Hid (RowI mid8 w8.heap.size w8 s8 S) := p8
  have s78 : w7.heap.size ≤ w8.heap.size := hb.size
  clear hb o8 p8
  obtain ⟨w9, hw9⟩ : ∃ w9, w9 = w8.alloc (Obj.cells #[.slice q8 L.length c8, .slice s8 S.length d8, .int .i64 us, .int .i64 ga] 28) := ⟨_, rfl⟩
  obtain ⟨b12, hb12⟩ : ∃ b12, b12 = w8.heap.size := ⟨_, rfl⟩
  have HW9 : Hid (w9 = w8.alloc (Obj.cells #[.slice q8 L.length c8, .slice s8 S.length d8, .int .i64 us, .int .i64 ga] 28) ∧ b12 = w8.heap.size) := ⟨hw9, hb12⟩
  have hb : Below w8.heap.size w8 w9 := by rw [hw9]; exact below_alloc _ _
  have s8b : w8.heap.size ≤ b12 := by rw [hb12]; exact Nat.le_refl _
  have B_6 : Hid (Below w.heap.size w w9) := chain B_5.out hb
  have RW_6 : Hid (RowI w3.heap.size w4.heap.size w9 q4 L) := RW_5.out.later hb
  have SW_6 : Hid (RowI w3.heap.size w4.heap.size w9 s4 S) := SW_5.out.later hb
  have PW_6 : Hid (MpAt w9 b8 q4 L.length c4 s4 S.length d4 us ga) := PW_5.out.later hb
  have XD_6 : Hid (HpO w5.heap.size w7.heap.size w9 g7 cs) := XD_5.out.later hb
  have RG_6 : Hid (RowI w7.heap.size mid8 w9 q8 L) := RG_5.out.later hb
  have SG_6 : Hid (RowI mid8 w8.heap.size w9 s8 S) := SG_5.out.later hb
  clear B_5 RW_5 SW_5 PW_5 XD_5 RG_5 SG_5
  have PG_6 : Hid (MpAt w9 b12 q8 L.length c8 s8 S.length d8 us ga) := by show MpAt _ _ _ _ _ _ _ _ _ _; rw [hw9, hb12]; exact MpAt.new _ _ _ _ _ _ _ _ _ _
  have s9z : w8.heap.size ≤ w9.heap.size := hb.size
  clear hb hw9 hb12
  go_upto_region 8 with fail
  rw [← HW9.out.1, ← HW9.out.2]
  clear HW9
  obtain ⟨⟨e0, e1, e2, e3⟩, _⟩ := PW_6.out
  obtain ⟨⟨f0, f1, f2, f3⟩, _⟩ := PG_6.out
  go_wp2_with fail
  (first | go_at_call 14 | skip)
  clear e0 e1 e2 e3 f0 f1 f2 f3
  refine (eqMp_any us ga q8 q4 s8 s4 c8 c4 d8 d4 L S hL hSl w9 RG_6.out.reads RW_6.out.reads SG_6.out.reads SW_6.out.reads).mono ?_
  rintro e w10 ⟨rfl, hb⟩
  have B_7 : Hid (Below w.heap.size w w10) := chain B_6.out hb
  have RW_7 : Hid (RowI w3.heap.size w4.heap.size w10 q4 L) := RW_6.out.later hb
  have SW_7 : Hid (RowI w3.heap.size w4.heap.size w10 s4 S) := SW_6.out.later hb
  have PW_7 : Hid (MpAt w10 b8 q4 L.length c4 s4 S.length d4 us ga) := PW_6.out.later hb
  have XD_7 : Hid (HpO w5.heap.size w7.heap.size w10 g7 cs) := XD_6.out.later hb
  have RG_7 : Hid (RowI w7.heap.size mid8 w10 q8 L) := RG_6.out.later hb
  have SG_7 : Hid (RowI mid8 w8.heap.size w10 s8 S) := SG_6.out.later hb
  have PG_7 : Hid (MpAt w10 b12 q8 L.length c8 s8 S.length d8 us ga) := PG_6.out.later hb
  clear B_6 RW_6 SW_6 PW_6 XD_6 RG_6 SG_6 PG_6
  clear hb
  go_wp2_with fail
  (first | go_at_call 13 | skip)
  refine (hTD.out w10 (HD.out.later B_7.out)).mono ?_
  rintro e w13 ⟨g13, rfl, hb, ho⟩
  have B_8 : Hid (Below w.heap.size w w13) := chain B_7.out hb
  have RW_8 : Hid (RowI w3.heap.size w4.heap.size w13 q4 L) := RW_7.out.later hb
  have SW_8 : Hid (RowI w3.heap.size w4.heap.size w13 s4 S) := SW_7.out.later hb
  have PW_8 : Hid (MpAt w13 b8 q4 L.length c4 s4 S.length d4 us ga) := PW_7.out.later hb
  have XD_8 : Hid (HpO w5.heap.size w7.heap.size w13 g7 cs) := XD_7.out.later hb
  have RG_8 : Hid (RowI w7.heap.size mid8 w13 q8 L) := RG_7.out.later hb
  have SG_8 : Hid (RowI mid8 w8.heap.size w13 s8 S) := SG_7.out.later hb
  have PG_8 : Hid (MpAt w13 b12 q8 L.length c8 s8 S.length d8 us ga) := PG_7.out.later hb
  clear B_7 RW_7 SW_7 PW_7 XD_7 RG_7 SG_7 PG_7
  have TD : Hid (ReadsHp w13.heap.size w13 (some ⟨g13, 0, none⟩) cs) := ho.reads
  clear hb ho
  go_wp2_with fail
  (first | go_at_call 15 | skip)
  refine (eqHps_any _ _ _ _ cs hlen w13 XD_8.out.reads TD.out).mono ?_
  rintro e w14 ⟨rfl, hb⟩
  have B_9 : Hid (Below w.heap.size w w14) := chain B_8.out hb
  have RW_9 : Hid (RowI w3.heap.size w4.heap.size w14 q4 L) := RW_8.out.later hb
  have SW_9 : Hid (RowI w3.heap.size w4.heap.size w14 s4 S) := SW_8.out.later hb
  have PW_9 : Hid (MpAt w14 b8 q4 L.length c4 s4 S.length d4 us ga) := PW_8.out.later hb
  have XD_9 : Hid (HpO w5.heap.size w7.heap.size w14 g7 cs) := XD_8.out.later hb
  have RG_9 : Hid (RowI w7.heap.size mid8 w14 q8 L) := RG_8.out.later hb
  have SG_9 : Hid (RowI mid8 w8.heap.size w14 s8 S) := SG_8.out.later hb
  have PG_9 : Hid (MpAt w14 b12 q8 L.length c8 s8 S.length d8 us ga) := PG_8.out.later hb
  clear B_8 RW_8 SW_8 PW_8 XD_8 RG_8 SG_8 PG_8
  clear hb TD
  have hB0w : w.heap.size ≤ w5.heap.size := HBz.out
  go_wp2_with fail
  (first | go_at_call 16 | skip)
  refine (HMF.out _ _ _ w14 XD_9.out).mono ?_
  rintro e w15 ⟨rfl, hs⟩
  clear XD_9
  have B_10 : Hid (Below w.heap.size w w15) := B_9.out.trans (hs.1.mono hB0w)
  have RW_10 : Hid (RowI w3.heap.size w4.heap.size w15 q4 L) := RW_9.out.below hs.1 (by omega)
  have SW_10 : Hid (RowI w3.heap.size w4.heap.size w15 s4 S) := SW_9.out.below hs.1 (by omega)
  have PW_10 : Hid (MpAt w15 b8 q4 L.length c4 s4 S.length d4 us ga) := PW_9.out.low hs.1 s85
  have RG_10 : Hid (RowI w7.heap.size mid8 w15 q8 L) := RG_9.out.apart hs (by omega)
  have SG_10 : Hid (RowI mid8 w8.heap.size w15 s8 S) := SG_9.out.apart hs (by omega)
  have PG_10 : Hid (MpAt w15 b12 q8 L.length c8 s8 S.length d8 us ga) := PG_9.out.above hs (by omega)
  clear B_9 RW_9 SW_9 PW_9 RG_9 SG_9 PG_9
  clear hs
  have p1 : ¬ ((kF : Int) < 0) := by omega
  obtain ⟨⟨e0, e1, e2, e3⟩, _⟩ := PW_10.out
  obtain ⟨⟨f0, f1, f2, f3⟩, _⟩ := PG_10.out
  go_wp2_with fail
  (first | go_at_call 14 | skip)
  clear e0 e1 e2 e3 f0 f1 f2 f3
  refine (eqMp_any us ga q8 q4 s8 s4 c8 c4 d8 d4 L S hL hSl w15 RG_10.out.reads RW_10.out.reads SG_10.out.reads SW_10.out.reads).mono ?_
  rintro e w17 ⟨rfl, hb⟩
  have B_11 : Hid (Below w.heap.size w w17) := chain B_10.out hb
  have RW_11 : Hid (RowI w3.heap.size w4.heap.size w17 q4 L) := RW_10.out.later hb
  have SW_11 : Hid (RowI w3.heap.size w4.heap.size w17 s4 S) := SW_10.out.later hb
  have PW_11 : Hid (MpAt w17 b8 q4 L.length c4 s4 S.length d4 us ga) := PW_10.out.later hb
  have RG_11 : Hid (RowI w7.heap.size mid8 w17 q8 L) := RG_10.out.later hb
  have SG_11 : Hid (RowI mid8 w8.heap.size w17 s8 S) := SG_10.out.later hb
  have PG_11 : Hid (MpAt w17 b12 q8 L.length c8 s8 S.length d8 us ga) := PG_10.out.later hb
  clear B_10 RW_10 SW_10 PW_10 RG_10 SG_10 PG_10
  clear hb
  obtain ⟨⟨f0, f1, f2, f3⟩, _⟩ := PG_11.out
  go_wp2_with fail
  (first | go_at_call 17 | skip)
  clear f0 f1 f2 f3
  refine (markMp_any us ga w7.heap.size mid8 w8.heap.size q8 s8 c8 d8 L S hL hSl w17 RG_11.out SG_11.out (Nat.le_trans s8b (Nat.le_of_lt PG_11.out.2)) m8a m8b).mono ?_
  rintro e w18 ⟨rfl, hs, hr, hr2⟩
  have RM_11 : Hid (RowI w7.heap.size mid8 w18 q8 (marks 1 L.length)) := hr
  have SM_11 : Hid (RowI mid8 w8.heap.size w18 s8 (marks ((1 + L.length : Nat) : Int) S.length)) := hr2
  clear RG_11
  clear SG_11
  have B_12 : Hid (Below w.heap.size w w18) := B_11.out.trans (hs.1.mono (by omega))
  have RW_12 : Hid (RowI w3.heap.size w4.heap.size w18 q4 L) := RW_11.out.below hs.1 (by omega)
  have SW_12 : Hid (RowI w3.heap.size w4.heap.size w18 s4 S) := SW_11.out.below hs.1 (by omega)
  have PW_12 : Hid (MpAt w18 b8 q4 L.length c4 s4 S.length d4 us ga) := PW_11.out.low hs.1 (by omega)
  have PG_12 : Hid (MpAt w18 b12 q8 L.length c8 s8 S.length d8 us ga) := PG_11.out.above hs s8b
  clear B_11 RW_11 SW_11 PW_11 PG_11
  have RM_12 := RM_11
  have SM_12 := SM_11
  clear hs hr hr2 RM_11 SM_11
  have p2 : ¬ (((1 + L.length + S.length : Nat) : Int) < 0) := by omega
  have p3 : (((1 + L.length + S.length : Nat) : Int) != ((1 + L.length + S.length : Nat) : Int)) = false := by simp
  obtain ⟨kL, hkL⟩ : ∃ kL, kL = 1 + L.length + S.length := ⟨_, rfl⟩
  have HHd : Hid (∀ W, RowI w7.heap.size mid8 W q8 (marks 1 L.length) → RowI mid8 w8.heap.size W s8 (marks ((1 + L.length : Nat) : Int) S.length) → Calls Try.prog 18 #[.agg #[.slice q8 L.length c8, .slice s8 S.length d8, .int .i64 us, .int .i64 ga], .int .i64 1] W fun e w' => e = .returned (.int .i64 (kL : Int)) ∧ Below W.heap.size W w') := fun W h k => by rw [hkL]; exact heldMp_any us ga _ _ _ q8 s8 c8 d8 L.length S.length hL hSl W h k
  rw [← hkL] at p2 p3 ⊢
  clear hkL
  obtain ⟨⟨f0, f1, f2, f3⟩, _⟩ := PG_12.out
  go_wp2_with fail
  (first | go_at_call 18 | skip)
  clear f0 f1 f2 f3
  refine (HHd.out w18 RM_12.out SM_12.out).mono ?_
  rintro e w19 ⟨rfl, hb⟩
  have B_13 : Hid (Below w.heap.size w w19) := chain B_12.out hb
  have RW_13 : Hid (RowI w3.heap.size w4.heap.size w19 q4 L) := RW_12.out.later hb
  have SW_13 : Hid (RowI w3.heap.size w4.heap.size w19 s4 S) := SW_12.out.later hb
  have PW_13 : Hid (MpAt w19 b8 q4 L.length c4 s4 S.length d4 us ga) := PW_12.out.later hb
  have PG_13 : Hid (MpAt w19 b12 q8 L.length c8 s8 S.length d8 us ga) := PG_12.out.later hb
  have RM_13 : Hid (RowI w7.heap.size mid8 w19 q8 (marks 1 L.length)) := RM_12.out.later hb
  have SM_13 : Hid (RowI mid8 w8.heap.size w19 s8 (marks ((1 + L.length : Nat) : Int) S.length)) := SM_12.out.later hb
  clear B_12 RW_12 SW_12 PW_12 PG_12 RM_12 SM_12
  clear hb
  go_wp2_with fail
  (first | go_at_call 13 | skip)
  refine (hTD.out w19 (HD.out.later B_13.out)).mono ?_
  rintro e w21 ⟨g21, rfl, hb, ho⟩
  have B_14 : Hid (Below w.heap.size w w21) := chain B_13.out hb
  have RW_14 : Hid (RowI w3.heap.size w4.heap.size w21 q4 L) := RW_13.out.later hb
  have SW_14 : Hid (RowI w3.heap.size w4.heap.size w21 s4 S) := SW_13.out.later hb
  have PW_14 : Hid (MpAt w21 b8 q4 L.length c4 s4 S.length d4 us ga) := PW_13.out.later hb
  have PG_14 : Hid (MpAt w21 b12 q8 L.length c8 s8 S.length d8 us ga) := PG_13.out.later hb
  have RM_14 : Hid (RowI w7.heap.size mid8 w21 q8 (marks 1 L.length)) := RM_13.out.later hb
  have SM_14 : Hid (RowI mid8 w8.heap.size w21 s8 (marks ((1 + L.length : Nat) : Int) S.length)) := SM_13.out.later hb
  clear B_13 RW_13 SW_13 PW_13 PG_13 RM_13 SM_13
  have TD_14 : Hid (ReadsHp w21.heap.size w21 (some ⟨g21, 0, none⟩) cs) := ho.reads
  clear hb ho
  go_wp2_with fail
  (first | go_at_call 6 | skip)
  refine (hIm.out _ _ w21 TD_14.out).mono ?_
  rintro e w22 ⟨q22, c22, s22, d22, mid22, rfl, _, o22, p22, hb⟩
  clear TD_14
  have B_15 : Hid (Below w.heap.size w w22) := chain B_14.out hb
  have RW_15 : Hid (RowI w3.heap.size w4.heap.size w22 q4 L) := RW_14.out.later hb
  have SW_15 : Hid (RowI w3.heap.size w4.heap.size w22 s4 S) := SW_14.out.later hb
  have PW_15 : Hid (MpAt w22 b8 q4 L.length c4 s4 S.length d4 us ga) := PW_14.out.later hb
  have PG_15 : Hid (MpAt w22 b12 q8 L.length c8 s8 S.length d8 us ga) := PG_14.out.later hb
  have RM_15 : Hid (RowI w7.heap.size mid8 w22 q8 (marks 1 L.length)) := RM_14.out.later hb
  have SM_15 : Hid (RowI mid8 w8.heap.size w22 s8 (marks ((1 + L.length : Nat) : Int) S.length)) := SM_14.out.later hb
  clear B_14 RW_14 SW_14 PW_14 PG_14 RM_14 SM_14
  have RH_15 : Hid (RowI w21.heap.size mid22 w22 q22 L) := o22
  have SH_15 : Hid (RowI mid22 w22.heap.size w22 s22 S) := p22
  clear hb o22 p22
  obtain ⟨w23, hw23⟩ : ∃ w23, w23 = w22.alloc (Obj.cells #[.slice q22 L.length c22, .slice s22 S.length d22, .int .i64 us, .int .i64 ga] 28) := ⟨_, rfl⟩
  obtain ⟨b17, hb17⟩ : ∃ b17, b17 = w22.heap.size := ⟨_, rfl⟩
  have HW23 : Hid (w23 = w22.alloc (Obj.cells #[.slice q22 L.length c22, .slice s22 S.length d22, .int .i64 us, .int .i64 ga] 28) ∧ b17 = w22.heap.size) := ⟨hw23, hb17⟩
  have hb : Below w22.heap.size w22 w23 := by rw [hw23]; exact below_alloc _ _
  have B_16 : Hid (Below w.heap.size w w23) := chain B_15.out hb
  have RW_16 : Hid (RowI w3.heap.size w4.heap.size w23 q4 L) := RW_15.out.later hb
  have SW_16 : Hid (RowI w3.heap.size w4.heap.size w23 s4 S) := SW_15.out.later hb
  have PW_16 : Hid (MpAt w23 b8 q4 L.length c4 s4 S.length d4 us ga) := PW_15.out.later hb
  have PG_16 : Hid (MpAt w23 b12 q8 L.length c8 s8 S.length d8 us ga) := PG_15.out.later hb
  have RM_16 : Hid (RowI w7.heap.size mid8 w23 q8 (marks 1 L.length)) := RM_15.out.later hb
  have SM_16 : Hid (RowI mid8 w8.heap.size w23 s8 (marks ((1 + L.length : Nat) : Int) S.length)) := SM_15.out.later hb
  have RH_16 : Hid (RowI w21.heap.size mid22 w23 q22 L) := RH_15.out.later hb
  have SH_16 : Hid (RowI mid22 w22.heap.size w23 s22 S) := SH_15.out.later hb
  clear B_15 RW_15 SW_15 PW_15 PG_15 RM_15 SM_15 RH_15 SH_15
  have PH_16 : Hid (MpAt w23 b17 q22 L.length c22 s22 S.length d22 us ga) := by show MpAt _ _ _ _ _ _ _ _ _ _; rw [hw23, hb17]; exact MpAt.new _ _ _ _ _ _ _ _ _ _
  clear hb hw23 hb17
  go_upto_region 25 with fail
  rw [← HW23.out.1, ← HW23.out.2]
  clear HW23
  obtain ⟨⟨e0, e1, e2, e3⟩, _⟩ := PW_16.out
  obtain ⟨⟨f0, f1, f2, f3⟩, _⟩ := PH_16.out
  go_wp2_with fail
  (first | go_at_call 14 | skip)
  clear e0 e1 e2 e3 f0 f1 f2 f3
  refine (eqMp_any us ga q22 q4 s22 s4 c22 c4 d22 d4 L S hL hSl w23 RH_16.out.reads RW_16.out.reads SH_16.out.reads SW_16.out.reads).mono ?_
  rintro e w24 ⟨rfl, hb⟩
  have B_17 : Hid (Below w.heap.size w w24) := chain B_16.out hb
  have RW_17 : Hid (RowI w3.heap.size w4.heap.size w24 q4 L) := RW_16.out.later hb
  have SW_17 : Hid (RowI w3.heap.size w4.heap.size w24 s4 S) := SW_16.out.later hb
  have PW_17 : Hid (MpAt w24 b8 q4 L.length c4 s4 S.length d4 us ga) := PW_16.out.later hb
  have PG_17 : Hid (MpAt w24 b12 q8 L.length c8 s8 S.length d8 us ga) := PG_16.out.later hb
  have RM_17 : Hid (RowI w7.heap.size mid8 w24 q8 (marks 1 L.length)) := RM_16.out.later hb
  have SM_17 : Hid (RowI mid8 w8.heap.size w24 s8 (marks ((1 + L.length : Nat) : Int) S.length)) := SM_16.out.later hb
  have RH_17 : Hid (RowI w21.heap.size mid22 w24 q22 L) := RH_16.out.later hb
  have SH_17 : Hid (RowI mid22 w22.heap.size w24 s22 S) := SH_16.out.later hb
  have PH_17 : Hid (MpAt w24 b17 q22 L.length c22 s22 S.length d22 us ga) := PH_16.out.later hb
  clear B_16 RW_16 SW_16 PW_16 PG_16 RM_16 SM_16 RH_16 SH_16 PH_16
  clear hb
  clear PH_17
  clear RH_17
  clear SH_17
  clear PW_17
  clear RW_17
  clear SW_17
  obtain ⟨⟨f0, f1, f2, f3⟩, _⟩ := PG_17.out
  go_wp2_with fail
  (first | go_at_call 18 | skip)
  clear f0 f1 f2 f3
  refine (HHd.out w24 RM_17.out SM_17.out).mono ?_
  rintro e w25 ⟨rfl, hb⟩
  have B_18 : Hid (Below w.heap.size w w25) := chain B_17.out hb
  have PG_18 : Hid (MpAt w25 b12 q8 L.length c8 s8 S.length d8 us ga) := PG_17.out.later hb
  have RM_18 : Hid (RowI w7.heap.size mid8 w25 q8 (marks 1 L.length)) := RM_17.out.later hb
  have SM_18 : Hid (RowI mid8 w8.heap.size w25 s8 (marks ((1 + L.length : Nat) : Int) S.length)) := SM_17.out.later hb
  clear B_17 PG_17 RM_17 SM_17
  clear hb
  go_wp2
  go_ret
  exact ⟨rfl, B_18.out⟩

theorem walk (b : Option Addr) (lb cb : Nat) (cs : List RHp) (bg : Int) (hbg : (Lit.int .i64 bg).wf = true) (w : World) (i : IsHps w b lb cb cs) :
    Calls Try.prog 4 #[.slice b lb cb, .int .i64 bg] w fun e w' => e = .returned (.bool true) ∧ Below w.heap.size w w' := by
  obtain ⟨rfl, i2, i3, i4, i5⟩ := i
  exact walk' b cb cs bg (Nat.le_trans i2 i3) w i5

theorem own : ownKnob Try.prog.godebug = none := by kernel_rfl
theorem laidOut : laidOutB Try.prog = true := by kernel_rfl

set_option maxRecDepth 100000 in
theorem lifted (os : Os) (started : os.Started) (H : Type) (enc : TypeId × Value → H) :
    ReturnsInHanded {} Try.checked os 4 .any (Rows.fnExactBestRouteSpec.pre6 enc Try.prog Try.f4 Rows.fnExactBestRouteRow.domain false) (Rows.fnExactBestRouteSpec.post enc Try.prog Try.f4 false true false false) := by
  refine returnsInHanded_of_change (C := Try.checked) own started (by kernel_rfl) Try.func4
    (ChangeSpec.witness6 (enc := enc) (C := Try.checked) false ⟨#[], #[.slice none 0 0, .int .i64 0], []⟩ 8 (by kernel_rfl) (by kernel_rfl) (by kernel_rfl) (by kernel_rfl)) ?_
  intro W base args ds gs before hval0 hW hcnd _
  have hval : ∀ (j : Nat) t v, Try.f4.params[j]? = some t → args[j]? = some v → Value.okWide Try.prog W .any base t v := hval0
  have hW' := hW
  obtain ⟨p, q, hA0, hV, rfl, hfz, hnd⟩ := hW
  have hA : DataW.TrodAll enc Try.prog W 0 (fun _ => true) true Try.f4.params.toList args.toList ds p := hA0
  rw [Try.params4] at hA hval
  obtain ⟨v0, vs0, d0, ds0, p0, q0, hargs, rfl, rfl, h0, r0⟩ := trodAll_cons hA
  obtain ⟨v1, vs1, d1, ds1, p1, q1, rfl, rfl, rfl, h1, r1⟩ := trodAll_cons r0
  obtain ⟨rfl, rfl, rfl⟩ := trodAll_nil r1
  obtain rfl : args = #[v0, v1] := by cases args; simp_all
  obtain ⟨rfl, rfl⟩ := trodVars_none hV
  have k0 := h0
  have lt0 : ∀ x ∈ p0, x.block < W.heap.size := by obtain ⟨m, hm⟩ := k0; exact DataW.trod_lt m _ _ _ hm
  have k1 := h1
  have lt1 : ∀ x ∈ p1, x.block < W.heap.size := by obtain ⟨m, hm⟩ := k1; exact DataW.trod_lt m _ _ _ hm
  obtain ⟨a0, len0, cap0, rfl⟩ := okWide_slice Try.underlying39 (hval 0 39 v0 rfl rfl)
  obtain ⟨z0, w0⟩ : ∃ zs, IsHps W a0 len0 cap0 zs := by
    obtain ⟨fuel, hf⟩ := h0
    exact openHps (by simpa [Value.cells] using hf)
  obtain ⟨a1, rfl, rfl, rfl, w1⟩ := open_int Try.underlying3 (hval 1 3 v1 rfl rfl) h1
  clear hA0 hval0
  refine (walk a0 len0 cap0 z0 a1 w1 W w0).mono fun e W' ⟨he, bel⟩ => ?_
  subst he
  exact ⟨_, rfl, _, _, _, [], _, [], hW', trodAll_mk1 (shut_bool Try.underlying4 _), (trodAll_cons_mk (Below.trod laidOut (by kernel_rfl) (of_decide_eq_true (by kernel_rfl)) k0 bel lt0) (trodAll_cons_mk (Below.trod laidOut (by kernel_rfl) (of_decide_eq_true (by kernel_rfl)) k1 bel lt1) trodAll_mk0)), rfl, bel.frame _, fun h => by cases h⟩

theorem over : Rows.fnExactBestRouteRow.holds Try.pinned (OpenSpec.ofChange Rows.fnExactBestRouteSpec) :=
  OpenClaim.holds_of_wide 4 Try.f4 rfl rfl rfl rfl rfl rfl rfl ⟨rfl, rfl, rfl, rfl, rfl⟩ rfl rfl rfl rfl rfl (by kernel_rfl) Try.func4 (by kernel_rfl)
    (of_decide_eq_true (by kernel_rfl)) (by unfold Func.isWrapper; first | (rw [if_pos (by decide +kernel)]; kernel_rfl) | (rw [if_neg (by decide +kernel)]; exact ⟨rfl, rfl⟩))
    (fun os started H enc _ => lifted os started H enc)
end BestRouteLaw

theorem fnExactBestRoute_holds : Rows.FnExactBestRouteSaid := BestRouteLaw.over
end Go.Proofs.Ytoogphkojofkfaa
