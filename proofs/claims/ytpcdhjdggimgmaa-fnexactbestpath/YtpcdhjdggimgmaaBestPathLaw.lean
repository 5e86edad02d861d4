/-
  For every hall and all picks the law FnExactBestPath answers true: the program's BestPath answers as the specification's, writes into no argument, keeps nothing of one, and its answer owns its memory, behind another call too; with no condition.
-/
import Derived.Test.YtpcdhjdggimgmaaBpH
import Derived.Test.YtpcdhjdggimgmaaMqQ
import Derived.Test.YtpcdhjdggimgmaaPtF
import Derived.Test.YtpcdhjdggimgmaaPtM
import Derived.Test.YtpcdhjdggimgmaaHaH
namespace Go.Proofs.Ytpcdhjdggimgmaa
open Go.ChangeShapes Go.WideShapes Go.ChangeAt Go.RowKit Go.Joins Go.Deep
open Go.ChangeMaps (open_string shut_string)
set_option linter.unusedVariables false

namespace BestPathLaw
theorem _root_.Go.Proofs.Ytpcdhjdggimgmaa.ReadsPt.laterP {w w' : World} {a : Option Addr} {rs : List RPt} (h : ReadsPt w.heap.size w a rs) (hb : Below w.heap.size w w') : ReadsPt w'.heap.size w' a rs := (h.below hb).mono hb.size
/-- A hall's box. -/
def HlL (W : World) (b : Nat) (a p g : Int) : Prop := HlAt W b a p g ∧ b < W.heap.size
theorem HlL.low {D b : Nat} {W W' : World} {a p g : Int} (h : HlL W b a p g) (hb : Below D W W') (hD : b < D) : HlL W' b a p g := ⟨h.1.below hb hD, Nat.lt_of_lt_of_le h.2 hb.size⟩
theorem HlL.later {b : Nat} {W W' : World} {a p g : Int} (h : HlL W b a p g) (hb : Below W.heap.size W W') : HlL W' b a p g := h.low hb h.2
/-- Spots of one's own in a band. -/
structure PtO (lo hi : Nat) (W : World) (g : Nat) (cs : List RPt) : Prop where
  band : lo ≤ g ∧ g < hi ∧ hi ≤ W.heap.size
  at' : PtsAt W g 0 cs
  free : FreePt W g cs.length
theorem PtO.later {lo hi : Nat} {W W' : World} {g : Nat} {cs : List RPt} (h : PtO lo hi W g cs) (hb : Below W.heap.size W W') : PtO lo hi W' g cs :=
  ⟨⟨h.band.1, h.band.2.1, Nat.le_trans h.band.2.2 hb.size⟩, h.at'.below hb (by have := h.band; omega), h.free.below hb (by have := h.band; omega)⟩
theorem PtO.reads {lo hi : Nat} {W : World} {g : Nat} {cs : List RPt} (h : PtO lo hi W g cs) : ReadsPt W.heap.size W (some ⟨g, 0, none⟩) cs := .inr ⟨g, 0, rfl, by have := h.band; omega, h.at'⟩
/-- An answer, its list in a band of its own. -/
def AnsI (L : List Int) (n c : Int) (w : World) (e : Ending) (w' : World) : Prop := ∃ q cq, e = .returned (.tuple #[.slice q L.length cq, .int .i64 n, .int .i64 c]) ∧ RowI w.heap.size w'.heap.size w' q L ∧ Below w.heap.size w w'
theorem ansI_of {w : World} {L : List Int} {n c : Int} {e : Ending} {w' : World} (h : AnsBp w L n c e w') : AnsI L n c w e w' := by
  obtain ⟨q, cq, he, hr, hb⟩ := h
  have hO : One w w.heap.size (.slice q L.length cq) L w' := ⟨hr, hb.size, hb⟩
  exact ⟨q, cq, he, (hO.own2 rfl).rowI, hb⟩
set_option maxHeartbeats 8000000 in
set_option maxRecDepth 4000 in
theorem walk' (a : Int) (p : Int) (g : Int) (b : Option Addr) (cb : Nat) (cs : List RPt) (hk : cs.length ≤ maxLen) (w : World) (hb : ReadsPt w.heap.size w b cs) :
    Calls Try.prog 5 #[.agg #[.int .i64 a, .int .i64 p, .int .i64 g], .slice b cs.length cb] w fun e w' => e = .returned (.bool true) ∧ Below w.heap.size w w' := by
  have HD : Hid (ReadsPt w.heap.size w b cs) := hb
  have hZ := fun W => szPts_any b cb cs hk 1048576 (by omega) (by omega) W
  clear hb
  obtain ⟨W1, hW1⟩ : ∃ W1, W1 = w.alloc (Obj.cells #[.int .i64 a, .int .i64 p, .int .i64 g] 46) := ⟨_, rfl⟩
  obtain ⟨bx, hbx⟩ : ∃ bx, bx = w.heap.size := ⟨_, rfl⟩
  have HW1 : Hid (W1 = w.alloc (Obj.cells #[.int .i64 a, .int .i64 p, .int .i64 g] 46) ∧ bx = w.heap.size) := ⟨hW1, hbx⟩
  have B_0 : Hid (Below w.heap.size w W1) := by show Below _ _ _; rw [hW1]; exact below_alloc _ _
  have BX_0 : Hid (HlL W1 bx a p g) := by
    show HlL W1 bx a p g
    rw [hW1, hbx]
    exact ⟨⟨cellNew _ _ _ _ rfl rfl, cellNew _ _ _ _ rfl rfl, cellNew _ _ _ _ rfl rfl⟩, by simp⟩
  have HBw : Hid (w.heap.size ≤ bx) := by show w.heap.size ≤ bx; rw [hbx]; exact Nat.le_refl _
  clear hW1 hbx
  go_enter Try.func5, Try.ntmps5
  go_upto_region 1 with fail
  rw [← HW1.out.1, ← HW1.out.2]
  clear HW1
  obtain ⟨⟨h0, h1, h2⟩, _⟩ := BX_0.out
  go_wp2_with (go_at_call 14; refine (hZ _).mono ?_; rintro e w1 ⟨⟨x, rfl, hx⟩, hw1⟩; rw [hw1]; have HX : Hid (x < 0 ∨ (0 ≤ x ∧ x + (cs.length : Int) ≤ 1048576)) := hx; clear hx hw1 w1)
  · go_ret
    exact ⟨rfl, B_0.out⟩
  rcases HX.out with h | ⟨h, hlen0⟩
  · omega
  have hlen : cs.length ≤ 1048576 := by omega
  have hSp : Hid (∀ b cb W, ReadsPt W.heap.size W b cs → Calls Try.prog 10 #[.agg #[.int .i64 a, .int .i64 p, .int .i64 g], .slice b cs.length cb] W (AnsI (bpL a p g cs) (bpN a p g cs) (bpC a p g cs) W)) := fun b cb W h => (specBest_any a p g b cb cs (by omega) W h).mono (fun e w' h => ansI_of h)
  have hIm : Hid (∀ b cb W, ReadsPt W.heap.size W b cs → Calls Try.prog 8 #[.agg #[.int .i64 a, .int .i64 p, .int .i64 g], .slice b cs.length cb] W (AnsI (bpL a p g cs) (bpN a p g cs) (bpC a p g cs) W)) := fun b cb W h => (implBest_any a p g b cb cs (by omega) W h).mono (fun e w' h => ansI_of h)
  have hTH : Hid (∀ W, Calls Try.prog 15 #[.agg #[.int .i64 a, .int .i64 p, .int .i64 g]] W fun e w' => e = .returned (.agg #[.int .i64 a, .int .i64 p, .int .i64 g]) ∧ Below W.heap.size W w') := fun W => toHall_any a p g W
  have hTD : Hid (∀ w, ReadsPt w.heap.size w b cs → Calls Try.prog 16 #[.slice b cs.length cb] w fun e w' => ∃ g, e = .returned (.slice (some ⟨g, 0, none⟩) cs.length cs.length) ∧ Below w.heap.size w w' ∧ PtO w.heap.size w'.heap.size w' g cs) := fun w h => (toPts_any b cb cs hlen w h).mono fun e w' ⟨h1, h2, h3, h4, h5⟩ => ⟨_, h1, h2, ⟨⟨Nat.le_refl _, h3, Nat.le_refl _⟩, h4, h5⟩⟩
  have hL : (bpL a p g cs).length ≤ 1048576 := by
    unfold bpL
    split
    · rw [bpO_len]; exact hlen
    · exact Nat.zero_le _
  generalize bpL a p g cs = L at *
  generalize bpN a p g cs = us at *
  generalize bpC a p g cs = pc at *
  have HMF : Hid (∀ lo hi g W, PtO lo hi W g cs → Calls Try.prog 19 #[.slice (some ⟨g, 0, none⟩) cs.length cs.length, .int .i64 1] W fun e w' => e = .returned (.int .i64 ((1 + cs.length * 2 : Nat) : Int)) ∧ Go.Proofs.Ytpcdhjdggimgmaa.Span lo hi W w') := fun lo hi g W h => by
    have e1 : ((1 + cs.length * 2 : Nat) : Int) = (1 : Int) + (cs.length : Int) * 2 := by omega
    rw [e1]
    refine (markPts_any g cs.length cs.length hlen 1 (by omega) (by omega) W (Mk.start (by have := h.band; omega) (pts_some h.at') (fun q hq => h.free q hq))).mono ?_
    rintro e w' ⟨rfl, hm⟩
    exact ⟨rfl, Span.ofMk hm h.band.1 h.band.2.1⟩
  have hkF2 : 1 + cs.length * 2 ≤ 80000000 := by omega
  clear HX hlen0 h
  generalize 1 + cs.length * 2 = kF at *
  have hpc : (pc != pc) = false := by simp
  have hus : (us != us) = false := by simp
  (first | go_at_call 15 | skip)
  clear h0 h1 h2
  refine (hTH.out W1).mono ?_
  rintro e w2 ⟨rfl, hb⟩
  have B_1 : Hid (Below w.heap.size w w2) := chain B_0.out hb
  have BX_1 : Hid (HlL w2 bx a p g) := BX_0.out.later hb
  clear B_0 BX_0
  clear hb
  go_wp2_with fail
  (first | go_at_call 16 | skip)
  refine (hTD.out w2 (HD.out.laterP B_1.out)).mono ?_
  rintro e w3 ⟨g3, rfl, hb, ho⟩
  have B_2 : Hid (Below w.heap.size w w3) := chain B_1.out hb
  have BX_2 : Hid (HlL w3 bx a p g) := BX_1.out.later hb
  clear B_1 BX_1
  have RD_2 : Hid (PtO w2.heap.size w3.heap.size w3 g3 cs) := ho
  clear hb ho
  go_wp2_with fail
  (first | go_at_call 10 | skip)
  refine (hSp.out _ _ w3 RD_2.out.reads).mono ?_
  rintro e w4 ⟨q4, c4, rfl, o4, hb⟩
  clear RD_2
  have B_3 : Hid (Below w.heap.size w w4) := chain B_2.out hb
  have BX_3 : Hid (HlL w4 bx a p g) := BX_2.out.later hb
  clear B_2 BX_2
  have RW_3 : Hid (RowI w3.heap.size w4.heap.size w4 q4 L) := o4
  have HBz : Hid (w.heap.size ≤ w4.heap.size ∧ bx < w4.heap.size) := ⟨B_3.out.size, BX_3.out.2⟩
  clear hb o4
  go_wp2_with fail
  (first | go_at_call 16 | skip)
  refine (hTD.out w4 (HD.out.laterP B_3.out)).mono ?_
  rintro e w7 ⟨g7, rfl, hb, ho⟩
  have B_4 : Hid (Below w.heap.size w w7) := chain B_3.out hb
  have BX_4 : Hid (HlL w7 bx a p g) := BX_3.out.later hb
  have RW_4 : Hid (RowI w3.heap.size w4.heap.size w7 q4 L) := RW_3.out.later hb
  clear B_3 BX_3 RW_3
  have XD_4 : Hid (PtO w4.heap.size w7.heap.size w7 g7 cs) := ho
  have s57 : w4.heap.size ≤ w7.heap.size := hb.size
  clear hb ho
  obtain ⟨⟨h0, h1, h2⟩, _⟩ := BX_4.out
  go_wp2_with fail
  (first | go_at_call 15 | skip)
  clear h0 h1 h2
  refine (hTH.out w7).mono ?_
  rintro e w7h ⟨rfl, hb⟩
  have B_5 : Hid (Below w.heap.size w w7h) := chain B_4.out hb
  have BX_5 : Hid (HlL w7h bx a p g) := BX_4.out.later hb
  have RW_5 : Hid (RowI w3.heap.size w4.heap.size w7h q4 L) := RW_4.out.later hb
  have XD_5 : Hid (PtO w4.heap.size w7.heap.size w7h g7 cs) := XD_4.out.later hb
  clear B_4 BX_4 RW_4 XD_4
  clear hb
  have s78 : w7.heap.size ≤ w7h.heap.size := XD_5.out.band.2.2
  go_wp2_with fail
  (first | go_at_call 8 | skip)
  refine (hIm.out _ _ w7h XD_5.out.reads).mono ?_
  rintro e w8 ⟨q8, c8, rfl, o8, hb⟩
  have B_6 : Hid (Below w.heap.size w w8) := chain B_5.out hb
  have BX_6 : Hid (HlL w8 bx a p g) := BX_5.out.later hb
  have RW_6 : Hid (RowI w3.heap.size w4.heap.size w8 q4 L) := RW_5.out.later hb
  have XD_6 : Hid (PtO w4.heap.size w7.heap.size w8 g7 cs) := XD_5.out.later hb
  clear B_5 BX_5 RW_5 XD_5
  have RG_6 : Hid (RowI w7h.heap.size w8.heap.size w8 q8 L) := o8
  have s88 : w7h.heap.size ≤ w8.heap.size := hb.size
  clear hb o8
  go_wp2_with fail
  (first | go_at_call 17 | skip)
  refine (eqZis_any q8 q4 c8 c4 L hL w8 RG_6.out.reads RW_6.out.reads).mono ?_
  rintro e w10 ⟨rfl, hb⟩
  have B_7 : Hid (Below w.heap.size w w10) := chain B_6.out hb
  have BX_7 : Hid (HlL w10 bx a p g) := BX_6.out.later hb
  have RW_7 : Hid (RowI w3.heap.size w4.heap.size w10 q4 L) := RW_6.out.later hb
  have XD_7 : Hid (PtO w4.heap.size w7.heap.size w10 g7 cs) := XD_6.out.later hb
  have RG_7 : Hid (RowI w7h.heap.size w8.heap.size w10 q8 L) := RG_6.out.later hb
  clear B_6 BX_6 RW_6 XD_6 RG_6
  clear hb
  go_wp2_with fail
  (first | go_at_call 16 | skip)
  refine (hTD.out w10 (HD.out.laterP B_7.out)).mono ?_
  rintro e w13 ⟨g13, rfl, hb, ho⟩
  have B_8 : Hid (Below w.heap.size w w13) := chain B_7.out hb
  have BX_8 : Hid (HlL w13 bx a p g) := BX_7.out.later hb
  have RW_8 : Hid (RowI w3.heap.size w4.heap.size w13 q4 L) := RW_7.out.later hb
  have XD_8 : Hid (PtO w4.heap.size w7.heap.size w13 g7 cs) := XD_7.out.later hb
  have RG_8 : Hid (RowI w7h.heap.size w8.heap.size w13 q8 L) := RG_7.out.later hb
  clear B_7 BX_7 RW_7 XD_7 RG_7
  have TD : Hid (ReadsPt w13.heap.size w13 (some ⟨g13, 0, none⟩) cs) := ho.reads
  clear hb ho
  go_wp2_with fail
  (first | go_at_call 18 | skip)
  refine (eqPts_any _ _ _ _ cs hlen w13 XD_8.out.reads TD.out).mono ?_
  rintro e w14 ⟨rfl, hb⟩
  have B_9 : Hid (Below w.heap.size w w14) := chain B_8.out hb
  have BX_9 : Hid (HlL w14 bx a p g) := BX_8.out.later hb
  have RW_9 : Hid (RowI w3.heap.size w4.heap.size w14 q4 L) := RW_8.out.later hb
  have XD_9 : Hid (PtO w4.heap.size w7.heap.size w14 g7 cs) := XD_8.out.later hb
  have RG_9 : Hid (RowI w7h.heap.size w8.heap.size w14 q8 L) := RG_8.out.later hb
  clear B_8 BX_8 RW_8 XD_8 RG_8
  clear hb TD
  have hB0w := HBz.out
  go_wp2_with fail
  (first | go_at_call 19 | skip)
  refine (HMF.out _ _ _ w14 XD_9.out).mono ?_
  rintro e w15 ⟨rfl, hs⟩
  clear XD_9
  have B_10 : Hid (Below w.heap.size w w15) := B_9.out.trans (hs.1.mono hB0w.1)
  have BX_10 : Hid (HlL w15 bx a p g) := BX_9.out.low hs.1 hB0w.2
  have RW_10 : Hid (RowI w3.heap.size w4.heap.size w15 q4 L) := RW_9.out.below hs.1 (Nat.le_refl _)
  have RG_10 : Hid (RowI w7h.heap.size w8.heap.size w15 q8 L) := RG_9.out.apart hs (by omega)
  clear B_9 BX_9 RW_9 RG_9
  clear hs
  have p1 : ¬ ((kF : Int) < 0) := by omega
  go_wp2_with fail
  (first | go_at_call 17 | skip)
  refine (eqZis_any q8 q4 c8 c4 L hL w15 RG_10.out.reads RW_10.out.reads).mono ?_
  rintro e w17 ⟨rfl, hb⟩
  have B_11 : Hid (Below w.heap.size w w17) := chain B_10.out hb
  have BX_11 : Hid (HlL w17 bx a p g) := BX_10.out.later hb
  have RW_11 : Hid (RowI w3.heap.size w4.heap.size w17 q4 L) := RW_10.out.later hb
  have RG_11 : Hid (RowI w7h.heap.size w8.heap.size w17 q8 L) := RG_10.out.later hb
  clear B_10 BX_10 RW_10 RG_10
  clear hb
  go_wp2_with fail
  (first | go_at_call 20 | skip)
  refine (markI_any _ _ q8 c8 L hL 1 (by omega) w17 RG_11.out).mono ?_
  rintro e w18 ⟨rfl, hs, hr⟩
  have RM_11 : Hid (RowI w7h.heap.size w8.heap.size w18 q8 (marks 1 L.length)) := hr
  clear RG_11
  have B_12 : Hid (Below w.heap.size w w18) := B_11.out.trans (hs.1.mono (by omega))
  have BX_12 : Hid (HlL w18 bx a p g) := BX_11.out.low hs.1 (by omega)
  have RW_12 : Hid (RowI w3.heap.size w4.heap.size w18 q4 L) := RW_11.out.below hs.1 (by omega)
  clear B_11 BX_11 RW_11
  have RM_12 := RM_11
  clear hs hr RM_11
  have p2 : ¬ (((1 + L.length : Nat) : Int) < 0) := by omega
  have p3 : (((1 + L.length : Nat) : Int) != ((1 + L.length : Nat) : Int)) = false := by simp
  obtain ⟨kL, hkL⟩ : ∃ kL, kL = 1 + L.length := ⟨_, rfl⟩
  have HHd : Hid (∀ W, RowI w7h.heap.size w8.heap.size W q8 (marks 1 L.length) → Calls Try.prog 21 #[.slice q8 L.length c8, .int .i64 1] W fun e w' => e = .returned (.int .i64 (kL : Int)) ∧ w' = W) := fun W h => by rw [hkL]; exact heldI_any _ _ q8 c8 L.length hL 1 (by omega) W h
  rw [← hkL] at p2 p3 ⊢
  clear hkL
  go_wp2_with fail
  (first | go_at_call 21 | skip)
  refine (HHd.out w18 RM_12.out).mono ?_
  rintro e wz ⟨rfl, hz⟩
  rw [hz]
  clear hz wz
  obtain ⟨⟨h0, h1, h2⟩, _⟩ := BX_12.out
  go_wp2_with fail
  (first | go_at_call 15 | skip)
  clear h0 h1 h2
  refine (hTH.out w18).mono ?_
  rintro e w19 ⟨rfl, hb⟩
  have B_13 : Hid (Below w.heap.size w w19) := chain B_12.out hb
  have BX_13 : Hid (HlL w19 bx a p g) := BX_12.out.later hb
  have RW_13 : Hid (RowI w3.heap.size w4.heap.size w19 q4 L) := RW_12.out.later hb
  have RM_13 : Hid (RowI w7h.heap.size w8.heap.size w19 q8 (marks 1 L.length)) := RM_12.out.later hb
  clear B_12 BX_12 RW_12 RM_12
  clear hb
  go_wp2_with fail
  (first | go_at_call 16 | skip)
  refine (hTD.out w19 (HD.out.laterP B_13.out)).mono ?_
  rintro e w21 ⟨g21, rfl, hb, ho⟩
  have B_14 : Hid (Below w.heap.size w w21) := chain B_13.out hb
  have BX_14 : Hid (HlL w21 bx a p g) := BX_13.out.later hb
  have RW_14 : Hid (RowI w3.heap.size w4.heap.size w21 q4 L) := RW_13.out.later hb
  have RM_14 : Hid (RowI w7h.heap.size w8.heap.size w21 q8 (marks 1 L.length)) := RM_13.out.later hb
  clear B_13 BX_13 RW_13 RM_13
  have TD_14 : Hid (PtO w19.heap.size w21.heap.size w21 g21 cs) := ho
  clear hb ho
  go_wp2_with fail
  (first | go_at_call 8 | skip)
  refine (hIm.out _ _ w21 TD_14.out.reads).mono ?_
  rintro e w22 ⟨q22, c22, rfl, o22, hb⟩
  clear TD_14
  have B_15 : Hid (Below w.heap.size w w22) := chain B_14.out hb
  have BX_15 : Hid (HlL w22 bx a p g) := BX_14.out.later hb
  have RW_15 : Hid (RowI w3.heap.size w4.heap.size w22 q4 L) := RW_14.out.later hb
  have RM_15 : Hid (RowI w7h.heap.size w8.heap.size w22 q8 (marks 1 L.length)) := RM_14.out.later hb
  clear B_14 BX_14 RW_14 RM_14
  have RH_15 : Hid (RowI w21.heap.size w22.heap.size w22 q22 L) := o22
  clear hb o22
  go_wp2_with fail
  (first | go_at_call 17 | skip)
  refine (eqZis_any q22 q4 c22 c4 L hL w22 RH_15.out.reads RW_15.out.reads).mono ?_
  rintro e w24 ⟨rfl, hb⟩
  have B_16 : Hid (Below w.heap.size w w24) := chain B_15.out hb
  have BX_16 : Hid (HlL w24 bx a p g) := BX_15.out.later hb
  have RW_16 : Hid (RowI w3.heap.size w4.heap.size w24 q4 L) := RW_15.out.later hb
  have RM_16 : Hid (RowI w7h.heap.size w8.heap.size w24 q8 (marks 1 L.length)) := RM_15.out.later hb
  have RH_16 : Hid (RowI w21.heap.size w22.heap.size w24 q22 L) := RH_15.out.later hb
  clear B_15 BX_15 RW_15 RM_15 RH_15
  clear hb
  go_wp2_with fail
  (first | go_at_call 21 | skip)
  refine (HHd.out w24 RM_16.out).mono ?_
  rintro e wz ⟨rfl, hz⟩
  rw [hz]
  clear hz wz
  go_wp2
  go_ret
  exact ⟨rfl, B_16.out⟩

theorem walk (a : Int) (_ : (Lit.int .i64 a).wf = true) (p : Int) (_ : (Lit.int .i64 p).wf = true) (g : Int) (_ : (Lit.int .i64 g).wf = true) (b : Option Addr) (lb cb : Nat) (cs : List RPt) (w : World) (i : IsPts w b lb cb cs) :
    Calls Try.prog 5 #[.agg #[.int .i64 a, .int .i64 p, .int .i64 g], .slice b lb cb] w fun e w' => e = .returned (.bool true) ∧ Below w.heap.size w w' := by
  obtain ⟨rfl, i2, i3, i4, i5⟩ := i
  exact walk' a p g b cb cs (Nat.le_trans i2 i3) w i5

theorem own : ownKnob Try.prog.godebug = none := by kernel_rfl
theorem laidOut : laidOutB Try.prog = true := by kernel_rfl

set_option maxRecDepth 100000 in
theorem lifted (os : Os) (started : os.Started) (H : Type) (enc : TypeId × Value → H) :
    ReturnsInHanded {} Try.checked os 5 .any (Rows.fnExactBestPathSpec.pre6 enc Try.prog Try.f5 Rows.fnExactBestPathRow.domain false) (Rows.fnExactBestPathSpec.post enc Try.prog Try.f5 false true false false) := by
  refine returnsInHanded_of_change (C := Try.checked) own started (by kernel_rfl) Try.func5
    (ChangeSpec.witness6 (enc := enc) (C := Try.checked) false ⟨#[], #[.agg #[.int .i64 0, .int .i64 0, .int .i64 0], .slice none 0 0], []⟩ 8 (by kernel_rfl) (by kernel_rfl) (by kernel_rfl) (by kernel_rfl)) ?_
  intro W base args ds gs before hval0 hW hcnd _
  have hval : ∀ (j : Nat) t v, Try.f5.params[j]? = some t → args[j]? = some v → Value.okWide Try.prog W .any base t v := hval0
  have hW' := hW
  obtain ⟨p, q, hA0, hV, rfl, hfz, hnd⟩ := hW
  have hA : DataW.TrodAll enc Try.prog W 0 (fun _ => true) true Try.f5.params.toList args.toList ds p := hA0
  rw [Try.params5] at hA hval
  obtain ⟨v0, vs0, d0, ds0, p0, q0, hargs, rfl, rfl, h0, r0⟩ := trodAll_cons hA
  obtain ⟨v1, vs1, d1, ds1, p1, q1, rfl, rfl, rfl, h1, r1⟩ := trodAll_cons r0
  obtain ⟨rfl, rfl, rfl⟩ := trodAll_nil r1
  obtain rfl : args = #[v0, v1] := by cases args; simp_all
  obtain ⟨rfl, rfl⟩ := trodVars_none hV
  have k0 := h0
  have lt0 : ∀ x ∈ p0, x.block < W.heap.size := by obtain ⟨m, hm⟩ := k0; exact DataW.trod_lt m _ _ _ hm
  have k1 := h1
  have lt1 : ∀ x ∈ p1, x.block < W.heap.size := by obtain ⟨m, hm⟩ := k1; exact DataW.trod_lt m _ _ _ hm
  obtain ⟨c0_0, c0_1, c0_2, y0_0, y0_1, y0_2, m0, rfl, rfl, rfl, hy0_0, hy0_1, hy0_2⟩ := open_agg3 Try.underlying46 (by kernel_rfl) (by kernel_rfl) (hval 0 46 v0 rfl rfl) h0
  obtain ⟨a0_0, ea0_0, rfl, wa0_0⟩ := DataW.trod_int Try.underlying3 hy0_0
  simp at ea0_0
  subst ea0_0
  obtain ⟨a0_1, ea0_1, rfl, wa0_1⟩ := DataW.trod_int Try.underlying3 hy0_1
  simp at ea0_1
  subst ea0_1
  obtain ⟨a0_2, ea0_2, rfl, wa0_2⟩ := DataW.trod_int Try.underlying3 hy0_2
  simp at ea0_2
  subst ea0_2
  obtain ⟨a1, len1, cap1, rfl⟩ := okWide_slice Try.underlying47 (hval 1 47 v1 rfl rfl)
  obtain ⟨z1, w1⟩ : ∃ zs, IsPts W a1 len1 cap1 zs := by
    obtain ⟨fuel, hf⟩ := h1
    exact openPts (by simpa [Value.cells] using hf)
  clear hA0 hval0
  refine (walk a0_0 wa0_0 a0_1 wa0_1 a0_2 wa0_2 a1 len1 cap1 z1 W w1).mono fun e W' ⟨he, bel⟩ => ?_
  subst he
  exact ⟨_, rfl, _, _, _, [], _, [], hW', trodAll_mk1 (shut_bool Try.underlying4 _), (trodAll_cons_mk (Below.trod laidOut (by kernel_rfl) (of_decide_eq_true (by kernel_rfl)) k0 bel lt0) (trodAll_cons_mk (Below.trod laidOut (by kernel_rfl) (of_decide_eq_true (by kernel_rfl)) k1 bel lt1) trodAll_mk0)), rfl, bel.frame _, fun h => by cases h⟩

theorem over : Rows.fnExactBestPathRow.holds Try.pinned (OpenSpec.ofChange Rows.fnExactBestPathSpec) :=
  OpenClaim.holds_of_wide 5 Try.f5 rfl rfl rfl rfl rfl rfl rfl ⟨rfl, rfl, rfl, rfl, rfl⟩ rfl rfl rfl rfl rfl (by kernel_rfl) Try.func5 (by kernel_rfl)
    (of_decide_eq_true (by kernel_rfl)) (by unfold Func.isWrapper; first | (rw [if_pos (by decide +kernel)]; kernel_rfl) | (rw [if_neg (by decide +kernel)]; exact ⟨rfl, rfl⟩))
    (fun os started H enc _ => lifted os started H enc)
end BestPathLaw

theorem fnExactBestPath_holds : Rows.FnExactBestPathSaid := BestPathLaw.over
end Go.Proofs.Ytpcdhjdggimgmaa
