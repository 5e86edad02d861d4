/-
  For all shifts and workers and lists of who the law FnExactRosterOf answers true: the program's RosterOf answers as the specification's, writes into no argument, keeps nothing of one, and its answer owns its memory, behind another call too; with no condition.
-/
import Derived.Test.YteigbmdhfeagfaaWrH
import Derived.Test.YteigbmdhfeagfaaWrK
import Derived.Test.YteigbmdhfeagfaaWrQ
import Derived.Test.YteigbmdhfeagfaaSfF
import Derived.Test.YteigbmdhfeagfaaSfM
import Derived.Test.YteigbmdhfeagfaaWkF
import Derived.Test.YteigbmdhfeagfaaWkM
import Derived.Test.YteigbmdhfeagfaaWkO
namespace Go.Proofs.Yteigbmdhfeagfaa
open Go.ChangeShapes Go.WideShapes Go.ChangeAt Go.RowKit Go.Joins
open Go.ChangeMaps (open_string shut_string)
set_option linter.unusedVariables false

namespace RosterLaw
theorem _root_.Go.Proofs.Yteigbmdhfeagfaa.ReadsSf.later {w w' : World} {a : Option Addr} {rs : List RSf} (h : ReadsSf w.heap.size w a rs) (hb : Below w.heap.size w w') : ReadsSf w'.heap.size w' a rs := (h.below hb).mono hb.size
/-- Shifts of one's own in a band. -/
structure SfO (lo hi : Nat) (W : World) (g : Nat) (cs : List RSf) : Prop where
  band : lo ≤ g ∧ g < hi ∧ hi ≤ W.heap.size
  at' : SfsAt W g 0 cs
  free : FreeSf W g cs.length
theorem SfO.later {lo hi : Nat} {W W' : World} {g : Nat} {cs : List RSf} (h : SfO lo hi W g cs) (hb : Below W.heap.size W W') : SfO lo hi W' g cs :=
  ⟨⟨h.band.1, h.band.2.1, Nat.le_trans h.band.2.2 hb.size⟩, h.at'.below hb (by have := h.band; omega), h.free.below hb (by have := h.band; omega)⟩
theorem SfO.reads {lo hi : Nat} {W : World} {g : Nat} {cs : List RSf} (h : SfO lo hi W g cs) : ReadsSf W.heap.size W (some ⟨g, 0, none⟩) cs := .inr ⟨g, 0, rfl, by have := h.band; omega, h.at'⟩
theorem wk_apart {lo hi lo' hi' : Nat} {w w' : World} {b n : Nat} {M : Nat → Nat} (h : WkMk lo hi w b n M) (hs : Go.Proofs.Yteigbmdhfeagfaa.Span lo' hi' w w') (hD : hi' ≤ lo) : WkMk lo hi w' b n M := by
  obtain ⟨⟨h1, h2, h3⟩, h4, h5⟩ := h
  have hk : ∀ c o, lo ≤ c → c < w.heap.size → w'.cell? ⟨c, o, none⟩ = w.cell? ⟨c, o, none⟩ ∧ w'.frozen? ⟨c, o, none⟩ = w.frozen? ⟨c, o, none⟩ := fun c o k1 k2 => hs.2 c o (by omega) k2
  refine ⟨⟨h1, h2, Nat.le_trans h3 hs.1.size⟩, fun j hj => ?_, fun i hi => ?_⟩
  · have e := hk b j h1 (by omega)
    rw [e.1, e.2]; exact h4 j hj
  · obtain ⟨c, cp, k1, ⟨k2, k3, k4⟩, k5⟩ := h5 i hi
    refine ⟨c, cp, by rw [(hk b _ h1 (by omega)).1]; exact k1, ⟨k2, k3, k4⟩, fun j hj => ?_⟩
    have e := hk c j k3 (by omega)
    rw [e.1, e.2]; exact k5 j hj
set_option maxHeartbeats 16000000 in
set_option maxRecDepth 8000 in
theorem walk' (b : Option Addr) (cb : Nat) (cs : List RSf) (hk : cs.length ≤ maxLen) (hp : ∀ r ∈ cs, SfWide r) (d : Option Addr) (cd : Nat) (ws : List CWk) (hkw : ws.length ≤ maxLen) (hpw : ∀ r ∈ ws, WkWide r) (c : Option Addr) (cc : Nat) (ss : List Int) (hsl : ss.length ≤ maxLen) (w : World) (hb : ReadsSf w.heap.size w b cs) (hd : ReadsWk w.heap.size w d ws) (hc : Reads w.heap.size w c ss) :
    Calls Try.prog 4 #[.slice b cs.length cb, .slice d ws.length cd, .slice c ss.length cc] w fun e w' => e = .returned (.bool true) ∧ Below w.heap.size w w' := by
  have HD : Hid (ReadsSf w.heap.size w b cs) := hb
  have HW : Hid (ReadsWk w.heap.size w d ws) := hd
  have HS : Hid (Reads w.heap.size w c ss) := hc
  have HZ : Hid (∀ w, ReadsSf w.heap.size w b cs → Calls Try.prog 5 #[.slice b cs.length cb, .int .i64 1048576] w (SzSf cs w)) := fun w h => szSfs_any b cb cs hk hp 1048576 (by omega) (by omega) w h
  have HZ2 : Hid (∀ x w, 0 ≤ x → x ≤ 1048576 → ReadsWk w.heap.size w d ws → Calls Try.prog 6 #[.slice d ws.length cd, .int .i64 x] w (SzWks ws w)) := fun x w h0 h1 h => szWks_any d cd ws hkw hpw x h0 h1 w h
  clear hb hd hp hpw hc
  by_cases hbig2 : (1048576 : Int) < (ss.length : Int)
  · go_enter Try.func4, Try.ntmps4
    go_wp2
    go_ret
    exact ⟨rfl, Below.refl _ _⟩
  have hssl : ss.length ≤ 1048576 := by omega
  go_enter Try.func4, Try.ntmps4
  go_wp2_with fail
  (first | go_at_call 5 | skip)
  refine (HZ.out _ HD.out).mono ?_
  rintro e w1 ⟨x, rfl, hx, hb1⟩
  have HX : Hid (x < 0 ∨ (0 ≤ x ∧ x ≤ 1048576 ∧ cs.length ≤ 1048576 ∧ ∀ r ∈ cs, SfOK r)) := hx
  have B1 : Hid (Below w.heap.size w w1) := hb1
  clear hx hb1 HZ
  by_cases hx0 : x < 0
  · go_wp2
    go_ret
    exact ⟨rfl, B1.out⟩
  obtain ⟨hxa, hxb, hlen, hok⟩ := HX.out.resolve_left hx0
  have HOK : Hid (∀ r ∈ cs, SfOK r) := hok
  clear hok HX
  go_wp2_with fail
  (first | go_at_call 6 | skip)
  refine (HZ2.out x w1 hxa hxb (HW.out.later B1.out)).mono ?_
  rintro e w2 ⟨y, rfl, hy, hb1b⟩
  have HY : Hid (y < 0 ∨ (0 ≤ y ∧ y ≤ 1048576 ∧ ws.length ≤ 1048576 ∧ totWk ws ≤ 1048576 ∧ ∀ r ∈ ws, WkOK r)) := hy
  have B_0 : Hid (Below w.heap.size w w2) := chain B1.out hb1b
  clear hy hb1b HZ2 hxa hxb hx0 B1
  by_cases hy0 : y < 0
  · go_wp2
    go_ret
    exact ⟨rfl, B_0.out⟩
  obtain ⟨hya, hyb, hlen2, htot, hok2⟩ := HY.out.resolve_left hy0
  have HOK2 : Hid (∀ r ∈ ws, WkOK r) := hok2
  clear hok2 HY
  have hSp : Hid (∀ b cb d cd c cc W, ReadsSf W.heap.size W b cs → ReadsWk W.heap.size W d ws → Reads W.heap.size W c ss → Calls Try.prog 13 #[.slice b cs.length cb, .slice d ws.length cd, .slice c ss.length cc] W (AnsR (rwC cs ws ss).1 (rwC cs ws ss).2 (rwL cs ws ss) (rwT cs ws ss) W)) := fun b cb d cd c cc W h2 h4 h3 => specRoster_any b cb cs d cd ws c cc ss (by omega) (by omega) (by omega) HOK.out HOK2.out W h2 h4 h3
  have hIm : Hid (∀ b cb d cd c cc W, ReadsSf W.heap.size W b cs → ReadsWk W.heap.size W d ws → Reads W.heap.size W c ss → Calls Try.prog 15 #[.slice b cs.length cb, .slice d ws.length cd, .slice c ss.length cc] W (AnsR (rwC cs ws ss).1 (rwC cs ws ss).2 (rwL cs ws ss) (rwT cs ws ss) W)) := fun b cb d cd c cc W h2 h4 h3 => implRoster_any b cb cs d cd ws c cc ss (by omega) (by omega) (by omega) HOK.out HOK2.out W h2 h4 h3
  have hTD : Hid (∀ w, ReadsSf w.heap.size w b cs → Calls Try.prog 8 #[.slice b cs.length cb] w fun e w' => ∃ g, e = .returned (.slice (some ⟨g, 0, none⟩) cs.length cs.length) ∧ Below w.heap.size w w' ∧ SfO w.heap.size w'.heap.size w' g cs) := fun w h => (toSfs_any b cb cs hlen w h).mono fun e w' ⟨h1, h2, h3, h4, h5⟩ => ⟨_, h1, h2, ⟨⟨Nat.le_refl _, h3, Nat.le_refl _⟩, h4, h5⟩⟩
  have hTW : Hid (∀ w, ReadsWk w.heap.size w d ws → Calls Try.prog 9 #[.slice d ws.length cd] w fun e w' => ∃ g, e = .returned (.slice (some ⟨g, 0, none⟩) ws.length ws.length) ∧ Below w.heap.size w w' ∧ OwnWk w.heap.size w' g ws) := fun w h => (toWks_any d cd ws hlen2 HOK2.out w h).mono fun e w' ⟨h1, h2, h3⟩ => ⟨_, h1, h2, h3⟩
  have hTS : Hid (∀ w, Reads w.heap.size w c ss → Calls Try.prog 14 #[.slice c ss.length cc] w fun e w' => ∃ g, e = .returned (.slice (some ⟨g, 0, none⟩) ss.length ss.length) ∧ Below w.heap.size w w' ∧ Own2 w.heap.size w' (some ⟨g, 0, none⟩) ss) := fun w h => (toInts_any c cc ss (by omega) w h).mono fun e w' ⟨h1, h2, h3, h4, h5⟩ => ⟨_, h1, h2, .inr ⟨_, rfl, Nat.le_refl _, h3, h4, h5⟩⟩
  have hL : (rwL cs ws ss).length ≤ 1048576 := by unfold rwL; split; exact hssl; exact Nat.zero_le _
  generalize (rwC cs ws ss).1 = pc at *
  generalize (rwC cs ws ss).2 = pp at *
  generalize rwL cs ws ss = L at *
  generalize rwT cs ws ss = us at *
  have HMF : Hid (∀ lo hi g W, SfO lo hi W g cs → Calls Try.prog 18 #[.slice (some ⟨g, 0, none⟩) cs.length cs.length, .int .i64 1] W fun e w' => e = .returned (.int .i64 ((1 + cs.length * 3 : Nat) : Int)) ∧ Go.Proofs.Yteigbmdhfeagfaa.Span lo hi W w') := fun lo hi g W h => by
    have e1 : ((1 + cs.length * 3 : Nat) : Int) = (1 : Int) + (cs.length : Int) * 3 := by omega
    rw [e1]
    refine (markSfs_any g cs.length cs.length hlen 1 (by omega) (by omega) W (Mk.start (by have := h.band; omega) (sfs_some h.at') (fun q hq => h.free q hq))).mono ?_
    rintro e w' ⟨rfl, hm⟩
    exact ⟨rfl, Span.ofMk hm h.band.1 h.band.2.1⟩
  have hkF2 : 1 + cs.length * 3 ≤ 4000000 := by omega
  have hkF1 : 1 ≤ 1 + cs.length * 3 := by omega
  generalize 1 + cs.length * 3 = kF at *
  have hkW : kAtW kF (fun i => (ws.getD i zWk).sk.length) ws.length ≤ 20000000 := by
    rw [kAtW_sum kF ws ws.length (Nat.le_refl _), List.take_length]
    omega
  have HMW : Hid (∀ lo hi g W, WkMk lo hi W g ws.length (fun i => (ws.getD i zWk).sk.length) → Calls Try.prog 19 #[.slice (some ⟨g, 0, none⟩) ws.length ws.length, .int .i64 (kF : Int)] W fun e w' => e = .returned (.int .i64 (kAtW kF (fun i => (ws.getD i zWk).sk.length) ws.length : Int)) ∧ Go.Proofs.Yteigbmdhfeagfaa.Span lo hi W w') := fun lo hi g W h => markWks_any lo hi g ws.length ws.length _ hlen2 (fun i hi => (getWk HOK2.out hi).2.1) kF hkF1 (by omega) W h
  generalize hkk : kAtW kF (fun i => (ws.getD i zWk).sk.length) ws.length = kW at *
  clear hkk
  have hpc : (pc != pc) = false := by simp
  have hpp : ((pp : Int) != (pp : Int)) = false := by simp
  go_wp2_with fail
  (first | go_at_call 8 | skip)
  refine (hTD.out w2 (HD.out.later B_0.out)).mono ?_
  rintro e w3 ⟨g3, rfl, hb, ho⟩
  have B_1 : Hid (Below w.heap.size w w3) := chain B_0.out hb
  clear B_0
  have RD_1 : Hid (ReadsSf w3.heap.size w3 (some ⟨g3, 0, none⟩) cs) := ho.reads
  clear hb ho
  go_wp2_with fail
  (first | go_at_call 9 | skip)
  refine (hTW.out w3 (HW.out.later B_1.out)).mono ?_
  rintro e w3w ⟨g3w, rfl, hb, ho⟩
  have B_2 : Hid (Below w.heap.size w w3w) := chain B_1.out hb
  have RD_2 : Hid (ReadsSf w3w.heap.size w3w (some ⟨g3, 0, none⟩) cs) := RD_1.out.later hb
  clear B_1 RD_1
  have RQ_2 : Hid (ReadsWk w3w.heap.size w3w (some ⟨g3w, 0, none⟩) ws) := ho.reads
  clear hb ho
  go_wp2_with fail
  (first | go_at_call 14 | skip)
  refine (hTS.out w3w (HS.out.later B_2.out)).mono ?_
  rintro e w3s ⟨g3s, rfl, hb, ho⟩
  have B_3 : Hid (Below w.heap.size w w3s) := chain B_2.out hb
  have RD_3 : Hid (ReadsSf w3s.heap.size w3s (some ⟨g3, 0, none⟩) cs) := RD_2.out.later hb
  have RQ_3 : Hid (ReadsWk w3s.heap.size w3s (some ⟨g3w, 0, none⟩) ws) := RQ_2.out.later hb
  clear B_2 RD_2 RQ_2
  have RS_3 : Hid (Reads w3s.heap.size w3s (some ⟨g3s, 0, none⟩) ss) := ho.reads
  clear hb ho
  go_wp2_with fail
  (first | go_at_call 13 | skip)
  refine (hSp.out _ _ _ _ _ _ w3s RD_3.out RQ_3.out RS_3.out).mono ?_
  rintro e w4 ⟨q4, c4, rfl, o4, hb⟩
  clear RD_3
  clear RQ_3
  clear RS_3
  have B_4 : Hid (Below w.heap.size w w4) := chain B_3.out hb
  clear B_3
  have RW_4 : Hid (RowI w3s.heap.size w4.heap.size w4 q4 L) := o4
  have s34 : w3s.heap.size ≤ w4.heap.size := hb.size
  clear hb o4
  obtain ⟨w5, hw5⟩ : ∃ w5, w5 = w4.alloc (Obj.cells #[.slice q4 L.length c4, .int .i64 us] 36) := ⟨_, rfl⟩
  obtain ⟨b8, hb8⟩ : ∃ b8, b8 = w4.heap.size := ⟨_, rfl⟩
  have HW5 : Hid (w5 = w4.alloc (Obj.cells #[.slice q4 L.length c4, .int .i64 us] 36) ∧ b8 = w4.heap.size) := ⟨hw5, hb8⟩
  have hb : Below w4.heap.size w4 w5 := by rw [hw5]; exact below_alloc _ _
  have s48 : w4.heap.size ≤ b8 := by rw [hb8]; exact Nat.le_refl _
  have B_5 : Hid (Below w.heap.size w w5) := chain B_4.out hb
  have RW_5 : Hid (RowI w3s.heap.size w4.heap.size w5 q4 L) := RW_4.out.later hb
  clear B_4 RW_4
  have PW_5 : Hid (RsAt w5 b8 q4 L.length c4 us) := by show RsAt _ _ _ _ _ _; rw [hw5, hb8]; exact RsAt.new _ _ _ _ _ _
  have s85 : b8 < w5.heap.size := PW_5.out.2.2
  have HBz : Hid (w.heap.size ≤ w5.heap.size) := B_5.out.size
  clear hb hw5 hb8
  go_upto_region 11 with fail
  rw [← HW5.out.1, ← HW5.out.2]
  clear HW5
  go_wp2_with fail
  (first | go_at_call 8 | skip)
  refine (hTD.out w5 (HD.out.later B_5.out)).mono ?_
  rintro e w7 ⟨g7, rfl, hb, ho⟩
  have B_6 : Hid (Below w.heap.size w w7) := chain B_5.out hb
  have RW_6 : Hid (RowI w3s.heap.size w4.heap.size w7 q4 L) := RW_5.out.later hb
  have PW_6 : Hid (RsAt w7 b8 q4 L.length c4 us) := PW_5.out.later hb
  clear B_5 RW_5 PW_5
  have XD_6 : Hid (SfO w5.heap.size w7.heap.size w7 g7 cs) := ho
  have s57 : w5.heap.size ≤ w7.heap.size := hb.size
  clear hb ho
  go_wp2_with fail
  (first | go_at_call 9 | skip)
  refine (hTW.out w7 (HW.out.later B_6.out)).mono ?_
  rintro e w7w ⟨g7w, rfl, hb, ho⟩
  have B_7 : Hid (Below w.heap.size w w7w) := chain B_6.out hb
  have RW_7 : Hid (RowI w3s.heap.size w4.heap.size w7w q4 L) := RW_6.out.later hb
  have PW_7 : Hid (RsAt w7w b8 q4 L.length c4 us) := PW_6.out.later hb
  have XD_7 : Hid (SfO w5.heap.size w7.heap.size w7w g7 cs) := XD_6.out.later hb
  clear B_6 RW_6 PW_6 XD_6
  have XW_7 : Hid (ReadsWk w7w.heap.size w7w (some ⟨g7w, 0, none⟩) ws) := ho.reads
  have XM_7 : Hid (WkMk w7.heap.size w7w.heap.size w7w g7w ws.length (fun i => (ws.getD i zWk).sk.length)) := ho.mk
  have s7w : w7.heap.size ≤ w7w.heap.size := hb.size
  clear hb ho
  go_wp2_with fail
  (first | go_at_call 14 | skip)
  refine (hTS.out w7w (HS.out.later B_7.out)).mono ?_
  rintro e w7s ⟨g7s, rfl, hb, ho⟩
  have B_8 : Hid (Below w.heap.size w w7s) := chain B_7.out hb
  have RW_8 : Hid (RowI w3s.heap.size w4.heap.size w7s q4 L) := RW_7.out.later hb
  have PW_8 : Hid (RsAt w7s b8 q4 L.length c4 us) := PW_7.out.later hb
  have XD_8 : Hid (SfO w5.heap.size w7.heap.size w7s g7 cs) := XD_7.out.later hb
  have XW_8 : Hid (ReadsWk w7s.heap.size w7s (some ⟨g7w, 0, none⟩) ws) := XW_7.out.later hb
  have XM_8 : Hid (WkMk w7.heap.size w7w.heap.size w7s g7w ws.length (fun i => (ws.getD i zWk).sk.length)) := XM_7.out.later hb
  clear B_7 RW_7 PW_7 XD_7 XW_7 XM_7
  have XS_8 : Hid (RowI w7w.heap.size w7s.heap.size w7s (some ⟨g7s, 0, none⟩) ss) := ho.rowI
  have s77 : w7w.heap.size ≤ w7s.heap.size := hb.size
  clear hb ho
  go_wp2_with fail
  (first | go_at_call 15 | skip)
  refine (hIm.out _ _ _ _ _ _ w7s XD_8.out.reads XW_8.out XS_8.out.reads).mono ?_
  rintro e w8 ⟨q8, c8, rfl, o8, hb⟩
  have B_9 : Hid (Below w.heap.size w w8) := chain B_8.out hb
  have RW_9 : Hid (RowI w3s.heap.size w4.heap.size w8 q4 L) := RW_8.out.later hb
  have PW_9 : Hid (RsAt w8 b8 q4 L.length c4 us) := PW_8.out.later hb
  have XD_9 : Hid (SfO w5.heap.size w7.heap.size w8 g7 cs) := XD_8.out.later hb
  have XW_9 : Hid (ReadsWk w8.heap.size w8 (some ⟨g7w, 0, none⟩) ws) := XW_8.out.later hb
  have XM_9 : Hid (WkMk w7.heap.size w7w.heap.size w8 g7w ws.length (fun i => (ws.getD i zWk).sk.length)) := XM_8.out.later hb
  have XS_9 : Hid (RowI w7w.heap.size w7s.heap.size w8 (some ⟨g7s, 0, none⟩) ss) := XS_8.out.later hb
  clear B_8 RW_8 PW_8 XD_8 XW_8 XM_8 XS_8
  have RG_9 : Hid (RowI w7s.heap.size w8.heap.size w8 q8 L) := o8
  have s78 : w7s.heap.size ≤ w8.heap.size := hb.size
  clear hb o8
  obtain ⟨w9, hw9⟩ : ∃ w9, w9 = w8.alloc (Obj.cells #[.slice q8 L.length c8, .int .i64 us] 36) := ⟨_, rfl⟩
  obtain ⟨b12, hb12⟩ : ∃ b12, b12 = w8.heap.size := ⟨_, rfl⟩
  have HW9 : Hid (w9 = w8.alloc (Obj.cells #[.slice q8 L.length c8, .int .i64 us] 36) ∧ b12 = w8.heap.size) := ⟨hw9, hb12⟩
  have hb : Below w8.heap.size w8 w9 := by rw [hw9]; exact below_alloc _ _
  have s8b : w8.heap.size ≤ b12 := by rw [hb12]; exact Nat.le_refl _
  have B_10 : Hid (Below w.heap.size w w9) := chain B_9.out hb
  have RW_10 : Hid (RowI w3s.heap.size w4.heap.size w9 q4 L) := RW_9.out.later hb
  have PW_10 : Hid (RsAt w9 b8 q4 L.length c4 us) := PW_9.out.later hb
  have XD_10 : Hid (SfO w5.heap.size w7.heap.size w9 g7 cs) := XD_9.out.later hb
  have XW_10 : Hid (ReadsWk w9.heap.size w9 (some ⟨g7w, 0, none⟩) ws) := XW_9.out.later hb
  have XM_10 : Hid (WkMk w7.heap.size w7w.heap.size w9 g7w ws.length (fun i => (ws.getD i zWk).sk.length)) := XM_9.out.later hb
  have XS_10 : Hid (RowI w7w.heap.size w7s.heap.size w9 (some ⟨g7s, 0, none⟩) ss) := XS_9.out.later hb
  have RG_10 : Hid (RowI w7s.heap.size w8.heap.size w9 q8 L) := RG_9.out.later hb
  clear B_9 RW_9 PW_9 XD_9 XW_9 XM_9 XS_9 RG_9
  have PG_10 : Hid (RsAt w9 b12 q8 L.length c8 us) := by show RsAt _ _ _ _ _ _; rw [hw9, hb12]; exact RsAt.new _ _ _ _ _ _
  have s9z : w8.heap.size ≤ w9.heap.size := hb.size
  clear hb hw9 hb12
  go_upto_region 15 with fail
  rw [← HW9.out.1, ← HW9.out.2]
  clear HW9
  obtain ⟨e0, e1, _⟩ := PW_10.out
  obtain ⟨f0, f1, _⟩ := PG_10.out
  go_wp2_with fail
  (first | go_at_call 16 | skip)
  clear e0 e1 f0 f1
  refine (eqRos_any us q8 q4 c8 c4 L hL w9 RG_10.out.reads RW_10.out.reads).mono ?_
  rintro e w10 ⟨rfl, hb⟩
  have B_11 : Hid (Below w.heap.size w w10) := chain B_10.out hb
  have RW_11 : Hid (RowI w3s.heap.size w4.heap.size w10 q4 L) := RW_10.out.later hb
  have PW_11 : Hid (RsAt w10 b8 q4 L.length c4 us) := PW_10.out.later hb
  have XD_11 : Hid (SfO w5.heap.size w7.heap.size w10 g7 cs) := XD_10.out.later hb
  have XW_11 : Hid (ReadsWk w10.heap.size w10 (some ⟨g7w, 0, none⟩) ws) := XW_10.out.later hb
  have XM_11 : Hid (WkMk w7.heap.size w7w.heap.size w10 g7w ws.length (fun i => (ws.getD i zWk).sk.length)) := XM_10.out.later hb
  have XS_11 : Hid (RowI w7w.heap.size w7s.heap.size w10 (some ⟨g7s, 0, none⟩) ss) := XS_10.out.later hb
  have RG_11 : Hid (RowI w7s.heap.size w8.heap.size w10 q8 L) := RG_10.out.later hb
  have PG_11 : Hid (RsAt w10 b12 q8 L.length c8 us) := PG_10.out.later hb
  clear B_10 RW_10 PW_10 XD_10 XW_10 XM_10 XS_10 RG_10 PG_10
  clear hb
  go_wp2_with fail
  (first | go_at_call 8 | skip)
  refine (hTD.out w10 (HD.out.later B_11.out)).mono ?_
  rintro e w13 ⟨g13, rfl, hb, ho⟩
  have B_12 : Hid (Below w.heap.size w w13) := chain B_11.out hb
  have RW_12 : Hid (RowI w3s.heap.size w4.heap.size w13 q4 L) := RW_11.out.later hb
  have PW_12 : Hid (RsAt w13 b8 q4 L.length c4 us) := PW_11.out.later hb
  have XD_12 : Hid (SfO w5.heap.size w7.heap.size w13 g7 cs) := XD_11.out.later hb
  have XW_12 : Hid (ReadsWk w13.heap.size w13 (some ⟨g7w, 0, none⟩) ws) := XW_11.out.later hb
  have XM_12 : Hid (WkMk w7.heap.size w7w.heap.size w13 g7w ws.length (fun i => (ws.getD i zWk).sk.length)) := XM_11.out.later hb
  have XS_12 : Hid (RowI w7w.heap.size w7s.heap.size w13 (some ⟨g7s, 0, none⟩) ss) := XS_11.out.later hb
  have RG_12 : Hid (RowI w7s.heap.size w8.heap.size w13 q8 L) := RG_11.out.later hb
  have PG_12 : Hid (RsAt w13 b12 q8 L.length c8 us) := PG_11.out.later hb
  clear B_11 RW_11 PW_11 XD_11 XW_11 XM_11 XS_11 RG_11 PG_11
  have TD : Hid (ReadsSf w13.heap.size w13 (some ⟨g13, 0, none⟩) cs) := ho.reads
  clear hb ho
  go_wp2_with fail
  (first | go_at_call 11 | skip)
  refine (eqSfs_any _ _ _ _ cs hlen w13 XD_12.out.reads TD.out).mono ?_
  rintro e w14 ⟨rfl, hb⟩
  have B_13 : Hid (Below w.heap.size w w14) := chain B_12.out hb
  have RW_13 : Hid (RowI w3s.heap.size w4.heap.size w14 q4 L) := RW_12.out.later hb
  have PW_13 : Hid (RsAt w14 b8 q4 L.length c4 us) := PW_12.out.later hb
  have XD_13 : Hid (SfO w5.heap.size w7.heap.size w14 g7 cs) := XD_12.out.later hb
  have XW_13 : Hid (ReadsWk w14.heap.size w14 (some ⟨g7w, 0, none⟩) ws) := XW_12.out.later hb
  have XM_13 : Hid (WkMk w7.heap.size w7w.heap.size w14 g7w ws.length (fun i => (ws.getD i zWk).sk.length)) := XM_12.out.later hb
  have XS_13 : Hid (RowI w7w.heap.size w7s.heap.size w14 (some ⟨g7s, 0, none⟩) ss) := XS_12.out.later hb
  have RG_13 : Hid (RowI w7s.heap.size w8.heap.size w14 q8 L) := RG_12.out.later hb
  have PG_13 : Hid (RsAt w14 b12 q8 L.length c8 us) := PG_12.out.later hb
  clear B_12 RW_12 PW_12 XD_12 XW_12 XM_12 XS_12 RG_12 PG_12
  clear hb TD
  go_wp2_with fail
  (first | go_at_call 9 | skip)
  refine (hTW.out w14 (HW.out.later B_13.out)).mono ?_
  rintro e w14w ⟨g14w, rfl, hb, ho⟩
  have B_14 : Hid (Below w.heap.size w w14w) := chain B_13.out hb
  have RW_14 : Hid (RowI w3s.heap.size w4.heap.size w14w q4 L) := RW_13.out.later hb
  have PW_14 : Hid (RsAt w14w b8 q4 L.length c4 us) := PW_13.out.later hb
  have XD_14 : Hid (SfO w5.heap.size w7.heap.size w14w g7 cs) := XD_13.out.later hb
  have XW_14 : Hid (ReadsWk w14w.heap.size w14w (some ⟨g7w, 0, none⟩) ws) := XW_13.out.later hb
  have XM_14 : Hid (WkMk w7.heap.size w7w.heap.size w14w g7w ws.length (fun i => (ws.getD i zWk).sk.length)) := XM_13.out.later hb
  have XS_14 : Hid (RowI w7w.heap.size w7s.heap.size w14w (some ⟨g7s, 0, none⟩) ss) := XS_13.out.later hb
  have RG_14 : Hid (RowI w7s.heap.size w8.heap.size w14w q8 L) := RG_13.out.later hb
  have PG_14 : Hid (RsAt w14w b12 q8 L.length c8 us) := PG_13.out.later hb
  clear B_13 RW_13 PW_13 XD_13 XW_13 XM_13 XS_13 RG_13 PG_13
  have TW : Hid (ReadsWk w14w.heap.size w14w (some ⟨g14w, 0, none⟩) ws) := ho.reads
  clear hb ho
  go_wp2_with fail
  (first | go_at_call 12 | skip)
  refine (eqWks_any _ _ _ _ ws hlen2 HOK2.out w14w XW_14.out TW.out).mono ?_
  rintro e w14x ⟨rfl, hb⟩
  have B_15 : Hid (Below w.heap.size w w14x) := chain B_14.out hb
  have RW_15 : Hid (RowI w3s.heap.size w4.heap.size w14x q4 L) := RW_14.out.later hb
  have PW_15 : Hid (RsAt w14x b8 q4 L.length c4 us) := PW_14.out.later hb
  have XD_15 : Hid (SfO w5.heap.size w7.heap.size w14x g7 cs) := XD_14.out.later hb
  have XW_15 : Hid (ReadsWk w14x.heap.size w14x (some ⟨g7w, 0, none⟩) ws) := XW_14.out.later hb
  have XM_15 : Hid (WkMk w7.heap.size w7w.heap.size w14x g7w ws.length (fun i => (ws.getD i zWk).sk.length)) := XM_14.out.later hb
  have XS_15 : Hid (RowI w7w.heap.size w7s.heap.size w14x (some ⟨g7s, 0, none⟩) ss) := XS_14.out.later hb
  have RG_15 : Hid (RowI w7s.heap.size w8.heap.size w14x q8 L) := RG_14.out.later hb
  have PG_15 : Hid (RsAt w14x b12 q8 L.length c8 us) := PG_14.out.later hb
  clear B_14 RW_14 PW_14 XD_14 XW_14 XM_14 XS_14 RG_14 PG_14
  clear hb TW
  clear XW_15
  go_wp2_with fail
  (first | go_at_call 14 | skip)
  refine (hTS.out w14x (HS.out.later B_15.out)).mono ?_
  rintro e w14a ⟨g14, rfl, hb, ho⟩
  have B_16 : Hid (Below w.heap.size w w14a) := chain B_15.out hb
  have RW_16 : Hid (RowI w3s.heap.size w4.heap.size w14a q4 L) := RW_15.out.later hb
  have PW_16 : Hid (RsAt w14a b8 q4 L.length c4 us) := PW_15.out.later hb
  have XD_16 : Hid (SfO w5.heap.size w7.heap.size w14a g7 cs) := XD_15.out.later hb
  have XM_16 : Hid (WkMk w7.heap.size w7w.heap.size w14a g7w ws.length (fun i => (ws.getD i zWk).sk.length)) := XM_15.out.later hb
  have XS_16 : Hid (RowI w7w.heap.size w7s.heap.size w14a (some ⟨g7s, 0, none⟩) ss) := XS_15.out.later hb
  have RG_16 : Hid (RowI w7s.heap.size w8.heap.size w14a q8 L) := RG_15.out.later hb
  have PG_16 : Hid (RsAt w14a b12 q8 L.length c8 us) := PG_15.out.later hb
  clear B_15 RW_15 PW_15 XD_15 XM_15 XS_15 RG_15 PG_15
  have TS : Hid (Reads w14a.heap.size w14a (some ⟨g14, 0, none⟩) ss) := ho.reads
  clear hb ho
  go_wp2_with fail
  (first | go_at_call 17 | skip)
  refine (eqZis_any _ _ _ _ ss hssl w14a XS_16.out.reads TS.out).mono ?_
  rintro e w14b ⟨rfl, hb⟩
  have B_17 : Hid (Below w.heap.size w w14b) := chain B_16.out hb
  have RW_17 : Hid (RowI w3s.heap.size w4.heap.size w14b q4 L) := RW_16.out.later hb
  have PW_17 : Hid (RsAt w14b b8 q4 L.length c4 us) := PW_16.out.later hb
  have XD_17 : Hid (SfO w5.heap.size w7.heap.size w14b g7 cs) := XD_16.out.later hb
  have XM_17 : Hid (WkMk w7.heap.size w7w.heap.size w14b g7w ws.length (fun i => (ws.getD i zWk).sk.length)) := XM_16.out.later hb
  have XS_17 : Hid (RowI w7w.heap.size w7s.heap.size w14b (some ⟨g7s, 0, none⟩) ss) := XS_16.out.later hb
  have RG_17 : Hid (RowI w7s.heap.size w8.heap.size w14b q8 L) := RG_16.out.later hb
  have PG_17 : Hid (RsAt w14b b12 q8 L.length c8 us) := PG_16.out.later hb
  clear B_16 RW_16 PW_16 XD_16 XM_16 XS_16 RG_16 PG_16
  clear hb TS
  have hB0w : w.heap.size ≤ w5.heap.size := HBz.out
  go_wp2_with fail
  (first | go_at_call 18 | skip)
  refine (HMF.out _ _ _ w14b XD_17.out).mono ?_
  rintro e w15 ⟨rfl, hs⟩
  clear XD_17
  have B_18 : Hid (Below w.heap.size w w15) := B_17.out.trans (hs.1.mono hB0w)
  have RW_18 : Hid (RowI w3s.heap.size w4.heap.size w15 q4 L) := RW_17.out.below hs.1 (by omega)
  have PW_18 : Hid (RsAt w15 b8 q4 L.length c4 us) := PW_17.out.low hs.1 s85
  have XM_18 : Hid (WkMk w7.heap.size w7w.heap.size w15 g7w ws.length (fun i => (ws.getD i zWk).sk.length)) := wk_apart XM_17.out hs (Nat.le_refl _)
  have XS_18 : Hid (RowI w7w.heap.size w7s.heap.size w15 (some ⟨g7s, 0, none⟩) ss) := XS_17.out.apart hs s7w
  have RG_18 : Hid (RowI w7s.heap.size w8.heap.size w15 q8 L) := RG_17.out.apart hs (by omega)
  have PG_18 : Hid (RsAt w15 b12 q8 L.length c8 us) := PG_17.out.above hs (by omega)
  clear B_17 RW_17 PW_17 XM_17 XS_17 RG_17 PG_17
  clear hs
  go_wp2_with fail
  (first | go_at_call 19 | skip)
  refine (HMW.out _ _ _ w15 XM_18.out).mono ?_
  rintro e w15w ⟨rfl, hs⟩
  clear XM_18
  have B_19 : Hid (Below w.heap.size w w15w) := B_18.out.trans (hs.1.mono (by omega))
  have RW_19 : Hid (RowI w3s.heap.size w4.heap.size w15w q4 L) := RW_18.out.below hs.1 (by omega)
  have PW_19 : Hid (RsAt w15w b8 q4 L.length c4 us) := PW_18.out.low hs.1 (by omega)
  have XS_19 : Hid (RowI w7w.heap.size w7s.heap.size w15w (some ⟨g7s, 0, none⟩) ss) := XS_18.out.apart hs (Nat.le_refl _)
  have RG_19 : Hid (RowI w7s.heap.size w8.heap.size w15w q8 L) := RG_18.out.apart hs (by omega)
  have PG_19 : Hid (RsAt w15w b12 q8 L.length c8 us) := PG_18.out.above hs (by omega)
  clear B_18 RW_18 PW_18 XS_18 RG_18 PG_18
  clear hs
  go_wp2_with fail
  (first | go_at_call 20 | skip)
  refine (markI_any _ _ _ _ ss hssl kW (by omega) w15w XS_19.out).mono ?_
  rintro e w16s ⟨rfl, hs, _⟩
  clear XS_19
  have B_20 : Hid (Below w.heap.size w w16s) := B_19.out.trans (hs.1.mono (by omega))
  have RW_20 : Hid (RowI w3s.heap.size w4.heap.size w16s q4 L) := RW_19.out.below hs.1 (by omega)
  have PW_20 : Hid (RsAt w16s b8 q4 L.length c4 us) := PW_19.out.low hs.1 (by omega)
  have RG_20 : Hid (RowI w7s.heap.size w8.heap.size w16s q8 L) := RG_19.out.apart hs (by omega)
  have PG_20 : Hid (RsAt w16s b12 q8 L.length c8 us) := PG_19.out.above hs (by omega)
  clear B_19 RW_19 PW_19 RG_19 PG_19
  clear hs
  have p1 : ¬ (((kW + ss.length : Nat) : Int) < 0) := by omega
  generalize kW + ss.length = kC at *
  obtain ⟨e0, e1, _⟩ := PW_20.out
  obtain ⟨f0, f1, _⟩ := PG_20.out
  go_wp2_with fail
  (first | go_at_call 16 | skip)
  clear e0 e1 f0 f1
  refine (eqRos_any us q8 q4 c8 c4 L hL w16s RG_20.out.reads RW_20.out.reads).mono ?_
  rintro e w17 ⟨rfl, hb⟩
  have B_21 : Hid (Below w.heap.size w w17) := chain B_20.out hb
  have RW_21 : Hid (RowI w3s.heap.size w4.heap.size w17 q4 L) := RW_20.out.later hb
  have PW_21 : Hid (RsAt w17 b8 q4 L.length c4 us) := PW_20.out.later hb
  have RG_21 : Hid (RowI w7s.heap.size w8.heap.size w17 q8 L) := RG_20.out.later hb
  have PG_21 : Hid (RsAt w17 b12 q8 L.length c8 us) := PG_20.out.later hb
  clear B_20 RW_20 PW_20 RG_20 PG_20
  clear hb
  obtain ⟨f0, f1, _⟩ := PG_21.out
  go_wp2_with fail
  (first | go_at_call 21 | skip)
  clear f0 f1
  refine (markRos_any us w7s.heap.size w8.heap.size q8 c8 L hL w17 RG_21.out (Nat.le_trans s8b (Nat.le_of_lt PG_21.out.2.2)) s78).mono ?_
  rintro e w18 ⟨rfl, hs, hr⟩
  have RM_21 : Hid (RowI w7s.heap.size w8.heap.size w18 q8 (marks 1 L.length)) := hr
  clear RG_21
  have B_22 : Hid (Below w.heap.size w w18) := B_21.out.trans (hs.1.mono (by omega))
  have RW_22 : Hid (RowI w3s.heap.size w4.heap.size w18 q4 L) := RW_21.out.below hs.1 (by omega)
  have PW_22 : Hid (RsAt w18 b8 q4 L.length c4 us) := PW_21.out.low hs.1 (by omega)
  have PG_22 : Hid (RsAt w18 b12 q8 L.length c8 us) := PG_21.out.above hs s8b
  clear B_21 RW_21 PW_21 PG_21
  have RM_22 := RM_21
  clear hs hr RM_21
  have p2 : ¬ (((1 + L.length : Nat) : Int) < 0) := by omega
  have p3 : (((1 + L.length : Nat) : Int) != ((1 + L.length : Nat) : Int)) = false := by simp
  obtain ⟨kL, hkL⟩ : ∃ kL, kL = 1 + L.length := ⟨_, rfl⟩
  have HHd : Hid (∀ W, RowI w7s.heap.size w8.heap.size W q8 (marks 1 L.length) → Calls Try.prog 22 #[.agg #[.slice q8 L.length c8, .int .i64 us], .int .i64 1] W fun e w' => e = .returned (.int .i64 (kL : Int)) ∧ Below W.heap.size W w') := fun W h => by rw [hkL]; exact heldRos_any us _ _ q8 c8 L.length hL W h
  rw [← hkL] at p2 p3 ⊢
  clear hkL
  obtain ⟨f0, f1, _⟩ := PG_22.out
  go_wp2_with fail
  (first | go_at_call 22 | skip)
  clear f0 f1
  refine (HHd.out w18 RM_22.out).mono ?_
  rintro e w19 ⟨rfl, hb⟩
  have B_23 : Hid (Below w.heap.size w w19) := chain B_22.out hb
  have RW_23 : Hid (RowI w3s.heap.size w4.heap.size w19 q4 L) := RW_22.out.later hb
  have PW_23 : Hid (RsAt w19 b8 q4 L.length c4 us) := PW_22.out.later hb
  have PG_23 : Hid (RsAt w19 b12 q8 L.length c8 us) := PG_22.out.later hb
  have RM_23 : Hid (RowI w7s.heap.size w8.heap.size w19 q8 (marks 1 L.length)) := RM_22.out.later hb
  clear B_22 RW_22 PW_22 PG_22 RM_22
  clear hb
  go_wp2_with fail
  (first | go_at_call 8 | skip)
  refine (hTD.out w19 (HD.out.later B_23.out)).mono ?_
  rintro e w21 ⟨g21, rfl, hb, ho⟩
  have B_24 : Hid (Below w.heap.size w w21) := chain B_23.out hb
  have RW_24 : Hid (RowI w3s.heap.size w4.heap.size w21 q4 L) := RW_23.out.later hb
  have PW_24 : Hid (RsAt w21 b8 q4 L.length c4 us) := PW_23.out.later hb
  have PG_24 : Hid (RsAt w21 b12 q8 L.length c8 us) := PG_23.out.later hb
  have RM_24 : Hid (RowI w7s.heap.size w8.heap.size w21 q8 (marks 1 L.length)) := RM_23.out.later hb
  clear B_23 RW_23 PW_23 PG_23 RM_23
  have TD_24 : Hid (ReadsSf w21.heap.size w21 (some ⟨g21, 0, none⟩) cs) := ho.reads
  clear hb ho
  go_wp2_with fail
  (first | go_at_call 9 | skip)
  refine (hTW.out w21 (HW.out.later B_24.out)).mono ?_
  rintro e w21w ⟨g21w, rfl, hb, ho⟩
  have B_25 : Hid (Below w.heap.size w w21w) := chain B_24.out hb
  have RW_25 : Hid (RowI w3s.heap.size w4.heap.size w21w q4 L) := RW_24.out.later hb
  have PW_25 : Hid (RsAt w21w b8 q4 L.length c4 us) := PW_24.out.later hb
  have PG_25 : Hid (RsAt w21w b12 q8 L.length c8 us) := PG_24.out.later hb
  have RM_25 : Hid (RowI w7s.heap.size w8.heap.size w21w q8 (marks 1 L.length)) := RM_24.out.later hb
  have TD_25 : Hid (ReadsSf w21w.heap.size w21w (some ⟨g21, 0, none⟩) cs) := TD_24.out.later hb
  clear B_24 RW_24 PW_24 PG_24 RM_24 TD_24
  have TW_25 : Hid (ReadsWk w21w.heap.size w21w (some ⟨g21w, 0, none⟩) ws) := ho.reads
  clear hb ho
  go_wp2_with fail
  (first | go_at_call 14 | skip)
  refine (hTS.out w21w (HS.out.later B_25.out)).mono ?_
  rintro e w21s ⟨g21s, rfl, hb, ho⟩
  have B_26 : Hid (Below w.heap.size w w21s) := chain B_25.out hb
  have RW_26 : Hid (RowI w3s.heap.size w4.heap.size w21s q4 L) := RW_25.out.later hb
  have PW_26 : Hid (RsAt w21s b8 q4 L.length c4 us) := PW_25.out.later hb
  have PG_26 : Hid (RsAt w21s b12 q8 L.length c8 us) := PG_25.out.later hb
  have RM_26 : Hid (RowI w7s.heap.size w8.heap.size w21s q8 (marks 1 L.length)) := RM_25.out.later hb
  have TD_26 : Hid (ReadsSf w21s.heap.size w21s (some ⟨g21, 0, none⟩) cs) := TD_25.out.later hb
  have TW_26 : Hid (ReadsWk w21s.heap.size w21s (some ⟨g21w, 0, none⟩) ws) := TW_25.out.later hb
  clear B_25 RW_25 PW_25 PG_25 RM_25 TD_25 TW_25
  have TS_26 : Hid (Reads w21s.heap.size w21s (some ⟨g21s, 0, none⟩) ss) := ho.reads
  clear hb ho
  go_wp2_with fail
  (first | go_at_call 15 | skip)
  refine (hIm.out _ _ _ _ _ _ w21s TD_26.out TW_26.out TS_26.out).mono ?_
  rintro e w22 ⟨q22, c22, rfl, o22, hb⟩
  clear TD_26
  clear TW_26
  clear TS_26
  have B_27 : Hid (Below w.heap.size w w22) := chain B_26.out hb
  have RW_27 : Hid (RowI w3s.heap.size w4.heap.size w22 q4 L) := RW_26.out.later hb
  have PW_27 : Hid (RsAt w22 b8 q4 L.length c4 us) := PW_26.out.later hb
  have PG_27 : Hid (RsAt w22 b12 q8 L.length c8 us) := PG_26.out.later hb
  have RM_27 : Hid (RowI w7s.heap.size w8.heap.size w22 q8 (marks 1 L.length)) := RM_26.out.later hb
  clear B_26 RW_26 PW_26 PG_26 RM_26
  have RH_27 : Hid (RowI w21s.heap.size w22.heap.size w22 q22 L) := o22
  clear hb o22
  obtain ⟨w23, hw23⟩ : ∃ w23, w23 = w22.alloc (Obj.cells #[.slice q22 L.length c22, .int .i64 us] 36) := ⟨_, rfl⟩
  obtain ⟨b17, hb17⟩ : ∃ b17, b17 = w22.heap.size := ⟨_, rfl⟩
  have HW23 : Hid (w23 = w22.alloc (Obj.cells #[.slice q22 L.length c22, .int .i64 us] 36) ∧ b17 = w22.heap.size) := ⟨hw23, hb17⟩
  have hb : Below w22.heap.size w22 w23 := by rw [hw23]; exact below_alloc _ _
  have B_28 : Hid (Below w.heap.size w w23) := chain B_27.out hb
  have RW_28 : Hid (RowI w3s.heap.size w4.heap.size w23 q4 L) := RW_27.out.later hb
  have PW_28 : Hid (RsAt w23 b8 q4 L.length c4 us) := PW_27.out.later hb
  have PG_28 : Hid (RsAt w23 b12 q8 L.length c8 us) := PG_27.out.later hb
  have RM_28 : Hid (RowI w7s.heap.size w8.heap.size w23 q8 (marks 1 L.length)) := RM_27.out.later hb
  have RH_28 : Hid (RowI w21s.heap.size w22.heap.size w23 q22 L) := RH_27.out.later hb
  clear B_27 RW_27 PW_27 PG_27 RM_27 RH_27
  have PH_28 : Hid (RsAt w23 b17 q22 L.length c22 us) := by show RsAt _ _ _ _ _ _; rw [hw23, hb17]; exact RsAt.new _ _ _ _ _ _
  clear hb hw23 hb17
  go_upto_region 38 with fail
  rw [← HW23.out.1, ← HW23.out.2]
  clear HW23
  obtain ⟨e0, e1, _⟩ := PW_28.out
  obtain ⟨f0, f1, _⟩ := PH_28.out
  go_wp2_with fail
  (first | go_at_call 16 | skip)
  clear e0 e1 f0 f1
  refine (eqRos_any us q22 q4 c22 c4 L hL w23 RH_28.out.reads RW_28.out.reads).mono ?_
  rintro e w24 ⟨rfl, hb⟩
  have B_29 : Hid (Below w.heap.size w w24) := chain B_28.out hb
  have RW_29 : Hid (RowI w3s.heap.size w4.heap.size w24 q4 L) := RW_28.out.later hb
  have PW_29 : Hid (RsAt w24 b8 q4 L.length c4 us) := PW_28.out.later hb
  have PG_29 : Hid (RsAt w24 b12 q8 L.length c8 us) := PG_28.out.later hb
  have RM_29 : Hid (RowI w7s.heap.size w8.heap.size w24 q8 (marks 1 L.length)) := RM_28.out.later hb
  have RH_29 : Hid (RowI w21s.heap.size w22.heap.size w24 q22 L) := RH_28.out.later hb
  have PH_29 : Hid (RsAt w24 b17 q22 L.length c22 us) := PH_28.out.later hb
  clear B_28 RW_28 PW_28 PG_28 RM_28 RH_28 PH_28
  clear hb
  clear PH_29
  clear RH_29
  clear PW_29
  clear RW_29
  obtain ⟨f0, f1, _⟩ := PG_29.out
  go_wp2_with fail
  (first | go_at_call 22 | skip)
  clear f0 f1
  refine (HHd.out w24 RM_29.out).mono ?_
  rintro e w25 ⟨rfl, hb⟩
  have B_30 : Hid (Below w.heap.size w w25) := chain B_29.out hb
  have PG_30 : Hid (RsAt w25 b12 q8 L.length c8 us) := PG_29.out.later hb
  have RM_30 : Hid (RowI w7s.heap.size w8.heap.size w25 q8 (marks 1 L.length)) := RM_29.out.later hb
  clear B_29 PG_29 RM_29
  clear hb
  go_wp2
  go_ret
  exact ⟨rfl, B_30.out⟩

theorem walk (b : Option Addr) (lb cb : Nat) (cs : List RSf) (d : Option Addr) (ld cd : Nat) (ws : List CWk) (c : Option Addr) (lc cc : Nat) (zs : List Int) (w : World) (i : IsSfs w b lb cb cs) (j : IsWks w d ld cd ws) (k : IsRow .i64 w c lc cc zs) :
    Calls Try.prog 4 #[.slice b lb cb, .slice d ld cd, .slice c lc cc] w fun e w' => e = .returned (.bool true) ∧ Below w.heap.size w w' := by
  obtain ⟨rfl, i2, i3, i4, i5⟩ := i
  obtain ⟨rfl, j2, j3, j4, j5⟩ := j
  obtain ⟨k1, k2, k3, k4⟩ := reads_of_row k
  have := walk' b cb cs (Nat.le_trans i2 i3) i4 d cd ws (Nat.le_trans j2 j3) j4 c cc (zs.take lc) (by rw [k1]; exact Nat.le_trans k2 k3) w i5 j5 k4
  rw [k1] at this
  exact this

theorem own : ownKnob Try.prog.godebug = none := by kernel_rfl
theorem laidOut : laidOutB Try.prog = true := by kernel_rfl

set_option maxRecDepth 100000 in
theorem lifted (os : Os) (started : os.Started) (H : Type) (enc : TypeId × Value → H) :
    ReturnsInHanded {} Try.checked os 4 .any (Rows.fnExactRosterOfSpec.pre6 enc Try.prog Try.f4 Rows.fnExactRosterOfRow.domain false) (Rows.fnExactRosterOfSpec.post enc Try.prog Try.f4 false true false false) := by
  refine returnsInHanded_of_change (C := Try.checked) own started (by kernel_rfl) Try.func4
    (ChangeSpec.witness6 (enc := enc) (C := Try.checked) false ⟨#[], #[.slice none 0 0, .slice none 0 0, .slice none 0 0], []⟩ 8 (by kernel_rfl) (by kernel_rfl) (by kernel_rfl) (by kernel_rfl)) ?_
  intro W base args ds gs before hval0 hW hcnd _
  have hval : ∀ (j : Nat) t v, Try.f4.params[j]? = some t → args[j]? = some v → Value.okWide Try.prog W .any base t v := hval0
  have hW' := hW
  obtain ⟨p, q, hA0, hV, rfl, hfz, hnd⟩ := hW
  have hA : DataW.TrodAll enc Try.prog W 0 (fun _ => true) true Try.f4.params.toList args.toList ds p := hA0
  rw [Try.params4] at hA hval
  obtain ⟨v0, vs0, d0, ds0, p0, q0, hargs, rfl, rfl, h0, r0⟩ := trodAll_cons hA
  obtain ⟨v1, vs1, d1, ds1, p1, q1, rfl, rfl, rfl, h1, r1⟩ := trodAll_cons r0
  obtain ⟨v2, vs2, d2, ds2, p2, q2, rfl, rfl, rfl, h2, r2⟩ := trodAll_cons r1
  obtain ⟨rfl, rfl, rfl⟩ := trodAll_nil r2
  obtain rfl : args = #[v0, v1, v2] := by cases args; simp_all
  obtain ⟨rfl, rfl⟩ := trodVars_none hV
  have k0 := h0
  have lt0 : ∀ x ∈ p0, x.block < W.heap.size := by obtain ⟨m, hm⟩ := k0; exact DataW.trod_lt m _ _ _ hm
  have k1 := h1
  have lt1 : ∀ x ∈ p1, x.block < W.heap.size := by obtain ⟨m, hm⟩ := k1; exact DataW.trod_lt m _ _ _ hm
  have k2 := h2
  have lt2 : ∀ x ∈ p2, x.block < W.heap.size := by obtain ⟨m, hm⟩ := k2; exact DataW.trod_lt m _ _ _ hm
  obtain ⟨a0, len0, cap0, rfl⟩ := okWide_slice Try.underlying22 (hval 0 22 v0 rfl rfl)
  obtain ⟨z0, w0⟩ : ∃ zs, IsSfs W a0 len0 cap0 zs := by
    obtain ⟨fuel, hf⟩ := h0
    exact openSfs (by simpa [Value.cells] using hf)
  obtain ⟨a1, len1, cap1, rfl⟩ := okWide_slice Try.underlying23 (hval 1 23 v1 rfl rfl)
  obtain ⟨z1, w1⟩ : ∃ zs, IsWks W a1 len1 cap1 zs := by
    obtain ⟨fuel, hf⟩ := h1
    exact openWks (by simpa [Value.cells] using hf)
  obtain ⟨a2, len2, cap2, rfl⟩ := okWide_slice Try.underlying34 (hval 2 34 v2 rfl rfl)
  obtain ⟨z2, w2⟩ : ∃ zs, IsRow .i64 W a2 len2 cap2 zs := by
    obtain ⟨fuel, hf⟩ := h2
    rcases open_ints Try.underlying34 Try.underlying3 (by kernel_rfl) hf with ⟨hcs, _⟩ | ⟨x, l, c, zs, hcs, _, hl, hm, hz, _, hcell, hwz⟩
    · simp [Value.cells] at hcs
      obtain ⟨rfl, rfl, rfl⟩ := hcs
      exact ⟨[], .inl ⟨rfl, rfl, rfl, rfl⟩⟩
    · simp [Value.cells] at hcs
      obtain ⟨rfl, rfl, rfl⟩ := hcs
      exact ⟨zs, .inr ⟨_, rfl, hl, hm, by simpa using hz, hcell, hwz⟩⟩
  clear hA0 hval0
  refine (walk a0 len0 cap0 z0 a1 len1 cap1 z1 a2 len2 cap2 z2 W w0 w1 w2).mono fun e W' ⟨he, bel⟩ => ?_
  subst he
  exact ⟨_, rfl, _, _, _, [], _, [], hW', trodAll_mk1 (shut_bool Try.underlying4 _), (trodAll_cons_mk (Below.trod laidOut (by kernel_rfl) (of_decide_eq_true (by kernel_rfl)) k0 bel lt0) (trodAll_cons_mk (Below.trod laidOut (by kernel_rfl) (of_decide_eq_true (by kernel_rfl)) k1 bel lt1) (trodAll_cons_mk (Below.trod laidOut (by kernel_rfl) (of_decide_eq_true (by kernel_rfl)) k2 bel lt2) trodAll_mk0))), rfl, bel.frame _, fun h => by cases h⟩

theorem over : Rows.fnExactRosterOfRow.holds Try.pinned (OpenSpec.ofChange Rows.fnExactRosterOfSpec) :=
  OpenClaim.holds_of_wide 4 Try.f4 rfl rfl rfl rfl rfl rfl rfl ⟨rfl, rfl, rfl, rfl, rfl⟩ rfl rfl rfl rfl rfl (by kernel_rfl) Try.func4 (by kernel_rfl)
    (of_decide_eq_true (by kernel_rfl)) (by unfold Func.isWrapper; first | (rw [if_pos (by decide +kernel)]; kernel_rfl) | (rw [if_neg (by decide +kernel)]; exact ⟨rfl, rfl⟩))
    (fun os started H enc _ => lifted os started H enc)
end RosterLaw

theorem fnExactRosterOf_holds : Rows.FnExactRosterOfSaid := RosterLaw.over
end Go.Proofs.Yteigbmdhfeagfaa
