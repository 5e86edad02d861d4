/-
  Contracts of the program's oneDayMore, oddsOf, tableOK, oddsFault, Odds, for all arguments.
-/
import Derived.Test.YtjdjopikljdigaaQoA
import Derived.Test.YtjdjopikljdigaaQsB
namespace Go.Proofs.Ytjdjopikljdigaa
open Go.ChangeShapes Go.WideShapes Go.ChangeAt Go.RowKit Go.Joins
set_option linter.unusedVariables false

/-- A list of numbers in memory of its own is answered. -/
def AnsV (w : World) (L : List Int) (e : Ending) (w' : World) : Prop := ∃ g cp, e = .returned (.slice g L.length cp) ∧ Own2 w.heap.size w' g L ∧ Below w.heap.size w w'
/-- .. and there is room for it. -/
def AnsVC (w : World) (L : List Int) (e : Ending) (w' : World) : Prop := ∃ g cp, e = .returned (.slice g L.length cp) ∧ Own2 w.heap.size w' g L ∧ Below w.heap.size w w' ∧ L.length ≤ cp
theorem AnsVC.weak {w : World} {L : List Int} {e : Ending} {w' : World} (h : AnsVC w L e w') : AnsV w L e w' := by
  obtain ⟨g, cp, h1, h2, h3, _⟩ := h
  exact ⟨g, cp, h1, h2, h3⟩
/-- A row of n numbers in a block. -/
def RwQ (w : World) (b n : Nat) (f : Nat → Int) : Prop := w.rowIs b 3 n (fun i => .int .i64 (f i))
/-- A row of numbers that is being made, in block nb, since w. -/
structure RqSt (w : World) (nb n : Nat) (f : Nat → Int) (W : World) : Prop where
  row : RwQ W nb n f
  bel : Below w.heap.size w W
  new : w.heap.size ≤ nb
theorem RqSt.congr {w W : World} {nb n : Nat} {f g : Nat → Int} (h : RqSt w nb n f W) (e : ∀ i, i < n → f i = g i) : RqSt w nb n g W := ⟨World.rowIs.congr h.row (fun i hi => by rw [e i hi]), h.bel, h.new⟩
theorem RqSt.put {w W : World} {nb n : Nat} {f : Nat → Int} (h : RqSt w nb n f W) (i : Nat) (x : Int) : RqSt w nb n (fun j => if j = i then x else f j) (W.setCell ⟨nb, i, none⟩ (.int .i64 x)) := by
  refine ⟨World.rowIs.congr (World.rowIs.set h.row i (.int .i64 x)) (fun j hj => ?_), h.bel.setCell h.new _, h.new⟩
  dsimp only
  split <;> rfl
theorem RqSt.later {w W W' : World} {nb n : Nat} {f : Nat → Int} (h : RqSt w nb n f W) (hb : Below W.heap.size W W') : RqSt w nb n f W' := ⟨World.rowIs.of_block h.row (hb.block nb h.row.lt), chain h.bel hb, h.new⟩
theorem RqSt.own2 {w W : World} {nb n : Nat} {f : Nat → Int} (h : RqSt w nb n f W) {L : List Int} (hn : n = L.length) (hf : ∀ i, i < n → f i = gF L i) : Own2 w.heap.size W (some ⟨nb, 0, none⟩) L := by
  refine .inr ⟨nb, rfl, h.new, h.row.lt, fun i hi => ?_, fun i hi => ?_⟩
  · rw [Nat.zero_add, h.row.cell (i := i) (by omega), hf i (by omega)]; rfl
  · rw [Nat.zero_add]; exact h.row.frozen i
theorem RqSt.made (w : World) (n : Nat) : RqSt w w.heap.size n (fun _ => 0) (w.alloc (Obj.cells (madeCells #[.int .i64 0] n) 3)) := ⟨World.rowIs_made w (.int .i64 0) n 3, below_alloc _ _, Nat.le_refl _⟩
/-- One cell of one day more is met: what is there, what comes, and where it goes. -/
theorem ad_step (x : Int) (tb : Nat → Int) (k : Nat) (f : Nat → Int) (j : Nat) : ∀ i, (if i = k + j then adR x tb k f j (k + j) + x * tb j else adR x tb k f j i) = adR x tb k f (j + 1) i := fun i => rfl
set_option maxHeartbeats 4000000 in
set_option maxRecDepth 4000 in
theorem oneDay_any (a b : Option Addr) (ca cb : Nat) (od tb : List Int) (h1 : 1 ≤ od.length) (h2 : od.length ≤ 100) (h3 : 1 ≤ tb.length) (h4 : tb.length ≤ 13) (ho : ∀ x ∈ od, 0 ≤ x) (ht : ∀ x ∈ tb, 0 ≤ x ∧ x ≤ 30) (hs : sL od * sL tb ≤ 9022419900000) (hs1 : sL od ≤ 9022419900000) (w : World) (hr : Reads w.heap.size w a od) (kr : Reads w.heap.size w b tb) :
    Calls Try.prog 58 #[.slice a od.length ca, .slice b tb.length cb] w (AnsVC w (cvL od tb)) := by
  obtain ⟨n, hn⟩ : ∃ n : Nat, n = od.length + tb.length - 1 := ⟨_, rfl⟩
  have HO0 := gF_nonneg ho
  have HT0 := gF_nonneg (fun x hx => (ht x hx).1)
  have HCb : Hid (∀ k j p, k < od.length → j ≤ tb.length → p < n → 0 ≤ adR (gF od k) (gF tb) k (cvR (gF od) (gF tb) tb.length k) j p ∧ adR (gF od k) (gF tb) k (cvR (gF od) (gF tb) tb.length k) j p ≤ 9022419900000) := fun k j p hk hj hp => by
    have := cell_bound (n := n) HO0 HT0 hk hj (by omega) p hp
    exact ⟨this.1, Int.le_trans this.2 hs⟩
  have HOb : Hid (∀ k, k < od.length → 0 ≤ gF od k ∧ gF od k ≤ 9022419900000) := fun k hk => ⟨HO0 k, Int.le_trans (sN_at HO0 hk) hs1⟩
  have HTb : Hid (∀ j, j < tb.length → 0 ≤ gF tb j ∧ gF tb j ≤ 30) := fun j hj => getD_bound ht j hj
  have HLen : Hid ((cvL od tb).length = n) := by show _ = _; rw [cvL_length, hn]
  have HFin : Hid (∀ i, i < n → cvR (gF od) (gF tb) tb.length od.length i = gF (cvL od tb) i) := fun i hi => (cvL_at od tb (by omega)).symm
  have hmk := fun w => run_make_row' (P := Try.prog) 23 3 (.int .i64 0) 8 Try.underlying23 intInfo rfl .i64 .i64 n (by omega) (by omega) w
  have hwr : IntKind.i64.wrap ((od.length : Int) + (tb.length : Int)) = (od.length : Int) + (tb.length : Int) := wrap_id _ (by omega) (by omega)
  have hwr2 : IntKind.i64.wrap ((od.length : Int) + (tb.length : Int) - 1) = (n : Int) := by rw [wrap_id _ (by omega) (by omega)]; omega
  have H0 : Hid (RqSt w w.heap.size n (cvR (gF od) (gF tb) tb.length 0) (w.alloc (Obj.cells (madeCells #[.int .i64 0] n) 3))) := RqSt.made w n
  have HR : Hid (Reads w.heap.size w a od) := hr
  have HK : Hid (Reads w.heap.size w b tb) := kr
  clear hr kr ho ht hs hs1 HO0 HT0
  obtain ⟨nb, hnb⟩ : ∃ nb, nb = w.heap.size := ⟨_, rfl⟩
  have HNB : Hid (nb = w.heap.size) := hnb
  clear hnb
  have hln : n ≤ 112 := by omega
  have HSum : Hid (od.length + tb.length = n + 1) := by show _ = _; omega
  clear hn
  go_enter Try.func58, Try.ntmps58
  go_upto_region 3 with fail
  rw [← HNB.out] at H0 ⊢
  clear hmk hwr hwr2
  generalize w.alloc (Obj.cells (madeCells #[.int .i64 0] n) 3) = W1 at *
  go_loopw [6, 7, 8, 9, 19] (fun _ _ _ _ c wr => ∃ k : Nat, k ≤ od.length ∧ c = .int .i64 (k : Int) ∧ RqSt w nb n (cvR (gF od) (gF tb) tb.length k) wr) (fun _ _ _ _ c _ => od.length - (intOf c).toNat)
  case atStart => exact ⟨0, Nat.zero_le _, rfl, H0.out⟩
  case round =>
    clear H0
    obtain ⟨k, hk, rfl, hst⟩ := hrel
    have HS : Hid (RqSt w nb n (cvR (gF od) (gF tb) tb.length k) wr) := hst
    clear hst
    by_cases hlt : k < od.length
    · have hlt' : (k : Int) < (od.length : Int) := by omega
      rcases HR.out with h | ⟨b0, o0, ha, hB0, ia⟩
      · rw [h] at hlt; simp at hlt
      have c0 : wr.cell? ⟨b0, o0 + k, none⟩ = some (.int .i64 (gF od k)) := (ia.below HS.out.bel hB0) k hlt
      have hx := HOb.out k hlt
      have HS1 : Hid (RqSt w nb n (adR (gF od k) (gF tb) k (cvR (gF od) (gF tb) tb.length k) 0) wr) := HS.out
      have HS2 : Hid (∀ W, RqSt w nb n (adR (gF od k) (gF tb) k (cvR (gF od) (gF tb) tb.length k) tb.length) W → RqSt w nb n (cvR (gF od) (gF tb) tb.length (k + 1)) W) := fun W h => h
      have HC2 : Hid (∀ j p, j ≤ tb.length → p < n → 0 ≤ adR (gF od k) (gF tb) k (cvR (gF od) (gF tb) tb.length k) j p ∧ adR (gF od k) (gF tb) k (cvR (gF od) (gF tb) tb.length k) j p ≤ 9022419900000) := fun j p => HCb.out k j p hlt
      rw [ha]
      clear ia HS
      generalize cvR (gF od) (gF tb) tb.length k = f0 at *
      generalize gF od k = x at *
      go_upto_region 6 with fail
      clear c0
      go_loopw [8, 9, 26] (fun _ _ c wj => ∃ j : Nat, j ≤ tb.length ∧ c = .int .i64 (j : Int) ∧ RqSt w nb n (adR x (gF tb) k f0 j) wj) (fun _ _ c _ => tb.length - (intOf c).toNat)
      case atStart => exact ⟨0, Nat.zero_le _, rfl, HS1.out⟩
      case round =>
        clear HS1
        obtain ⟨j, hj, rfl, hst⟩ := hrel
        have HS : Hid (RqSt w nb n (adR x (gF tb) k f0 j) wr) := hst
        clear hst
        by_cases hjl : j < tb.length
        · have hjl' : (j : Int) < (tb.length : Int) := by omega
          rcases HK.out with h | ⟨b1, o1, hb, hB1, ib⟩
          · rw [h] at hjl; simp at hjl
          have c1 : wr.cell? ⟨b1, o1 + j, none⟩ = some (.int .i64 (gF tb j)) := (ib.below HS.out.bel hB1) j hjl
          have hp : k + j < n := by have := HSum.out; omega
          have c2 : wr.cell? ⟨nb, k + j, none⟩ = some (.int .i64 (adR x (gF tb) k f0 j (k + j))) := HS.out.row.cell (i := k + j) hp
          have f2 : wr.frozen? ⟨nb, k + j, none⟩ = false := HS.out.row.frozen _
          have hy := HTb.out j hjl
          have hz := HC2.out j (k + j) (by omega) hp
          have HP : Hid (RqSt w nb n (adR x (gF tb) k f0 (j + 1)) (wr.setCell ⟨nb, k + j, none⟩ (.int .i64 (adR x (gF tb) k f0 j (k + j) + x * gF tb j)))) := HS.out.put (k + j) _
          rw [hb]
          clear ib HS
          have m1 : 0 ≤ x * gF tb j := Int.mul_nonneg hx.1 hy.1
          have m2 : x * gF tb j ≤ x * 30 := Int.mul_le_mul_of_nonneg_left hy.2 hx.1
          generalize adR x (gF tb) k f0 j (k + j) = z at *
          have e0 : IntKind.i64.wrap ((k : Int) + (j : Int)) = ((k + j : Nat) : Int) := by rw [wrap_id _ (by omega) (by omega)]; omega
          have e1 : IntKind.i64.wrap (x * gF tb j) = x * gF tb j := wrap_id _ (by omega) (by omega)
          have e2 : IntKind.i64.wrap (z + x * gF tb j) = z + x * gF tb j := wrap_id _ (by omega) (by omega)
          have hp' : ((k + j : Nat) : Int) < (n : Int) := by omega
          generalize gF tb j = y at *
          generalize hkj : k + j = p at *
          go_wp2_with fail
          generalize wr.setCell ⟨nb, p, none⟩ (.int .i64 (z + x * y)) = wz at *
          go_roundw
          case rel => exact ⟨j + 1, by omega, by go_num, HP.out⟩
          case measure => simp [intOf]; omega
        · have hjl' : ¬ (j : Int) < (tb.length : Int) := by omega
          obtain rfl : j = tb.length := by omega
          have HN : Hid (RqSt w nb n (cvR (gF od) (gF tb) tb.length (k + 1)) wr) := HS2.out _ HS.out
          clear HS
          go_wp2_with fail
          go_roundw
          case rel => exact ⟨k + 1, by omega, by go_num, HN.out⟩
          case measure => simp [intOf]; omega
    · have hlt' : ¬ (k : Int) < (od.length : Int) := by omega
      obtain rfl : k = od.length := by omega
      go_wp2_with fail
      go_ret
      exact ⟨some ⟨nb, 0, none⟩, n, by rw [HLen.out]; rfl, HS.out.own2 HLen.out.symm HFin.out, HS.out.bel, by rw [HLen.out]; exact Nat.le_refl _⟩
theorem own2_one (w : World) (x : Int) : Own2 w.heap.size (w.alloc (Obj.cells #[.int .i64 x] 3)) (some ⟨w.heap.size, 0, none⟩) [x] := by
  refine .inr ⟨w.heap.size, rfl, Nat.le_refl _, by simp, fun i hi => ?_, fun i hi => ?_⟩
  · obtain rfl : i = 0 := by simpa using hi
    simp
  · rw [Nat.zero_add]
    exact blkFree (heapNew w _) i
set_option maxHeartbeats 4000000 in
theorem oddsOf_any (a : Option Addr) (ca : Nat) (tb : List Int) (d : Nat) (hr1 : OdR tb (d : Int)) (w : World) (hr : Reads w.heap.size w a tb) :
    Calls Try.prog 41 #[.slice a tb.length ca, .int .i64 (d : Int)] w (AnsVC w (odD tb d)) := by
  obtain ⟨l1, l2, al, d1, d2⟩ := hr1
  have hm := al_mem al
  have HOne : Hid (∀ (k : Nat) g cp W, k < d → Own2 w.heap.size W g (odD tb k) → Below w.heap.size w W → Calls Try.prog 58 #[.slice g (odD tb k).length cp, .slice a tb.length ca] W (AnsVC W (odD tb (k + 1)))) := fun k g cp W hk ho hb => by
    have hl := od_len_le (d := k) l1 l2 (by omega)
    have st := sL_table al l2
    have e1 : sL (odD tb k) * sL tb = pwI (sL tb) (k + 1) := by rw [sL_od l1 k]; rfl
    have p1 := pw_bound st.1 st.2 (k + 1)
    have p2 := pw_bound st.1 st.2 k
    have b1 := bnd_five (k + 1) (by omega)
    have b2 := bnd_five k (by omega)
    exact oneDay_any g a cp ca (odD tb k) tb hl.1 (by omega) l1 l2 (odD_nonneg (fun x hx => (hm x hx).1) k) hm (by rw [e1]; omega) (by rw [sL_od l1 k]; omega) W ho.reads ((hr.below hb).mono hb.size)
  have H0 : Hid (Own2 w.heap.size (w.alloc (Obj.cells #[.int .i64 1] 3)) (some ⟨w.heap.size, 0, none⟩) (odD tb 0)) := own2_one w 1
  have HB0 : Hid (Below w.heap.size w (w.alloc (Obj.cells #[.int .i64 1] 3))) := below_alloc _ _
  have HL0 : Hid ((odD tb 0).length = 1) := rfl
  clear hr hm al
  go_enter Try.func41, Try.ntmps41
  go_wp2_with fail
  generalize w.alloc (Obj.cells #[.int .i64 1] 3) = W1 at *
  obtain ⟨b0, hb0⟩ : ∃ b0, b0 = w.heap.size := ⟨_, rfl⟩
  go_loopw [5, 8] (fun v c wr => ∃ (k : Nat) (g : Option Addr) (cp : Nat), k ≤ d ∧ c = .int .i64 (k : Int) ∧ v = .slice g (odD tb k).length cp ∧ Own2 w.heap.size wr g (odD tb k) ∧ Below w.heap.size w wr ∧ (odD tb k).length ≤ cp) (fun _ c _ => d - (intOf c).toNat)
  case atStart => exact ⟨0, _, _, Nat.zero_le _, rfl, by rw [HL0.out], H0.out, HB0.out, by rw [HL0.out]; exact Nat.le_refl _⟩
  case round =>
    clear H0 HB0 HL0 hb0
    obtain ⟨k, g, cp, hk, rfl, rfl, ho, hb, hcp⟩ := hrel
    have HCP : Hid ((odD tb k).length ≤ cp) := hcp
    have HO : Hid (Own2 w.heap.size wr g (odD tb k)) := ho
    have HB : Hid (Below w.heap.size w wr) := hb
    clear ho hb hcp
    by_cases hlt : k < d
    · have hlt' : (k : Int) < (d : Int) := by omega
      have HC : Hid (Calls Try.prog 58 #[.slice g (odD tb k).length cp, .slice a tb.length ca] wr (AnsVC wr (odD tb (k + 1)))) := HOne.out k g cp wr hlt HO.out HB.out
      go_wp2_with (go_at_call 58; refine HC.out.mono ?_; rintro e w2 ⟨g2, cp2, rfl, ho2, hb2, hc2⟩; have HC2 : Hid ((odD tb (k + 1)).length ≤ cp2) := hc2; have HO2 : Hid (Own2 w.heap.size w2 g2 (odD tb (k + 1))) := own2_mono ho2 HB.out.size; have HB2 : Hid (Below w.heap.size w w2) := chain HB.out hb2; clear ho2 hb2 hc2)
      exact ⟨⟨k + 1, g2, cp2, by omega, by go_num, rfl, HO2.out, HB2.out, HC2.out⟩, by simp [intOf]; omega⟩
    · have hlt' : ¬ (k : Int) < (d : Int) := by omega
      obtain rfl : k = d := by omega
      go_wp2_with fail
      go_ret
      exact ⟨g, cp, rfl, HO.out, HB.out, HCP.out⟩
set_option maxHeartbeats 2000000 in
theorem tableOK_any (a : Option Addr) (ca : Nat) (tb : List Int) (hl : tb.length ≤ 100000000) (w : World) (hr : Reads w.heap.size w a tb) :
    Calls Try.prog 57 #[.slice a tb.length ca] w fun e w' => e = .returned (.bool (tbB tb)) ∧ Below w.heap.size w w' := by
  have H1 : Hid (∀ W, Calls Try.prog 35 #[.agg #[.int .i64 1, .int .i64 13], .int .i64 (tb.length : Int)] W fun e w' => e = .returned (.bool (inB (tb.length : Int) 1 13)) ∧ Below W.heap.size W w') := fun W => qSpan_any 1 13 _ W
  have H2 : Hid (∀ W, Below w.heap.size w W → Calls Try.prog 52 #[.agg #[.int .i64 0, .int .i64 30], .slice a tb.length ca] W fun e w' => e = .returned (.bool (alB 0 30 tb)) ∧ Below W.heap.size W w') := fun W hb => hasAll_any 0 30 a ca tb hl W ((hr.below hb).mono hb.size)
  unfold tbB
  clear hr
  generalize inB (tb.length : Int) 1 13 = b1 at *
  generalize alB 0 30 tb = b2 at *
  cases b1
  · go_enter Try.func57, Try.ntmps57
    go_wp2_with (go_at_call 35; refine (H1.out _).mono ?_; rintro e w2 ⟨rfl, hb2⟩)
    go_ret
    refine ⟨rfl, chain ?_ hb2⟩
    repeat (first | exact Below.refl _ _ | exact below_alloc _ _ | refine Below.setCell ?_ (by dsimp only; simp <;> omega) _ | refine chain ?_ (below_alloc _ _))
  · go_enter Try.func57, Try.ntmps57
    go_wp2_with fail
    (first | go_at_call 35 | skip)
    refine (H1.out _).mono ?_
    rintro e w2 ⟨rfl, hb2⟩
    have hbx := chain (chain (below_alloc w (Obj.cells #[.int .i64 1, .int .i64 13] 57)) (below_alloc _ (Obj.cells #[.int .i64 0, .int .i64 30] 57))) hb2
    have hq := hb2.block (w.heap.size + 1) (by simp)
    rw [show w.heap.size + 1 = (w.alloc (Obj.cells #[.int .i64 1, .int .i64 13] 57)).heap.size from by simp, heapNew] at hq
    have q0 := blkCell hq 0 _ rfl
    have q1 := blkCell hq 1 _ rfl
    simp only [World.size_alloc, List.getElem_toArray, List.getElem_cons_zero, List.getElem_cons_succ] at q0 q1
    have HBx : Hid (Below w.heap.size w w2) := hbx
    clear hb2 hbx hq H1
    go_wp2_with (go_at_call 52; refine (H2.out _ HBx.out).mono ?_; rintro e w3 ⟨rfl, hb3⟩)
    go_ret
    exact ⟨rfl, chain HBx.out hb3⟩
set_option maxHeartbeats 2000000 in
theorem oddsFault_any (a : Option Addr) (ca : Nat) (tb : List Int) (days : Int) (hl : tb.length ≤ 100000000) (w : World) (hr : Reads w.heap.size w a tb) :
    Calls Try.prog 40 #[.slice a tb.length ca, .int .i64 days] w fun e w' => e = .returned (.int .i64 (odC tb days)) ∧ Below w.heap.size w w' := by
  have H1 : Hid (∀ W, Below w.heap.size w W → Calls Try.prog 57 #[.slice a tb.length ca] W fun e w' => e = .returned (.bool (tbB tb)) ∧ Below W.heap.size W w') := fun W hb => tableOK_any a ca tb hl W ((hr.below hb).mono hb.size)
  have H2 : Hid (∀ W, Calls Try.prog 35 #[.agg #[.int .i64 1, .int .i64 5], .int .i64 days] W fun e w' => e = .returned (.bool (inB days 1 5)) ∧ Below W.heap.size W w') := fun W => qSpan_any 1 5 _ W
  have HE : Hid (odC tb days = if 4096 < tb.length then 2 else if (tbB tb && inB days 1 5) = true then 0 else 1) := rfl
  generalize odC tb days = c at *
  clear hr
  by_cases h : 4096 < tb.length
  · have h' : (4096 : Int) < (tb.length : Int) := by omega
    rw [if_pos h] at HE
    obtain rfl : c = 2 := HE.out
    go_enter Try.func40, Try.ntmps40
    go_wp2
    go_ret
    exact ⟨rfl, Below.refl _ _⟩
  have h' : ¬ (4096 : Int) < (tb.length : Int) := by omega
  rw [if_neg h] at HE
  generalize tbB tb = b1 at *
  generalize inB days 1 5 = b2 at *
  cases b1
  · obtain rfl : c = 1 := HE.out
    go_enter Try.func40, Try.ntmps40
    go_wp2_with (go_at_call 57; refine (H1.out _ (below_alloc _ _)).mono ?_; rintro e w2 ⟨rfl, hb2⟩)
    go_ret
    exact ⟨rfl, chain (below_alloc _ _) hb2⟩
  · have hq : (if (true && b2) = true then (0 : Int) else 1) = if b2 = true then 0 else 1 := by cases b2 <;> rfl
    rw [hq] at HE
    clear hq
    go_enter Try.func40, Try.ntmps40
    go_wp2_with fail
    (first | go_at_call 57 | skip)
    refine (H1.out _ (below_alloc _ _)).mono ?_
    rintro e w2 ⟨rfl, hb2⟩
    have hq := hb2.block w.heap.size (by simp)
    rw [heapNew] at hq
    have q0 := blkCell hq 0 _ rfl
    have q1 := blkCell hq 1 _ rfl
    simp only [List.getElem_toArray, List.getElem_cons_zero, List.getElem_cons_succ] at q0 q1
    have HBx : Hid (Below w.heap.size w w2) := chain (below_alloc _ _) hb2
    clear hb2 hq H1
    cases b2
    · obtain rfl : c = 1 := HE.out
      go_wp2_with (go_at_call 35; refine (H2.out _).mono ?_; rintro e w3 ⟨rfl, hb3⟩)
      go_ret
      exact ⟨rfl, chain HBx.out hb3⟩
    · obtain rfl : c = 0 := HE.out
      go_wp2_with (go_at_call 35; refine (H2.out _).mono ?_; rintro e w3 ⟨rfl, hb3⟩)
      go_ret
      exact ⟨rfl, chain HBx.out hb3⟩
theorem implOdds_cap (a : Option Addr) (ca : Nat) (tb : List Int) (days : Int) (hl : tb.length ≤ 100000000) (w : World) (hr : Reads w.heap.size w a tb) :
    Calls Try.prog 17 #[.slice a tb.length ca, .int .i64 days] w (AnsLC w (odL tb days) (odC tb days)) := by
  have H1 : Hid (Calls Try.prog 40 #[.slice a tb.length ca, .int .i64 days] w fun e w' => e = .returned (.int .i64 (odC tb days)) ∧ Below w.heap.size w w') := oddsFault_any a ca tb days hl w hr
  have HO : Hid (odB tb days = true → ∀ W, Below w.heap.size w W → Calls Try.prog 41 #[.slice a tb.length ca, .int .i64 days] W (AnsVC W (odD tb days.toNat))) := fun hb W hW => by
    have r := od_right hb
    have e : ((days.toNat : Nat) : Int) = days := by have := r.d1; omega
    have := oddsOf_any a ca tb days.toNat (by rw [e]; exact r) W ((hr.below hW).mono hW.size)
    rwa [e] at this
  clear hr
  rcases od_ways tb days with ⟨h1, h2, h3⟩ | ⟨h1, h0, h2, h3⟩ | ⟨h1, h0, h2, h3⟩ <;> rw [h2] at H1 ⊢ <;> rw [h3] <;> clear h2 h3
  · go_enter Try.func17, Try.ntmps17
    go_wp2_with (go_at_call 40; refine H1.out.mono ?_; rintro e w2 ⟨rfl, hb2⟩)
    go_ret2
    exact AnsLC.nil _ _ hb2
  · go_enter Try.func17, Try.ntmps17
    go_wp2_with (go_at_call 40; refine H1.out.mono ?_; rintro e w2 ⟨rfl, hb2⟩)
    go_ret2
    exact AnsLC.nil _ _ hb2
  · have HO2 : Hid (∀ W, Below w.heap.size w W → Calls Try.prog 41 #[.slice a tb.length ca, .int .i64 days] W (AnsVC W (odD tb days.toNat))) := HO.out h0
    clear HO h0
    generalize odD tb days.toNat = L at *
    go_enter Try.func17, Try.ntmps17
    go_wp2_with (first | (go_at_call 40; refine H1.out.mono ?_; rintro e w2 ⟨rfl, hb2⟩) | (go_at_call 41; refine (HO2.out _ hb2).mono ?_; rintro e w3 ⟨g, cp, rfl, ho3, hb3, hc3⟩))
    go_ret2
    exact ⟨g, cp, rfl, own2_mono ho3 hb2.size, chain hb2 hb3, hc3⟩
theorem implOdds_any (a : Option Addr) (ca : Nat) (tb : List Int) (days : Int) (hl : tb.length ≤ 100000000) (w : World) (hr : Reads w.heap.size w a tb) :
    Calls Try.prog 17 #[.slice a tb.length ca, .int .i64 days] w (AnsL w (odL tb days) (odC tb days)) := (implOdds_cap a ca tb days hl w hr).mono (fun _ _ h => h.weak)
end Go.Proofs.Ytjdjopikljdigaa
