/-
  Contract of the program's neverTogether.
-/
import Derived.Test.YtfofdeenpcbglaaRwD
import Derived.Test.YtfofdeenpcbglaaRoC
namespace Go.Proofs.Ytfofdeenpcbglaa
open Go.ChangeShapes Go.WideShapes Go.ChangeAt Go.RowKit Go.Deep
set_option linter.unusedVariables false

def numAt (v : Value) (w : World) : Nat := match v with
  | .pointer (some a) => match w.cell? a with
    | some (.int _ x) => (x + 1).toNat
    | _ => 0
  | _ => 0
theorem numAt_is {w : World} {b : Nat} {x : Int} (h : w.cell? ⟨b, 0, none⟩ = some (.int .i64 x)) : numAt (.pointer (some ⟨b, 0, none⟩)) w = (x + 1).toNat := by
  unfold numAt
  simp only [h]
theorem pickT_ok {ts : List RTm} (h : ts.all tmB = true) {ns : List Nat} (hn : ∀ x ∈ ns, x < ts.length) : (pickT ts ns).all tmB = true := by
  rw [List.all_eq_true] at *
  intro t ht
  obtain ⟨x, hx, rfl⟩ := List.mem_map.mp ht
  have hl := hn x hx
  rw [show ts.getD x zTm = ts[x] by simp [List.getD_eq_getElem?_getD, hl]]
  exact h _ (List.getElem_mem _)
/-- Where neverTogether stands, d numbers having been tried. -/
def NtInv (w : World) (ts : List RTm) (d : Nat) (l p : Value) (wr : World) : Prop := ∃ (g : Option Addr) (cp vb : Nat), l = .slice g (leftN ts d).length cp ∧ p = .pointer (some ⟨vb, 0, none⟩) ∧ wr.cell? ⟨vb, 0, none⟩ = some (.int .i64 ((ts.length : Int) - 1 - (d : Int))) ∧ wr.frozen? ⟨vb, 0, none⟩ = false ∧ Own2 w.heap.size wr g (zs (leftN ts d)) ∧ Below w.heap.size w wr
theorem zs_nums (n : Nat) : zs (List.range n) = numsZ n := rfl
set_option maxHeartbeats 8000000 in
set_option maxRecDepth 4000 in
theorem neverTogether_any (a : Option Addr) (ca : Nat) (ts : List RTm) (hok : ts.all tmB = true) (hl : ts.length ≤ 8) (w : World) (hr : ReadsTm w.heap.size w a ts) :
    Calls Try.prog 14 #[.slice a ts.length ca] w fun e w' => ∃ g cp, e = .returned (.slice g (coreR ts ts.length).length cp) ∧ Own2 w.heap.size w' g (zs (coreR ts ts.length)) ∧ Below w.heap.size w w' := by
  have HR : Hid (ReadsTm w.heap.size w a ts) := hr
  have hN := numbersBelow_any ts.length (by omega) w
  clear hr
  go_enter Try.func14, Try.ntmps14
  go_wp2_with (go_at_call 31; refine hN.mono ?_; rintro e w1 ⟨g0, cp0, rfl, ho1, hb1⟩; have HO1 : Hid (Own2 w.heap.size w1 g0 (numsZ ts.length)) := ho1; have HB1 : Hid (Below w.heap.size w w1) := hb1; clear ho1 hb1)
  go_loopw [3, 4, 5] (fun l p _ wr => ∃ d : Nat, d ≤ ts.length ∧ NtInv w ts d l p wr) (fun _ p _ wr => numAt p wr)
  case atStart =>
    refine ⟨0, Nat.zero_le _, g0, cp0, w1.heap.size, by rw [leftN_zero, List.length_range], rfl, by simp, by simp, ?_, chain HB1.out (below_alloc _ _)⟩
    rw [leftN_zero, zs_nums]
    exact HO1.out.below (below_alloc _ _) (Nat.le_refl _)
  case round =>
    clear HO1 HB1
    obtain ⟨d, hd, g, cp, vb, rfl, rfl, cv, cf, ho, hb⟩ := hrel
    have HO : Hid (Own2 w.heap.size wr g (zs (leftN ts d))) := ho
    have HB : Hid (Below w.heap.size w wr) := hb
    clear ho hb
    by_cases hlt : d < ts.length
    · obtain ⟨i, hi⟩ : ∃ i : Nat, i = ts.length - 1 - d := ⟨_, rfl⟩
      have ei : (ts.length : Int) - 1 - (d : Int) = (i : Int) := by omega
      rw [ei] at cv
      have hlen := leftN_len ts d hd
      rcases HO.out with h0 | ⟨b, rfl, hB, hblt, hbi, hbf⟩
      · have := zs_length (leftN ts d); rw [h0] at this; simp at this; omega
      have hC := clone_any b 0 cp (zs (leftN ts d)) (by rw [zs_length]; omega) (by rw [zs_length]; omega) wr HO.out.reads
      rw [zs_length] at hC
      have HD : Hid (∀ (g2 c2 : Nat) (W : World), vb ≠ g2 → (leftN ts d).length ≤ c2 → W.cell? ⟨vb, 0, none⟩ = some (.int .i64 (i : Int)) → IntsAt W g2 0 (zs (leftN ts d)) → FreeAt W g2 0 (leftN ts d).length → Calls Try.prog 32 #[.slice (some ⟨g2, 0, none⟩) (leftN ts d).length c2, .func (.func 34) #[] #[.pointer (some ⟨vb, 0, none⟩)]] W fun e w' => e = .returned (.slice (some ⟨g2, 0, none⟩) (lessN ts d).length c2) ∧ IntsAt w' g2 0 (zs (lessN ts d)) ∧ FreeAt w' g2 0 (lessN ts d).length ∧ Others g2 W w') := fun g2 c2 W h1 h2 h3 h4 h5 => by
        have hll := lessN_len ts d hlt
        have := nDelete_any g2 c2 (zs (leftN ts d)) (zs (lessN ts d)) (by rw [zs_length]; exact h2) (by rw [zs_length]; omega) (i : Int) i (by rw [zs_length]; omega) (by rw [zs_at, hi, leftN_at hlt]) (fun j hj hne => by rw [zs_length] at hj; rw [zs_at]; intro q; exact leftN_ne hlt j hj (by omega) (by omega)) (by rw [zs_length, zs_length]; exact hll) (fun q hq => by rw [zs_at, zs_at, zs_at, lessN_at hlt, ← hi]; split <;> rfl) vb h1 W h3 h4 (by rw [zs_length]; exact h5)
        rw [zs_length, zs_length] at this
        exact this
      have HTA : Hid (∀ (g2 c2 : Nat) (W : World), Below w.heap.size w W → Reads W.heap.size W (some ⟨g2, 0, none⟩) (zs (lessN ts d)) → Calls Try.prog 35 #[.slice a ts.length ca, .slice (some ⟨g2, 0, none⟩) (lessN ts d).length c2] W fun e w' => ∃ g cp, e = .returned (.slice g (pickT ts (lessN ts d)).length cp) ∧ ReadsTm w'.heap.size w' g (pickT ts (lessN ts d)) ∧ Below W.heap.size W w') := fun g2 c2 W h1 h2 => termsAt_any a ca ts (some ⟨g2, 0, none⟩) c2 (lessN ts d) (lessN_in ts d hd) (by omega) (by have := lessN_len ts d hlt; omega) W (HR.out.later h1) h2
      have HRo : Hid (∀ (g : Option Addr) (c2 : Nat) (W : World), ReadsTm W.heap.size W g (pickT ts (lessN ts d)) → Calls Try.prog 12 #[.slice g (pickT ts (lessN ts d)).length c2] W fun e w' => e = .returned (.agg (rowI (rm (pickT ts (lessN ts d))))) ∧ Below W.heap.size W w') := fun g c2 W h => roomOf_any g c2 _ (pickT_ok hok (lessN_in ts d hd)) (by rw [pickT_len]; have := lessN_len ts d hlt; omega) W h
      have HEm : Hid (∀ W, Calls Try.prog 13 #[.agg (rowI (rm (pickT ts (lessN ts d))))] W fun e w' => e = .returned (.bool (!canT (pickT ts (lessN ts d)))) ∧ Below W.heap.size W w') := fun W => by
        have := roomEmpty_any (rm (pickT ts (lessN ts d))) rfl W
        rwa [show emptyL (rm (pickT ts (lessN ts d))) = !canT (pickT ts (lessN ts d)) by simp [canT]] at this
      have HY : Hid (canT (pickT ts (lessN ts d)) = true → leftN ts (d + 1) = leftN ts d) := leftN_yes hlt
      have HNo : Hid (canT (pickT ts (lessN ts d)) = false → leftN ts (d + 1) = lessN ts d) := leftN_no hlt
      have hvb : vb < wr.heap.size := World.block_lt_of_cell? _ _ cv
      have HI : Hid (i = ts.length - 1 - d) := hi
      have HV : Hid (wr.cell? ⟨vb, 0, none⟩ = some (.int .i64 (i : Int))) := cv
      clear ei hi hbi hbf hlen
      generalize canT (pickT ts (lessN ts d)) = cb at *
      generalize rowI (rm (pickT ts (lessN ts d))) = V at *
      generalize (pickT ts (lessN ts d)).length = pn at *
      generalize hll : (lessN ts d).length = ln at *
      have HLl : Hid ((lessN ts d).length = ln) := hll
      generalize hlf : (leftN ts d).length = lf at *
      have HLf : Hid ((leftN ts d).length = lf) := hlf
      clear hll hlf
      go_wp2_with fail
      (first | go_at_call 33 | skip)
      refine hC.mono ?_
      rintro e w2 ⟨g2, c2, rfl, ⟨k1, k2⟩, k3, k4, k5, hb2⟩
      have cv2 : w2.cell? ⟨vb, 0, none⟩ = some (.int .i64 (i : Int)) := (hb2.cell (p := ⟨vb, 0, none⟩) hvb).trans cv
      have hne2 : vb ≠ g2 := by omega
      have hd2 := HD.out g2 c2 w2 hne2 k3 cv2 k4 k5
      have HB2 : Hid (Below wr.heap.size wr w2 ∧ wr.heap.size ≤ g2 ∧ g2 < w2.heap.size) := ⟨hb2, k1, k2⟩
      clear hC hb2 k1 k2 k3 k4 k5 cv cf
      go_wp2_with fail
      (first | go_at_call 32 | skip)
      refine hd2.mono ?_
      rintro e w3 ⟨rfl, k1, k2, k3⟩
      have hb3 : Below wr.heap.size wr w3 := HB2.out.1.trans (k3.2.2.2 wr.heap.size HB2.out.2.1)
      have HG3 : Hid (g2 < w3.heap.size ∧ IntsAt w3 g2 0 (zs (lessN ts d)) ∧ FreeAt w3 g2 0 ln) := ⟨by rw [k3.2.2.1]; exact HB2.out.2.2, k1, k2⟩
      have HB3 : Hid (Below wr.heap.size wr w3) := hb3
      have cv3 : w3.cell? ⟨vb, 0, none⟩ = some (.int .i64 (i : Int)) := (k3.1 vb 0 hne2).trans cv2
      have HC3 : Hid (w3.cell? ⟨vb, 0, none⟩ = some (.int .i64 (i : Int))) := cv3
      have HTA3 := HTA.out g2 c2 w3 (chain HB.out hb3) (.inr ⟨g2, 0, rfl, HG3.out.1, k1⟩)
      clear hd2 k1 k2 k3 hb3 cv2 HD HTA
      go_wp2_with fail
      (first | go_at_call 35 | skip)
      refine HTA3.mono ?_
      rintro e w4 ⟨gT, cT, rfl, rT, hb4⟩
      have hR4 := HRo.out gT cT w4 rT
      have HB4 : Hid (Below w3.heap.size w3 w4) := hb4
      clear HTA3 rT hb4 HRo cv3
      go_wp2_with fail
      (first | go_at_call 12 | skip)
      refine hR4.mono ?_
      rintro e w5 ⟨rfl, hb5⟩
      have HB5 : Hid (Below w3.heap.size w3 w5) := chain HB4.out hb5
      clear hb5 hR4
      go_wp2_with fail
      (first | go_at_call 13 | skip)
      refine (HEm.out w5).mono ?_
      rintro e w6 ⟨rfl, hb6⟩
      have hb6' := chain HB5.out hb6
      have cv6 : w6.cell? ⟨vb, 0, none⟩ = some (.int .i64 (i : Int)) := (hb6'.cell (p := ⟨vb, 0, none⟩) (Nat.lt_of_lt_of_le hvb HB3.out.size)).trans HC3.out
      have HB6 : Hid (Below w3.heap.size w3 w6) := hb6'
      clear hb6 hb6'
      have HBw : Hid (Below wr.heap.size wr w6) := chain HB3.out HB6.out
      have HIe : Hid ((i : Int) - 1 = (ts.length : Int) - 1 - ((d + 1 : Nat) : Int)) := (by have := HI.out; omega : (i : Int) - 1 = (ts.length : Int) - 1 - ((d + 1 : Nat) : Int))
      have hi8 : i ≤ 8 := by have := HI.out; omega
      cases cb
      · have H1 : Hid _ := HNo.out rfl
        go_wp2
        refine ⟨⟨d + 1, hlt, some ⟨g2, 0, none⟩, c2, w6.heap.size, ?_, rfl, ?_, by simp, ?_, ?_⟩, ?_⟩
        · rw [H1.out, HLl.out]
        · rw [← HIe.out]; simp
        · rw [H1.out]
          refine .inr ⟨g2, rfl, Nat.le_trans HB.out.size HB2.out.2.1, by have := HB6.out.size; have := HG3.out.1; simp; omega, ?_, ?_⟩
          · exact (HG3.out.2.1.below HB6.out HG3.out.1).below (below_alloc _ _) (Nat.lt_of_lt_of_le HG3.out.1 HB6.out.size)
          · rw [zs_length, HLl.out]
            exact (HG3.out.2.2.below HB6.out HG3.out.1).below (below_alloc _ _) (Nat.lt_of_lt_of_le HG3.out.1 HB6.out.size)
        · exact chain HB.out (chain HBw.out (below_alloc _ _))
        · rw [numAt_is HV.out, numAt_is (w := w6.alloc _) (x := (i : Int) - 1) (by simp)]
          omega
      · have H1 : Hid _ := HY.out rfl
        go_wp2
        refine ⟨⟨d + 1, hlt, some ⟨b, 0, none⟩, cp, w6.heap.size, ?_, rfl, ?_, by simp, ?_, ?_⟩, ?_⟩
        · rw [H1.out, HLf.out]
        · rw [← HIe.out]; simp
        · rw [H1.out]
          exact (HO.out.below HBw.out (Nat.le_refl _)).below (below_alloc _ _) (Nat.le_refl _)
        · exact chain HB.out (chain HBw.out (below_alloc _ _))
        · rw [numAt_is HV.out, numAt_is (w := w6.alloc _) (x := (i : Int) - 1) (by simp)]
          omega
    · obtain rfl : d = ts.length := by omega
      have ei : (ts.length : Int) - 1 - (ts.length : Int) = -1 := by omega
      rw [ei] at cv
      rw [leftN_all]
      have HE : Hid (Own2 w.heap.size wr g (zs (coreR ts ts.length))) := by have := HO.out; rwa [leftN_all] at this
      clear HO ei
      go_wp2
      go_ret
      exact ⟨g, cp, rfl, HE.out, HB.out⟩
end Go.Proofs.Ytfofdeenpcbglaa
