/-
  The Amount at a minute (the specification's and the program's), for every list of rows.
-/
import Derived.Test.YtgfgecpgfcipnaaPriceK
import Derived.Test.YtgfgecpgfcipnaaStepMath
namespace Go.Proofs.Ytgfgecpgfcipnaa
open Go.ChangeShapes Go.WideShapes Go.ChangeAt Go.RowKit
set_option linter.unusedVariables false

theorem amt_none {rs : List RPr} {art zn : ByteArray} {m : Int} (h : atAll rs art zn m = -1) : amtAt rs art zn m = -1 := by unfold amtAt; rw [if_neg (by rw [h]; omega)]
theorem amt_some {rs : List RPr} {art zn : ByteArray} {m : Int} {j : Nat} (h : atAll rs art zn m = (j : Int)) : amtAt rs art zn m = (rs.getD j zPr).am := by unfold amtAt; rw [if_pos (by rw [h]; omega), h, Int.toNat_natCast]


/-- What the closure of PriceSteps is handed. -/
def SpEnv (w : World) (a : Option Addr) (n cap : Nat) (art zn : ByteArray) (p q : Nat) : Prop :=
  ∃ p1 p2 p3 : Nat, w.cell? ⟨p, 0, none⟩ = some (.func (.func 28) #[] #[.pointer (some ⟨p1, 0, none⟩), .pointer (some ⟨p2, 0, none⟩), .pointer (some ⟨p3, 0, none⟩)]) ∧ w.cell? ⟨q, 0, none⟩ = some (.slice a n cap) ∧ p < w.heap.size ∧ q < w.heap.size ∧ CtEnv w a n cap art zn p1 p2 p3
theorem SpEnv.below {w w' : World} {a : Option Addr} {n cap : Nat} {art zn : ByteArray} {p q : Nat} (h : SpEnv w a n cap art zn p q) (hb : Below w.heap.size w w') : SpEnv w' a n cap art zn p q := by
  obtain ⟨p1, p2, p3, h1, h2, l1, l2, hc⟩ := h
  obtain ⟨kc, _, kz⟩ := bfacts hb
  exact ⟨p1, p2, p3, (kc _ _ l1).trans h1, (kc _ _ l2).trans h2, kz _ l1, kz _ l2, hc.below hb⟩

set_option maxHeartbeats 1000000 in
theorem implAmt_any (a : Option Addr) (cap : Nat) (rs : List RPr) (hl : rs.length ≤ 100000000) (art zn : ByteArray) (m : Int) (p q : Nat) (w : World) (hr : ReadsPr w.heap.size w a rs) (he : SpEnv w a rs.length cap art zn p q) :
    Calls Try.prog 14 #[.int .i64 m, .pointer (some ⟨p, 0, none⟩), .pointer (some ⟨q, 0, none⟩)] w fun e w' => e = .returned (.int .i64 (amtAt rs art zn m)) ∧ Below w.heap.size w w' := by
  obtain ⟨p1, p2, p3, h1, h2, l1, l2, hc⟩ := he
  have hA := countingRows_any a cap rs hl art zn m p1 p2 p3 w hr hc
  clear hc
  rcases at_ways rs art zn m with hx | ⟨j, hj, hx⟩
  · rw [amt_none hx]
    rw [hx] at hA
    clear hr hx
    go_enter Try.func14, Try.ntmps14
    go_wp2_with (go_at_call 28; refine hA.mono ?_; rintro e w2 ⟨rfl, hb2⟩)
    go_ret
    exact ⟨rfl, hb2⟩
  · rw [amt_some hx]
    rw [hx] at hA
    rcases hr with h0 | ⟨b0, o0, ha, hB0, ia⟩
    · rw [h0] at hj; simp at hj
    have HJ : Hid (∀ W, Below w.heap.size w W → W.cell? ⟨b0, o0 + j * 6 + 5, none⟩ = some (.int .i64 (rs.getD j zPr).am) ∧ W.cell? ⟨q, 0, none⟩ = some (.slice a rs.length cap)) := fun W hW => ⟨((ia j hj).below hW hB0).2.2.2.2.2, (hW.cell (p := ⟨q, 0, none⟩) l2).trans h2⟩
    have hjl : (j : Int) < (rs.length : Int) := by omega
    have hd : ((j : Int) == -1) = false := by first | (simp; done) | (simp; omega)
    have hd' : ((j : Int) != -1) = true := by first | (simp; done) | (simp; omega)
    clear hx ia
    subst ha
    generalize (rs.getD j zPr).am = x at *
    go_enter Try.func14, Try.ntmps14
    go_wp2_with (go_at_call 28; refine hA.mono ?_; rintro e w2 ⟨rfl, hb2⟩; obtain ⟨hcj, hcq⟩ := HJ.out w2 hb2)
    go_ret
    exact ⟨rfl, hb2⟩
end Go.Proofs.Ytgfgecpgfcipnaa
