/-
  The laws' own eqFacing, eqFacingS.
-/
import Derived.Test.YtphefbaogfknoaaFcE
import Derived.Test.YtphefbaogfknoaaStrA
namespace Go.Proofs.Ytphefbaogfknoaa
open Go.ChangeShapes Go.WideShapes Go.ChangeAt Go.RowKit Go.Deep
set_option linter.unusedVariables false


set_option maxHeartbeats 2000000 in
theorem eqFc_any (c : CFc) (h k : Option Addr) (cp cq : Nat) (hn : c.gs.length ≤ 1048576) (w : World) (hr : Reads w.heap.size w h c.gs) (kr : Reads w.heap.size w k c.gs) :
    Calls Try.prog 45 #[.agg #[.string c.nm, .int .i64 c.wd, .int .i64 c.ls, .slice h c.gs.length cp], .agg #[.string c.nm, .int .i64 c.wd, .int .i64 c.ls, .slice k c.gs.length cq]] w fun e w' => e = .returned (.bool true) ∧ Below w.heap.size w w' := by
  have HR : Hid (Reads w.heap.size w h c.gs) := hr
  have KR : Hid (Reads w.heap.size w k c.gs) := kr
  have HT : Hid (∀ w, Reads w.heap.size w h c.gs → Reads w.heap.size w k c.gs → Calls Try.prog 19 #[.slice h c.gs.length cp, .slice k c.gs.length cq] w fun e w' => e = .returned (.bool true) ∧ Below w.heap.size w w') := fun w r s => eqZis_any h k cp cq c.gs hn w r s
  clear hr kr
  obtain ⟨nm, wd, ls, gs⟩ := c
  dsimp only at *
  have hs : (nm.toList == nm.toList) = true := by simp
  have HW : Hid (∀ W, Below w.heap.size w W → Calls Try.prog 19 #[.slice h gs.length cp, .slice k gs.length cq] W fun e w' => e = .returned (.bool true) ∧ Below W.heap.size W w') := fun W b => HT.out W (HR.out.later b) (KR.out.later b)
  generalize gs.length = n at *
  clear HR KR HT
  go_enter Try.func45, Try.ntmps45
  go_wp2_with fail
  (first | go_at_call 19 | skip)
  refine (HW.out _ (by repeat (first | exact Below.refl _ _ | refine chain ?_ (below_alloc _ _) | refine chain ?_ (below_drew _)))).mono ?_
  rintro e w2 ⟨rfl, hb2⟩
  have HB2 : Hid (Below w.heap.size w w2) := chain (chain (below_alloc _ _) (below_alloc _ _)) hb2
  clear hb2 HW
  go_wp2
  go_ret
  exact ⟨rfl, HB2.out⟩


theorem keepFcs {W w1 : World} {b0 b1 p0 p1 p2 p3 q0 q1 q2 q3 : Nat} {c0 c1 c2 c3 d0 d1 d2 d3 : Value} {h k : Option Addr} {ss : List Int} (hb : Below W.heap.size W w1) (x : W.cell? ⟨b0, p0, none⟩ = some c0 ∧ W.cell? ⟨b0, p1, none⟩ = some c1 ∧ W.cell? ⟨b0, p2, none⟩ = some c2 ∧ W.cell? ⟨b0, p3, none⟩ = some c3 ∧ W.cell? ⟨b1, q0, none⟩ = some d0 ∧ W.cell? ⟨b1, q1, none⟩ = some d1 ∧ W.cell? ⟨b1, q2, none⟩ = some d2 ∧ W.cell? ⟨b1, q3, none⟩ = some d3 ∧ b0 < W.heap.size ∧ b1 < W.heap.size ∧ Reads W.heap.size W h ss ∧ Reads W.heap.size W k ss) :
    w1.cell? ⟨b0, p0, none⟩ = some c0 ∧ w1.cell? ⟨b0, p1, none⟩ = some c1 ∧ w1.cell? ⟨b0, p2, none⟩ = some c2 ∧ w1.cell? ⟨b0, p3, none⟩ = some c3 ∧ w1.cell? ⟨b1, q0, none⟩ = some d0 ∧ w1.cell? ⟨b1, q1, none⟩ = some d1 ∧ w1.cell? ⟨b1, q2, none⟩ = some d2 ∧ w1.cell? ⟨b1, q3, none⟩ = some d3 ∧ b0 < w1.heap.size ∧ b1 < w1.heap.size ∧ Reads w1.heap.size w1 h ss ∧ Reads w1.heap.size w1 k ss := by
  obtain ⟨h0, h1, h2, h3, k0, k1, k2, k3, l0, l1, m0, m1⟩ := x
  exact ⟨(hb.cell (p := ⟨b0, p0, none⟩) l0).trans h0, (hb.cell (p := ⟨b0, p1, none⟩) l0).trans h1, (hb.cell (p := ⟨b0, p2, none⟩) l0).trans h2, (hb.cell (p := ⟨b0, p3, none⟩) l0).trans h3, (hb.cell (p := ⟨b1, q0, none⟩) l1).trans k0, (hb.cell (p := ⟨b1, q1, none⟩) l1).trans k1, (hb.cell (p := ⟨b1, q2, none⟩) l1).trans k2, (hb.cell (p := ⟨b1, q3, none⟩) l1).trans k3, Nat.lt_of_lt_of_le l0 hb.size, Nat.lt_of_lt_of_le l1 hb.size, m0.later hb, m1.later hb⟩

set_option maxHeartbeats 2000000 in
theorem eqFcs_any (a b : Option Addr) (ca cb : Nat) (cs : List CFc) (hn : cs.length ≤ 1048576) (hp : ∀ r ∈ cs, FcOK r) (w : World) (ra : ReadsFc w.heap.size w a cs) (rb : ReadsFc w.heap.size w b cs) :
    Calls Try.prog 15 #[.slice a cs.length ca, .slice b cs.length cb] w fun e w' => e = .returned (.bool true) ∧ Below w.heap.size w w' := by
  have HA : Hid (ReadsFc w.heap.size w a cs) := ra
  have HBb : Hid (ReadsFc w.heap.size w b cs) := rb
  have HP : Hid (∀ r ∈ cs, FcOK r) := hp
  clear ra rb hp
  go_enter Try.func15, Try.ntmps15
  go_wp2
  go_loopw [5] (fun i wr => ∃ k : Nat, k ≤ cs.length ∧ i = .int .i64 (k : Int) ∧ Below w.heap.size w wr) (fun i _ => cs.length - (intOf i).toNat)
  case atStart => exact ⟨0, Nat.zero_le _, rfl, Below.refl _ _⟩
  case round =>
    obtain ⟨k, hk, rfl, hb⟩ := hrel
    have HB : Hid (Below w.heap.size w wr) := hb
    clear hb
    by_cases hlt : k < cs.length
    · have hlt' : (k : Int) < (cs.length : Int) := by omega
      rcases HA.out with h | ⟨b0, o0, ha, hB0, ia⟩
      · rw [h] at hlt; simp at hlt
      rcases HBb.out with h | ⟨b1, o1, hbb, hB1, ib⟩
      · rw [h] at hlt; simp at hlt
      obtain ⟨h, cp, ⟨c0, c1, c2, c3⟩, _, hS⟩ := (ia.below HB.out hB0 (Nat.le_refl _)) k hlt
      obtain ⟨h', cq, ⟨d0, d1, d2, d3⟩, _, hS'⟩ := (ib.below HB.out hB1 (Nat.le_refl _)) k hlt
      have HS : Hid (Reads wr.heap.size wr h (cs.getD k zFc).gs) := hS.mono HB.out.size
      have HS' : Hid (Reads wr.heap.size wr h' (cs.getD k zFc).gs) := hS'.mono HB.out.size
      have lt0 : b0 < wr.heap.size := Nat.lt_of_lt_of_le hB0 HB.out.size
      have lt1 : b1 < wr.heap.size := Nat.lt_of_lt_of_le hB1 HB.out.size
      have hE : ∀ W, Reads W.heap.size W h (cs.getD k zFc).gs → Reads W.heap.size W h' (cs.getD k zFc).gs → _ := fun W x y => eqFc_any (cs.getD k zFc) h h' cp cq (getFc HP.out hlt).2 W x y
      have HE : Hid _ := hE
      rw [ha, hbb]
      clear ia ib hS hS' hE
      generalize cs.getD k zFc = r at *
      obtain ⟨nm, wd, ls, gs⟩ := r
      dsimp only at c0 c1 c2 c3 d0 d1 d2 d3 HS HS' HE
      generalize gs.length = n at *
      go_wp2
      go_region_held3 (fun W => W.cell? ⟨b0, o0 + k * 4, none⟩ = some (.string nm) ∧ W.cell? ⟨b0, o0 + k * 4 + 1, none⟩ = some (.int .i64 wd) ∧ W.cell? ⟨b0, o0 + k * 4 + 2, none⟩ = some (.int .i64 ls) ∧ W.cell? ⟨b0, o0 + k * 4 + 3, none⟩ = some (.slice h n cp) ∧ W.cell? ⟨b1, o1 + k * 4, none⟩ = some (.string nm) ∧ W.cell? ⟨b1, o1 + k * 4 + 1, none⟩ = some (.int .i64 wd) ∧ W.cell? ⟨b1, o1 + k * 4 + 2, none⟩ = some (.int .i64 ls) ∧ W.cell? ⟨b1, o1 + k * 4 + 3, none⟩ = some (.slice h' n cq) ∧ b0 < W.heap.size ∧ b1 < W.heap.size ∧ Reads W.heap.size W h gs ∧ Reads W.heap.size W h' gs) (first | exact ⟨c0, c1, c2, c3, d0, d1, d2, d3, lt0, lt1, HS.out, HS'.out⟩ | exact keepFcs (by assumption) (by assumption)) (first | (go_at_call 45; refine (HE.out _ (by assumption) (by assumption)).mono ?_; rintro e w2 ⟨rfl, hb2⟩))
      have HB2 : Hid (Below w.heap.size w w2) := chain HB.out.drew hb2
      go_wp2
      go_roundw
      case rel => exact ⟨k + 1, by omega, by go_num, HB2.out⟩
      case measure => simp [intOf]; omega
    · go_wp2
      go_ret
      exact ⟨rfl, HB.out⟩

end Go.Proofs.Ytphefbaogfknoaa
