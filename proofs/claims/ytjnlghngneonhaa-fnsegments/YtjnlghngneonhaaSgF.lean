/-
  The laws' own eqSegment, eqSegmentS.
-/
import Derived.Test.YtjnlghngneonhaaSgE
import Derived.Test.YtjnlghngneonhaaStrA
namespace Go.Proofs.Ytjnlghngneonhaa
open Go.ChangeShapes Go.WideShapes Go.ChangeAt Go.RowKit Go.Deep
set_option linter.unusedVariables false


set_option maxHeartbeats 2000000 in
theorem eqSg_any (c : CSg) (h k : Option Addr) (cp cq : Nat) (hn : c.ps.length ≤ 1048576) (w : World) (hr : ReadsS w.heap.size w h c.ps) (kr : ReadsS w.heap.size w k c.ps) :
    Calls Try.prog 27 #[.agg #[.string c.nm, .slice h c.ps.length cp], .agg #[.string c.nm, .slice k c.ps.length cq]] w fun e w' => e = .returned (.bool true) ∧ Below w.heap.size w w' := by
  have HR : Hid (ReadsS w.heap.size w h c.ps) := hr
  have KR : Hid (ReadsS w.heap.size w k c.ps) := kr
  have HT : Hid (∀ w, ReadsS w.heap.size w h c.ps → ReadsS w.heap.size w k c.ps → Calls Try.prog 47 #[.slice h c.ps.length cp, .slice k c.ps.length cq] w fun e w' => e = .returned (.bool true) ∧ Below w.heap.size w w') := fun w r s => eqSts_any h k cp cq c.ps hn w r s
  clear hr kr
  obtain ⟨nm, ps⟩ := c
  dsimp only at *
  have hs : (nm.toList == nm.toList) = true := by simp
  have HW : Hid (∀ W, Below w.heap.size w W → Calls Try.prog 47 #[.slice h ps.length cp, .slice k ps.length cq] W fun e w' => e = .returned (.bool true) ∧ Below W.heap.size W w') := fun W b => HT.out W (HR.out.later b) (KR.out.later b)
  generalize ps.length = n at *
  clear HR KR HT
  go_enter Try.func27, Try.ntmps27
  go_wp2_with fail
  (first | go_at_call 47 | skip)
  refine (HW.out _ (by repeat (first | exact Below.refl _ _ | refine chain ?_ (below_alloc _ _) | refine chain ?_ (below_drew _)))).mono ?_
  rintro e w2 ⟨rfl, hb2⟩
  have HB2 : Hid (Below w.heap.size w w2) := chain (chain (below_alloc _ _) (below_alloc _ _)) hb2
  clear hb2 HW
  go_wp2
  go_ret
  exact ⟨rfl, HB2.out⟩


theorem keepSgs {W w1 : World} {b0 b1 p0 p1 q0 q1 : Nat} {c0 c1 d0 d1 : Value} {h k : Option Addr} {ss : List ByteArray} (hb : Below W.heap.size W w1) (x : W.cell? ⟨b0, p0, none⟩ = some c0 ∧ W.cell? ⟨b0, p1, none⟩ = some c1 ∧ W.cell? ⟨b1, q0, none⟩ = some d0 ∧ W.cell? ⟨b1, q1, none⟩ = some d1 ∧ b0 < W.heap.size ∧ b1 < W.heap.size ∧ ReadsS W.heap.size W h ss ∧ ReadsS W.heap.size W k ss) :
    w1.cell? ⟨b0, p0, none⟩ = some c0 ∧ w1.cell? ⟨b0, p1, none⟩ = some c1 ∧ w1.cell? ⟨b1, q0, none⟩ = some d0 ∧ w1.cell? ⟨b1, q1, none⟩ = some d1 ∧ b0 < w1.heap.size ∧ b1 < w1.heap.size ∧ ReadsS w1.heap.size w1 h ss ∧ ReadsS w1.heap.size w1 k ss := by
  obtain ⟨h0, h1, k0, k1, l0, l1, m0, m1⟩ := x
  exact ⟨(hb.cell (p := ⟨b0, p0, none⟩) l0).trans h0, (hb.cell (p := ⟨b0, p1, none⟩) l0).trans h1, (hb.cell (p := ⟨b1, q0, none⟩) l1).trans k0, (hb.cell (p := ⟨b1, q1, none⟩) l1).trans k1, Nat.lt_of_lt_of_le l0 hb.size, Nat.lt_of_lt_of_le l1 hb.size, m0.later hb, m1.later hb⟩

set_option maxHeartbeats 2000000 in
theorem eqSgs_any (a b : Option Addr) (ca cb : Nat) (cs : List CSg) (hn : cs.length ≤ 1048576) (hp : ∀ r ∈ cs, SgOK r) (w : World) (ra : ReadsSg w.heap.size w a cs) (rb : ReadsSg w.heap.size w b cs) :
    Calls Try.prog 13 #[.slice a cs.length ca, .slice b cs.length cb] w fun e w' => e = .returned (.bool true) ∧ Below w.heap.size w w' := by
  have HA : Hid (ReadsSg w.heap.size w a cs) := ra
  have HBb : Hid (ReadsSg w.heap.size w b cs) := rb
  have HP : Hid (∀ r ∈ cs, SgOK r) := hp
  clear ra rb hp
  go_enter Try.func13, Try.ntmps13
  go_wp2
  go_loopw [5] (fun i wr => ∃ k : Nat, k ≤ cs.length ∧ i = .int .i64 (k : Int) ∧ Below w.heap.size w wr) (fun i _ => cs.length - (intOf i).toNat)
  case atStart => exact ⟨0, Nat.zero_le _, rfl, Below.refl _ _⟩
  case round =>
    obtain ⟨k, hk, rfl, hb⟩ := hrel
    have HB : Hid (Below w.heap.size w wr) := hb
    clear hb
    by_cases hlt : k < cs.length
    · have hlt' : (k : Int) < (cs.length : Int) := by omega
      rcases HA.out with h | ⟨b0, o0, ha, hB0, ia⟩
      · rw [h] at hlt; simp at hlt
      rcases HBb.out with h | ⟨b1, o1, hbb, hB1, ib⟩
      · rw [h] at hlt; simp at hlt
      obtain ⟨h, cp, ⟨c0, c1⟩, _, hS⟩ := (ia.below HB.out hB0 (Nat.le_refl _)) k hlt
      obtain ⟨h', cq, ⟨d0, d1⟩, _, hS'⟩ := (ib.below HB.out hB1 (Nat.le_refl _)) k hlt
      have HS : Hid (ReadsS wr.heap.size wr h (cs.getD k zSg).ps) := hS.mono HB.out.size
      have HS' : Hid (ReadsS wr.heap.size wr h' (cs.getD k zSg).ps) := hS'.mono HB.out.size
      have lt0 : b0 < wr.heap.size := Nat.lt_of_lt_of_le hB0 HB.out.size
      have lt1 : b1 < wr.heap.size := Nat.lt_of_lt_of_le hB1 HB.out.size
      have hE : ∀ W, ReadsS W.heap.size W h (cs.getD k zSg).ps → ReadsS W.heap.size W h' (cs.getD k zSg).ps → _ := fun W x y => eqSg_any (cs.getD k zSg) h h' cp cq (getSg HP.out hlt).2.1 W x y
      have HE : Hid _ := hE
      rw [ha, hbb]
      clear ia ib hS hS' hE
      generalize cs.getD k zSg = r at *
      obtain ⟨nm, ps⟩ := r
      dsimp only at c0 c1 d0 d1 HS HS' HE
      generalize ps.length = n at *
      go_wp2
      go_region_held3 (fun W => W.cell? ⟨b0, o0 + k * 2, none⟩ = some (.string nm) ∧ W.cell? ⟨b0, o0 + k * 2 + 1, none⟩ = some (.slice h n cp) ∧ W.cell? ⟨b1, o1 + k * 2, none⟩ = some (.string nm) ∧ W.cell? ⟨b1, o1 + k * 2 + 1, none⟩ = some (.slice h' n cq) ∧ b0 < W.heap.size ∧ b1 < W.heap.size ∧ ReadsS W.heap.size W h ps ∧ ReadsS W.heap.size W h' ps) (first | exact ⟨c0, c1, d0, d1, lt0, lt1, HS.out, HS'.out⟩ | exact keepSgs (by assumption) (by assumption)) (first | (go_at_call 27; refine (HE.out _ (by assumption) (by assumption)).mono ?_; rintro e w2 ⟨rfl, hb2⟩))
      have HB2 : Hid (Below w.heap.size w w2) := chain HB.out.drew hb2
      go_wp2
      go_roundw
      case rel => exact ⟨k + 1, by omega, by go_num, HB2.out⟩
      case measure => simp [intOf]; omega
    · go_wp2
      go_ret
      exact ⟨rfl, HB.out⟩

end Go.Proofs.Ytjnlghngneonhaa
