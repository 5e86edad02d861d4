/-
  Texts of this claim laid together: DrawTx, LwSame.
-/
import Derived.Test.YtabpkfhbnendjaaGreatM31
import Derived.Test.YtabpkfhbnendjaaGreatM34
import Derived.Test.YtabpkfhbnendjaaGreatM1
/-
  The specification's TillOf: right items, and acts.
-/
namespace Go.Proofs.YtabpkfhbnendjaaGreat
open Go.ChangeShapes Go.WideShapes Go.ChangeAt Go.RowKit Go.Deep
set_option linter.unusedVariables false

/-- What TillOf answers. -/
def DrawnTl (w : World) (e : Ending) (w' : World) : Prop := ∃ (its : List RIt) (acts : List RTa) (gi ci ga ca : Nat), e = .returned (.tuple #[.slice (some ⟨gi, 0, none⟩) its.length ci, .slice (some ⟨ga, 0, none⟩) acts.length ca]) ∧ its.length ≤ 6 ∧ its.length ≤ ci ∧ acts.length ≤ 25 ∧ ItsD its ∧ (∀ r ∈ acts, TaD r) ∧ ItsAt w' gi 0 its ∧ TasAt w' ga 0 acts ∧ (w.heap.size ≤ gi ∧ gi < w'.heap.size) ∧ (w.heap.size ≤ ga ∧ ga < w'.heap.size) ∧ Below w.heap.size w w'
theorem row_cap {w : World} {B : Nat} {e : TypeId} {k g n cp : Nat} {xs : List Value} (h : w.ownsRow B e k (.slice (some ⟨g, 0, none⟩) n cp) n xs) : n ≤ cp := by
  rcases h.2 with ⟨q, _⟩ | ⟨g', cap', cur, q, _, _, hc, _⟩
  · cases q
  · cases q; exact hc
set_option maxRecDepth 4000 in
theorem tillOf_any (a : Option Addr) (len cap : Nat) (zs : List Int) (w : World) (hr : RowB w.heap.size w a len zs) :
    Calls Tryz.prog 4 #[.slice a len cap] w (DrawnTl w) := by
  have hlen := hr.1
  have hsrc := source_any a len cap w hlen
  have HR : Hid (RowB w.heap.size w a len zs) := hr
  obtain ⟨Q, hQ⟩ : ∃ Q, Q = DrawnTl w := ⟨_, rfl⟩
  have HQ : Hid (∀ e w', DrawnTl w e w' → Q e w') := fun e w' h => by rw [hQ]; exact h
  rw [← hQ]
  clear hr hQ
  go_enter Tryz.func4, Tryz.ntmps4
  go_wp2_with fail
  (first | go_at_call 10 | skip)
  refine hsrc.mono ?_
  rintro e w1 ⟨s1, rfl, hs1, hb1⟩
  clear hsrc
  have hit := items_drawn w.heap.size a len cap zs s1 w w1 hs1 hb1 HR.out hlen
  clear hs1 hb1
  go_wp2_with fail
  (first | go_at_call 11 | skip)
  refine hit.mono ?_
  rintro e w2 ⟨its, gi, ci, a2, s2, rfl, ⟨hl1, hl6⟩, hD, ha2, hst⟩
  clear hit
  have hlt := hst.1.lt gi rfl
  have hcap := row_cap hst.1
  have hac := tillActs_drawn w.heap.size a len cap zs a2 s2 w w2 hst.2.2.1 hst.2.2.2 HR.out hlen ha2 gi ci its hl1 hl6 hlt.2 (by omega) (its_of_row hst.1) (fun r h => (hD.1 r h).1)
  have HI : Hid (ItsD its ∧ ItsAt w2 gi 0 its) := ⟨hD, its_of_row hst.1⟩
  clear hst hD
  go_wp2_with fail
  (first | go_at_call 12 | skip)
  refine hac.mono ?_
  rintro e w3 ⟨acts, ga, ca, a3, s3, rfl, hl25, hA, hso⟩
  clear hac
  have HF : Hid (DrawnTl w (.returned (.tuple #[.slice (some ⟨gi, 0, none⟩) its.length ci, .slice (some ⟨ga, 0, none⟩) acts.length ca])) w3) := by
    have hl3 := hso.row.lt ga rfl
    have e := hso.kp gi (by omega) hlt.2
    have c := fun j x (hx : w2.cell? ⟨gi, j, none⟩ = some x) => (World.cell?_of_block (w := w2) (w' := w3) (a := ⟨gi, j, none⟩) e).trans hx
    have hI : ItsAt w3 gi 0 its := fun i hi => by
      have q := HI.out.2 i hi
      exact ⟨c _ _ q.1, c _ _ q.2.1, c _ _ q.2.2.1, c _ _ q.2.2.2.1, c _ _ q.2.2.2.2⟩
    have := hso.size
    have := hso.lt
    exact ⟨its, acts, gi, ci, ga, ca, rfl, hl6, hcap, hl25, HI.out.1, hA, hI, tas_of_row hso.row, ⟨by omega, by omega⟩, ⟨by omega, hl3.2⟩, hso.bel⟩
  clear hso hA HI
  go_wp2
  exact HQ.out _ _ HF.out
end Go.Proofs.YtabpkfhbnendjaaGreat

/-
  The laws' own sameInts.
-/
namespace Go.Proofs.YtabpkfhbnendjaaGreat
open Go.ChangeShapes Go.WideShapes Go.ChangeAt Go.RowKit Go.Deep
set_option linter.unusedVariables false

theorem sameInts_any (a b : Option Addr) (ca cb : Nat) (L : List Int) (hl : L.length ≤ 1000) (w : World) (ra : Reads w.heap.size w a L) (rb : Reads w.heap.size w b L) :
    Calls Tryz.prog 8 #[.slice a L.length ca, .slice b L.length cb] w fun e w' => e = .returned (.bool true) ∧ Below w.heap.size w w' := by
  have HA : Hid (Reads w.heap.size w a L) := ra
  have HB : Hid (Reads w.heap.size w b L) := rb
  clear ra rb
  have hne : ((L.length : Int) != (L.length : Int)) = false := by simp
  go_enter Tryz.func8, Tryz.ntmps8
  go_wp2
  go_loopw [5] (fun c wr => ∃ k : Nat, k ≤ L.length ∧ c = .int .i64 (k : Int) ∧ Below w.heap.size w wr) (fun c _ => L.length - (intOf c).toNat)
  case atStart => exact ⟨0, Nat.zero_le _, rfl, Below.refl _ _⟩
  case round =>
    obtain ⟨k, hk, rfl, hb⟩ := hrel
    have HK : Hid (Below w.heap.size w wr) := hb
    clear hb
    by_cases hlt : k < L.length
    · have hlt' : (k : Int) < (L.length : Int) := by omega
      rcases HA.out with h | ⟨b0, o0, ha, hB0, ia⟩
      · rw [h] at hlt; simp at hlt
      rcases HB.out with h | ⟨b1, o1, hb, hB1, ib⟩
      · rw [h] at hlt; simp at hlt
      have c0 := (ia.below HK.out hB0) k hlt
      have c1 := (ib.below HK.out hB1) k hlt
      rw [ha, hb]
      clear ia ib
      have hxx : ∀ x : Int, (x != x) = false := fun x => by simp
      generalize L.getD k 0 = x at *
      have hx := hxx x
      go_wp2
      go_quiet (fail)
      go_wp2
      exact ⟨⟨k + 1, by omega, by go_num, below_drewN HK.out _⟩, by simp [intOf]; omega⟩
    · have hle : (L.length : Int) ≤ (k : Int) := by omega
      go_wp2
      go_ret
      exact ⟨rfl, HK.out⟩
end Go.Proofs.YtabpkfhbnendjaaGreat
