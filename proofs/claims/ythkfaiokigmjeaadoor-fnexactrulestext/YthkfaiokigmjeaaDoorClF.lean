/-
  The laws' own eqClause, eqClauseS.
-/
import Derived.Test.YthkfaiokigmjeaaDoorClE
import Derived.Test.YthkfaiokigmjeaaDoorTmF
import Derived.Test.YthkfaiokigmjeaaDoorStrA
namespace Go.Proofs.YthkfaiokigmjeaaDoor
open Go.ChangeShapes Go.WideShapes Go.ChangeAt Go.RowKit Go.Deep
set_option linter.unusedVariables false


set_option maxHeartbeats 2000000 in
theorem eqCl_any (c : CCl) (h k : Option Addr) (cp cq : Nat) (hn : c.ts.length ≤ 1048576) (w : World) (hr : ReadsTm w.heap.size w h c.ts) (kr : ReadsTm w.heap.size w k c.ts) :
    Calls Tryd.prog 18 #[.agg #[.string c.nm, .slice h c.ts.length cp, .int .i64 c.ac, .int .i64 c.nu], .agg #[.string c.nm, .slice k c.ts.length cq, .int .i64 c.ac, .int .i64 c.nu]] w fun e w' => e = .returned (.bool true) ∧ Below w.heap.size w w' := by
  have HR : Hid (ReadsTm w.heap.size w h c.ts) := hr
  have KR : Hid (ReadsTm w.heap.size w k c.ts) := kr
  have HT : Hid (∀ w, ReadsTm w.heap.size w h c.ts → ReadsTm w.heap.size w k c.ts → Calls Tryd.prog 33 #[.slice h c.ts.length cp, .slice k c.ts.length cq] w fun e w' => e = .returned (.bool true) ∧ Below w.heap.size w w') := fun w r s => eqTms_any h k cp cq c.ts hn w r s
  clear hr kr
  obtain ⟨nm, ts, ac, nu⟩ := c
  dsimp only at *
  have hs : (nm.toList == nm.toList) = true := by simp
  have HW : Hid (∀ W, Below w.heap.size w W → Calls Tryd.prog 33 #[.slice h ts.length cp, .slice k ts.length cq] W fun e w' => e = .returned (.bool true) ∧ Below W.heap.size W w') := fun W b => HT.out W (HR.out.later b) (KR.out.later b)
  generalize ts.length = n at *
  clear HR KR HT
  go_enter Tryd.func18, Tryd.ntmps18
  go_wp2_with fail
  (first | go_at_call 33 | skip)
  refine (HW.out _ (by repeat (first | exact Below.refl _ _ | refine chain ?_ (below_alloc _ _) | refine chain ?_ (below_drew _)))).mono ?_
  rintro e w2 ⟨rfl, hb2⟩
  have q2 : w2.cell? ⟨w.heap.size, 2, none⟩ = some (.int .i64 ac) := (hb2.cell (p := ⟨w.heap.size, 2, none⟩) (by simp only [World.size_alloc]; omega)).trans ((cellOld _ _ (by simp only [World.size_alloc]; omega)).trans (cellNew _ _ _ _ rfl rfl))
  have r2 : w2.cell? ⟨w.heap.size + 1, 2, none⟩ = some (.int .i64 ac) := (hb2.cell (p := ⟨w.heap.size + 1, 2, none⟩) (by simp only [World.size_alloc]; omega)).trans (cellNew _ _ _ _ (by simp) rfl)
  have q3 : w2.cell? ⟨w.heap.size, 3, none⟩ = some (.int .i64 nu) := (hb2.cell (p := ⟨w.heap.size, 3, none⟩) (by simp only [World.size_alloc]; omega)).trans ((cellOld _ _ (by simp only [World.size_alloc]; omega)).trans (cellNew _ _ _ _ rfl rfl))
  have r3 : w2.cell? ⟨w.heap.size + 1, 3, none⟩ = some (.int .i64 nu) := (hb2.cell (p := ⟨w.heap.size + 1, 3, none⟩) (by simp only [World.size_alloc]; omega)).trans (cellNew _ _ _ _ (by simp) rfl)
  have HB2 : Hid (Below w.heap.size w w2) := chain (chain (below_alloc _ _) (below_alloc _ _)) hb2
  clear hb2 HW
  go_wp2
  go_ret
  exact ⟨rfl, HB2.out⟩


theorem keepCls {W w1 : World} {b0 b1 p0 p1 p2 p3 q0 q1 q2 q3 : Nat} {c0 c1 c2 c3 d0 d1 d2 d3 : Value} {h k : Option Addr} {ss : List RTm} (hb : Below W.heap.size W w1) (x : W.cell? ⟨b0, p0, none⟩ = some c0 ∧ W.cell? ⟨b0, p1, none⟩ = some c1 ∧ W.cell? ⟨b0, p2, none⟩ = some c2 ∧ W.cell? ⟨b0, p3, none⟩ = some c3 ∧ W.cell? ⟨b1, q0, none⟩ = some d0 ∧ W.cell? ⟨b1, q1, none⟩ = some d1 ∧ W.cell? ⟨b1, q2, none⟩ = some d2 ∧ W.cell? ⟨b1, q3, none⟩ = some d3 ∧ b0 < W.heap.size ∧ b1 < W.heap.size ∧ ReadsTm W.heap.size W h ss ∧ ReadsTm W.heap.size W k ss) :
    w1.cell? ⟨b0, p0, none⟩ = some c0 ∧ w1.cell? ⟨b0, p1, none⟩ = some c1 ∧ w1.cell? ⟨b0, p2, none⟩ = some c2 ∧ w1.cell? ⟨b0, p3, none⟩ = some c3 ∧ w1.cell? ⟨b1, q0, none⟩ = some d0 ∧ w1.cell? ⟨b1, q1, none⟩ = some d1 ∧ w1.cell? ⟨b1, q2, none⟩ = some d2 ∧ w1.cell? ⟨b1, q3, none⟩ = some d3 ∧ b0 < w1.heap.size ∧ b1 < w1.heap.size ∧ ReadsTm w1.heap.size w1 h ss ∧ ReadsTm w1.heap.size w1 k ss := by
  obtain ⟨h0, h1, h2, h3, k0, k1, k2, k3, l0, l1, m0, m1⟩ := x
  exact ⟨(hb.cell (p := ⟨b0, p0, none⟩) l0).trans h0, (hb.cell (p := ⟨b0, p1, none⟩) l0).trans h1, (hb.cell (p := ⟨b0, p2, none⟩) l0).trans h2, (hb.cell (p := ⟨b0, p3, none⟩) l0).trans h3, (hb.cell (p := ⟨b1, q0, none⟩) l1).trans k0, (hb.cell (p := ⟨b1, q1, none⟩) l1).trans k1, (hb.cell (p := ⟨b1, q2, none⟩) l1).trans k2, (hb.cell (p := ⟨b1, q3, none⟩) l1).trans k3, Nat.lt_of_lt_of_le l0 hb.size, Nat.lt_of_lt_of_le l1 hb.size, m0.later hb, m1.later hb⟩

set_option maxHeartbeats 2000000 in
theorem eqCls_any (a b : Option Addr) (ca cb : Nat) (cs : List CCl) (hn : cs.length ≤ 1048576) (hp : ∀ r ∈ cs, ClOK r) (w : World) (ra : ReadsCl w.heap.size w a cs) (rb : ReadsCl w.heap.size w b cs) :
    Calls Tryd.prog 8 #[.slice a cs.length ca, .slice b cs.length cb] w fun e w' => e = .returned (.bool true) ∧ Below w.heap.size w w' := by
  have HA : Hid (ReadsCl w.heap.size w a cs) := ra
  have HBb : Hid (ReadsCl w.heap.size w b cs) := rb
  have HP : Hid (∀ r ∈ cs, ClOK r) := hp
  clear ra rb hp
  go_enter Tryd.func8, Tryd.ntmps8
  go_wp2
  go_loopw [5] (fun i wr => ∃ k : Nat, k ≤ cs.length ∧ i = .int .i64 (k : Int) ∧ Below w.heap.size w wr) (fun i _ => cs.length - (intOf i).toNat)
  case atStart => exact ⟨0, Nat.zero_le _, rfl, Below.refl _ _⟩
  case round =>
    obtain ⟨k, hk, rfl, hb⟩ := hrel
    have HB : Hid (Below w.heap.size w wr) := hb
    clear hb
    by_cases hlt : k < cs.length
    · have hlt' : (k : Int) < (cs.length : Int) := by omega
      rcases HA.out with h | ⟨b0, o0, ha, hB0, ia⟩
      · rw [h] at hlt; simp at hlt
      rcases HBb.out with h | ⟨b1, o1, hbb, hB1, ib⟩
      · rw [h] at hlt; simp at hlt
      obtain ⟨h, cp, ⟨c0, c1, c2, c3⟩, _, hS⟩ := (ia.below HB.out hB0 (Nat.le_refl _)) k hlt
      obtain ⟨h', cq, ⟨d0, d1, d2, d3⟩, _, hS'⟩ := (ib.below HB.out hB1 (Nat.le_refl _)) k hlt
      have HS : Hid (ReadsTm wr.heap.size wr h (cs.getD k zCl).ts) := hS.mono HB.out.size
      have HS' : Hid (ReadsTm wr.heap.size wr h' (cs.getD k zCl).ts) := hS'.mono HB.out.size
      have lt0 : b0 < wr.heap.size := Nat.lt_of_lt_of_le hB0 HB.out.size
      have lt1 : b1 < wr.heap.size := Nat.lt_of_lt_of_le hB1 HB.out.size
      have hE : ∀ W, ReadsTm W.heap.size W h (cs.getD k zCl).ts → ReadsTm W.heap.size W h' (cs.getD k zCl).ts → _ := fun W x y => eqCl_any (cs.getD k zCl) h h' cp cq (getCl HP.out hlt).2 W x y
      have HE : Hid _ := hE
      rw [ha, hbb]
      clear ia ib hS hS' hE
      generalize cs.getD k zCl = r at *
      obtain ⟨nm, ts, ac, nu⟩ := r
      dsimp only at c0 c1 c2 c3 d0 d1 d2 d3 HS HS' HE
      generalize ts.length = n at *
      go_wp2
      go_region_held3 (fun W => W.cell? ⟨b0, o0 + k * 4, none⟩ = some (.string nm) ∧ W.cell? ⟨b0, o0 + k * 4 + 1, none⟩ = some (.slice h n cp) ∧ W.cell? ⟨b0, o0 + k * 4 + 2, none⟩ = some (.int .i64 ac) ∧ W.cell? ⟨b0, o0 + k * 4 + 3, none⟩ = some (.int .i64 nu) ∧ W.cell? ⟨b1, o1 + k * 4, none⟩ = some (.string nm) ∧ W.cell? ⟨b1, o1 + k * 4 + 1, none⟩ = some (.slice h' n cq) ∧ W.cell? ⟨b1, o1 + k * 4 + 2, none⟩ = some (.int .i64 ac) ∧ W.cell? ⟨b1, o1 + k * 4 + 3, none⟩ = some (.int .i64 nu) ∧ b0 < W.heap.size ∧ b1 < W.heap.size ∧ ReadsTm W.heap.size W h ts ∧ ReadsTm W.heap.size W h' ts) (first | exact ⟨c0, c1, c2, c3, d0, d1, d2, d3, lt0, lt1, HS.out, HS'.out⟩ | exact keepCls (by assumption) (by assumption)) (first | (go_at_call 18; refine (HE.out _ (by assumption) (by assumption)).mono ?_; rintro e w2 ⟨rfl, hb2⟩))
      have HB2 : Hid (Below w.heap.size w w2) := chain HB.out.drew hb2
      go_wp2
      go_roundw
      case rel => exact ⟨k + 1, by omega, by go_num, HB2.out⟩
      case measure => simp [intOf]; omega
    · go_wp2
      go_ret
      exact ⟨rfl, HB.out⟩

end Go.Proofs.YthkfaiokigmjeaaDoor
