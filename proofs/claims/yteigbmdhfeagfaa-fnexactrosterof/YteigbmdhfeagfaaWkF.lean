/-
  The laws' own eqWorker, eqWorkerS.
-/
import Derived.Test.YteigbmdhfeagfaaWkE
import Derived.Test.YteigbmdhfeagfaaStrA
namespace Go.Proofs.Yteigbmdhfeagfaa
open Go.ChangeShapes Go.WideShapes Go.ChangeAt Go.RowKit Go.Deep
set_option linter.unusedVariables false


set_option maxHeartbeats 2000000 in
theorem eqWk_any (c : CWk) (h k : Option Addr) (cp cq : Nat) (hn : c.sk.length ≤ 1048576) (w : World) (hr : ReadsS w.heap.size w h c.sk) (kr : ReadsS w.heap.size w k c.sk) :
    Calls Try.prog 40 #[.agg #[.string c.nm, .int .i64 c.ms, .int .i64 c.rt, .int .i64 c.co, .slice h c.sk.length cp], .agg #[.string c.nm, .int .i64 c.ms, .int .i64 c.rt, .int .i64 c.co, .slice k c.sk.length cq]] w fun e w' => e = .returned (.bool true) ∧ Below w.heap.size w w' := by
  have HR : Hid (ReadsS w.heap.size w h c.sk) := hr
  have KR : Hid (ReadsS w.heap.size w k c.sk) := kr
  have HT : Hid (∀ w, ReadsS w.heap.size w h c.sk → ReadsS w.heap.size w k c.sk → Calls Try.prog 64 #[.slice h c.sk.length cp, .slice k c.sk.length cq] w fun e w' => e = .returned (.bool true) ∧ Below w.heap.size w w') := fun w r s => eqSts_any h k cp cq c.sk hn w r s
  clear hr kr
  obtain ⟨nm, ms, rt, co, sk⟩ := c
  dsimp only at *
  have hs : (nm.toList == nm.toList) = true := by simp
  have HW : Hid (∀ W, Below w.heap.size w W → Calls Try.prog 64 #[.slice h sk.length cp, .slice k sk.length cq] W fun e w' => e = .returned (.bool true) ∧ Below W.heap.size W w') := fun W b => HT.out W (HR.out.later b) (KR.out.later b)
  generalize sk.length = n at *
  clear HR KR HT
  go_enter Try.func40, Try.ntmps40
  go_wp2_with fail
  (first | go_at_call 64 | skip)
  refine (HW.out _ (by repeat (first | exact Below.refl _ _ | refine chain ?_ (below_alloc _ _) | refine chain ?_ (below_drew _)))).mono ?_
  rintro e w2 ⟨rfl, hb2⟩
  have HB2 : Hid (Below w.heap.size w w2) := chain (chain (below_alloc _ _) (below_alloc _ _)) hb2
  clear hb2 HW
  go_wp2
  go_ret
  exact ⟨rfl, HB2.out⟩


theorem keepWks {W w1 : World} {b0 b1 p0 p1 p2 p3 p4 q0 q1 q2 q3 q4 : Nat} {c0 c1 c2 c3 c4 d0 d1 d2 d3 d4 : Value} {h k : Option Addr} {ss : List ByteArray} (hb : Below W.heap.size W w1) (x : W.cell? ⟨b0, p0, none⟩ = some c0 ∧ W.cell? ⟨b0, p1, none⟩ = some c1 ∧ W.cell? ⟨b0, p2, none⟩ = some c2 ∧ W.cell? ⟨b0, p3, none⟩ = some c3 ∧ W.cell? ⟨b0, p4, none⟩ = some c4 ∧ W.cell? ⟨b1, q0, none⟩ = some d0 ∧ W.cell? ⟨b1, q1, none⟩ = some d1 ∧ W.cell? ⟨b1, q2, none⟩ = some d2 ∧ W.cell? ⟨b1, q3, none⟩ = some d3 ∧ W.cell? ⟨b1, q4, none⟩ = some d4 ∧ b0 < W.heap.size ∧ b1 < W.heap.size ∧ ReadsS W.heap.size W h ss ∧ ReadsS W.heap.size W k ss) :
    w1.cell? ⟨b0, p0, none⟩ = some c0 ∧ w1.cell? ⟨b0, p1, none⟩ = some c1 ∧ w1.cell? ⟨b0, p2, none⟩ = some c2 ∧ w1.cell? ⟨b0, p3, none⟩ = some c3 ∧ w1.cell? ⟨b0, p4, none⟩ = some c4 ∧ w1.cell? ⟨b1, q0, none⟩ = some d0 ∧ w1.cell? ⟨b1, q1, none⟩ = some d1 ∧ w1.cell? ⟨b1, q2, none⟩ = some d2 ∧ w1.cell? ⟨b1, q3, none⟩ = some d3 ∧ w1.cell? ⟨b1, q4, none⟩ = some d4 ∧ b0 < w1.heap.size ∧ b1 < w1.heap.size ∧ ReadsS w1.heap.size w1 h ss ∧ ReadsS w1.heap.size w1 k ss := by
  obtain ⟨h0, h1, h2, h3, h4, k0, k1, k2, k3, k4, l0, l1, m0, m1⟩ := x
  exact ⟨(hb.cell (p := ⟨b0, p0, none⟩) l0).trans h0, (hb.cell (p := ⟨b0, p1, none⟩) l0).trans h1, (hb.cell (p := ⟨b0, p2, none⟩) l0).trans h2, (hb.cell (p := ⟨b0, p3, none⟩) l0).trans h3, (hb.cell (p := ⟨b0, p4, none⟩) l0).trans h4, (hb.cell (p := ⟨b1, q0, none⟩) l1).trans k0, (hb.cell (p := ⟨b1, q1, none⟩) l1).trans k1, (hb.cell (p := ⟨b1, q2, none⟩) l1).trans k2, (hb.cell (p := ⟨b1, q3, none⟩) l1).trans k3, (hb.cell (p := ⟨b1, q4, none⟩) l1).trans k4, Nat.lt_of_lt_of_le l0 hb.size, Nat.lt_of_lt_of_le l1 hb.size, m0.later hb, m1.later hb⟩

set_option maxHeartbeats 2000000 in
theorem eqWks_any (a b : Option Addr) (ca cb : Nat) (cs : List CWk) (hn : cs.length ≤ 1048576) (hp : ∀ r ∈ cs, WkOK r) (w : World) (ra : ReadsWk w.heap.size w a cs) (rb : ReadsWk w.heap.size w b cs) :
    Calls Try.prog 12 #[.slice a cs.length ca, .slice b cs.length cb] w fun e w' => e = .returned (.bool true) ∧ Below w.heap.size w w' := by
  have HA : Hid (ReadsWk w.heap.size w a cs) := ra
  have HBb : Hid (ReadsWk w.heap.size w b cs) := rb
  have HP : Hid (∀ r ∈ cs, WkOK r) := hp
  clear ra rb hp
  go_enter Try.func12, Try.ntmps12
  go_wp2
  go_loopw [5] (fun i wr => ∃ k : Nat, k ≤ cs.length ∧ i = .int .i64 (k : Int) ∧ Below w.heap.size w wr) (fun i _ => cs.length - (intOf i).toNat)
  case atStart => exact ⟨0, Nat.zero_le _, rfl, Below.refl _ _⟩
  case round =>
    obtain ⟨k, hk, rfl, hb⟩ := hrel
    have HB : Hid (Below w.heap.size w wr) := hb
    clear hb
    by_cases hlt : k < cs.length
    · have hlt' : (k : Int) < (cs.length : Int) := by omega
      rcases HA.out with h | ⟨b0, o0, ha, hB0, ia⟩
      · rw [h] at hlt; simp at hlt
      rcases HBb.out with h | ⟨b1, o1, hbb, hB1, ib⟩
      · rw [h] at hlt; simp at hlt
      obtain ⟨h, cp, ⟨c0, c1, c2, c3, c4⟩, _, hS⟩ := (ia.below HB.out hB0 (Nat.le_refl _)) k hlt
      obtain ⟨h', cq, ⟨d0, d1, d2, d3, d4⟩, _, hS'⟩ := (ib.below HB.out hB1 (Nat.le_refl _)) k hlt
      have HS : Hid (ReadsS wr.heap.size wr h (cs.getD k zWk).sk) := hS.mono HB.out.size
      have HS' : Hid (ReadsS wr.heap.size wr h' (cs.getD k zWk).sk) := hS'.mono HB.out.size
      have lt0 : b0 < wr.heap.size := Nat.lt_of_lt_of_le hB0 HB.out.size
      have lt1 : b1 < wr.heap.size := Nat.lt_of_lt_of_le hB1 HB.out.size
      have hE : ∀ W, ReadsS W.heap.size W h (cs.getD k zWk).sk → ReadsS W.heap.size W h' (cs.getD k zWk).sk → _ := fun W x y => eqWk_any (cs.getD k zWk) h h' cp cq (getWk HP.out hlt).2.1 W x y
      have HE : Hid _ := hE
      rw [ha, hbb]
      clear ia ib hS hS' hE
      generalize cs.getD k zWk = r at *
      obtain ⟨nm, ms, rt, co, sk⟩ := r
      dsimp only at c0 c1 c2 c3 c4 d0 d1 d2 d3 d4 HS HS' HE
      generalize sk.length = n at *
      go_wp2
      go_region_held3 (fun W => W.cell? ⟨b0, o0 + k * 5, none⟩ = some (.string nm) ∧ W.cell? ⟨b0, o0 + k * 5 + 1, none⟩ = some (.int .i64 ms) ∧ W.cell? ⟨b0, o0 + k * 5 + 2, none⟩ = some (.int .i64 rt) ∧ W.cell? ⟨b0, o0 + k * 5 + 3, none⟩ = some (.int .i64 co) ∧ W.cell? ⟨b0, o0 + k * 5 + 4, none⟩ = some (.slice h n cp) ∧ W.cell? ⟨b1, o1 + k * 5, none⟩ = some (.string nm) ∧ W.cell? ⟨b1, o1 + k * 5 + 1, none⟩ = some (.int .i64 ms) ∧ W.cell? ⟨b1, o1 + k * 5 + 2, none⟩ = some (.int .i64 rt) ∧ W.cell? ⟨b1, o1 + k * 5 + 3, none⟩ = some (.int .i64 co) ∧ W.cell? ⟨b1, o1 + k * 5 + 4, none⟩ = some (.slice h' n cq) ∧ b0 < W.heap.size ∧ b1 < W.heap.size ∧ ReadsS W.heap.size W h sk ∧ ReadsS W.heap.size W h' sk) (first | exact ⟨c0, c1, c2, c3, c4, d0, d1, d2, d3, d4, lt0, lt1, HS.out, HS'.out⟩ | exact keepWks (by assumption) (by assumption)) (first | (go_at_call 40; refine (HE.out _ (by assumption) (by assumption)).mono ?_; rintro e w2 ⟨rfl, hb2⟩))
      have HB2 : Hid (Below w.heap.size w w2) := chain HB.out.drew hb2
      go_wp2
      go_roundw
      case rel => exact ⟨k + 1, by omega, by go_num, HB2.out⟩
      case measure => simp [intOf]; omega
    · go_wp2
      go_ret
      exact ⟨rfl, HB.out⟩

end Go.Proofs.Yteigbmdhfeagfaa
