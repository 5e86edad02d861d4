/-
  The program's closures that tell which of two rows counts (inTurn) and whether a row holds (holdingIn), and those that make them.
-/
import Derived.Test.YtgfgecpgfcipnaaPriceG
namespace Go.Proofs.Ytgfgecpgfcipnaa
open Go.ChangeShapes Go.WideShapes Go.ChangeAt Go.RowKit
set_option linter.unusedVariables false

/-- What the orders, asked in turn, tell. -/
def ordR (a b : RPr) : Int := if cmpI (prKey1 a) (prKey1 b) = 0 then (if cmpI (prKey2 a) (prKey2 b) = 0 then cmpI (prKey3 a) (prKey3 b) else cmpI (prKey2 a) (prKey2 b)) else cmpI (prKey1 a) (prKey1 b)
theorem cmpI_zero (x y : Int) : cmpI x y = 0 ↔ x = y := by unfold cmpI; split; omega; split <;> omega
theorem cmpI_pos (x y : Int) : 0 < cmpI x y ↔ y < x := by unfold cmpI; split; omega; split <;> omega
theorem ordR_ahead (a b : RPr) : decide (0 < ordR a b) = prAhead a b := by
  unfold ordR prAhead prKey1
  by_cases h1 : a.lv = b.lv
  · rw [if_pos ((cmpI_zero _ _).mpr h1), if_pos h1]
    unfold prKey2
    cases h2 : a.zn.toList.isEmpty <;> cases h3 : b.zn.toList.isEmpty
    all_goals
      simp [cmpI_zero, cmpI_pos, prKey3]
      try decide
  · rw [if_neg (fun h => h1 ((cmpI_zero _ _).mp h)), if_neg h1]
    exact decide_eq_decide.mpr (cmpI_pos _ _)

/-- The orders' slice and what it leads to. -/
def OrdEnv (w : World) (s : Nat) : Prop :=
  ∃ t q1 q2 q3 : Nat, (w.cell? ⟨s, 0, none⟩ = some (.slice (some ⟨t, 0, none⟩) 3 3) ∧
    w.cell? ⟨t, 0, none⟩ = some (.func (.func 49) #[] #[.pointer (some ⟨q1, 0, none⟩)]) ∧ w.cell? ⟨t, 1, none⟩ = some (.func (.func 49) #[] #[.pointer (some ⟨q2, 0, none⟩)]) ∧ w.cell? ⟨t, 2, none⟩ = some (.func (.func 49) #[] #[.pointer (some ⟨q3, 0, none⟩)]) ∧
    w.cell? ⟨q1, 0, none⟩ = some (.func (.func 40) #[] #[]) ∧ w.cell? ⟨q2, 0, none⟩ = some (.func (.func 41) #[] #[]) ∧ w.cell? ⟨q3, 0, none⟩ = some (.func (.func 42) #[] #[])) ∧
    s < w.heap.size ∧ t < w.heap.size ∧ q1 < w.heap.size ∧ q2 < w.heap.size ∧ q3 < w.heap.size
theorem OrdEnv.below {w w' : World} {s : Nat} (h : OrdEnv w s) (hb : Below w.heap.size w w') : OrdEnv w' s := by
  obtain ⟨t, q1, q2, q3, ⟨h0, h1, h2, h3, h4, h5, h6⟩, ls, lt, l1, l2, l3⟩ := h
  obtain ⟨hc, _, hz⟩ := bfacts hb
  exact ⟨t, q1, q2, q3, ⟨(hc _ _ ls).trans h0, (hc _ _ lt).trans h1, (hc _ _ lt).trans h2, (hc _ _ lt).trans h3, (hc _ _ l1).trans h4, (hc _ _ l2).trans h5, (hc _ _ l3).trans h6⟩, hz _ ls, hz _ lt, hz _ l1, hz _ l2, hz _ l3⟩

theorem ord_first {a b : RPr} (h : cmpI (prKey1 a) (prKey1 b) ≠ 0) : ordR a b = cmpI (prKey1 a) (prKey1 b) := by unfold ordR; rw [if_neg h]
theorem ord_second {a b : RPr} (h : cmpI (prKey1 a) (prKey1 b) = 0) (h' : cmpI (prKey2 a) (prKey2 b) ≠ 0) : ordR a b = cmpI (prKey2 a) (prKey2 b) := by unfold ordR; rw [if_pos h, if_neg h']
theorem ord_third {a b : RPr} (h : cmpI (prKey1 a) (prKey1 b) = 0) (h' : cmpI (prKey2 a) (prKey2 b) = 0) : ordR a b = cmpI (prKey3 a) (prKey3 b) := by unfold ordR; rw [if_pos h, if_pos h']
/-- What is known when the first k orders told no difference. -/
def ordGo (a b : RPr) (k : Nat) : Prop := (1 ≤ k → cmpI (prKey1 a) (prKey1 b) = 0) ∧ (2 ≤ k → cmpI (prKey2 a) (prKey2 b) = 0) ∧ (3 ≤ k → cmpI (prKey3 a) (prKey3 b) = 0)

set_option maxHeartbeats 2000000 in
set_option maxRecDepth 4000 in
theorem inTurn_any (a0 a1 : ByteArray) (a2 a3 a4 a5 : Int) (r0 r1 : ByteArray) (r2 r3 r4 r5 : Int) (s : Nat) (w : World) (he : OrdEnv w s) :
    Calls Try.prog 48 #[.agg #[.string a0, .string a1, .int .i64 a2, .int .i64 a3, .int .i64 a4, .int .i64 a5], .agg #[.string r0, .string r1, .int .i64 r2, .int .i64 r3, .int .i64 r4, .int .i64 r5], .pointer (some ⟨s, 0, none⟩)] w fun e w' => e = .returned (.int .i64 (ordR ⟨a0, a1, a2, a3, a4, a5⟩ ⟨r0, r1, r2, r3, r4, r5⟩)) ∧ Below w.heap.size w w' := by
  have HB0 : Hid (Below w.heap.size w ((w.alloc (Obj.cells #[.string a0, .string a1, .int .i64 a2, .int .i64 a3, .int .i64 a4, .int .i64 a5] 36)).alloc (Obj.cells #[.string r0, .string r1, .int .i64 r2, .int .i64 r3, .int .i64 r4, .int .i64 r5] 36))) := chain (below_alloc _ _) (below_alloc _ _)
  have e0 : (w.alloc (Obj.cells #[.string a0, .string a1, .int .i64 a2, .int .i64 a3, .int .i64 a4, .int .i64 a5] 36)).heap.size = w.heap.size + 1 := by simp
  have pa := (prNew w a0 a1 a2 a3 a4 a5).below (below_alloc _ (Obj.cells #[.string r0, .string r1, .int .i64 r2, .int .i64 r3, .int .i64 r4, .int .i64 r5] 36)) (by simp)
  have pr := prNew (w.alloc (Obj.cells #[.string a0, .string a1, .int .i64 a2, .int .i64 a3, .int .i64 a4, .int .i64 a5] 36)) r0 r1 r2 r3 r4 r5
  rw [e0] at pr
  have la : w.heap.size < ((w.alloc (Obj.cells #[.string a0, .string a1, .int .i64 a2, .int .i64 a3, .int .i64 a4, .int .i64 a5] 36)).alloc (Obj.cells #[.string r0, .string r1, .int .i64 r2, .int .i64 r3, .int .i64 r4, .int .i64 r5] 36)).heap.size := by simp; omega
  have lr : w.heap.size + 1 < ((w.alloc (Obj.cells #[.string a0, .string a1, .int .i64 a2, .int .i64 a3, .int .i64 a4, .int .i64 a5] 36)).alloc (Obj.cells #[.string r0, .string r1, .int .i64 r2, .int .i64 r3, .int .i64 r4, .int .i64 r5] 36)).heap.size := by simp
  have HE : Hid (OrdEnv ((w.alloc (Obj.cells #[.string a0, .string a1, .int .i64 a2, .int .i64 a3, .int .i64 a4, .int .i64 a5] 36)).alloc (Obj.cells #[.string r0, .string r1, .int .i64 r2, .int .i64 r3, .int .i64 r4, .int .i64 r5] 36)) s) := he.below HB0.out
  have HP : Hid (PrAt ((w.alloc (Obj.cells #[.string a0, .string a1, .int .i64 a2, .int .i64 a3, .int .i64 a4, .int .i64 a5] 36)).alloc (Obj.cells #[.string r0, .string r1, .int .i64 r2, .int .i64 r3, .int .i64 r4, .int .i64 r5] 36)) w.heap.size 0 ⟨a0, a1, a2, a3, a4, a5⟩ ∧ PrAt ((w.alloc (Obj.cells #[.string a0, .string a1, .int .i64 a2, .int .i64 a3, .int .i64 a4, .int .i64 a5] 36)).alloc (Obj.cells #[.string r0, .string r1, .int .i64 r2, .int .i64 r3, .int .i64 r4, .int .i64 r5] 36)) (w.heap.size + 1) 0 ⟨r0, r1, r2, r3, r4, r5⟩ ∧ w.heap.size < ((w.alloc (Obj.cells #[.string a0, .string a1, .int .i64 a2, .int .i64 a3, .int .i64 a4, .int .i64 a5] 36)).alloc (Obj.cells #[.string r0, .string r1, .int .i64 r2, .int .i64 r3, .int .i64 r4, .int .i64 r5] 36)).heap.size ∧ w.heap.size + 1 < ((w.alloc (Obj.cells #[.string a0, .string a1, .int .i64 a2, .int .i64 a3, .int .i64 a4, .int .i64 a5] 36)).alloc (Obj.cells #[.string r0, .string r1, .int .i64 r2, .int .i64 r3, .int .i64 r4, .int .i64 r5] 36)).heap.size) := ⟨pa, pr, la, lr⟩
  obtain ⟨t, q1, q2, q3, ⟨hs0, _⟩, _⟩ := id HE.out
  clear pa pr la lr e0 he
  go_enter Try.func48, Try.ntmps48
  go_wp2
  generalize (w.alloc (Obj.cells #[.string a0, .string a1, .int .i64 a2, .int .i64 a3, .int .i64 a4, .int .i64 a5] 36)).alloc (Obj.cells #[.string r0, .string r1, .int .i64 r2, .int .i64 r3, .int .i64 r4, .int .i64 r5] 36) = W0 at *
  go_loopw [7, 8, 11] (fun _ _ c wr => ∃ k : Nat, k ≤ 3 ∧ c = .int .i64 (k : Int) ∧ ordGo ⟨a0, a1, a2, a3, a4, a5⟩ ⟨r0, r1, r2, r3, r4, r5⟩ k ∧ Below W0.heap.size W0 wr) (fun _ _ c _ => 3 - (intOf c).toNat)
  case atStart => exact ⟨0, Nat.zero_le _, rfl, ⟨fun h => by omega, fun h => by omega, fun h => by omega⟩, Below.refl _ _⟩
  case round =>
    obtain ⟨k, hk, rfl, hg, hb⟩ := hrel
    have HG : Hid (ordGo ⟨a0, a1, a2, a3, a4, a5⟩ ⟨r0, r1, r2, r3, r4, r5⟩ k) := hg
    have HB : Hid (Below W0.heap.size W0 wr) := hb
    obtain ⟨c0, c1, c2, c3, c4, c5⟩ := HP.out.1.below hb HP.out.2.2.1
    obtain ⟨d0, d1, d2, d3, d4, d5⟩ := HP.out.2.1.below hb HP.out.2.2.2
    dsimp only at c0 c1 c2 c3 c4 c5 d0 d1 d2 d3 d4 d5
    obtain ⟨t', q1, q2, q3, ⟨k0, k1, k2, k3, k4, k5, k6⟩, ls, lt, l1, l2, l3⟩ := HE.out.below hb
    obtain rfl : t' = t := by
      have := ((hb.cell (p := ⟨s, 0, none⟩) (by obtain ⟨_, _, _, _, _, ls, _⟩ := HE.out; exact ls)).trans hs0).symm.trans k0
      simp at this; exact this.symm
    clear hg hb k0
    rcases (by omega : k = 0 ∨ k = 1 ∨ k = 2 ∨ k = 3) with rfl | rfl | rfl | rfl
    · have hq0 := order1_any a0 a1 a2 a3 a4 a5 r0 r1 r2 r3 r4 r5 q1 wr
      have H0 : Hid (cmpI (prKey1 ⟨a0, a1, a2, a3, a4, a5⟩) (prKey1 ⟨r0, r1, r2, r3, r4, r5⟩) = 0 → ordGo ⟨a0, a1, a2, a3, a4, a5⟩ ⟨r0, r1, r2, r3, r4, r5⟩ 1) := fun h => ⟨fun _ => h, fun h => by omega, fun h => by omega⟩
      have HX : Hid (cmpI (prKey1 ⟨a0, a1, a2, a3, a4, a5⟩) (prKey1 ⟨r0, r1, r2, r3, r4, r5⟩) ≠ 0 → ordR ⟨a0, a1, a2, a3, a4, a5⟩ ⟨r0, r1, r2, r3, r4, r5⟩ = cmpI (prKey1 ⟨a0, a1, a2, a3, a4, a5⟩) (prKey1 ⟨r0, r1, r2, r3, r4, r5⟩)) := fun h => ord_first h
      replace hq0 := hq0 k4 l1
      clear k4 k5 k6 k2 k3
      generalize cmpI (prKey1 ⟨a0, a1, a2, a3, a4, a5⟩) (prKey1 ⟨r0, r1, r2, r3, r4, r5⟩) = x at *
      by_cases hx : x = 0
      · subst hx
        go_wp2_with fail
        (first | go_at_call 49 | skip)
        refine hq0.mono ?_
        rintro e w2 ⟨rfl, hb2⟩
        have HB2 : Hid (Below W0.heap.size W0 w2) := chain HB.out hb2
        clear hb2
        go_wp2
        exact ⟨⟨1, by omega, by first | rfl | go_num, H0.out trivial, HB2.out⟩, by simp [intOf]⟩
      · have hx' : (x != 0) = true := by simp [hx]
        go_wp2_with (go_at_call 49; refine hq0.mono ?_; rintro e w2 ⟨rfl, hb2⟩; have HB2 : Hid (Below W0.heap.size W0 w2) := chain HB.out hb2; clear hb2)
        go_ret
        exact ⟨ret_int (HX.out hx).symm, chain HB0.out HB2.out⟩
    · have hq0 := order2_any a0 a1 a2 a3 a4 a5 r0 r1 r2 r3 r4 r5 q2 wr
      have H0 : Hid (cmpI (prKey2 ⟨a0, a1, a2, a3, a4, a5⟩) (prKey2 ⟨r0, r1, r2, r3, r4, r5⟩) = 0 → ordGo ⟨a0, a1, a2, a3, a4, a5⟩ ⟨r0, r1, r2, r3, r4, r5⟩ 2) := fun h => ⟨fun _ => HG.out.1 (by omega), fun _ => h, fun h => by omega⟩
      have HX : Hid (cmpI (prKey2 ⟨a0, a1, a2, a3, a4, a5⟩) (prKey2 ⟨r0, r1, r2, r3, r4, r5⟩) ≠ 0 → ordR ⟨a0, a1, a2, a3, a4, a5⟩ ⟨r0, r1, r2, r3, r4, r5⟩ = cmpI (prKey2 ⟨a0, a1, a2, a3, a4, a5⟩) (prKey2 ⟨r0, r1, r2, r3, r4, r5⟩)) := fun h => ord_second (HG.out.1 (by omega)) h
      replace hq0 := hq0 k5 l2
      clear k4 k5 k6 k1 k3
      generalize cmpI (prKey2 ⟨a0, a1, a2, a3, a4, a5⟩) (prKey2 ⟨r0, r1, r2, r3, r4, r5⟩) = x at *
      by_cases hx : x = 0
      · subst hx
        go_wp2_with (go_at_call 49; refine hq0.mono ?_; rintro e w2 ⟨rfl, hb2⟩; have HB2 : Hid (Below W0.heap.size W0 w2) := chain HB.out hb2; clear hb2)
        exact ⟨⟨2, by omega, by first | rfl | go_num, H0.out trivial, HB2.out⟩, by simp [intOf]⟩
      · have hx' : (x != 0) = true := by simp [hx]
        go_wp2_with (go_at_call 49; refine hq0.mono ?_; rintro e w2 ⟨rfl, hb2⟩; have HB2 : Hid (Below W0.heap.size W0 w2) := chain HB.out hb2; clear hb2)
        go_ret
        exact ⟨ret_int (HX.out hx).symm, chain HB0.out HB2.out⟩
    · have hq0 := order3_any a0 a1 a2 a3 a4 a5 r0 r1 r2 r3 r4 r5 q3 wr
      have H0 : Hid (cmpI (prKey3 ⟨a0, a1, a2, a3, a4, a5⟩) (prKey3 ⟨r0, r1, r2, r3, r4, r5⟩) = 0 → ordGo ⟨a0, a1, a2, a3, a4, a5⟩ ⟨r0, r1, r2, r3, r4, r5⟩ 3) := fun h => ⟨fun _ => HG.out.1 (by omega), fun _ => HG.out.2.1 (by omega), fun _ => h⟩
      have HX : Hid (ordR ⟨a0, a1, a2, a3, a4, a5⟩ ⟨r0, r1, r2, r3, r4, r5⟩ = cmpI (prKey3 ⟨a0, a1, a2, a3, a4, a5⟩) (prKey3 ⟨r0, r1, r2, r3, r4, r5⟩)) := ord_third (HG.out.1 (by omega)) (HG.out.2.1 (by omega))
      replace hq0 := hq0 k6 l3
      clear k4 k5 k6 k1 k2
      generalize cmpI (prKey3 ⟨a0, a1, a2, a3, a4, a5⟩) (prKey3 ⟨r0, r1, r2, r3, r4, r5⟩) = x at *
      by_cases hx : x = 0
      · subst hx
        go_wp2_with (go_at_call 49; refine hq0.mono ?_; rintro e w2 ⟨rfl, hb2⟩; have HB2 : Hid (Below W0.heap.size W0 w2) := chain HB.out hb2; clear hb2)
        exact ⟨⟨3, by omega, by first | rfl | go_num, H0.out trivial, HB2.out⟩, by simp [intOf]⟩
      · have hx' : (x != 0) = true := by simp [hx]
        go_wp2_with (go_at_call 49; refine hq0.mono ?_; rintro e w2 ⟨rfl, hb2⟩; have HB2 : Hid (Below W0.heap.size W0 w2) := chain HB.out hb2; clear hb2)
        go_ret
        exact ⟨ret_int HX.out.symm, chain HB0.out HB2.out⟩
    · have HX : Hid (ordR ⟨a0, a1, a2, a3, a4, a5⟩ ⟨r0, r1, r2, r3, r4, r5⟩ = 0) := by show _ = _; rw [ord_third (HG.out.1 (by omega)) (HG.out.2.1 (by omega))]; exact HG.out.2.2 (by omega)
      go_wp2
      go_ret
      exact ⟨ret_int HX.out.symm, chain HB0.out HB.out⟩

set_option maxHeartbeats 4000000 in
set_option maxRecDepth 4000 in
theorem holding_any (art zn a z : ByteArray) (l f t q m : Int) (p1 p2 : Nat) (w : World) (h1 : w.cell? ⟨p1, 0, none⟩ = some (.string art)) (h2 : w.cell? ⟨p2, 0, none⟩ = some (.string zn)) (l1 : p1 < w.heap.size) (l2 : p2 < w.heap.size) :
    Calls Try.prog 37 #[.agg #[.string a, .string z, .int .i64 l, .int .i64 f, .int .i64 t, .int .i64 q], .int .i64 m, .pointer (some ⟨p1, 0, none⟩), .pointer (some ⟨p2, 0, none⟩)] w fun e w' => e = .returned (.bool (prHolds art zn m ⟨a, z, l, f, t, q⟩)) ∧ Below w.heap.size w w' := by
  have n1 : p1 ≠ w.heap.size := by omega
  have n2 : p2 ≠ w.heap.size := by omega
  rcases holds_ways art zn a z l f t q m with ⟨g1, hE⟩ | ⟨g1, g2, g3, hE⟩ | ⟨g1, (⟨g2, g3⟩ | ⟨g2, g3⟩ | ⟨g2, g3⟩), (⟨g4, hE⟩ | ⟨g4, g5, hE⟩ | ⟨g4, g5, hE⟩)⟩
  all_goals
    rw [hE]
    clear hE
    go_enter Try.func37, Try.ntmps37
    go_wp2
    go_ret
    exact ⟨ret_bool (by first | rfl | exact decide_eq_false (by omega) | exact decide_eq_true (by omega)), below_alloc _ _⟩
end Go.Proofs.Ytgfgecpgfcipnaa
