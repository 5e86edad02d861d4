/-
  What PackUnits answers, as a function of the packs; the program's packSize, for every pack behind packs that are right.
-/
import Derived.Test.YtaledfdhiimhdajPackA
import Derived.Test.YtaledfdhiimhdajNameAny
namespace Go.Proofs.Ytaledfdhiimhdaj
open Go.ChangeShapes Go.WideShapes Go.ChangeAt Go.RowKit
set_option linter.unusedVariables false

theorem findP_range (n : ByteArray) : ∀ (ps : List Pk) (k : Nat), findP n ps k = -1 ∨ ((k : Int) ≤ findP n ps k ∧ findP n ps k < (k : Int) + (ps.length : Int))
  | [], k => .inl rfl
  | p :: ps, k => by
    unfold findP
    by_cases h : (p.name.toList == n.toList) = true
    · rw [if_pos h]; right; simp only [List.length_cons]; omega
    · rw [if_neg h]
      rcases findP_range n ps (k + 1) with h | h
      · exact .inl h
      · right; simp only [List.length_cons]; omega

/-- The size, and the code, of a pack behind packs whose sizes are known. -/
def pkTold (n : Int) : Int × Int := if 1000000 < n then (0, 11) else (n, 0)
def pkRes (ahead : List Pk) (L : List Int) (p : Pk) : Int × Int :=
  if nameB p.name = true ∧ 1 ≤ p.count ∧ p.count ≤ 1000 then
    if 0 ≤ findP p.name ahead 0 then (0, 7)
    else if (p.of.toList == []) = true then pkTold p.count
    else if findP p.of ahead 0 < 0 then (0, 6) else pkTold (p.count * L.getD (findP p.of ahead 0).toNat 0)
  else (0, 1)

/-- A list of packs that came in: their texts are texts of Go. -/
def PkOK (p : Pk) : Prop := p.name.size ≤ 2000000 ∧ p.of.size ≤ 2000000


set_option maxHeartbeats 2000000 in
theorem packSize_any (B : Nat) (a g : Option Addr) (ca cg : Nat) (ps : List Pk) (L : List Int) (p : Pk) (hp : PkOK p) (hl : ps.length ≤ 1000) (hL : L.length = ps.length) (hb : ∀ x ∈ L, 1 ≤ x ∧ x ≤ 1000000) (w : World) (hr : ReadsP w.heap.size w a ps) (hg : Reads w.heap.size w g L) :
    Calls Try.prog 36 #[.slice a ps.length ca, .slice g L.length cg, .agg #[.string p.name, .string p.of, .int .i64 p.count]] w fun e w' => e = .returned (.tuple #[.int .i64 (pkRes ps L p).1, .int .i64 (pkRes ps L p).2]) ∧ Below w.heap.size w w' := by
  obtain ⟨nm, ofn, cnt⟩ := p
  obtain ⟨hp1, hp2⟩ : nm.size ≤ maxLen ∧ ofn.size ≤ maxLen := ⟨by have := hp.1; unfold maxLen; simp at this; omega, by have := hp.2; unfold maxLen; simp at this; omega⟩
  clear hp
  have hnm := fun w => implName_any nm hp1 w
  have hfn := fun w h => implFind_any a ca ps nm (by omega) w h
  have hfo := fun w h => implFind_any a ca ps ofn (by omega) w h
  have HR : Hid (ReadsP w.heap.size w a ps) := hr
  have HG : Hid (Reads w.heap.size w g L) := hg
  have HBd : Hid (∀ x ∈ L, 1 ≤ x ∧ x ≤ 1000000) := hb
  have HLn : Hid (L.length = ps.length) := hL
  clear hr hg hb hL
  by_cases h1 : nameB nm = true ∧ 1 ≤ cnt ∧ cnt ≤ 1000
  · obtain ⟨h1a, h1b, h1c⟩ := h1
    have HP : Hid (pkRes ps L ⟨nm, ofn, cnt⟩ = if 0 ≤ findP nm ps 0 then (0, 7) else if (ofn.toList == []) = true then pkTold cnt else if findP ofn ps 0 < 0 then (0, 6) else pkTold (cnt * L.getD (findP ofn ps 0).toNat 0)) := by
      show _ = _; unfold pkRes; rw [if_pos ⟨h1a, h1b, h1c⟩]
    rw [h1a] at hnm
    rcases findP_range nm ps 0 with e1 | ⟨e1, e2⟩
    · rw [if_neg (by omega)] at HP
      rw [e1] at hfn
      cases h2 : (ofn.toList == [])
      · rw [if_neg (by rw [h2]; decide)] at HP
        rcases findP_range ofn ps 0 with e3 | ⟨e3, e4⟩
        · rw [if_pos (by omega)] at HP
          rw [e3] at hfo
          clear e1 e3
          go_enter Try.func36, Try.ntmps36
          go_wp2_with (first | (go_at_call 56; refine (hnm _).mono ?_; rintro e w1 ⟨rfl, hb1⟩; obtain ⟨hc1, hf1, hz1⟩ := bfacts hb1; have HB1 : Hid (Below w.heap.size w w1) := chain (below_alloc _ _) hb1) | (go_at_call 57; have HB2x := HB2; refine (hfo _ ((HR.out.below HB2.out).mono HB2.out.size)).mono ?_; rintro e w3 ⟨rfl, hb3⟩; obtain ⟨hc3, hf3, hz3⟩ := bfacts hb3; have HB3 : Hid (Below w.heap.size w w3) := chain HB2.out hb3) | (go_at_call 57; refine (hfn _ ((HR.out.below HB1.out).mono HB1.out.size)).mono ?_; rintro e w2 ⟨rfl, hb2⟩; obtain ⟨hc2, hf2, hz2⟩ := bfacts hb2; have HB2 : Hid (Below w.heap.size w w2) := chain HB1.out hb2))
          go_ret2
          exact ⟨by rw [HP.out]; rfl, HB3.out⟩
        · rw [if_neg (by omega)] at HP
          obtain ⟨k, hk⟩ : ∃ k : Nat, findP ofn ps 0 = (k : Int) := ⟨_, (Int.toNat_of_nonneg (by omega)).symm⟩
          rw [hk] at hfo HP e3 e4
          rw [Int.toNat_natCast] at HP
          have hkL : k < L.length := by have := HLn.out; omega
          have hkL' : (k : Int) < (L.length : Int) := by omega
          obtain ⟨x1, x2⟩ := getD_bound HBd.out k hkL
          rcases HG.out with h | ⟨b0, o0, hga, hB0, ig⟩
          · rw [h] at hkL; simp at hkL
          have HI : Hid (∀ w', Below w.heap.size w w' → w'.cell? ⟨b0, o0 + k, none⟩ = some (.int .i64 (L.getD k 0))) := fun w' hb => (ig.below hb hB0) k hkL
          rw [hga]
          clear e1 e3 e4 hk ig
          generalize L.getD k 0 = x at *
          have hm1 : 1 * x ≤ cnt * x := Int.mul_le_mul_of_nonneg_right h1b (by omega)
          have hm2 : cnt * x ≤ 1000 * x := Int.mul_le_mul_of_nonneg_right h1c (by omega)
          have hm3 : 0 ≤ cnt * x := by omega
          have hm4 : cnt * x ≤ 1000000000 := by omega
          clear hm1 hm2
          unfold pkTold at HP
          by_cases hov : 1000000 < cnt * x
          · rw [if_pos hov] at HP
            go_enter Try.func36, Try.ntmps36
            go_wp2_with (first | (go_at_call 56; refine (hnm _).mono ?_; rintro e w1 ⟨rfl, hb1⟩; obtain ⟨hc1, hf1, hz1⟩ := bfacts hb1; have HB1 : Hid (Below w.heap.size w w1) := chain (below_alloc _ _) hb1) | (go_at_call 57; have HB2x := HB2; refine (hfo _ ((HR.out.below HB2.out).mono HB2.out.size)).mono ?_; rintro e w3 ⟨rfl, hb3⟩; obtain ⟨hc3, hf3, hz3⟩ := bfacts hb3; have HB3 : Hid (Below w.heap.size w w3) := chain HB2.out hb3; have hcx := HI.out _ HB3.out) | (go_at_call 57; refine (hfn _ ((HR.out.below HB1.out).mono HB1.out.size)).mono ?_; rintro e w2 ⟨rfl, hb2⟩; obtain ⟨hc2, hf2, hz2⟩ := bfacts hb2; have HB2 : Hid (Below w.heap.size w w2) := chain HB1.out hb2))
            go_ret2
            exact ⟨by rw [HP.out]; rfl, HB3.out⟩
          · rw [if_neg hov] at HP
            go_enter Try.func36, Try.ntmps36
            go_wp2_with (first | (go_at_call 56; refine (hnm _).mono ?_; rintro e w1 ⟨rfl, hb1⟩; obtain ⟨hc1, hf1, hz1⟩ := bfacts hb1; have HB1 : Hid (Below w.heap.size w w1) := chain (below_alloc _ _) hb1) | (go_at_call 57; have HB2x := HB2; refine (hfo _ ((HR.out.below HB2.out).mono HB2.out.size)).mono ?_; rintro e w3 ⟨rfl, hb3⟩; obtain ⟨hc3, hf3, hz3⟩ := bfacts hb3; have HB3 : Hid (Below w.heap.size w w3) := chain HB2.out hb3; have hcx := HI.out _ HB3.out) | (go_at_call 57; refine (hfn _ ((HR.out.below HB1.out).mono HB1.out.size)).mono ?_; rintro e w2 ⟨rfl, hb2⟩; obtain ⟨hc2, hf2, hz2⟩ := bfacts hb2; have HB2 : Hid (Below w.heap.size w w2) := chain HB1.out hb2))
            go_ret2
            exact ⟨by rw [HP.out]; rfl, HB3.out⟩
      · rw [if_pos (by rw [h2])] at HP
        unfold pkTold at HP
        rw [if_neg (by omega)] at HP
        clear e1
        go_enter Try.func36, Try.ntmps36
        go_wp2_with (first | (go_at_call 56; refine (hnm _).mono ?_; rintro e w1 ⟨rfl, hb1⟩; obtain ⟨hc1, hf1, hz1⟩ := bfacts hb1; have HB1 : Hid (Below w.heap.size w w1) := chain (below_alloc _ _) hb1) | (go_at_call 57; refine (hfn _ ((HR.out.below HB1.out).mono HB1.out.size)).mono ?_; rintro e w2 ⟨rfl, hb2⟩; obtain ⟨hc2, hf2, hz2⟩ := bfacts hb2; have HB2 : Hid (Below w.heap.size w w2) := chain HB1.out hb2))
        go_ret2
        exact ⟨by rw [HP.out]; rfl, HB2.out⟩
    · rw [if_pos (by omega)] at HP
      generalize findP nm ps 0 = f at *
      go_enter Try.func36, Try.ntmps36
      go_wp2_with (first | (go_at_call 56; refine (hnm _).mono ?_; rintro e w1 ⟨rfl, hb1⟩; obtain ⟨hc1, hf1, hz1⟩ := bfacts hb1; have HB1 : Hid (Below w.heap.size w w1) := chain (below_alloc _ _) hb1) | (go_at_call 57; refine (hfn _ ((HR.out.below HB1.out).mono HB1.out.size)).mono ?_; rintro e w2 ⟨rfl, hb2⟩; obtain ⟨hc2, hf2, hz2⟩ := bfacts hb2; have HB2 : Hid (Below w.heap.size w w2) := chain HB1.out hb2))
      go_ret2
      exact ⟨by rw [HP.out]; rfl, HB2.out⟩
  · have HP : Hid (pkRes ps L ⟨nm, ofn, cnt⟩ = (0, 1)) := by
      show _ = _; unfold pkRes; rw [if_neg h1]
    cases hnb : nameB nm
    · rw [hnb] at hnm
      clear h1
      go_enter Try.func36, Try.ntmps36
      go_wp2_with (first | (go_at_call 56; refine (hnm _).mono ?_; rintro e w1 ⟨rfl, hb1⟩; obtain ⟨hc1, hf1, hz1⟩ := bfacts hb1; have HB1 : Hid (Below w.heap.size w w1) := chain (below_alloc _ _) hb1))
      go_ret2
      exact ⟨by rw [HP.out]; rfl, HB1.out⟩
    · rw [hnb] at hnm
      rcases in_ways cnt 1 1000 with h | ⟨h, h'⟩ | ⟨h, h'⟩
      · clear h1
        go_enter Try.func36, Try.ntmps36
        go_wp2_with (first | (go_at_call 56; refine (hnm _).mono ?_; rintro e w1 ⟨rfl, hb1⟩; obtain ⟨hc1, hf1, hz1⟩ := bfacts hb1; have HB1 : Hid (Below w.heap.size w w1) := chain (below_alloc _ _) hb1))
        go_ret2
        exact ⟨by rw [HP.out]; rfl, HB1.out⟩
      · clear h1
        go_enter Try.func36, Try.ntmps36
        go_wp2_with (first | (go_at_call 56; refine (hnm _).mono ?_; rintro e w1 ⟨rfl, hb1⟩; obtain ⟨hc1, hf1, hz1⟩ := bfacts hb1; have HB1 : Hid (Below w.heap.size w w1) := chain (below_alloc _ _) hb1))
        go_ret2
        exact ⟨by rw [HP.out]; rfl, HB1.out⟩
      · exact absurd ⟨hnb, h, h'⟩ h1

end Go.Proofs.Ytaledfdhiimhdaj
