/-
  The program's TaxAt and the specification's.
-/
import Derived.Test.YtoaimjocphfcaaaTaxH
namespace Go.Proofs.Ytoaimjocphfcaaa
open Go.ChangeShapes Go.WideShapes Go.ChangeAt Go.RowKit
set_option linter.unusedVariables false

/-- What TaxAt answers. -/
def taRow (rs : List TR) (c : Int) (s : ByteArray) (day : Int) : Option TR := if 4096 < rs.length ∨ 65536 < s.size then none else if trAll rs = true then rowFor rs c s day else none
def taCode (rs : List TR) (c : Int) (s : ByteArray) (day : Int) : Int := if 4096 < rs.length ∨ 65536 < s.size then 2 else if trAll rs = true then oC (rowFor rs c s day) else 1
theorem zeroV (c : Int) : RateV none c = .returned (.tuple #[.agg #[.int .i64 0, .int .i64 0], .int .i64 c]) := rfl

set_option maxHeartbeats 2000000 in
set_option maxRecDepth 4000 in
theorem implTaxAt_any (a : Option Addr) (cap : Nat) (rs : List TR) (hl : rs.length ≤ 100000000) (hp : ∀ r ∈ rs, TrOK r) (c : Int) (s : ByteArray) (hk : KeyOK c s) (day : Int) (w : World) (hr : ReadsT w.heap.size w a rs) :
    Calls Try.prog 7 #[.slice a rs.length cap, .int .i64 c, .string s, .int .i64 day] w fun e w' => e = RateV (taRow rs c s day) (taCode rs c s day) ∧ Below w.heap.size w w' := by
  have hs := hk.2
  unfold maxLen at hs
  rcases (by omega : (4096 : Int) < (rs.length : Int) ∨ ((rs.length : Int) ≤ 4096 ∧ (65536 : Int) < (s.size : Int)) ∨ ((rs.length : Int) ≤ 4096 ∧ (s.size : Int) ≤ 65536)) with h | ⟨h, h'⟩ | ⟨h, h'⟩
  · rw [show taRow rs c s day = none by unfold taRow; rw [if_pos (by omega)], show taCode rs c s day = 2 by unfold taCode; rw [if_pos (by omega)], zeroV]
    go_enter Try.func7, Try.ntmps7
    go_wp2
    refine bodyPost_ret (v := .tuple #[.agg #[.int .i64 0, .int .i64 0], .int .i64 2]) (by simp [results, Try.results7, go_sem]) rfl ⟨rfl, below_alloc _ _⟩
  · rw [show taRow rs c s day = none by unfold taRow; rw [if_pos (by omega)], show taCode rs c s day = 2 by unfold taCode; rw [if_pos (by omega)], zeroV]
    go_enter Try.func7, Try.ntmps7
    go_wp2
    refine bodyPost_ret (v := .tuple #[.agg #[.int .i64 0, .int .i64 0], .int .i64 2]) (by simp [results, Try.results7, go_sem]) rfl ⟨rfl, below_alloc _ _⟩
  · have ht := table_any a cap rs hl hp (w.alloc (Obj.cells #[.int .i64 0, .int .i64 0] 36)) ((hr.below (below_alloc _ _)).mono (by simp))
    have HRt : Hid (∀ b m w', Tab w' b (b + 1) m (groups rs) → Calls Try.prog 22 #[.map (some b), .int .i64 c, .string s, .int .i64 day] w' fun e w'' => e = RateV (rowFor rs c s day) (oC (rowFor rs c s day)) ∧ Below w'.heap.size w' w'') := fun b m w' hT => rateAt_any b (b + 1) m rs hl c s hk day w' hT
    clear hr hp hs
    cases hA : trAll rs
    · rw [show taRow rs c s day = none by unfold taRow; rw [if_neg (by omega), hA]; rfl, show taCode rs c s day = 1 by unfold taCode; rw [if_neg (by omega), hA]; rfl, zeroV]
      have ht' : Calls Try.prog 13 #[.slice a rs.length cap] (w.alloc (Obj.cells #[.int .i64 0, .int .i64 0] 36)) fun e w' => e = .returned (.tuple #[.map none, .bool false]) ∧ Below (w.alloc (Obj.cells #[.int .i64 0, .int .i64 0] 36)).heap.size (w.alloc (Obj.cells #[.int .i64 0, .int .i64 0] 36)) w' := ht.mono fun e w' h => by
        rcases h with ⟨_, h1, h2⟩ | ⟨h0, _⟩
        · exact ⟨h1, h2⟩
        · rw [hA] at h0; cases h0
      clear ht hA
      go_enter Try.func7, Try.ntmps7
      go_wp2_with (go_at_call 13; refine ht'.mono ?_; rintro e w1 ⟨rfl, hb1⟩; obtain ⟨k0, k1, f0, f1, klt, kB⟩ := zeroRate hb1; obtain ⟨r0, r1⟩ := two_set (x := .int .i64 0) (y := .int .i64 0) k0 k1; have HR0 : Hid _ := r0; have HR1 : Hid _ := r1; have HB1 : Hid (Below w.heap.size w w1) := kB; clear r0 r1 kB hb1)
      refine bodyPost_ret (v := .tuple #[.agg #[.int .i64 0, .int .i64 0], .int .i64 1]) (by simp [results, Try.results7, go_sem, HR0.out, HR1.out]) rfl ⟨rfl, ?_⟩
      exact (HB1.out.setCell (Nat.le_refl _) _).setCell (Nat.le_refl _) _
    · rw [show taRow rs c s day = rowFor rs c s day by unfold taRow; rw [if_neg (by omega), if_pos hA], show taCode rs c s day = oC (rowFor rs c s day) by unfold taCode; rw [if_neg (by omega), if_pos hA]]
      have ht' : Calls Try.prog 13 #[.slice a rs.length cap] (w.alloc (Obj.cells #[.int .i64 0, .int .i64 0] 36)) fun e w' => ∃ b, e = .returned (.tuple #[.map (some b), .bool true]) ∧ Tab w' b (b + 1) rs.length (groups rs) ∧ Below (w.alloc (Obj.cells #[.int .i64 0, .int .i64 0] 36)).heap.size (w.alloc (Obj.cells #[.int .i64 0, .int .i64 0] 36)) w' := ht.mono fun e w' h => by
        rcases h with ⟨h0, _⟩ | ⟨_, _, b, h1, h2, _, h3⟩
        · rw [hA] at h0; cases h0
        · exact ⟨b, h1, h2, h3⟩
      clear ht hA
      unfold RateV at HRt ⊢
      generalize oN (rowFor rs c s day) = n at *
      generalize oD (rowFor rs c s day) = d at *
      generalize oC (rowFor rs c s day) = q at *
      go_enter Try.func7, Try.ntmps7
      go_wp2_with (first
        | (go_at_call 13; refine ht'.mono ?_; rintro e w1 ⟨b, rfl, hT1, hb1⟩; have HT1 : Hid (Tab w1 b (b + 1) rs.length (groups rs)) := hT1; have HB1 : Hid (Below (w.alloc (Obj.cells #[.int .i64 0, .int .i64 0] 36)).heap.size (w.alloc (Obj.cells #[.int .i64 0, .int .i64 0] 36)) w1) := hb1; clear hT1 hb1)
        | (go_at_call 22; refine (HRt.out _ _ _ HT1.out).mono ?_; rintro e w2 ⟨rfl, hb2⟩; obtain ⟨k0, k1, f0, f1, klt, kB⟩ := zeroRate (chain HB1.out hb2); obtain ⟨r0, r1⟩ := two_set (x := .int .i64 n) (y := .int .i64 d) k0 k1; have HR0 : Hid _ := r0; have HR1 : Hid _ := r1; have HB2 : Hid (Below w.heap.size w w2) := kB; clear r0 r1 kB hb2))
      refine bodyPost_ret (v := .tuple #[.agg #[.int .i64 n, .int .i64 d], .int .i64 q]) (by simp [results, Try.results7, go_sem, HR0.out, HR1.out]) rfl ⟨rfl, ?_⟩
      exact (HB2.out.setCell (Nat.le_refl _) _).setCell (Nat.le_refl _) _


end Go.Proofs.Ytoaimjocphfcaaa
