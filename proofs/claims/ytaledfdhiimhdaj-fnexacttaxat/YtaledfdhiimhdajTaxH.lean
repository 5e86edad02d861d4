/-
  The program's rateAt and TaxAt, the specification's TaxAt, for every list of rows, class, place and day.
-/
import Derived.Test.YtaledfdhiimhdajTaxG
namespace Go.Proofs.Ytaledfdhiimhdaj
open Go.ChangeShapes Go.WideShapes Go.ChangeAt Go.RowKit
set_option linter.unusedVariables false

theorem two_cells {W : World} {b : Nat} {p q x y : Value} (o : Obj) (k0 : W.cell? ⟨b, 0, none⟩ = some p) (k1 : W.cell? ⟨b, 1, none⟩ = some q) :
    (((W.setCell ⟨b, 0, none⟩ x).setCell ⟨b, 1, none⟩ y).alloc o).cell? ⟨b, 0, none⟩ = some x ∧ (((W.setCell ⟨b, 0, none⟩ x).setCell ⟨b, 1, none⟩ y).alloc o).cell? ⟨b, 1, none⟩ = some y := by
  have hsz : b < ((W.setCell ⟨b, 0, none⟩ x).setCell ⟨b, 1, none⟩ y).heap.size := by rw [World.size_setCell, World.size_setCell]; exact World.block_lt_of_cell? _ _ k0
  refine ⟨?_, ?_⟩
  · rw [World.cell?_alloc_lt _ _ _ hsz, World.cell?_setCell_other _ _ _ _ (by simp)]
    exact World.cell?_setCell_same _ _ _ k0
  · rw [World.cell?_alloc_lt _ _ _ hsz]
    exact World.cell?_setCell_same _ _ _ (by rw [World.cell?_setCell_other _ _ _ _ (by simp)]; exact k1)
theorem two_set {W : World} {b : Nat} {p q x y : Value} (k0 : W.cell? ⟨b, 0, none⟩ = some p) (k1 : W.cell? ⟨b, 1, none⟩ = some q) :
    ((W.setCell ⟨b, 0, none⟩ x).setCell ⟨b, 1, none⟩ y).cell? ⟨b, 0, none⟩ = some x ∧ ((W.setCell ⟨b, 0, none⟩ x).setCell ⟨b, 1, none⟩ y).cell? ⟨b, 1, none⟩ = some y := by
  refine ⟨?_, ?_⟩
  · rw [World.cell?_setCell_other _ _ _ _ (by simp)]
    exact World.cell?_setCell_same _ _ _ k0
  · exact World.cell?_setCell_same _ _ _ (by rw [World.cell?_setCell_other _ _ _ _ (by simp)]; exact k1)
/-- The result's block, which was made first. -/
theorem zeroRate {w W : World} (hb : Below (w.alloc (Obj.cells #[.int .i64 0, .int .i64 0] 45)).heap.size (w.alloc (Obj.cells #[.int .i64 0, .int .i64 0] 45)) W) :
    W.cell? ⟨w.heap.size, 0, none⟩ = some (.int .i64 0) ∧ W.cell? ⟨w.heap.size, 1, none⟩ = some (.int .i64 0) ∧ W.frozen? ⟨w.heap.size, 0, none⟩ = false ∧ W.frozen? ⟨w.heap.size, 1, none⟩ = false ∧ w.heap.size < W.heap.size ∧ Below w.heap.size w W := by
  obtain ⟨hc, hf, hz⟩ := bfacts hb
  have l : w.heap.size < (w.alloc (Obj.cells #[.int .i64 0, .int .i64 0] 45)).heap.size := by simp
  have e : (w.alloc (Obj.cells #[.int .i64 0, .int .i64 0] 45)).heap[w.heap.size]? = some (.cells #[.int .i64 0, .int .i64 0] 45 (0, 0)) := heapNew w _
  refine ⟨?_, ?_, ?_, ?_, hz _ l, chain (below_alloc _ _) hb⟩
  · rw [hc _ _ l, cell_of_row _ _ _ _ _ _ e]; rfl
  · rw [hc _ _ l, cell_of_row _ _ _ _ _ _ e]; rfl
  · rw [hf _ _ l]; unfold World.frozen?; rw [e]; rfl
  · rw [hf _ _ l]; unfold World.frozen?; rw [e]; rfl

theorem rateCells {w W : World} {a : Option Addr} {rs : List TR} {k : Nat} {r : TR} (hr : ReadsT w.heap.size w a rs) (hb : Below w.heap.size w W) (hk : k < rs.length) (hkr : rs.getD k tr0 = r) :
    ∃ b0 o0, a = some ⟨b0, o0, none⟩ ∧ W.cell? ⟨b0, o0 + k * 6 + 4, none⟩ = some (.int .i64 r.n) ∧ W.cell? ⟨b0, o0 + k * 6 + 5, none⟩ = some (.int .i64 r.d) := by
  rcases hr with h | ⟨b0, o0, ha, hB0, ia⟩
  · rw [h] at hk; simp at hk
  · obtain ⟨_, _, _, _, c4, c5⟩ := (ia.below hb hB0) k hk
    rw [hkr] at c4 c5
    exact ⟨b0, o0, ha, c4, c5⟩
def oC (o : Option TR) : Int := if o.isSome = true then 0 else 8
def RateV (o : Option TR) (c : Int) : Ending := .returned (.tuple #[.agg #[.int .i64 (oN o), .int .i64 (oD o)], .int .i64 c])

set_option maxHeartbeats 2000000 in
set_option maxRecDepth 4000 in
theorem rateAt_any (b base m : Nat) (rs : List TR) (hl : rs.length ≤ 100000000) (c : Int) (s : ByteArray) (hk : KeyOK c s) (day : Int) (w : World) (hT : Tab w b base m (groups rs)) :
    Calls Try.prog 47 #[.map (some b), .int .i64 c, .string s, .int .i64 day] w fun e w' => e = RateV (rowFor rs c s day) (oC (rowFor rs c s day)) ∧ Below w.heap.size w w' := by
  have HT : Hid (Tab w b base m (groups rs)) := hT
  have hk0 : KeyOK c ⟨#[]⟩ := ⟨hk.1, by show (0 : Nat) ≤ _; omega⟩
  have h1 := ownRate_any b base m rs hl c s hk day _ (HT.out.alloc (Obj.cells #[.int .i64 0, .int .i64 0] 45))
  have H2 : Hid (∀ w', Below w.heap.size w w' → Calls Try.prog 62 #[.map (some b), .agg #[.int .i64 c, .string ⟨#[]⟩], .int .i64 day] w' fun e w'' => e = .returned (.tuple #[.agg #[.int .i64 (oN (rs.find? (hit c ⟨#[]⟩ day))), .int .i64 (oD (rs.find? (hit c ⟨#[]⟩ day)))], .bool (rs.find? (hit c ⟨#[]⟩ day)).isSome]) ∧ Below w'.heap.size w' w'') := fun w' hb => ownRate_any b base m rs hl c ⟨#[]⟩ hk0 day w' (HT.out.later hb)
  clear hT
  cases hf : rs.find? (hit c s day) with
  | some r =>
    rw [hf] at h1
    rw [rowFor_some hf]
    have e1 : oN (some r) = r.n := rfl
    have e2 : oD (some r) = r.d := rfl
    have e3 : oC (some r) = 0 := rfl
    unfold RateV
    rw [e1, e2] at h1 ⊢
    rw [e3]
    simp only [Option.isSome_some] at h1
    clear hf e1 e2 e3
    generalize r.n = n at *
    generalize r.d = d at *
    go_enter Try.func47, Try.ntmps47
    go_wp2_with (go_at_call 62; refine h1.mono ?_; rintro e w1 ⟨rfl, hb1⟩; obtain ⟨k0, k1, f0, f1, klt, kB⟩ := zeroRate hb1; obtain ⟨r0, r1⟩ := two_cells (x := .int .i64 n) (y := .int .i64 d) (Obj.cells #[.int .i64 n, .int .i64 d] 45) k0 k1; have HR0 : Hid _ := r0; have HR1 : Hid _ := r1; have HB1 : Hid (Below w.heap.size w w1) := kB; clear r0 r1 kB hb1)
    refine bodyPost_ret (v := .tuple #[.agg #[.int .i64 n, .int .i64 d], .int .i64 0]) (by simp [results, Try.results47, go_sem, HR0.out, HR1.out]) rfl ⟨rfl, ?_⟩
    exact ((HB1.out.setCell (Nat.le_refl _) _).setCell (Nat.le_refl _) _).alloc (by rw [World.size_setCell, World.size_setCell]; omega) _
  | none =>
    rw [hf] at h1
    rw [rowFor_none hf]
    have e1 : oN none = 0 := rfl
    have e2 : oD none = 0 := rfl
    rw [e1, e2] at h1
    simp only [Option.isSome_none] at h1
    clear hf e1 e2
    cases hg : rs.find? (hit c ⟨#[]⟩ day) with
    | some r =>
      rw [hg] at H2
      have e1 : oN (some r) = r.n := rfl
      have e2 : oD (some r) = r.d := rfl
      have e3 : oC (some r) = 0 := rfl
      unfold RateV
      rw [e1, e2] at H2 ⊢
      rw [e3]
      simp only [Option.isSome_some] at H2
      clear hg e1 e2 e3
      generalize r.n = n at *
      generalize r.d = d at *
      go_enter Try.func47, Try.ntmps47
      go_wp2_with (first
      | (go_at_call 62; have G := HB1; refine (H2.out _ (chain (chain (below_alloc _ _) HB1.out) (below_alloc _ _))).mono ?_; rintro e w2 ⟨rfl, hb2⟩; obtain ⟨k0, k1, f0, f1, klt, kB⟩ := zeroRate (chain (chain HB1.out (below_alloc _ _)) hb2); obtain ⟨r0, r1⟩ := two_cells (x := .int .i64 n) (y := .int .i64 d) (Obj.cells #[.int .i64 n, .int .i64 d] 45) k0 k1; have HR0 : Hid _ := r0; have HR1 : Hid _ := r1; have HB2 : Hid (Below w.heap.size w w2) := kB; clear r0 r1 kB hb2)
      | (go_at_call 62; refine h1.mono ?_; rintro e w1 ⟨rfl, hb1⟩; have HB1 : Hid (Below (w.alloc (Obj.cells #[.int .i64 0, .int .i64 0] 45)).heap.size (w.alloc (Obj.cells #[.int .i64 0, .int .i64 0] 45)) w1) := hb1; clear hb1))
      refine bodyPost_ret (v := .tuple #[.agg #[.int .i64 n, .int .i64 d], .int .i64 0]) (by simp [results, Try.results47, go_sem, HR0.out, HR1.out]) rfl ⟨rfl, ?_⟩
      exact ((HB2.out.setCell (Nat.le_refl _) _).setCell (Nat.le_refl _) _).alloc (by rw [World.size_setCell, World.size_setCell]; omega) _
    | none =>
      rw [hg] at H2
      have e1 : oN none = 0 := rfl
      have e2 : oD none = 0 := rfl
      have e3 : oC none = 8 := rfl
      unfold RateV
      rw [e1, e2] at H2 ⊢
      rw [e3]
      simp only [Option.isSome_none] at H2
      clear hg e1 e2 e3
      go_enter Try.func47, Try.ntmps47
      go_wp2_with (first
      | (go_at_call 62; have G := HB1; refine (H2.out _ (chain (chain (below_alloc _ _) HB1.out) (below_alloc _ _))).mono ?_; rintro e w2 ⟨rfl, hb2⟩; obtain ⟨k0, k1, f0, f1, klt, kB⟩ := zeroRate (chain (chain HB1.out (below_alloc _ _)) hb2); obtain ⟨r0, r1⟩ := two_cells (x := .int .i64 0) (y := .int .i64 0) (Obj.cells #[.int .i64 0, .int .i64 0] 45) k0 k1; have HR0 : Hid _ := r0; have HR1 : Hid _ := r1; have HB2 : Hid (Below w.heap.size w w2) := kB; clear r0 r1 kB hb2)
      | (go_at_call 62; refine h1.mono ?_; rintro e w1 ⟨rfl, hb1⟩; have HB1 : Hid (Below (w.alloc (Obj.cells #[.int .i64 0, .int .i64 0] 45)).heap.size (w.alloc (Obj.cells #[.int .i64 0, .int .i64 0] 45)) w1) := hb1; clear hb1))
      refine bodyPost_ret (v := .tuple #[.agg #[.int .i64 0, .int .i64 0], .int .i64 8]) (by simp [results, Try.results47, go_sem, HR0.out, HR1.out]) rfl ⟨rfl, ?_⟩
      exact ((HB2.out.setCell (Nat.le_refl _) _).setCell (Nat.le_refl _) _).alloc (by rw [World.size_setCell, World.size_setCell]; omega) _

/-- What TaxAt answers. -/
def taRow (rs : List TR) (c : Int) (s : ByteArray) (day : Int) : Option TR := if 4096 < rs.length ∨ 65536 < s.size then none else if trAll rs = true then rowFor rs c s day else none
def taCode (rs : List TR) (c : Int) (s : ByteArray) (day : Int) : Int := if 4096 < rs.length ∨ 65536 < s.size then 2 else if trAll rs = true then oC (rowFor rs c s day) else 1
theorem zeroV (c : Int) : RateV none c = .returned (.tuple #[.agg #[.int .i64 0, .int .i64 0], .int .i64 c]) := rfl

set_option maxHeartbeats 2000000 in
set_option maxRecDepth 4000 in
theorem implTaxAt_any (a : Option Addr) (cap : Nat) (rs : List TR) (hl : rs.length ≤ 100000000) (hp : ∀ r ∈ rs, TrOK r) (c : Int) (s : ByteArray) (hk : KeyOK c s) (day : Int) (w : World) (hr : ReadsT w.heap.size w a rs) :
    Calls Try.prog 25 #[.slice a rs.length cap, .int .i64 c, .string s, .int .i64 day] w fun e w' => e = RateV (taRow rs c s day) (taCode rs c s day) ∧ Below w.heap.size w w' := by
  have hs := hk.2
  unfold maxLen at hs
  rcases (by omega : (4096 : Int) < (rs.length : Int) ∨ ((rs.length : Int) ≤ 4096 ∧ (65536 : Int) < (s.size : Int)) ∨ ((rs.length : Int) ≤ 4096 ∧ (s.size : Int) ≤ 65536)) with h | ⟨h, h'⟩ | ⟨h, h'⟩
  · rw [show taRow rs c s day = none by unfold taRow; rw [if_pos (by omega)], show taCode rs c s day = 2 by unfold taCode; rw [if_pos (by omega)], zeroV]
    go_enter Try.func25, Try.ntmps25
    go_wp2
    refine bodyPost_ret (v := .tuple #[.agg #[.int .i64 0, .int .i64 0], .int .i64 2]) (by simp [results, Try.results25, go_sem]) rfl ⟨rfl, below_alloc _ _⟩
  · rw [show taRow rs c s day = none by unfold taRow; rw [if_pos (by omega)], show taCode rs c s day = 2 by unfold taCode; rw [if_pos (by omega)], zeroV]
    go_enter Try.func25, Try.ntmps25
    go_wp2
    refine bodyPost_ret (v := .tuple #[.agg #[.int .i64 0, .int .i64 0], .int .i64 2]) (by simp [results, Try.results25, go_sem]) rfl ⟨rfl, below_alloc _ _⟩
  · have ht := table_any a cap rs hl hp (w.alloc (Obj.cells #[.int .i64 0, .int .i64 0] 45)) ((hr.below (below_alloc _ _)).mono (by simp))
    have HRt : Hid (∀ b m w', Tab w' b (b + 1) m (groups rs) → Calls Try.prog 47 #[.map (some b), .int .i64 c, .string s, .int .i64 day] w' fun e w'' => e = RateV (rowFor rs c s day) (oC (rowFor rs c s day)) ∧ Below w'.heap.size w' w'') := fun b m w' hT => rateAt_any b (b + 1) m rs hl c s hk day w' hT
    clear hr hp hs
    cases hA : trAll rs
    · rw [show taRow rs c s day = none by unfold taRow; rw [if_neg (by omega), hA]; rfl, show taCode rs c s day = 1 by unfold taCode; rw [if_neg (by omega), hA]; rfl, zeroV]
      have ht' : Calls Try.prog 44 #[.slice a rs.length cap] (w.alloc (Obj.cells #[.int .i64 0, .int .i64 0] 45)) fun e w' => e = .returned (.tuple #[.map none, .bool false]) ∧ Below (w.alloc (Obj.cells #[.int .i64 0, .int .i64 0] 45)).heap.size (w.alloc (Obj.cells #[.int .i64 0, .int .i64 0] 45)) w' := ht.mono fun e w' h => by
        rcases h with ⟨_, h1, h2⟩ | ⟨h0, _⟩
        · exact ⟨h1, h2⟩
        · rw [hA] at h0; cases h0
      clear ht hA
      go_enter Try.func25, Try.ntmps25
      go_wp2_with (go_at_call 44; refine ht'.mono ?_; rintro e w1 ⟨rfl, hb1⟩; obtain ⟨k0, k1, f0, f1, klt, kB⟩ := zeroRate hb1; obtain ⟨r0, r1⟩ := two_set (x := .int .i64 0) (y := .int .i64 0) k0 k1; have HR0 : Hid _ := r0; have HR1 : Hid _ := r1; have HB1 : Hid (Below w.heap.size w w1) := kB; clear r0 r1 kB hb1)
      refine bodyPost_ret (v := .tuple #[.agg #[.int .i64 0, .int .i64 0], .int .i64 1]) (by simp [results, Try.results25, go_sem, HR0.out, HR1.out]) rfl ⟨rfl, ?_⟩
      exact (HB1.out.setCell (Nat.le_refl _) _).setCell (Nat.le_refl _) _
    · rw [show taRow rs c s day = rowFor rs c s day by unfold taRow; rw [if_neg (by omega), if_pos hA], show taCode rs c s day = oC (rowFor rs c s day) by unfold taCode; rw [if_neg (by omega), if_pos hA]]
      have ht' : Calls Try.prog 44 #[.slice a rs.length cap] (w.alloc (Obj.cells #[.int .i64 0, .int .i64 0] 45)) fun e w' => ∃ b, e = .returned (.tuple #[.map (some b), .bool true]) ∧ Tab w' b (b + 1) rs.length (groups rs) ∧ Below (w.alloc (Obj.cells #[.int .i64 0, .int .i64 0] 45)).heap.size (w.alloc (Obj.cells #[.int .i64 0, .int .i64 0] 45)) w' := ht.mono fun e w' h => by
        rcases h with ⟨h0, _⟩ | ⟨_, _, b, h1, h2, _, h3⟩
        · rw [hA] at h0; cases h0
        · exact ⟨b, h1, h2, h3⟩
      clear ht hA
      unfold RateV at HRt ⊢
      generalize oN (rowFor rs c s day) = n at *
      generalize oD (rowFor rs c s day) = d at *
      generalize oC (rowFor rs c s day) = q at *
      go_enter Try.func25, Try.ntmps25
      go_wp2_with (first
        | (go_at_call 44; refine ht'.mono ?_; rintro e w1 ⟨b, rfl, hT1, hb1⟩; have HT1 : Hid (Tab w1 b (b + 1) rs.length (groups rs)) := hT1; have HB1 : Hid (Below (w.alloc (Obj.cells #[.int .i64 0, .int .i64 0] 45)).heap.size (w.alloc (Obj.cells #[.int .i64 0, .int .i64 0] 45)) w1) := hb1; clear hT1 hb1)
        | (go_at_call 47; refine (HRt.out _ _ _ HT1.out).mono ?_; rintro e w2 ⟨rfl, hb2⟩; obtain ⟨k0, k1, f0, f1, klt, kB⟩ := zeroRate (chain HB1.out hb2); obtain ⟨r0, r1⟩ := two_set (x := .int .i64 n) (y := .int .i64 d) k0 k1; have HR0 : Hid _ := r0; have HR1 : Hid _ := r1; have HB2 : Hid (Below w.heap.size w w2) := kB; clear r0 r1 kB hb2))
      refine bodyPost_ret (v := .tuple #[.agg #[.int .i64 n, .int .i64 d], .int .i64 q]) (by simp [results, Try.results25, go_sem, HR0.out, HR1.out]) rfl ⟨rfl, ?_⟩
      exact (HB2.out.setCell (Nat.le_refl _) _).setCell (Nat.le_refl _) _

set_option maxHeartbeats 2000000 in
set_option maxRecDepth 4000 in
theorem specTaxAt_any (a : Option Addr) (cap : Nat) (rs : List TR) (hl : rs.length ≤ 100000000) (hp : ∀ r ∈ rs, TrOK r) (c : Int) (s : ByteArray) (hk : KeyOK c s) (day : Int) (w : World) (hr : ReadsT w.heap.size w a rs) :
    Calls Try.prog 24 #[.slice a rs.length cap, .int .i64 c, .string s, .int .i64 day] w fun e w' => e = RateV (taRow rs c s day) (taCode rs c s day) ∧ Below w.heap.size w w' := by
  have hs := hk.2
  unfold maxLen at hs
  rcases (by omega : (4096 : Int) < (rs.length : Int) ∨ ((rs.length : Int) ≤ 4096 ∧ (65536 : Int) < (s.size : Int)) ∨ ((rs.length : Int) ≤ 4096 ∧ (s.size : Int) ≤ 65536)) with h | ⟨h, h'⟩ | ⟨h, h'⟩
  · rw [show taRow rs c s day = none by unfold taRow; rw [if_pos (by omega)], show taCode rs c s day = 2 by unfold taCode; rw [if_pos (by omega)], zeroV]
    go_enter Try.func24, Try.ntmps24
    go_wp2
    refine bodyPost_ret (v := .tuple #[.agg #[.int .i64 0, .int .i64 0], .int .i64 2]) (by simp [results, Try.results24, go_sem]) rfl ⟨rfl, below_alloc _ _⟩
  · rw [show taRow rs c s day = none by unfold taRow; rw [if_pos (by omega)], show taCode rs c s day = 2 by unfold taCode; rw [if_pos (by omega)], zeroV]
    go_enter Try.func24, Try.ntmps24
    go_wp2
    refine bodyPost_ret (v := .tuple #[.agg #[.int .i64 0, .int .i64 0], .int .i64 2]) (by simp [results, Try.results24, go_sem]) rfl ⟨rfl, below_alloc _ _⟩
  · have HR : Hid (ReadsT w.heap.size w a rs) := hr
    have ht := specRows_any a cap rs hl hp (w.alloc (Obj.cells #[.int .i64 0, .int .i64 0] 45)) ((hr.below (below_alloc _ _)).mono (by simp))
    have HAt : Hid (∀ w', Below w.heap.size w w' → Calls Try.prog 46 #[.slice a rs.length cap, .int .i64 c, .string s, .int .i64 day] w' fun e w'' => (∃ x : Int, e = .returned (.int .i64 x) ∧ IdxOf rs (rowFor rs c s day) x) ∧ Below w'.heap.size w' w'') := fun w' hb => specAt_any a cap rs hl c s day w' ((HR.out.below hb).mono hb.size)
    clear hr hp hs
    cases hA : trAll rs
    · rw [show taRow rs c s day = none by unfold taRow; rw [if_neg (by omega), hA]; rfl, show taCode rs c s day = 1 by unfold taCode; rw [if_neg (by omega), hA]; rfl, zeroV]
      rw [hA] at ht
      clear hA
      go_enter Try.func24, Try.ntmps24
      go_wp2_with (go_at_call 20; refine ht.mono ?_; rintro e w1 ⟨rfl, hb1⟩; obtain ⟨k0, k1, f0, f1, klt, kB⟩ := zeroRate hb1; obtain ⟨r0, r1⟩ := two_set (x := .int .i64 0) (y := .int .i64 0) k0 k1; have HR0 : Hid _ := r0; have HR1 : Hid _ := r1; have HB1 : Hid (Below w.heap.size w w1) := kB; clear r0 r1 kB hb1)
      refine bodyPost_ret (v := .tuple #[.agg #[.int .i64 0, .int .i64 0], .int .i64 1]) (by simp [results, Try.results24, go_sem, HR0.out, HR1.out]) rfl ⟨rfl, ?_⟩
      exact (HB1.out.setCell (Nat.le_refl _) _).setCell (Nat.le_refl _) _
    · rw [show taRow rs c s day = rowFor rs c s day by unfold taRow; rw [if_neg (by omega), if_pos hA], show taCode rs c s day = oC (rowFor rs c s day) by unfold taCode; rw [if_neg (by omega), if_pos hA]]
      rw [hA] at ht
      clear hA
      cases hF : rowFor rs c s day with
      | none =>
        have HX : Hid (∀ w', Below w.heap.size w w' → Calls Try.prog 46 #[.slice a rs.length cap, .int .i64 c, .string s, .int .i64 day] w' fun e w'' => e = .returned (.int .i64 (-1)) ∧ Below w'.heap.size w' w'') := fun w' hb => (HAt.out w' hb).mono fun e w'' ⟨⟨x, he, hx⟩, h2⟩ => by
          rcases hx with ⟨hx, _⟩ | ⟨k, _, _, hx⟩
          · exact ⟨by rw [he, hx], h2⟩
          · rw [hF] at hx; cases hx
        rw [zeroV]
        have e3 : oC none = 8 := rfl
        rw [e3]
        clear hF e3 HAt
        go_enter Try.func24, Try.ntmps24
        go_wp2_with (first
          | (go_at_call 20; refine ht.mono ?_; rintro e w1 ⟨rfl, hb1⟩; have HB1 : Hid (Below (w.alloc (Obj.cells #[.int .i64 0, .int .i64 0] 45)).heap.size (w.alloc (Obj.cells #[.int .i64 0, .int .i64 0] 45)) w1) := hb1; clear hb1)
          | (go_at_call 46; refine (HX.out _ (chain (below_alloc _ _) HB1.out)).mono ?_; rintro e w2 ⟨rfl, hb2⟩; obtain ⟨k0, k1, f0, f1, klt, kB⟩ := zeroRate (chain HB1.out hb2); obtain ⟨r0, r1⟩ := two_set (x := .int .i64 0) (y := .int .i64 0) k0 k1; have HR0 : Hid _ := r0; have HR1 : Hid _ := r1; have HB2 : Hid (Below w.heap.size w w2) := kB; clear r0 r1 kB hb2))
        refine bodyPost_ret (v := .tuple #[.agg #[.int .i64 0, .int .i64 0], .int .i64 8]) (by simp [results, Try.results24, go_sem, HR0.out, HR1.out]) rfl ⟨rfl, ?_⟩
        exact (HB2.out.setCell (Nat.le_refl _) _).setCell (Nat.le_refl _) _
      | some r =>
        have HX : Hid (∀ w', Below w.heap.size w w' → Calls Try.prog 46 #[.slice a rs.length cap, .int .i64 c, .string s, .int .i64 day] w' fun e w'' => (∃ k : Nat, e = .returned (.int .i64 (k : Int)) ∧ k < rs.length ∧ rs.getD k tr0 = r) ∧ Below w'.heap.size w' w'') := fun w' hb => (HAt.out w' hb).mono fun e w'' ⟨⟨x, he, hx⟩, h2⟩ => by
          rcases hx with ⟨_, hx⟩ | ⟨k, hk, hx, hx'⟩
          · rw [hF] at hx; cases hx
          · rw [hF] at hx'
            exact ⟨⟨k, by rw [he, hx], hk, (Option.some.inj hx').symm⟩, h2⟩
        have e1 : oN (some r) = r.n := rfl
        have e2 : oD (some r) = r.d := rfl
        have e3 : oC (some r) = 0 := rfl
        unfold RateV
        rw [e1, e2, e3]
        clear hF e1 e2 e3 HAt
        go_enter Try.func24, Try.ntmps24
        go_wp2_with (first
          | (go_at_call 20; refine ht.mono ?_; rintro e w1 ⟨rfl, hb1⟩; have HB1 : Hid (Below (w.alloc (Obj.cells #[.int .i64 0, .int .i64 0] 45)).heap.size (w.alloc (Obj.cells #[.int .i64 0, .int .i64 0] 45)) w1) := hb1; clear hb1)
          | (go_at_call 46; refine (HX.out _ (chain (below_alloc _ _) HB1.out)).mono ?_; rintro e w2 ⟨⟨k, rfl, hkl, hkr⟩, hb2⟩; obtain ⟨k0, k1, f0, f1, klt, kB⟩ := zeroRate (chain HB1.out hb2); obtain ⟨r0, r1⟩ := two_set (x := .int .i64 r.n) (y := .int .i64 r.d) k0 k1; have HR0 : Hid _ := r0; have HR1 : Hid _ := r1; have HB2 : Hid (Below w.heap.size w w2) := kB; obtain ⟨b0, o0, ha, q4, q5⟩ := rateCells HR.out HB2.out hkl hkr; subst ha; have hkl' : (k : Int) < (rs.length : Int) := (by omega); clear r0 r1 kB hb2 hkr))
        refine bodyPost_ret (v := .tuple #[.agg #[.int .i64 r.n, .int .i64 r.d], .int .i64 0]) (by simp [results, Try.results24, go_sem, HR0.out, HR1.out]) rfl ⟨rfl, ?_⟩
        exact (HB2.out.setCell (Nat.le_refl _) _).setCell (Nat.le_refl _) _
end Go.Proofs.Ytaledfdhiimhdaj
