/-
  The program's rateAt and TaxAt, the specification's TaxAt, for every list of rows, class, place and day.
-/
import Derived.Test.YtoaimjocphfcaaaTaxG
namespace Go.Proofs.Ytoaimjocphfcaaa
open Go.ChangeShapes Go.WideShapes Go.ChangeAt Go.RowKit
set_option linter.unusedVariables false

theorem two_cells {W : World} {b : Nat} {p q x y : Value} (o : Obj) (k0 : W.cell? ⟨b, 0, none⟩ = some p) (k1 : W.cell? ⟨b, 1, none⟩ = some q) :
    (((W.setCell ⟨b, 0, none⟩ x).setCell ⟨b, 1, none⟩ y).alloc o).cell? ⟨b, 0, none⟩ = some x ∧ (((W.setCell ⟨b, 0, none⟩ x).setCell ⟨b, 1, none⟩ y).alloc o).cell? ⟨b, 1, none⟩ = some y := by
  have hsz : b < ((W.setCell ⟨b, 0, none⟩ x).setCell ⟨b, 1, none⟩ y).heap.size := by rw [World.size_setCell, World.size_setCell]; exact World.block_lt_of_cell? _ _ k0
  refine ⟨?_, ?_⟩
  · rw [World.cell?_alloc_lt _ _ _ hsz, World.cell?_setCell_other _ _ _ _ (by simp)]
    exact World.cell?_setCell_same _ _ _ k0
  · rw [World.cell?_alloc_lt _ _ _ hsz]
    exact World.cell?_setCell_same _ _ _ (by rw [World.cell?_setCell_other _ _ _ _ (by simp)]; exact k1)
theorem two_set {W : World} {b : Nat} {p q x y : Value} (k0 : W.cell? ⟨b, 0, none⟩ = some p) (k1 : W.cell? ⟨b, 1, none⟩ = some q) :
    ((W.setCell ⟨b, 0, none⟩ x).setCell ⟨b, 1, none⟩ y).cell? ⟨b, 0, none⟩ = some x ∧ ((W.setCell ⟨b, 0, none⟩ x).setCell ⟨b, 1, none⟩ y).cell? ⟨b, 1, none⟩ = some y := by
  refine ⟨?_, ?_⟩
  · rw [World.cell?_setCell_other _ _ _ _ (by simp)]
    exact World.cell?_setCell_same _ _ _ k0
  · exact World.cell?_setCell_same _ _ _ (by rw [World.cell?_setCell_other _ _ _ _ (by simp)]; exact k1)
/-- The result's block, which was made first. -/
theorem zeroRate {w W : World} (hb : Below (w.alloc (Obj.cells #[.int .i64 0, .int .i64 0] 36)).heap.size (w.alloc (Obj.cells #[.int .i64 0, .int .i64 0] 36)) W) :
    W.cell? ⟨w.heap.size, 0, none⟩ = some (.int .i64 0) ∧ W.cell? ⟨w.heap.size, 1, none⟩ = some (.int .i64 0) ∧ W.frozen? ⟨w.heap.size, 0, none⟩ = false ∧ W.frozen? ⟨w.heap.size, 1, none⟩ = false ∧ w.heap.size < W.heap.size ∧ Below w.heap.size w W := by
  obtain ⟨hc, hf, hz⟩ := bfacts hb
  have l : w.heap.size < (w.alloc (Obj.cells #[.int .i64 0, .int .i64 0] 36)).heap.size := by simp
  have e : (w.alloc (Obj.cells #[.int .i64 0, .int .i64 0] 36)).heap[w.heap.size]? = some (.cells #[.int .i64 0, .int .i64 0] 36 (0, 0)) := heapNew w _
  refine ⟨?_, ?_, ?_, ?_, hz _ l, chain (below_alloc _ _) hb⟩
  · rw [hc _ _ l, cell_of_row _ _ _ _ _ _ e]; rfl
  · rw [hc _ _ l, cell_of_row _ _ _ _ _ _ e]; rfl
  · rw [hf _ _ l]; unfold World.frozen?; rw [e]; rfl
  · rw [hf _ _ l]; unfold World.frozen?; rw [e]; rfl

theorem rateCells {w W : World} {a : Option Addr} {rs : List TR} {k : Nat} {r : TR} (hr : ReadsT w.heap.size w a rs) (hb : Below w.heap.size w W) (hk : k < rs.length) (hkr : rs.getD k tr0 = r) :
    ∃ b0 o0, a = some ⟨b0, o0, none⟩ ∧ W.cell? ⟨b0, o0 + k * 6 + 4, none⟩ = some (.int .i64 r.n) ∧ W.cell? ⟨b0, o0 + k * 6 + 5, none⟩ = some (.int .i64 r.d) := by
  rcases hr with h | ⟨b0, o0, ha, hB0, ia⟩
  · rw [h] at hk; simp at hk
  · obtain ⟨_, _, _, _, c4, c5⟩ := (ia.below hb hB0) k hk
    rw [hkr] at c4 c5
    exact ⟨b0, o0, ha, c4, c5⟩
def oC (o : Option TR) : Int := if o.isSome = true then 0 else 8
def RateV (o : Option TR) (c : Int) : Ending := .returned (.tuple #[.agg #[.int .i64 (oN o), .int .i64 (oD o)], .int .i64 c])

set_option maxHeartbeats 2000000 in
set_option maxRecDepth 4000 in
theorem rateAt_any (b base m : Nat) (rs : List TR) (hl : rs.length ≤ 100000000) (c : Int) (s : ByteArray) (hk : KeyOK c s) (day : Int) (w : World) (hT : Tab w b base m (groups rs)) :
    Calls Try.prog 22 #[.map (some b), .int .i64 c, .string s, .int .i64 day] w fun e w' => e = RateV (rowFor rs c s day) (oC (rowFor rs c s day)) ∧ Below w.heap.size w w' := by
  have HT : Hid (Tab w b base m (groups rs)) := hT
  have hk0 : KeyOK c ⟨#[]⟩ := ⟨hk.1, by show (0 : Nat) ≤ _; omega⟩
  have h1 := ownRate_any b base m rs hl c s hk day _ (HT.out.alloc (Obj.cells #[.int .i64 0, .int .i64 0] 36))
  have H2 : Hid (∀ w', Below w.heap.size w w' → Calls Try.prog 35 #[.map (some b), .agg #[.int .i64 c, .string ⟨#[]⟩], .int .i64 day] w' fun e w'' => e = .returned (.tuple #[.agg #[.int .i64 (oN (rs.find? (hit c ⟨#[]⟩ day))), .int .i64 (oD (rs.find? (hit c ⟨#[]⟩ day)))], .bool (rs.find? (hit c ⟨#[]⟩ day)).isSome]) ∧ Below w'.heap.size w' w'') := fun w' hb => ownRate_any b base m rs hl c ⟨#[]⟩ hk0 day w' (HT.out.later hb)
  clear hT
  cases hf : rs.find? (hit c s day) with
  | some r =>
    rw [hf] at h1
    rw [rowFor_some hf]
    have e1 : oN (some r) = r.n := rfl
    have e2 : oD (some r) = r.d := rfl
    have e3 : oC (some r) = 0 := rfl
    unfold RateV
    rw [e1, e2] at h1 ⊢
    rw [e3]
    simp only [Option.isSome_some] at h1
    clear hf e1 e2 e3
    generalize r.n = n at *
    generalize r.d = d at *
    go_enter Try.func22, Try.ntmps22
    go_wp2_with (go_at_call 35; refine h1.mono ?_; rintro e w1 ⟨rfl, hb1⟩; obtain ⟨k0, k1, f0, f1, klt, kB⟩ := zeroRate hb1; obtain ⟨r0, r1⟩ := two_cells (x := .int .i64 n) (y := .int .i64 d) (Obj.cells #[.int .i64 n, .int .i64 d] 36) k0 k1; have HR0 : Hid _ := r0; have HR1 : Hid _ := r1; have HB1 : Hid (Below w.heap.size w w1) := kB; clear r0 r1 kB hb1)
    refine bodyPost_ret (v := .tuple #[.agg #[.int .i64 n, .int .i64 d], .int .i64 0]) (by simp [results, Try.results22, go_sem, HR0.out, HR1.out]) rfl ⟨rfl, ?_⟩
    exact ((HB1.out.setCell (Nat.le_refl _) _).setCell (Nat.le_refl _) _).alloc (by rw [World.size_setCell, World.size_setCell]; omega) _
  | none =>
    rw [hf] at h1
    rw [rowFor_none hf]
    have e1 : oN none = 0 := rfl
    have e2 : oD none = 0 := rfl
    rw [e1, e2] at h1
    simp only [Option.isSome_none] at h1
    clear hf e1 e2
    cases hg : rs.find? (hit c ⟨#[]⟩ day) with
    | some r =>
      rw [hg] at H2
      have e1 : oN (some r) = r.n := rfl
      have e2 : oD (some r) = r.d := rfl
      have e3 : oC (some r) = 0 := rfl
      unfold RateV
      rw [e1, e2] at H2 ⊢
      rw [e3]
      simp only [Option.isSome_some] at H2
      clear hg e1 e2 e3
      generalize r.n = n at *
      generalize r.d = d at *
      go_enter Try.func22, Try.ntmps22
      go_wp2_with (first
      | (go_at_call 35; have G := HB1; refine (H2.out _ (chain (chain (below_alloc _ _) HB1.out) (below_alloc _ _))).mono ?_; rintro e w2 ⟨rfl, hb2⟩; obtain ⟨k0, k1, f0, f1, klt, kB⟩ := zeroRate (chain (chain HB1.out (below_alloc _ _)) hb2); obtain ⟨r0, r1⟩ := two_cells (x := .int .i64 n) (y := .int .i64 d) (Obj.cells #[.int .i64 n, .int .i64 d] 36) k0 k1; have HR0 : Hid _ := r0; have HR1 : Hid _ := r1; have HB2 : Hid (Below w.heap.size w w2) := kB; clear r0 r1 kB hb2)
      | (go_at_call 35; refine h1.mono ?_; rintro e w1 ⟨rfl, hb1⟩; have HB1 : Hid (Below (w.alloc (Obj.cells #[.int .i64 0, .int .i64 0] 36)).heap.size (w.alloc (Obj.cells #[.int .i64 0, .int .i64 0] 36)) w1) := hb1; clear hb1))
      refine bodyPost_ret (v := .tuple #[.agg #[.int .i64 n, .int .i64 d], .int .i64 0]) (by simp [results, Try.results22, go_sem, HR0.out, HR1.out]) rfl ⟨rfl, ?_⟩
      exact ((HB2.out.setCell (Nat.le_refl _) _).setCell (Nat.le_refl _) _).alloc (by rw [World.size_setCell, World.size_setCell]; omega) _
    | none =>
      rw [hg] at H2
      have e1 : oN none = 0 := rfl
      have e2 : oD none = 0 := rfl
      have e3 : oC none = 8 := rfl
      unfold RateV
      rw [e1, e2] at H2 ⊢
      rw [e3]
      simp only [Option.isSome_none] at H2
      clear hg e1 e2 e3
      go_enter Try.func22, Try.ntmps22
      go_wp2_with (first
      | (go_at_call 35; have G := HB1; refine (H2.out _ (chain (chain (below_alloc _ _) HB1.out) (below_alloc _ _))).mono ?_; rintro e w2 ⟨rfl, hb2⟩; obtain ⟨k0, k1, f0, f1, klt, kB⟩ := zeroRate (chain (chain HB1.out (below_alloc _ _)) hb2); obtain ⟨r0, r1⟩ := two_cells (x := .int .i64 0) (y := .int .i64 0) (Obj.cells #[.int .i64 0, .int .i64 0] 36) k0 k1; have HR0 : Hid _ := r0; have HR1 : Hid _ := r1; have HB2 : Hid (Below w.heap.size w w2) := kB; clear r0 r1 kB hb2)
      | (go_at_call 35; refine h1.mono ?_; rintro e w1 ⟨rfl, hb1⟩; have HB1 : Hid (Below (w.alloc (Obj.cells #[.int .i64 0, .int .i64 0] 36)).heap.size (w.alloc (Obj.cells #[.int .i64 0, .int .i64 0] 36)) w1) := hb1; clear hb1))
      refine bodyPost_ret (v := .tuple #[.agg #[.int .i64 0, .int .i64 0], .int .i64 8]) (by simp [results, Try.results22, go_sem, HR0.out, HR1.out]) rfl ⟨rfl, ?_⟩
      exact ((HB2.out.setCell (Nat.le_refl _) _).setCell (Nat.le_refl _) _).alloc (by rw [World.size_setCell, World.size_setCell]; omega) _
end Go.Proofs.Ytoaimjocphfcaaa
