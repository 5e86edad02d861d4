/-
  For every rule the law FnExactWitness answers true: the program's Witness answers as the specification's, every field, writes into no argument, and its answer owns its memory; with no condition.
-/
import Derived.Test.YthkmgccmeoigpaaRwF
import Derived.Test.YthkmgccmeoigpaaRwH
import Derived.Test.YthkmgccmeoigpaaTmM
import Derived.Test.YthkmgccmeoigpaaClF
import Derived.Test.YthkmgccmeoigpaaClO
import Derived.Test.YthkmgccmeoigpaaOwn2
namespace Go.Proofs.Ythkmgccmeoigpaa
open Go.ChangeShapes Go.WideShapes Go.ChangeAt Go.RowKit Go.Joins Go.Deep
set_option linter.unusedVariables false

namespace WitnessLaw
theorem eqFc_any (x1 x2 x3 x4 x5 : Int) (w : World) :
    Calls Try.prog 20 #[.agg #[.int .i64 x1, .int .i64 x2, .int .i64 x3, .int .i64 x4, .int .i64 x5], .agg #[.int .i64 x1, .int .i64 x2, .int .i64 x3, .int .i64 x4, .int .i64 x5]] w fun e w' => e = .returned (.bool true) ∧ Below w.heap.size w w' := by
  have l1 : ∀ n : Nat, n < n + 1 + 1 := fun n => by omega
  have l2 : ∀ n : Nat, n < n + 2 := fun n => by omega
  go_enter Try.func20, Try.ntmps20
  go_wp2
  go_ret
  exact ⟨rfl, chain (below_alloc _ _) (below_alloc _ _)⟩
theorem markCl_any (c : CCl) (g : Nat) (hn : c.ts.length ≤ 1048576) (w : World) (hM : Mk g (c.ts.length * 3) w w) :
    Calls Try.prog 23 #[.agg #[.string c.nm, .slice (some ⟨g, 0, none⟩) c.ts.length c.ts.length, .int .i64 c.ac, .int .i64 c.nu], .int .i64 1] w fun e w' => (∃ K : Int, 0 ≤ K ∧ e = .returned (.int .i64 K)) ∧ Below g w w' ∧ Apart g w w' := by
  have HT : Hid (∀ W, Below w.heap.size w W → Calls Try.prog 51 #[.slice (some ⟨g, 0, none⟩) c.ts.length c.ts.length, .int .i64 1] W fun e w' => e = .returned (.int .i64 (1 + (c.ts.length : Int) * 3)) ∧ Mk g (c.ts.length * 3) w w') := fun W hW => by
    have h1 := hM.later hW
    refine (markTms_any g c.ts.length c.ts.length hn 1 (by omega) (by omega) W (Mk.start h1.2.1 h1.2.2.1 h1.2.2.2)).mono ?_
    rintro e w' ⟨rfl, h2⟩
    refine ⟨rfl, ⟨h1.1.1.trans h2.1.1, Nat.le_trans h1.1.2.1 h2.1.2.1, fun k hk hlt => (h2.1.2.2 k hk (Nat.lt_of_lt_of_le hlt h1.1.2.1)).trans (h1.1.2.2 k hk hlt)⟩, h2.2⟩
  clear hM
  generalize c.ts.length = n at *
  go_enter Try.func23, Try.ntmps23
  go_wp2_with (go_at_call 51; refine (HT.out _ (below_alloc _ _)).mono ?_; rintro e w2 ⟨rfl, hm⟩; have HM : Hid _ := hm; clear hm)
  go_ret
  exact ⟨⟨_, by omega, rfl⟩, HM.out.1⟩
/-- Five numbers in block b. -/
def F5At (w : World) (b : Nat) (k1 k2 k3 k4 k5 : Int) : Prop := w.cell? ⟨b, 0, none⟩ = some (.int .i64 k1) ∧ w.cell? ⟨b, 1, none⟩ = some (.int .i64 k2) ∧ w.cell? ⟨b, 2, none⟩ = some (.int .i64 k3) ∧ w.cell? ⟨b, 3, none⟩ = some (.int .i64 k4) ∧ w.cell? ⟨b, 4, none⟩ = some (.int .i64 k5)
theorem F5At.lt {w : World} {b : Nat} {k1 k2 k3 k4 k5 : Int} (h : F5At w b k1 k2 k3 k4 k5) : b < w.heap.size := World.block_lt_of_cell? _ _ h.1
theorem F5At.block {w w' : World} {b : Nat} {k1 k2 k3 k4 k5 : Int} (h : F5At w b k1 k2 k3 k4 k5) (e : w'.heap[b]? = w.heap[b]?) : F5At w' b k1 k2 k3 k4 k5 :=
  ⟨(World.cell?_of_block (a := ⟨b, 0, none⟩) e).trans h.1, (World.cell?_of_block (a := ⟨b, 1, none⟩) e).trans h.2.1, (World.cell?_of_block (a := ⟨b, 2, none⟩) e).trans h.2.2.1, (World.cell?_of_block (a := ⟨b, 3, none⟩) e).trans h.2.2.2.1, (World.cell?_of_block (a := ⟨b, 4, none⟩) e).trans h.2.2.2.2⟩
theorem F5At.low {D : Nat} {w w' : World} {b : Nat} {k1 k2 k3 k4 k5 : Int} (h : F5At w b k1 k2 k3 k4 k5) (hb : Below D w w') (hD : b < D) : F5At w' b k1 k2 k3 k4 k5 := h.block (hb.block b hD)
theorem F5At.later {w w' : World} {b : Nat} {k1 k2 k3 k4 k5 : Int} (h : F5At w b k1 k2 k3 k4 k5) (hb : Below w.heap.size w w') : F5At w' b k1 k2 k3 k4 k5 := h.low hb h.lt
theorem F5At.new (w : World) (k1 k2 k3 k4 k5 : Int) (t : TypeId) : F5At (w.alloc (Obj.cells #[.int .i64 k1, .int .i64 k2, .int .i64 k3, .int .i64 k4, .int .i64 k5] t)) w.heap.size k1 k2 k3 k4 k5 := ⟨cellNew _ _ _ _ rfl rfl, cellNew _ _ _ _ rfl rfl, cellNew _ _ _ _ rfl rfl, cellNew _ _ _ _ rfl rfl, cellNew _ _ _ _ rfl rfl⟩
/-- A rule in block b. -/
def C4At (w : World) (b : Nat) (c : CCl) (h : Option Addr) (cp : Nat) : Prop := w.cell? ⟨b, 0, none⟩ = some (.string c.nm) ∧ w.cell? ⟨b, 1, none⟩ = some (.slice h c.ts.length cp) ∧ w.cell? ⟨b, 2, none⟩ = some (.int .i64 c.ac) ∧ w.cell? ⟨b, 3, none⟩ = some (.int .i64 c.nu)
theorem C4At.lt {w : World} {b : Nat} {c : CCl} {h : Option Addr} {cp : Nat} (k : C4At w b c h cp) : b < w.heap.size := World.block_lt_of_cell? _ _ k.1
theorem C4At.block {w w' : World} {b : Nat} {c : CCl} {h : Option Addr} {cp : Nat} (k : C4At w b c h cp) (e : w'.heap[b]? = w.heap[b]?) : C4At w' b c h cp :=
  ⟨(World.cell?_of_block (a := ⟨b, 0, none⟩) e).trans k.1, (World.cell?_of_block (a := ⟨b, 1, none⟩) e).trans k.2.1, (World.cell?_of_block (a := ⟨b, 2, none⟩) e).trans k.2.2.1, (World.cell?_of_block (a := ⟨b, 3, none⟩) e).trans k.2.2.2⟩
theorem C4At.low {D : Nat} {w w' : World} {b : Nat} {c : CCl} {h : Option Addr} {cp : Nat} (k : C4At w b c h cp) (hb : Below D w w') (hD : b < D) : C4At w' b c h cp := k.block (hb.block b hD)
theorem C4At.later {w w' : World} {b : Nat} {c : CCl} {h : Option Addr} {cp : Nat} (k : C4At w b c h cp) (hb : Below w.heap.size w w') : C4At w' b c h cp := k.low hb k.lt
theorem C4At.new (w : World) (c : CCl) (h : Option Addr) (cp : Nat) (t : TypeId) : C4At (w.alloc (Obj.cells #[.string c.nm, .slice h c.ts.length cp, .int .i64 c.ac, .int .i64 c.nu] t)) w.heap.size c h cp := ⟨cellNew _ _ _ _ rfl rfl, cellNew _ _ _ _ rfl rfl, cellNew _ _ _ _ rfl rfl, cellNew _ _ _ _ rfl rfl⟩
set_option maxHeartbeats 16000000 in
set_option maxRecDepth 8000 in
theorem walk (c : CCl) (h : Option Addr) (cp : Nat) (w : World) (wc : ClWide c) (hcp : c.ts.length ≤ cp) (hr : ReadsTm w.heap.size w h c.ts) :
    Calls Try.prog 5 #[.agg #[.string c.nm, .slice h c.ts.length cp, .int .i64 c.ac, .int .i64 c.nu]] w fun e w' => e = .returned (.bool true) ∧ Below w.heap.size w w' := by
  have HR : Hid (ReadsTm w.heap.size w h c.ts) := hr
  have HZ : Hid (∀ W, Calls Try.prog 17 #[.agg #[.string c.nm, .slice h c.ts.length cp, .int .i64 c.ac, .int .i64 c.nu], .int .i64 1048576] W fun e w' => (∃ x : Int, e = .returned (.int .i64 x) ∧ SzCl c 1048576 x) ∧ Below W.heap.size W w') := fun W => szCl_any c h cp wc 1048576 (by omega) (by omega) W
  obtain ⟨k1, k2, k3, k4, k5, hk5⟩ : ∃ k1 k2 k3 k4 k5 : Int, wtV c = #[.int .i64 k1, .int .i64 k2, .int .i64 k3, .int .i64 k4, .int .i64 k5] := by
    unfold wtV leastV factsV
    split
    · split
      · exact ⟨_, _, _, _, _, rfl⟩
      · exact ⟨_, _, _, _, _, rfl⟩
    · exact ⟨_, _, _, _, _, rfl⟩
  have hle := wtL_len c
  have HS0 : Hid (ClOK c → ∀ (e1 : Nat) W, ReadsTm W.heap.size W (some ⟨e1, 0, none⟩) c.ts → Calls Try.prog 18 #[.agg #[.string c.nm, .slice (some ⟨e1, 0, none⟩) c.ts.length c.ts.length, .int .i64 c.ac, .int .i64 c.nu]] W fun e w' => ∃ g cp', e = .returned (.tuple #[.agg #[.int .i64 k1, .int .i64 k2, .int .i64 k3, .int .i64 k4, .int .i64 k5], .int .i64 (wtC c), .slice g (wtL c).length cp']) ∧ Own2 W.heap.size w' g (wtL c) ∧ Below W.heap.size W w') := fun ok e1 W q => by
    have := specWitness_any c (some ⟨e1, 0, none⟩) c.ts.length ok W q
    rwa [hk5] at this
  have HI0 : Hid (ClOK c → ∀ (e1 : Nat) W, ReadsTm W.heap.size W (some ⟨e1, 0, none⟩) c.ts → Calls Try.prog 7 #[.agg #[.string c.nm, .slice (some ⟨e1, 0, none⟩) c.ts.length c.ts.length, .int .i64 c.ac, .int .i64 c.nu]] W fun e w' => ∃ g cp', e = .returned (.tuple #[.agg #[.int .i64 k1, .int .i64 k2, .int .i64 k3, .int .i64 k4, .int .i64 k5], .int .i64 (wtC c), .slice g (wtL c).length cp']) ∧ Own2 W.heap.size w' g (wtL c) ∧ Below W.heap.size W w') := fun ok e1 W q => by
    have := implWitness_any c (some ⟨e1, 0, none⟩) c.ts.length ok W q
    rwa [hk5] at this
  have LC0 : Hid (C4At (w.alloc (Obj.cells #[.string c.nm, .slice h c.ts.length cp, .int .i64 c.ac, .int .i64 c.nu] 49)) w.heap.size c h cp) := C4At.new w c h cp _
  clear hr hk5 wc
  generalize wtL c = L at *
  generalize wtC c = kc at *
  have e2 : (kc != kc) = false := by simp
  go_enter Try.func5, Try.ntmps5
  go_wp2_with fail
  (first | go_at_call 17 | skip)
  refine (HZ.out _).mono ?_
  rintro e w1 ⟨⟨x, rfl, hx⟩, hb1⟩
  have HX : Hid (SzCl c 1048576 x) := hx
  have B1 : Hid (Below w.heap.size w w1) := chain (below_alloc _ _) hb1
  have LC1 : Hid (C4At w1 w.heap.size c h cp) := LC0.out.later hb1
  clear hx hb1 LC0
  by_cases hx0 : x < 0
  · go_wp2
    go_ret
    exact ⟨rfl, B1.out⟩
  obtain ⟨_, hx1, okc⟩ := (HX.out.resolve_left hx0)
  have hlen : c.ts.length ≤ 1048576 := by omega
  have hT : Hid (∀ W, Below w.heap.size w W → Calls Try.prog 19 #[.agg #[.string c.nm, .slice h c.ts.length cp, .int .i64 c.ac, .int .i64 c.nu]] W fun e w' => ∃ g, e = .returned (.agg #[.string c.nm, .slice (some ⟨g, 0, none⟩) c.ts.length c.ts.length, .int .i64 c.ac, .int .i64 c.nu]) ∧ (W.heap.size ≤ g ∧ g < w'.heap.size) ∧ TmsAt w' g 0 c.ts ∧ FreeTm w' g c.ts.length ∧ Below W.heap.size W w') := fun W hW => toCl_any c h cp hlen W (HR.out.later hW)
  have hS : Hid _ := HS0.out okc
  have hI : Hid _ := HI0.out okc
  clear HS0 HI0 HZ HX okc hx1
  obtain ⟨c0, c1, c2, c3⟩ := LC1.out
  go_wp2_with fail
  (first | go_at_call 19 | skip)
  refine (hT.out w1 B1.out).mono ?_
  rintro e w2 ⟨g2, rfl, ⟨_, hl2⟩, hq2, _, hb2⟩
  have B2 : Hid (Below w.heap.size w w2) := chain B1.out hb2
  have LC2 : Hid (C4At w2 w.heap.size c h cp) := LC1.out.later hb2
  have R2 : Hid (ReadsTm w2.heap.size w2 (some ⟨g2, 0, none⟩) c.ts) := .inr ⟨g2, 0, rfl, hl2, hq2⟩
  clear hb2 hl2 hq2
  clear c0 c1 c2 c3
  go_wp2_with fail
  (first | go_at_call 18 | skip)
  refine (hS.out g2 w2 R2.out).mono ?_
  rintro e w3 ⟨gw, cw, rfl, o3, hb3⟩
  have B3 : Hid (Below w.heap.size w w3) := chain B2.out hb3
  have LC3 : Hid (C4At w3 w.heap.size c h cp) := LC2.out.later hb3
  have OW3 : Hid (Own2 w2.heap.size w3 gw L) := o3
  have m3 : w.heap.size < w3.heap.size := LC3.out.lt
  clear hb3 o3 R2
  have A3 : Hid (Below w3.heap.size w3 (w3.alloc (Obj.cells #[.int .i64 k1, .int .i64 k2, .int .i64 k3, .int .i64 k4, .int .i64 k5] 28))) := below_alloc _ _
  obtain ⟨c0, c1, c2, c3⟩ := LC3.out
  go_wp2_with fail
  (first | go_at_call 19 | skip)
  refine (hT.out (w3.alloc (Obj.cells #[.int .i64 k1, .int .i64 k2, .int .i64 k3, .int .i64 k4, .int .i64 k5] 28)) (chain B3.out A3.out)).mono ?_
  rintro e w4 ⟨g4, rfl, ⟨hl4, hl4'⟩, hq4, hf4, hb4⟩
  have hb4s := chain A3.out hb4
  have B4 : Hid (Below w.heap.size w w4) := chain B3.out hb4s
  have LC4 : Hid (C4At w4 w.heap.size c h cp) := LC3.out.later hb4s
  have OW4 : Hid (Own2 w2.heap.size w4 gw L) := OW3.out.below hb4s (Nat.le_refl _)
  have FW4 : Hid (F5At w4 w3.heap.size k1 k2 k3 k4 k5) := (F5At.new w3 k1 k2 k3 k4 k5 _).later hb4
  have XT4 : Hid (TmsAt w4 g4 0 c.ts ∧ FreeTm w4 g4 c.ts.length ∧ g4 < w4.heap.size) := ⟨hq4, hf4, hl4'⟩
  have G4 : Hid (w3.heap.size < g4 ∧ w3.heap.size + 1 ≤ w4.heap.size) := ⟨by simp at hl4; omega, by have := hb4.size; simp at this; omega⟩
  have m4 : w.heap.size < w4.heap.size := LC4.out.lt
  have OWlt : Hid (∀ c, gw = some ⟨c, 0, none⟩ → c < w3.heap.size ∨ L = []) := own2_lt OW3.out (Nat.le_refl _)
  clear hb4 hb4s hl4 hl4' hq4 hf4
  clear c0 c1 c2 c3
  have A4 : Hid (Below w4.heap.size w4 (w4.alloc (Obj.cells #[.string c.nm, .slice (some ⟨g4, 0, none⟩) c.ts.length c.ts.length, .int .i64 c.ac, .int .i64 c.nu] 25))) := below_alloc _ _
  go_wp2_with fail
  (first | go_at_call 7 | skip)
  refine (hI.out g4 (w4.alloc (Obj.cells #[.string c.nm, .slice (some ⟨g4, 0, none⟩) c.ts.length c.ts.length, .int .i64 c.ac, .int .i64 c.nu] 25)) (.inr ⟨g4, 0, rfl, by have := XT4.out.2.2; simp; omega, XT4.out.1.below A4.out XT4.out.2.2⟩)).mono ?_
  rintro e w5 ⟨gg, cg, rfl, o5, hb5⟩
  have hb5s := chain A4.out hb5
  have B5 : Hid (Below w.heap.size w w5) := chain B4.out hb5s
  have LC5 : Hid (C4At w5 w.heap.size c h cp) := LC4.out.later hb5s
  have FW5 : Hid (F5At w5 w3.heap.size k1 k2 k3 k4 k5) := FW4.out.later hb5s
  have OW5 : Hid (Own2 w2.heap.size w5 gw L) := OW4.out.below hb5s (Nat.le_refl _)
  have XT5 : Hid (TmsAt w5 g4 0 c.ts ∧ FreeTm w5 g4 c.ts.length ∧ g4 < w5.heap.size) := ⟨XT4.out.1.below hb5s XT4.out.2.2, XT4.out.2.1.below hb5s XT4.out.2.2, Nat.lt_of_lt_of_le XT4.out.2.2 hb5s.size⟩
  have XC5 : Hid (C4At w5 w4.heap.size c (some ⟨g4, 0, none⟩) c.ts.length) := (C4At.new w4 c (some ⟨g4, 0, none⟩) c.ts.length _).later hb5
  have OG5 : Hid (Own2 (w4.alloc (Obj.cells #[.string c.nm, .slice (some ⟨g4, 0, none⟩) c.ts.length c.ts.length, .int .i64 c.ac, .int .i64 c.nu] 25)).heap.size w5 gg L) := o5
  have m5 : w3.heap.size < w5.heap.size := FW5.out.lt
  have m5b : w.heap.size < w5.heap.size := LC5.out.lt
  have m5c : w4.heap.size < w5.heap.size := XC5.out.lt
  clear hb5 hb5s o5
  have A5 : Hid (Below w5.heap.size w5 (w5.alloc (Obj.cells #[.int .i64 k1, .int .i64 k2, .int .i64 k3, .int .i64 k4, .int .i64 k5] 28))) := below_alloc _ _
  obtain ⟨f0, f1, f2, f3, f4⟩ := FW5.out
  go_wp2_with fail
  (first | go_at_call 20 | skip)
  refine (eqFc_any k1 k2 k3 k4 k5 (w5.alloc (Obj.cells #[.int .i64 k1, .int .i64 k2, .int .i64 k3, .int .i64 k4, .int .i64 k5] 28))).mono ?_
  rintro e w6 ⟨rfl, hb6⟩
  have hb6s := chain A5.out hb6
  have B6 : Hid (Below w.heap.size w w6) := chain B5.out hb6s
  have LC6 : Hid (C4At w6 w.heap.size c h cp) := LC5.out.later hb6s
  have FW6 : Hid (F5At w6 w3.heap.size k1 k2 k3 k4 k5) := FW5.out.later hb6s
  have XC6 : Hid (C4At w6 w4.heap.size c (some ⟨g4, 0, none⟩) c.ts.length) := XC5.out.later hb6s
  have OW6 : Hid (Own2 w2.heap.size w6 gw L) := OW5.out.below hb6s (Nat.le_refl _)
  have OG6 : Hid (Own2 (w4.alloc (Obj.cells #[.string c.nm, .slice (some ⟨g4, 0, none⟩) c.ts.length c.ts.length, .int .i64 c.ac, .int .i64 c.nu] 25)).heap.size w6 gg L) := OG5.out.below hb6s (Nat.le_refl _)
  have XT6 : Hid (TmsAt w6 g4 0 c.ts ∧ FreeTm w6 g4 c.ts.length ∧ g4 < w6.heap.size) := ⟨XT5.out.1.below hb6s XT5.out.2.2, XT5.out.2.1.below hb6s XT5.out.2.2, Nat.lt_of_lt_of_le XT5.out.2.2 hb6s.size⟩
  have FG6 : Hid (F5At w6 w5.heap.size k1 k2 k3 k4 k5) := (F5At.new w5 k1 k2 k3 k4 k5 _).later hb6
  clear hb6 hb6s
  clear f0 f1 f2 f3 f4
  go_wp2_with fail
  (first | go_at_call 21 | skip)
  refine (eqInts_any w6.heap.size gg gw cg cw L L (by omega) (by omega) w6 OG6.out.reads OW6.out.reads).mono ?_
  rintro e w7 ⟨rfl, hb7⟩
  rw [decide_eq_true (rfl : L = L)]
  have B7 : Hid (Below w.heap.size w w7) := chain B6.out hb7
  have LC7 : Hid (C4At w7 w.heap.size c h cp) := LC6.out.later hb7
  have FW7 : Hid (F5At w7 w3.heap.size k1 k2 k3 k4 k5) := FW6.out.later hb7
  have FG7 : Hid (F5At w7 w5.heap.size k1 k2 k3 k4 k5) := FG6.out.later hb7
  have XC7 : Hid (C4At w7 w4.heap.size c (some ⟨g4, 0, none⟩) c.ts.length) := XC6.out.later hb7
  have OW7 : Hid (Own2 w2.heap.size w7 gw L) := OW6.out.below hb7 (Nat.le_refl _)
  have OG7 : Hid (Own2 (w4.alloc (Obj.cells #[.string c.nm, .slice (some ⟨g4, 0, none⟩) c.ts.length c.ts.length, .int .i64 c.ac, .int .i64 c.nu] 25)).heap.size w7 gg L) := OG6.out.below hb7 (Nat.le_refl _)
  have XT7 : Hid (TmsAt w7 g4 0 c.ts ∧ FreeTm w7 g4 c.ts.length ∧ g4 < w7.heap.size) := ⟨XT6.out.1.below hb7 XT6.out.2.2, XT6.out.2.1.below hb7 XT6.out.2.2, Nat.lt_of_lt_of_le XT6.out.2.2 hb7.size⟩
  clear hb7
  go_wp2_with fail
  refine wp_region_held_drew (S := fun W => Below w7.heap.size w7 W) (by kernel_rfl) (below_drew _) (fun hH => ?_)
  refine wpAnyH_take (i := 0) (v := .agg #[.string c.nm, .slice (some ⟨g4, 0, none⟩) c.ts.length c.ts.length, .int .i64 c.ac, .int .i64 c.nu]) rfl (by kernel_rfl) (by kernel_rfl) (by kernel_rfl) (fun _ _ _ h => h) (Or.inl ⟨by rfl, fun w hSw => by obtain ⟨s0, s1, s2, s3⟩ := XC7.out.later hSw; go_simp⟩) hH ?_
  refine wpAnyH_take (i := 1) (v := .agg #[.string c.nm, .slice h c.ts.length cp, .int .i64 c.ac, .int .i64 c.nu]) rfl (by kernel_rfl) (by kernel_rfl) (by kernel_rfl) (fun _ _ _ h => h) (Or.inl ⟨by rfl, fun w hSw => by obtain ⟨s0, s1, s2, s3⟩ := LC7.out.later hSw; go_simp⟩) hH ?_
  try simp only [Act.put, List.setIfInBounds_toArray, List.set_cons_zero, List.set_cons_succ, List.getElem_toArray, List.getElem_cons_succ, List.getElem_cons_zero]
  refine wpAnyH_ready (rs := [2]) (by kernel_rfl) (by simp) ?_
  refine AllReadyH.cons rfl (fun K hK => ?_) AllReadyH.nil
  go_simp
  go_at_call 19
  refine (hT.out _ (chain B7.out hH)).mono ?_
  rintro e w8 ⟨g8, rfl, ⟨_, hl8⟩, hq8, _, hb8⟩
  have hs8 := chain hH hb8
  have R8 : ReadsTm w8.heap.size w8 (some ⟨g8, 0, none⟩) c.ts := .inr ⟨g8, 0, rfl, hl8, hq8⟩
  have R4 : ReadsTm w8.heap.size w8 (some ⟨g4, 0, none⟩) c.ts := .inr ⟨g4, 0, rfl, Nat.lt_of_lt_of_le XT7.out.2.2 hs8.size, XT7.out.1.below hs8 XT7.out.2.2⟩
  refine hK.out _ _ hs8 (fun _ => ?_)
  clear hK K
  try simp only [Act.put, List.setIfInBounds_toArray, List.set_cons_zero, List.set_cons_succ, List.getElem_toArray, List.getElem_cons_succ, List.getElem_cons_zero]
  refine wpAnyH_ready (rs := [3]) (by kernel_rfl) (by simp) ?_
  refine AllReadyH.cons rfl (fun K hK => ?_) AllReadyH.nil
  go_simp
  go_at_call 22
  refine (eqCl_any c (some ⟨g4, 0, none⟩) (some ⟨g8, 0, none⟩) c.ts.length c.ts.length hlen w8 R4 R8).mono ?_
  rintro e w9 ⟨rfl, hb9⟩
  have hs9 := chain hs8 hb9
  refine hK.out _ _ hs9 (fun _ => ?_)
  clear hK K
  try simp only [Act.put, List.setIfInBounds_toArray, List.set_cons_zero, List.set_cons_succ, List.getElem_toArray, List.getElem_cons_succ, List.getElem_cons_zero]
  refine wpAnyH_take (i := 4) (v := .bool false) rfl (by kernel_rfl) (by kernel_rfl) (by kernel_rfl) (fun _ _ _ h => h) (Or.inl ⟨by rfl, fun w hSw => by go_simp⟩) hs9 ?_
  try simp only [Act.put, List.setIfInBounds_toArray, List.set_cons_zero, List.set_cons_succ, List.getElem_toArray, List.getElem_cons_succ, List.getElem_cons_zero]
  refine wpAnyH_done (by kernel_rfl) ?_ _
  try simp
  have B9 : Hid (Below w.heap.size w w9) := chain B7.out hs9
  have LC9 : Hid (C4At w9 w.heap.size c h cp) := LC7.out.later hs9
  have FW9 : Hid (F5At w9 w3.heap.size k1 k2 k3 k4 k5) := FW7.out.later hs9
  have FG9 : Hid (F5At w9 w5.heap.size k1 k2 k3 k4 k5) := FG7.out.later hs9
  have XC9 : Hid (C4At w9 w4.heap.size c (some ⟨g4, 0, none⟩) c.ts.length) := XC7.out.later hs9
  have OW9 : Hid (Own2 w2.heap.size w9 gw L) := OW7.out.below hs9 (Nat.le_refl _)
  have OG9 : Hid (Own2 (w4.alloc (Obj.cells #[.string c.nm, .slice (some ⟨g4, 0, none⟩) c.ts.length c.ts.length, .int .i64 c.ac, .int .i64 c.nu] 25)).heap.size w9 gg L) := OG7.out.below hs9 (Nat.le_refl _)
  have XT9 : Hid (TmsAt w9 g4 0 c.ts ∧ FreeTm w9 g4 c.ts.length ∧ g4 < w9.heap.size) := ⟨XT7.out.1.below hs9 XT7.out.2.2, XT7.out.2.1.below hs9 XT7.out.2.2, Nat.lt_of_lt_of_le XT7.out.2.2 hs9.size⟩
  clear hs9 hs8 hH hb8 hb9 hl8 hq8 R8 R4
  obtain ⟨x0, x1, x2, x3⟩ := XC9.out
  go_wp2_with fail
  (first | go_at_call 23 | skip)
  refine (markCl_any c g4 hlen w9 (Mk.start XT9.out.2.2 (tms_some XT9.out.1) XT9.out.2.1)).mono ?_
  rintro e w10 ⟨⟨K, hK0, rfl⟩, hm1, hm2⟩
  have hK1 : decide (K < 0) = false := decide_eq_false (by omega)
  have B10 : Hid (Below w.heap.size w w10) := B9.out.trans (hm1.mono (by have := G4.out; have := B3.out.size; omega))
  have LC10 : Hid (C4At w10 w.heap.size c h cp) := LC9.out.low hm1 (by have := G4.out; omega)
  have FW10 : Hid (F5At w10 w3.heap.size k1 k2 k3 k4 k5) := FW9.out.low hm1 G4.out.1
  have FG10 : Hid (F5At w10 w5.heap.size k1 k2 k3 k4 k5) := FG9.out.block (hm2.2 w5.heap.size (by have := XT5.out.2.2; omega) FG9.out.lt)
  have OW10 : Hid (Own2 w2.heap.size w10 gw L) := own2_low OW9.out hm1 (fun c hc => (OWlt.out c hc).imp (fun q => by have := G4.out; omega) id)
  have OG10 : Hid (Own2 (w4.alloc (Obj.cells #[.string c.nm, .slice (some ⟨g4, 0, none⟩) c.ts.length c.ts.length, .int .i64 c.ac, .int .i64 c.nu] 25)).heap.size w10 gg L) := own2_apart OG9.out hm2 (own2_ge OG9.out (by have := XT4.out.2.2; simp; omega))
  clear hm1 hm2
  clear x0 x1 x2 x3
  obtain ⟨f0, f1, f2, f3, f4⟩ := FW10.out
  obtain ⟨q0, q1, q2, q3, q4⟩ := FG10.out
  go_wp2_with fail
  (first | go_at_call 20 | skip)
  refine (eqFc_any k1 k2 k3 k4 k5 w10).mono ?_
  rintro e w11 ⟨rfl, hb11⟩
  have B11 : Hid (Below w.heap.size w w11) := chain B10.out hb11
  have LC11 : Hid (C4At w11 w.heap.size c h cp) := LC10.out.later hb11
  have FW11 : Hid (F5At w11 w3.heap.size k1 k2 k3 k4 k5) := FW10.out.later hb11
  have FG11 : Hid (F5At w11 w5.heap.size k1 k2 k3 k4 k5) := FG10.out.later hb11
  have OW11 : Hid (Own2 w2.heap.size w11 gw L) := OW10.out.below hb11 (Nat.le_refl _)
  have OG11 : Hid (Own2 (w4.alloc (Obj.cells #[.string c.nm, .slice (some ⟨g4, 0, none⟩) c.ts.length c.ts.length, .int .i64 c.ac, .int .i64 c.nu] 25)).heap.size w11 gg L) := OG10.out.below hb11 (Nat.le_refl _)
  clear hb11
  clear f0 f1 f2 f3 f4 q0 q1 q2 q3 q4
  go_wp2_with fail
  (first | go_at_call 21 | skip)
  refine (eqInts_any w11.heap.size gg gw cg cw L L (by omega) (by omega) w11 OG11.out.reads OW11.out.reads).mono ?_
  rintro e w12 ⟨rfl, hb12⟩
  rw [decide_eq_true (rfl : L = L)]
  have B12 : Hid (Below w.heap.size w w12) := chain B11.out hb12
  have LC12 : Hid (C4At w12 w.heap.size c h cp) := LC11.out.later hb12
  have FW12 : Hid (F5At w12 w3.heap.size k1 k2 k3 k4 k5) := FW11.out.later hb12
  have OW12 : Hid (Own2 w2.heap.size w12 gw L) := OW11.out.below hb12 (Nat.le_refl _)
  have OG12 : Hid (Own2 (w4.alloc (Obj.cells #[.string c.nm, .slice (some ⟨g4, 0, none⟩) c.ts.length c.ts.length, .int .i64 c.ac, .int .i64 c.nu] 25)).heap.size w12 gg L) := OG11.out.below hb12 (Nat.le_refl _)
  clear hb12
  go_wp2_with fail
  (first | go_at_call 24 | skip)
  refine (mark_own (w4.alloc (Obj.cells #[.string c.nm, .slice (some ⟨g4, 0, none⟩) c.ts.length c.ts.length, .int .i64 c.ac, .int .i64 c.nu] 25)).heap.size gg cg L (by omega) 1 (by omega) (by omega) w12 OG12.out).mono ?_
  rintro e w13 ⟨rfl, hb13, hz13, om13⟩
  have B13 : Hid (Below w.heap.size w w13) := B12.out.trans (hb13.mono (by have := m4; simp; omega))
  have LC13 : Hid (C4At w13 w.heap.size c h cp) := LC12.out.low hb13 (by have := m4; simp; omega)
  have FW13 : Hid (F5At w13 w3.heap.size k1 k2 k3 k4 k5) := FW12.out.low hb13 (by have := G4.out; simp; omega)
  have OW13 : Hid (Own2 w2.heap.size w13 gw L) := own2_low OW12.out hb13 (fun c hc => (OWlt.out c hc).imp (fun q => by have := G4.out; simp; omega) id)
  have OM13 : Hid (Own2 (w4.alloc (Obj.cells #[.string c.nm, .slice (some ⟨g4, 0, none⟩) c.ts.length c.ts.length, .int .i64 c.ac, .int .i64 c.nu] 25)).heap.size w13 gg (marks 1 L.length)) := om13
  clear hb13 hz13 om13
  go_wp2_with fail
  (first | go_at_call 25 | skip)
  refine (held_own (w4.alloc (Obj.cells #[.string c.nm, .slice (some ⟨g4, 0, none⟩) c.ts.length c.ts.length, .int .i64 c.ac, .int .i64 c.nu] 25)).heap.size gg cg L.length (by omega) 1 (by omega) (by omega) w13 OM13.out).mono ?_
  rintro e w13' ⟨rfl, rfl⟩
  obtain ⟨c0, c1, c2, c3⟩ := LC13.out
  go_wp2_with fail
  (first | go_at_call 19 | skip)
  refine (hT.out _ B13.out).mono ?_
  rintro e w14 ⟨g14, rfl, ⟨_, hl14⟩, hq14, _, hb14⟩
  have B14 : Hid (Below w.heap.size w w14) := chain B13.out hb14
  have FW14 : Hid (F5At w14 w3.heap.size k1 k2 k3 k4 k5) := FW13.out.later hb14
  have OW14 : Hid (Own2 w2.heap.size w14 gw L) := OW13.out.below hb14 (Nat.le_refl _)
  have OM14 : Hid (Own2 (w4.alloc (Obj.cells #[.string c.nm, .slice (some ⟨g4, 0, none⟩) c.ts.length c.ts.length, .int .i64 c.ac, .int .i64 c.nu] 25)).heap.size w14 gg (marks 1 L.length)) := OM13.out.below hb14 (Nat.le_refl _)
  have R14 : Hid (ReadsTm w14.heap.size w14 (some ⟨g14, 0, none⟩) c.ts) := .inr ⟨g14, 0, rfl, hl14, hq14⟩
  clear hb14 hl14 hq14
  clear c0 c1 c2 c3
  go_wp2_with fail
  (first | go_at_call 7 | skip)
  refine (hI.out g14 w14 R14.out).mono ?_
  rintro e w15 ⟨gh, ch, rfl, o15, hb15⟩
  have B15 : Hid (Below w.heap.size w w15) := chain B14.out hb15
  have FW15 : Hid (F5At w15 w3.heap.size k1 k2 k3 k4 k5) := FW14.out.later hb15
  have OW15 : Hid (Own2 w2.heap.size w15 gw L) := OW14.out.below hb15 (Nat.le_refl _)
  have OM15 : Hid (Own2 (w4.alloc (Obj.cells #[.string c.nm, .slice (some ⟨g4, 0, none⟩) c.ts.length c.ts.length, .int .i64 c.ac, .int .i64 c.nu] 25)).heap.size w15 gg (marks 1 L.length)) := OM14.out.below hb15 (Nat.le_refl _)
  have OH15 : Hid (Own2 w14.heap.size w15 gh L) := o15
  have m15 : w3.heap.size < w15.heap.size := FW15.out.lt
  clear hb15 o15 R14
  have A15 : Hid (Below w15.heap.size w15 (w15.alloc (Obj.cells #[.int .i64 k1, .int .i64 k2, .int .i64 k3, .int .i64 k4, .int .i64 k5] 28))) := below_alloc _ _
  obtain ⟨f0, f1, f2, f3, f4⟩ := FW15.out
  go_wp2_with fail
  (first | go_at_call 20 | skip)
  refine (eqFc_any k1 k2 k3 k4 k5 (w15.alloc (Obj.cells #[.int .i64 k1, .int .i64 k2, .int .i64 k3, .int .i64 k4, .int .i64 k5] 28))).mono ?_
  rintro e w16 ⟨rfl, hb16⟩
  have hb16s := chain A15.out hb16
  have B16 : Hid (Below w.heap.size w w16) := chain B15.out hb16s
  have OW16 : Hid (Own2 w2.heap.size w16 gw L) := OW15.out.below hb16s (Nat.le_refl _)
  have OM16 : Hid (Own2 (w4.alloc (Obj.cells #[.string c.nm, .slice (some ⟨g4, 0, none⟩) c.ts.length c.ts.length, .int .i64 c.ac, .int .i64 c.nu] 25)).heap.size w16 gg (marks 1 L.length)) := OM15.out.below hb16s (Nat.le_refl _)
  have OH16 : Hid (Own2 w14.heap.size w16 gh L) := OH15.out.below hb16s (Nat.le_refl _)
  clear hb16 hb16s
  clear f0 f1 f2 f3 f4
  go_wp2_with fail
  (first | go_at_call 21 | skip)
  refine (eqInts_any w16.heap.size gh gw ch cw L L (by omega) (by omega) w16 OH16.out.reads OW16.out.reads).mono ?_
  rintro e w17 ⟨rfl, hb17⟩
  rw [decide_eq_true (rfl : L = L)]
  have B17 : Hid (Below w.heap.size w w17) := chain B16.out hb17
  have OM17 : Hid (Own2 (w4.alloc (Obj.cells #[.string c.nm, .slice (some ⟨g4, 0, none⟩) c.ts.length c.ts.length, .int .i64 c.ac, .int .i64 c.nu] 25)).heap.size w17 gg (marks 1 L.length)) := OM16.out.below hb17 (Nat.le_refl _)
  clear hb17
  go_wp2_with fail
  (first | go_at_call 25 | skip)
  refine (held_own (w4.alloc (Obj.cells #[.string c.nm, .slice (some ⟨g4, 0, none⟩) c.ts.length c.ts.length, .int .i64 c.ac, .int .i64 c.nu] 25)).heap.size gg cg L.length (by omega) 1 (by omega) (by omega) w17 OM17.out).mono ?_
  rintro e w17' ⟨rfl, rfl⟩
  go_wp2
  go_ret
  exact ⟨rfl, B17.out⟩
theorem own : ownKnob Try.prog.godebug = none := by kernel_rfl
theorem laidOut : laidOutB Try.prog = true := by kernel_rfl

set_option maxRecDepth 100000 in
theorem lifted (os : Os) (started : os.Started) (H : Type) (enc : TypeId × Value → H) :
    ReturnsInHanded {} Try.checked os 5 .any (Rows.fnExactWitnessSpec.pre6 enc Try.prog Try.f5 Rows.fnExactWitnessRow.domain false) (Rows.fnExactWitnessSpec.post enc Try.prog Try.f5 false true false false) := by
  refine returnsInHanded_of_change (C := Try.checked) own started (by kernel_rfl) Try.func5
    (ChangeSpec.witness6 (enc := enc) (C := Try.checked) false ⟨#[], #[.agg #[.string ByteArray.empty, .slice none 0 0, .int .i64 0, .int .i64 0]], []⟩ 8 (by kernel_rfl) (by kernel_rfl) (by kernel_rfl) (by kernel_rfl)) ?_
  intro W base args ds gs before hval0 hW hcnd _
  have hval : ∀ (j : Nat) t v, Try.f5.params[j]? = some t → args[j]? = some v → Value.okWide Try.prog W .any base t v := hval0
  have hW' := hW
  obtain ⟨p, q, hA0, hV, rfl, hfz, hnd⟩ := hW
  have hA : DataW.TrodAll enc Try.prog W 0 (fun _ => true) true Try.f5.params.toList args.toList ds p := hA0
  rw [Try.params5] at hA hval
  obtain ⟨v0, vs0, d0, ds0, p0, q0, hargs, rfl, rfl, h0, r0⟩ := trodAll_cons hA
  obtain ⟨rfl, rfl, rfl⟩ := trodAll_nil r0
  obtain rfl : args = #[v0] := by cases args; simp_all
  obtain ⟨rfl, rfl⟩ := trodVars_none hV
  have k0 := h0
  have lt0 : ∀ x ∈ p0, x.block < W.heap.size := by obtain ⟨m, hm⟩ := k0; exact DataW.trod_lt m _ _ _ hm
  obtain ⟨r0_, a0, cp0, rfl, w0, wc0, wr0⟩ := openClV (hval 0 49 v0 rfl rfl) h0
  clear hA0 hval0
  refine (walk r0_ a0 cp0 W w0 wc0.1 wr0).mono fun e W' ⟨he, bel⟩ => ?_
  subst he
  exact ⟨_, rfl, _, _, _, [], _, [], hW', trodAll_mk1 (shut_bool Try.underlying4 _), (trodAll_cons_mk (Below.trod laidOut (by kernel_rfl) (of_decide_eq_true (by kernel_rfl)) k0 bel lt0) trodAll_mk0), rfl, bel.frame _, fun h => by cases h⟩

theorem over : Rows.fnExactWitnessRow.holds Try.pinned (OpenSpec.ofChange Rows.fnExactWitnessSpec) :=
  OpenClaim.holds_of_wide 5 Try.f5 rfl rfl rfl rfl rfl rfl rfl ⟨rfl, rfl, rfl, rfl, rfl⟩ rfl rfl rfl rfl rfl (by kernel_rfl) Try.func5 (by kernel_rfl)
    (of_decide_eq_true (by kernel_rfl)) (by unfold Func.isWrapper; first | (rw [if_pos (by decide +kernel)]; kernel_rfl) | (rw [if_neg (by decide +kernel)]; exact ⟨rfl, rfl⟩))
    (fun os started H enc _ => lifted os started H enc)
end WitnessLaw

theorem fnExactWitness_holds : Rows.FnExactWitnessSaid := WitnessLaw.over
end Go.Proofs.Ythkmgccmeoigpaa
