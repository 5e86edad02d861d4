/-
  The specification's drawn terms: of every list of bytes each is right.
-/
import Derived.Test.YtfofdeenpcbglaaDrawCl1
namespace Go.Proofs.Ytfofdeenpcbglaa
open Go.ChangeShapes Go.WideShapes Go.ChangeAt Go.RowKit Go.Deep
set_option linter.unusedVariables false

theorem Going.lt {b : Nat} {a : Option Addr} {len cap : Nat} {zs : List Int} {B : Nat} {lo hi : Int} {w0 w : World} (h : Going b a len cap zs B lo hi w0 w) : b < w.heap.size := by
  obtain ⟨⟨at2, _, _, ⟨s, hs⟩, _⟩, _⟩ := h
  exact hs.2.2.2.2.2.1
theorem Going.self {b : Nat} {a : Option Addr} {len cap : Nat} {zs : List Int} {B : Nat} {lo hi : Int} {w0 w : World} (h : Going b a len cap zs B lo hi w0 w) : Going b a len cap zs B lo hi w w := ⟨h.1, Below.refl _ _, Apart.refl2 _ _⟩
theorem Going.comp {b : Nat} {a : Option Addr} {len cap : Nat} {zs : List Int} {B : Nat} {lo hi lo' hi' : Int} {w0 w w' : World} (h : Going b a len cap zs B lo hi w0 w) (k : Going b a len cap zs B lo' hi' w w') : Going b a len cap zs B lo' hi' w0 w' := ⟨k.1, h.2.1.trans k.2.1, h.2.2.trans2 k.2.2⟩
/-- A store into a block that is none of those that were there. -/
theorem Going.set {b : Nat} {a : Option Addr} {len cap : Nat} {zs : List Int} {B : Nat} {lo hi : Int} {w w' : World} (h : Going b a len cap zs B lo hi w w') {rb : Nat} (hr : w.heap.size ≤ rb) (hB : B ≤ b) (hb : b < w.heap.size) (o : Nat) (v : Value) : Going b a len cap zs B lo hi w (w'.setCell ⟨rb, o, none⟩ v) := by
  obtain ⟨⟨at2, h1, h2, ⟨s, hs⟩, hrow⟩, hbl, ha⟩ := h
  have hk : ∀ k, k ≠ rb → (w'.setCell ⟨rb, o, none⟩ v).heap[k]? = w'.heap[k]? := fun k hk => Below.heap_setCell _ _ _ _ hk
  have hS : Src (w'.setCell ⟨rb, o, none⟩ v) b a len cap at2 s := by
    obtain ⟨s0, s1, s2, f1, f2, sb, r⟩ := hs
    have e := hk b (by omega)
    exact ⟨(World.cell?_of_block (a := ⟨b, 0, none⟩) e).trans s0, (World.cell?_of_block (a := ⟨b, 1, none⟩) e).trans s1, (World.cell?_of_block (a := ⟨b, 2, none⟩) e).trans s2, (World.frozen?_of_block (a := ⟨b, 1, none⟩) e).trans f1, (World.frozen?_of_block (a := ⟨b, 2, none⟩) e).trans f2, by rw [World.size_setCell]; exact sb, r⟩
  exact ⟨⟨at2, h1, h2, ⟨s, hS⟩, hrow.below ((Below.refl _ _).setCell (show B ≤ rb by omega) _)⟩, hbl.setCell (show B ≤ rb by omega) _, by rw [World.size_setCell]; exact ha.1, fun k hkb hl => (hk k (by omega)).trans (ha.2 k hkb hl)⟩
theorem drawn5 {x n : Int} (h : Drawn x n) (hn : 1 ≤ n) : 0 ≤ x ∧ x < n := by
  obtain ⟨h1, h2⟩ := h
  omega
theorem blockAt {w W : World} {b rb : Nat} {o : Obj} (h : Apart b (w.alloc o) W) (hb : rb = w.heap.size) (hne : rb ≠ b) : W.heap[rb]? = some o := by
  subst hb
  exact (h.2 _ hne (by simp)).trans (heapNew _ _)
set_option maxHeartbeats 8000000 in
set_option maxRecDepth 4000 in
theorem term_any (b : Nat) (a : Option Addr) (len cap : Nat) (zs : List Int) (B : Nat) (hB : B ≤ b) (lo hi : Int) (hhi : hi ≤ 900000) (w0 w : World) (h0 : Going b a len cap zs B lo hi w0 w) :
    Calls Try.prog 24 #[.pointer (some ⟨b, 0, none⟩)] w fun e w' => ∃ t : RTm, e = .returned (.agg #[.int .i64 t.fd, .int .i64 t.op, .int .i64 t.nu]) ∧ tmB t = true ∧ Going b a len cap zs B lo (hi + 20) w0 w' := by
  have H0 : Hid _ := h0
  have hb0 := h0.lt
  have hne : w.heap.size ≠ b := by omega
  have G1 : Hid (Going b a len cap zs B lo hi (w.alloc (Obj.cells #[.int .i64 0, .int .i64 0, .int .i64 0] 37)) (w.alloc (Obj.cells #[.int .i64 0, .int .i64 0, .int .i64 0] 37))) := (h0.later (by omega) (below_alloc _ _)).self
  have HFin : Hid (∀ (W : World) (hi' : Int) (x y z : Int), Going b a len cap zs B lo hi' (w.alloc (Obj.cells #[.int .i64 0, .int .i64 0, .int .i64 0] 37)) W → hi' ≤ hi + 20 → Going b a len cap zs B lo (hi + 20) w0 (((W.setCell ⟨w.heap.size, 0, none⟩ (.int .i64 x)).setCell ⟨w.heap.size, 1, none⟩ (.int .i64 y)).setCell ⟨w.heap.size, 2, none⟩ (.int .i64 z))) := fun W hi' x y z hg hle => by
    have k1 : Going b a len cap zs B lo hi' w W := (h0.self.later (by omega) (below_alloc _ _)).comp hg
    exact h0.comp ((((k1.set (Nat.le_refl _) hB hb0 _ _).set (Nat.le_refl _) hB hb0 _ _).set (Nat.le_refl _) hB hb0 _ _).wider hle)
  have HBlk : Hid (∀ (W : World) (hi' : Int), Going b a len cap zs B lo hi' (w.alloc (Obj.cells #[.int .i64 0, .int .i64 0, .int .i64 0] 37)) W → (W.cell? ⟨w.heap.size, 0, none⟩ = some (.int .i64 0) ∧ W.cell? ⟨w.heap.size, 1, none⟩ = some (.int .i64 0) ∧ W.cell? ⟨w.heap.size, 2, none⟩ = some (.int .i64 0)) ∧ (W.frozen? ⟨w.heap.size, 0, none⟩ = false ∧ W.frozen? ⟨w.heap.size, 1, none⟩ = false ∧ W.frozen? ⟨w.heap.size, 2, none⟩ = false) ∧ B ≤ W.heap.size) := fun W hi' hg => by
    have e := blockAt hg.2.2 rfl hne
    have hl := hg.lt
    refine ⟨⟨?_, ?_, ?_⟩, ⟨?_, ?_, ?_⟩, by omega⟩
    · unfold World.cell?; rw [e]; rfl
    · unfold World.cell?; rw [e]; rfl
    · unfold World.cell?; rw [e]; rfl
    · unfold World.frozen?; rw [e]; rfl
    · unfold World.frozen?; rw [e]; rfl
    · unfold World.frozen?; rw [e]; rfl
  clear h0
  go_enter Try.func24, Try.ntmps24
  go_wp2_with fail
  generalize (w.alloc (Obj.cells #[.int .i64 0, .int .i64 0, .int .i64 0] 37)) = W1 at *
  refine (next_going b a len cap zs B hB lo hi 5 W1 W1 (by omega) (by omega) G1.out).mono ?_
  rintro e w2 ⟨x, rfl, hx, g2⟩
  have G2 : Hid (Going b a len cap zs B lo (hi + 3) W1 w2) := g2
  obtain ⟨hx0, hx5⟩ := drawn5 hx (by omega)
  obtain ⟨m, rfl⟩ : ∃ m : Nat, x = (m : Int) := ⟨x.toNat, by omega⟩
  clear hx g2
  go_wp2_with fail
  (first | go_at_call 41 | skip)
  refine (chance_going b a len cap zs B hB lo (hi + 3) 2 W1 w2 (by omega) (by omega) (by omega) G2.out).mono ?_
  rintro e w3 ⟨cb, rfl, g3⟩
  have G3 : Hid (Going b a len cap zs B lo (hi + 3 + 3) W1 w3) := g3
  clear g3
  cases cb
  · have eM : ((m + 1 : Nat) : Int) = 1 + (m : Int) := by omega
    have hl := fun W => low_any (m + 1) (by omega) (by omega) W
    have hh := fun W => high_any (m + 1) (by omega) (by omega) W
    obtain ⟨l0, l1, l2⟩ := lohi (m + 1) (by omega) (by omega)
    rw [eM] at hl hh l0 l1 l2
    have hfd : 1 ≤ 1 + (m : Int) ∧ 1 + (m : Int) ≤ 5 := by omega
    have HTm : Hid (∀ z y : Int, 0 ≤ z → z < 3 → 0 ≤ y → y ≤ hiF (1 + (m : Int)) - loF (1 + (m : Int)) → tmB ⟨1 + (m : Int), 1 + z, loF (1 + (m : Int)) + y⟩ = true) := fun z y q1 q2 q3 q4 => tmB_iff.mpr ⟨hfd, ⟨by show (1 : Int) ≤ 1 + z; omega, by show 1 + z ≤ (3 : Int); omega⟩, by show loF (1 + (m : Int)) ≤ loF (1 + (m : Int)) + y; omega, by show loF (1 + (m : Int)) + y ≤ hiF (1 + (m : Int)); omega⟩
    generalize loF (1 + (m : Int)) = lw at *
    generalize hiF (1 + (m : Int)) = hg at *
    clear eM
    go_wp2_with fail
    (first | go_at_call 42 | skip)
    refine (hl _).mono ?_
    rintro e w4 ⟨rfl, hb4⟩
    have G4 : Hid (Going b a len cap zs B lo (hi + 3 + 3) W1 w4) := G3.out.later (HBlk.out _ _ G3.out).2.2 hb4
    clear hb4 hl
    go_wp2_with fail
    (first | go_at_call 22 | skip)
    refine (next_going b a len cap zs B hB lo (hi + 3 + 3) 3 W1 w4 (by omega) (by omega) G4.out).mono ?_
    rintro e w5 ⟨z, rfl, hz, g5⟩
    have G5 : Hid (Going b a len cap zs B lo (hi + 3 + 3 + 3) W1 w5) := g5
    obtain ⟨hz0, hz3⟩ := drawn5 hz (by omega)
    clear hz g5
    go_wp2_with fail
    (first | go_at_call 43 | skip)
    refine (hh _).mono ?_
    rintro e w6 ⟨rfl, hb6⟩
    have G6 : Hid (Going b a len cap zs B lo (hi + 3 + 3 + 3) W1 w6) := G5.out.later (HBlk.out _ _ G5.out).2.2 hb6
    clear hb6 hh
    go_wp2_with fail
    all_goals
      (first | go_at_call 22 | skip)
      refine (next_going b a len cap zs B hB lo (hi + 3 + 3 + 3) _ W1 w6 (by omega) (by omega) G6.out).mono ?_
      rintro e w7 ⟨y, rfl, hy, g7⟩
      have G7 : Hid (Going b a len cap zs B lo (hi + 3 + 3 + 3 + 3) W1 w7) := g7
      obtain ⟨hy0, hy1⟩ := drawn5 hy (by omega)
      have H1 : Hid _ := HTm.out z y hz0 hz3 hy0 (by omega)
      obtain ⟨⟨c0, c1, c2⟩, ⟨f0, f1, f2⟩, _⟩ := HBlk.out w7 _ g7
      clear hy g7
      go_wp2
      refine bodyPost_ret (v := .agg #[.int .i64 (1 + (m : Int)), .int .i64 (1 + z), .int .i64 (lw + y)]) (by simp [results, Try.results24, go_sem, c0, c1, c2]) rfl ⟨⟨1 + (m : Int), 1 + z, lw + y⟩, rfl, H1.out, ?_⟩
      exact HFin.out w7 _ _ _ _ G7.out (by omega)
  · go_wp2_with fail
    (first | go_at_call 22 | skip)
    refine (next_going b a len cap zs B hB lo (hi + 3 + 3) 2 W1 w3 (by omega) (by omega) G3.out).mono ?_
    rintro e w4 ⟨x4, rfl, hx4, g4⟩
    have G4 : Hid (Going b a len cap zs B lo (hi + 3 + 3 + 3) W1 w4) := g4
    obtain ⟨hx40, hx45⟩ := drawn5 hx4 (by omega)
    obtain ⟨q, rfl⟩ : ∃ q : Nat, x4 = (q : Int) := ⟨x4.toNat, by omega⟩
    clear hx4 g4
    have eM : ((q * 2 + 1 : Nat) : Int) = 1 + (q : Int) * 2 := by omega
    have hl := fun W => low_any (q * 2 + 1) (by omega) (by omega) W
    have hh := fun W => high_any (q * 2 + 1) (by omega) (by omega) W
    obtain ⟨l0, l1, l2⟩ := lohi (q * 2 + 1) (by omega) (by omega)
    rw [eM] at hl hh l0 l1 l2
    have hfd : 1 ≤ 1 + (q : Int) * 2 ∧ 1 + (q : Int) * 2 ≤ 5 := by omega
    have HTm : Hid (∀ z y : Int, 0 ≤ z → z < 3 → 0 ≤ y → y ≤ hiF (1 + (q : Int) * 2) - loF (1 + (q : Int) * 2) → tmB ⟨1 + (q : Int) * 2, 1 + z, loF (1 + (q : Int) * 2) + y⟩ = true) := fun z y q1 q2 q3 q4 => tmB_iff.mpr ⟨hfd, ⟨by show (1 : Int) ≤ 1 + z; omega, by show 1 + z ≤ (3 : Int); omega⟩, by show loF (1 + (q : Int) * 2) ≤ loF (1 + (q : Int) * 2) + y; omega, by show loF (1 + (q : Int) * 2) + y ≤ hiF (1 + (q : Int) * 2); omega⟩
    generalize loF (1 + (q : Int) * 2) = lw at *
    generalize hiF (1 + (q : Int) * 2) = hg at *
    clear eM
    go_wp2_with fail
    (first | go_at_call 42 | skip)
    refine (hl _).mono ?_
    rintro e w5 ⟨rfl, hb5⟩
    have G5 : Hid (Going b a len cap zs B lo (hi + 3 + 3 + 3) W1 w5) := G4.out.later (HBlk.out _ _ G4.out).2.2 hb5
    clear hb5 hl
    go_wp2_with fail
    (first | go_at_call 22 | skip)
    refine (next_going b a len cap zs B hB lo (hi + 3 + 3 + 3) 3 W1 w5 (by omega) (by omega) G5.out).mono ?_
    rintro e w6 ⟨z, rfl, hz, g6⟩
    have G6 : Hid (Going b a len cap zs B lo (hi + 3 + 3 + 3 + 3) W1 w6) := g6
    obtain ⟨hz0, hz3⟩ := drawn5 hz (by omega)
    clear hz g6
    go_wp2_with fail
    (first | go_at_call 43 | skip)
    refine (hh _).mono ?_
    rintro e w7 ⟨rfl, hb7⟩
    have G7 : Hid (Going b a len cap zs B lo (hi + 3 + 3 + 3 + 3) W1 w7) := G6.out.later (HBlk.out _ _ G6.out).2.2 hb7
    clear hb7 hh
    go_wp2_with fail
    all_goals
      (first | go_at_call 22 | skip)
      refine (next_going b a len cap zs B hB lo (hi + 3 + 3 + 3 + 3) _ W1 w7 (by omega) (by omega) G7.out).mono ?_
      rintro e w8 ⟨y, rfl, hy, g8⟩
      have G8 : Hid (Going b a len cap zs B lo (hi + 3 + 3 + 3 + 3 + 3) W1 w8) := g8
      obtain ⟨hy0, hy1⟩ := drawn5 hy (by omega)
      have H1 : Hid _ := HTm.out z y hz0 hz3 hy0 (by omega)
      obtain ⟨⟨c0, c1, c2⟩, ⟨f0, f1, f2⟩, _⟩ := HBlk.out w8 _ g8
      clear hy g8
      go_wp2
      refine bodyPost_ret (v := .agg #[.int .i64 (1 + (q : Int) * 2), .int .i64 (1 + z), .int .i64 (lw + y)]) (by simp [results, Try.results24, go_sem, c0, c1, c2]) rfl ⟨⟨1 + (q : Int) * 2, 1 + z, lw + y⟩, rfl, H1.out, ?_⟩
      exact HFin.out w8 _ _ _ _ G8.out (by omega)
end Go.Proofs.Ytfofdeenpcbglaa
