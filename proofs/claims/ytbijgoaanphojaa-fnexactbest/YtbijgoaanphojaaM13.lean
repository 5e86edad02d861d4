/-
  Texts of this claim laid together: UsE, Mark0.
-/
import Derived.Test.YtbijgoaanphojaaM4
import Derived.Test.YtbijgoaanphojaaM1
/-
  A list of uses in blocks of its own; the laws' own toUseS.
-/
namespace Go.Proofs.Ytbijgoaanphojaa
open Go.ChangeShapes Go.WideShapes Go.ChangeAt Go.RowKit Go.Deep
set_option linter.unusedVariables false

/-- A list of uses in blocks of its own, none below lo, no two of them the same. -/
def OwnUs (lo : Nat) (w : World) (g : Option Addr) (cs : List CUs) : Prop := cs = [] ∨ ∃ (b : Nat) (G C : Nat → Nat), g = some ⟨b, 0, none⟩ ∧ (lo ≤ b ∧ b < w.heap.size) ∧ (∀ j, j < cs.length * 3 → w.frozen? ⟨b, j, none⟩ = false) ∧
  (∀ i, i < cs.length → (lo ≤ G i ∧ G i < w.heap.size ∧ G i ≠ b) ∧ UsAt w b (i * 3) (some ⟨G i, 0, none⟩) (C i) (cs.getD i zUs) ∧ (cs.getD i zUs).us.length ≤ C i ∧ IntsAt w (G i) 0 (cs.getD i zUs).us ∧ FreeAt w (G i) 0 (cs.getD i zUs).us.length) ∧
  ∀ i j, i < j → j < cs.length → G i ≠ G j
theorem OwnUs.below {lo : Nat} {w w' : World} {g : Option Addr} {cs : List CUs} (h : OwnUs lo w g cs) {D : Nat} (hb : Below D w w') (hD : w.heap.size ≤ D) : OwnUs lo w' g cs := by
  rcases h with h | ⟨b, G, C, hg, ⟨h1, h2⟩, h3, h4, h5⟩
  · exact .inl h
  refine .inr ⟨b, G, C, hg, ⟨h1, Nat.lt_of_lt_of_le h2 hb.size⟩, fun j hj => (hb.frozen (p := ⟨b, j, none⟩) (Nat.lt_of_lt_of_le h2 hD)).trans (h3 j hj), fun i hi => ?_, h5⟩
  obtain ⟨⟨k1, k2, k3⟩, k4, k5, k6, k7⟩ := h4 i hi
  exact ⟨⟨k1, Nat.lt_of_lt_of_le k2 hb.size, k3⟩, k4.below hb (Nat.lt_of_lt_of_le h2 hD), k5, k6.below hb (Nat.lt_of_lt_of_le k2 hD), k7.below hb (Nat.lt_of_lt_of_le k2 hD)⟩
theorem OwnUs.reads {lo : Nat} {w : World} {g : Option Addr} {cs : List CUs} (h : OwnUs lo w g cs) : ReadsUs w.heap.size w g cs := by
  rcases h with h | ⟨b, G, C, hg, ⟨h1, h2⟩, h3, h4, h5⟩
  · exact .inl h
  refine .inr ⟨b, 0, hg, h2, fun i hi => ?_⟩
  obtain ⟨⟨k1, k2, k3⟩, k4, k5, k6, k7⟩ := h4 i hi
  rw [Nat.zero_add]
  exact ⟨_, _, k4, k5, .inr ⟨G i, 0, rfl, k2, k6⟩⟩

theorem intsAt_set {w : World} {g off : Nat} {xs : List Int} (h : IntsAt w g off xs) {c : Nat} (hne : c ≠ g) (o : Nat) (v : Value) : IntsAt (w.setCell ⟨c, o, none⟩ v) g off xs := fun i hi => by
  rw [World.cell?_setCell_far _ _ _ _ hne]; exact h i hi
theorem freeAt_set {w : World} {g off n : Nat} (h : FreeAt w g off n) (p : Addr) (v : Value) : FreeAt (w.setCell p v) g off n := fun j hj => by rw [World.frozen?_setCell]; exact h j hj

def usCell (c : CUs) (h : Option Addr) (n j : Nat) : Value := if j = 0 then .int .i64 c.dl else if j = 1 then .int .i64 c.sv else .slice h n n
theorem usInfo : (Try.prog.info? 36).map (fun i => (i.zero, i.size, i.bytes)) = some (some (.agg #[.int .i64 0, .int .i64 0, .slice none 0 0]), 3, 40) := by kernel_rfl
theorem makeUss (m n : Nat) (hm : m ≤ n) (hn : n ≤ 100000000) (w : World) :
    (Instr.makeSlice 25 (.int .i64 (m : Int)) (.int .i64 (n : Int))).run Try.prog w = .ok (.slice (some ⟨w.heap.size, 0, none⟩) m n) (w.alloc (.cells (madeCells #[.int .i64 0, .int .i64 0, .slice none 0 0] (n * 3)) 36)) := by
  obtain ⟨i, hi, hzz⟩ := Option.map_eq_some_iff.1 usInfo
  simp only [Prod.mk.injEq] at hzz
  obtain ⟨hz, hs, hb⟩ := hzz
  have hr := run_make (P := Try.prog) w 25 36 i _ Try.underlying25 hi hz .i64 .i64 (m : Int) (n : Int) (by omega) (by omega) (by rw [hb]; omega) (by omega)
  simp only [Int.toNat_natCast, hs] at hr
  exact hr
theorem uss_made (w : World) (n : Nat) : (w.alloc (.cells (madeCells #[.int .i64 0, .int .i64 0, .slice none 0 0] (n * 3)) 36)).rowIs w.heap.size 36 (n * 3) (fun j => usCell zUs none 0 (j % 3)) := by
  refine ⟨_, heapNew _ _, size_madeCells _ _, fun i hi => ?_⟩
  have h6 : i % 3 = 0 ∨ i % 3 = 1 ∨ i % 3 = 2 := by omega
  unfold usCell zUs
  rcases h6 with h | h | h <;> simp [madeCells, hi, h] <;> rfl
def usFill (cs : List CUs) (G : Nat → Nat) (k j : Nat) : Value := if j / 3 < k then usCell (cs.getD (j / 3) zUs) (some ⟨G (j / 3), 0, none⟩) (cs.getD (j / 3) zUs).us.length (j % 3) else usCell zUs none 0 (j % 3)
theorem usFill_set {w : World} {b : Nat} {cs : List CUs} {G : Nat → Nat} {n k g : Nat} (h : w.rowIs b 36 (n * 3) (usFill cs G k)) :
    (((w.setCell ⟨b, k * 3, none⟩ (.int .i64 (cs.getD k zUs).dl)).setCell ⟨b, k * 3 + 1, none⟩ (.int .i64 (cs.getD k zUs).sv)).setCell ⟨b, k * 3 + 2, none⟩ (.slice (some ⟨g, 0, none⟩) (cs.getD k zUs).us.length (cs.getD k zUs).us.length)).rowIs b 36 (n * 3) (usFill cs (fun i => if i = k then g else G i) (k + 1)) := by
  refine (((h.set (k * 3) _).set (k * 3 + 1) _).set (k * 3 + 2) _).congr fun j hj => ?_
  unfold usFill
  by_cases e2 : j = k * 3 + 2
  · rw [if_pos e2, if_pos (by omega), show j / 3 = k by omega, show j % 3 = 2 by omega]; simp [usCell]
  rw [if_neg e2]
  by_cases e1 : j = k * 3 + 1
  · rw [if_pos e1, if_pos (by omega), show j / 3 = k by omega, show j % 3 = 1 by omega]; rfl
  rw [if_neg e1]
  by_cases e0 : j = k * 3
  · rw [if_pos e0, if_pos (by omega), show j / 3 = k by omega, show j % 3 = 0 by omega]; rfl
  rw [if_neg e0]
  by_cases h : j / 3 < k
  · rw [if_pos h, if_pos (by omega)]; dsimp only; rw [if_neg (by omega)]
  · rw [if_neg h, if_neg (by omega)]
def UsIn (cs : List CUs) (G : Nat → Nat) (k b : Nat) (w : World) : Prop := (∀ i, i < k → (b < G i ∧ G i < w.heap.size) ∧ IntsAt w (G i) 0 (cs.getD i zUs).us ∧ FreeAt w (G i) 0 (cs.getD i zUs).us.length) ∧ ∀ i j, i < j → j < k → G i ≠ G j
theorem UsIn.below {cs : List CUs} {G : Nat → Nat} {k b : Nat} {w w' : World} (h : UsIn cs G k b w) (hb : Below w.heap.size w w') : UsIn cs G k b w' := ⟨fun i hi => by
  obtain ⟨⟨h1, h2⟩, h3, h4⟩ := h.1 i hi
  exact ⟨⟨h1, Nat.lt_of_lt_of_le h2 hb.size⟩, h3.below hb h2, h4.below hb h2⟩, h.2⟩
theorem UsIn.set {cs : List CUs} {G : Nat → Nat} {k b : Nat} {w : World} (h : UsIn cs G k b w) (o : Nat) (v : Value) : UsIn cs G k b (w.setCell ⟨b, o, none⟩ v) := ⟨fun i hi => by
  obtain ⟨⟨h1, h2⟩, h3, h4⟩ := h.1 i hi
  exact ⟨⟨h1, by rw [World.size_setCell]; exact h2⟩, intsAt_set h3 (by omega) _ _, freeAt_set h4 _ _⟩, h.2⟩
theorem UsIn.next {cs : List CUs} {G : Nat → Nat} {k b g S : Nat} {w : World} (h : UsIn cs G k b w) (hS : ∀ i, i < k → G i < S) (hg : S ≤ g) (h1 : b < g ∧ g < w.heap.size) (h2 : IntsAt w g 0 (cs.getD k zUs).us) (h3 : FreeAt w g 0 (cs.getD k zUs).us.length) : UsIn cs (fun i => if i = k then g else G i) (k + 1) b w := ⟨fun i hi => by
    by_cases e : i = k
    · subst e; simp only [if_true]; exact ⟨h1, h2, h3⟩
    · simp only [if_neg e]; exact h.1 i (by omega), fun i j hij hj => by
    dsimp only
    rw [if_neg (show ¬ i = k by omega)]
    by_cases e : j = k
    · rw [if_pos e]; have := hS i (by omega); omega
    · rw [if_neg e]; exact h.2 i j hij (by omega)⟩
theorem ownUs_of {cs : List CUs} {G : Nat → Nat} {b lo : Nat} {w : World} (hlo : lo ≤ b) (hr : w.rowIs b 36 (cs.length * 3) (usFill cs G cs.length)) (h : UsIn cs G cs.length b w) : OwnUs lo w (some ⟨b, 0, none⟩) cs := by
  refine .inr ⟨b, G, fun i => (cs.getD i zUs).us.length, rfl, ⟨hlo, hr.lt⟩, fun j hj => hr.frozen j, fun i hi => ?_, h.2⟩
  obtain ⟨⟨h1, h2⟩, h3, h4⟩ := h.1 i hi
  refine ⟨⟨by omega, h2, by omega⟩, ⟨?_, ?_, ?_⟩, Nat.le_refl _, h3, h4⟩
  · rw [hr.cell (i := i * 3) (by omega)]; unfold usFill; rw [if_pos (by omega), show (i * 3) / 3 = i by omega, show (i * 3) % 3 = 0 by omega]; rfl
  · rw [hr.cell (i := i * 3 + 1) (by omega)]; unfold usFill; rw [if_pos (by omega), show (i * 3 + 1) / 3 = i by omega, show (i * 3 + 1) % 3 = 1 by omega]; rfl
  · rw [hr.cell (i := i * 3 + 2) (by omega)]; unfold usFill; rw [if_pos (by omega), show (i * 3 + 2) / 3 = i by omega, show (i * 3 + 2) % 3 = 2 by omega]; rfl

end Go.Proofs.Ytbijgoaanphojaa

/-
  Which blocks a mark turns; small lemmas on answers that own their memory (the same words as in the texts on packs, for seats that have no packs).
-/
namespace Go.Proofs.Ytbijgoaanphojaa
open Go.ChangeShapes Go.WideShapes Go.ChangeAt Go.RowKit
set_option linter.unusedVariables false

/-- All blocks but D are as they were. -/
def Apart (D : Nat) (w w' : World) : Prop := w.heap.size ≤ w'.heap.size ∧ ∀ k, k ≠ D → k < w.heap.size → w'.heap[k]? = w.heap[k]?
theorem own2_apart {B D : Nat} {w w' : World} {g : Option Addr} {L : List Int} (h : Own2 B w g L) (ha : Apart D w w') (hne : ∀ c, g = some ⟨c, 0, none⟩ → c ≠ D ∨ L = []) : Own2 B w' g L := by
  rcases h with h | ⟨b, hg, hB, hl, hi, hf⟩
  · exact .inl h
  · rcases hne b hg with h | h
    · have e := ha.2 b h hl
      exact .inr ⟨b, hg, hB, Nat.lt_of_lt_of_le hl ha.1, fun i hk => (World.cell?_of_block (w := w) (a := ⟨b, 0 + i, none⟩) e).trans (hi i hk), fun i hk => (World.frozen?_of_block (w := w) (a := ⟨b, 0 + i, none⟩) e).trans (hf i hk)⟩
    · exact .inl h
/-- Block b has m cells that may be written; below it, and beside it, nothing has turned. -/
def Mk (b m : Nat) (w wr : World) : Prop := (Below b w wr ∧ Apart b w wr) ∧ b < wr.heap.size ∧ (∀ j, j < m → (wr.cell? ⟨b, j, none⟩).isSome = true) ∧ ∀ j, j < m → wr.frozen? ⟨b, j, none⟩ = false
theorem Mk.later {b m : Nat} {w wr w2 : World} (h : Mk b m w wr) (hb : Below wr.heap.size wr w2) : Mk b m w w2 := by
  obtain ⟨⟨h1, ha⟩, h2, h3, h4⟩ := h
  exact ⟨⟨h1.trans (hb.mono (Nat.le_of_lt h2)), Nat.le_trans ha.1 hb.size, fun k hk hl => (hb.block k (Nat.lt_of_lt_of_le hl ha.1)).trans (ha.2 k hk hl)⟩, Nat.lt_of_lt_of_le h2 hb.size, fun j hj => by rw [hb.cell (p := ⟨b, j, none⟩) h2]; exact h3 j hj, fun j hj => by rw [hb.frozen (p := ⟨b, j, none⟩) h2]; exact h4 j hj⟩
theorem Mk.set {b m : Nat} {w wr : World} (h : Mk b m w wr) (o : Nat) (v : Value) : Mk b m w (wr.setCell ⟨b, o, none⟩ v) := by
  obtain ⟨⟨h1, ha⟩, h2, h3, h4⟩ := h
  refine ⟨⟨h1.setCell (Nat.le_refl _) _, by rw [World.size_setCell]; exact ha.1, fun k hk hl => (Below.heap_setCell _ _ _ _ hk).trans (ha.2 k hk hl)⟩, by rw [World.size_setCell]; exact h2, fun j hj => ?_, fun j hj => by rw [World.frozen?_setCell]; exact h4 j hj⟩
  obtain ⟨u, hu⟩ := Option.isSome_iff_exists.mp (h3 j hj)
  by_cases e : j = o
  · subst e; rw [World.cell?_setCell_same _ _ _ hu]; rfl
  · rw [World.cell?_setCell_other _ _ _ _ (fun h => e (by first | (simp at h; omega) | (simp at h; done) | (cases h; rfl)))]; rw [hu]; rfl
theorem Mk.at {b m : Nat} {w wr : World} (h : Mk b m w wr) (j : Nat) (hj : j < m) : ∃ v, wr.cell? ⟨b, j, none⟩ = some v ∧ wr.frozen? ⟨b, j, none⟩ = false := by
  obtain ⟨u, hu⟩ := Option.isSome_iff_exists.mp (h.2.2.1 j hj)
  exact ⟨u, hu, h.2.2.2 j hj⟩
theorem Mk.start {b n : Nat} {w : World} (hc : b < w.heap.size) (h : ∀ j, j < n → (w.cell? ⟨b, j, none⟩).isSome = true) (hf : ∀ j, j < n → w.frozen? ⟨b, j, none⟩ = false) : Mk b n w w :=
  ⟨⟨Below.refl _ _, Nat.le_refl _, fun _ _ _ => rfl⟩, hc, h, hf⟩
theorem own2_ne {B : Nat} {w : World} {g : Option Addr} {L : List Int} (h : Own2 B w g L) : ∀ c, g = some ⟨c, 0, none⟩ → c ≠ w.heap.size ∨ L = [] := fun c hc => by
  rcases h with h | ⟨b, hg, _, hlt, _⟩
  · exact .inr h
  · rw [hg] at hc; cases hc; exact .inl (by omega)
theorem own2_lt {B D : Nat} {w : World} {g : Option Addr} {L : List Int} (h : Own2 B w g L) (hD : w.heap.size ≤ D) : ∀ c, g = some ⟨c, 0, none⟩ → c < D ∨ L = [] := fun c hc => by
  rcases h with h | ⟨b, hg, _, hlt, _⟩
  · exact .inr h
  · rw [hg] at hc; cases hc; exact .inl (by omega)
theorem own2_low {B D : Nat} {w w' : World} {g : Option Addr} {L : List Int} (h : Own2 B w g L) (hb : Below D w w') (hlt : ∀ c, g = some ⟨c, 0, none⟩ → c < D ∨ L = []) : Own2 B w' g L := by
  rcases h with h | ⟨b, hg, hB, hl, hi, hf⟩
  · exact .inl h
  · rcases hlt b hg with h | h
    · exact .inr ⟨b, hg, hB, Nat.lt_of_lt_of_le hl hb.size, hi.below hb h, hf.below hb h⟩
    · exact .inl h
theorem own2_ge {B D : Nat} {w : World} {g : Option Addr} {L : List Int} (h : Own2 B w g L) (hD : D < B) : ∀ c, g = some ⟨c, 0, none⟩ → c ≠ D ∨ L = [] := fun c hc => by
  rcases h with h | ⟨b, hg, hB, hlt, _⟩
  · exact .inr h
  · rw [hg] at hc; cases hc; exact .inl (by omega)
end Go.Proofs.Ytbijgoaanphojaa
