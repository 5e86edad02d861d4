/-
  Texts of this claim laid together: UsE, UsM.
-/
import Derived.Test.YtkfmifbffgbiiaaM5
import Derived.Test.YtkfmifbffgbiiaaM3
/-
  A list of uses in blocks of its own; the laws' own toUseS.
-/
namespace Go.Proofs.Ytkfmifbffgbiiaa
open Go.ChangeShapes Go.WideShapes Go.ChangeAt Go.RowKit Go.Deep
set_option linter.unusedVariables false

/-- A list of uses in blocks of its own, none below lo, no two of them the same. -/
def OwnUs (lo : Nat) (w : World) (g : Option Addr) (cs : List CUs) : Prop := cs = [] ∨ ∃ (b : Nat) (G C : Nat → Nat), g = some ⟨b, 0, none⟩ ∧ (lo ≤ b ∧ b < w.heap.size) ∧ (∀ j, j < cs.length * 3 → w.frozen? ⟨b, j, none⟩ = false) ∧
  (∀ i, i < cs.length → (lo ≤ G i ∧ G i < w.heap.size ∧ G i ≠ b) ∧ UsAt w b (i * 3) (some ⟨G i, 0, none⟩) (C i) (cs.getD i zUs) ∧ (cs.getD i zUs).us.length ≤ C i ∧ IntsAt w (G i) 0 (cs.getD i zUs).us ∧ FreeAt w (G i) 0 (cs.getD i zUs).us.length) ∧
  ∀ i j, i < j → j < cs.length → G i ≠ G j
theorem OwnUs.below {lo : Nat} {w w' : World} {g : Option Addr} {cs : List CUs} (h : OwnUs lo w g cs) {D : Nat} (hb : Below D w w') (hD : w.heap.size ≤ D) : OwnUs lo w' g cs := by
  rcases h with h | ⟨b, G, C, hg, ⟨h1, h2⟩, h3, h4, h5⟩
  · exact .inl h
  refine .inr ⟨b, G, C, hg, ⟨h1, Nat.lt_of_lt_of_le h2 hb.size⟩, fun j hj => (hb.frozen (p := ⟨b, j, none⟩) (Nat.lt_of_lt_of_le h2 hD)).trans (h3 j hj), fun i hi => ?_, h5⟩
  obtain ⟨⟨k1, k2, k3⟩, k4, k5, k6, k7⟩ := h4 i hi
  exact ⟨⟨k1, Nat.lt_of_lt_of_le k2 hb.size, k3⟩, k4.below hb (Nat.lt_of_lt_of_le h2 hD), k5, k6.below hb (Nat.lt_of_lt_of_le k2 hD), k7.below hb (Nat.lt_of_lt_of_le k2 hD)⟩
theorem OwnUs.reads {lo : Nat} {w : World} {g : Option Addr} {cs : List CUs} (h : OwnUs lo w g cs) : ReadsUs w.heap.size w g cs := by
  rcases h with h | ⟨b, G, C, hg, ⟨h1, h2⟩, h3, h4, h5⟩
  · exact .inl h
  refine .inr ⟨b, 0, hg, h2, fun i hi => ?_⟩
  obtain ⟨⟨k1, k2, k3⟩, k4, k5, k6, k7⟩ := h4 i hi
  rw [Nat.zero_add]
  exact ⟨_, _, k4, k5, .inr ⟨G i, 0, rfl, k2, k6⟩⟩

theorem intsAt_set {w : World} {g off : Nat} {xs : List Int} (h : IntsAt w g off xs) {c : Nat} (hne : c ≠ g) (o : Nat) (v : Value) : IntsAt (w.setCell ⟨c, o, none⟩ v) g off xs := fun i hi => by
  rw [World.cell?_setCell_far _ _ _ _ hne]; exact h i hi
theorem freeAt_set {w : World} {g off n : Nat} (h : FreeAt w g off n) (p : Addr) (v : Value) : FreeAt (w.setCell p v) g off n := fun j hj => by rw [World.frozen?_setCell]; exact h j hj

def usCell (c : CUs) (h : Option Addr) (n j : Nat) : Value := if j = 0 then .int .i64 c.dl else if j = 1 then .int .i64 c.sv else .slice h n n
theorem usInfo : (Try.prog.info? 36).map (fun i => (i.zero, i.size, i.bytes)) = some (some (.agg #[.int .i64 0, .int .i64 0, .slice none 0 0]), 3, 40) := by kernel_rfl
theorem makeUss (m n : Nat) (hm : m ≤ n) (hn : n ≤ 100000000) (w : World) :
    (Instr.makeSlice 25 (.int .i64 (m : Int)) (.int .i64 (n : Int))).run Try.prog w = .ok (.slice (some ⟨w.heap.size, 0, none⟩) m n) (w.alloc (.cells (madeCells #[.int .i64 0, .int .i64 0, .slice none 0 0] (n * 3)) 36)) := by
  obtain ⟨i, hi, hzz⟩ := Option.map_eq_some_iff.1 usInfo
  simp only [Prod.mk.injEq] at hzz
  obtain ⟨hz, hs, hb⟩ := hzz
  have hr := run_make (P := Try.prog) w 25 36 i _ Try.underlying25 hi hz .i64 .i64 (m : Int) (n : Int) (by omega) (by omega) (by rw [hb]; omega) (by omega)
  simp only [Int.toNat_natCast, hs] at hr
  exact hr
theorem uss_made (w : World) (n : Nat) : (w.alloc (.cells (madeCells #[.int .i64 0, .int .i64 0, .slice none 0 0] (n * 3)) 36)).rowIs w.heap.size 36 (n * 3) (fun j => usCell zUs none 0 (j % 3)) := by
  refine ⟨_, heapNew _ _, size_madeCells _ _, fun i hi => ?_⟩
  have h6 : i % 3 = 0 ∨ i % 3 = 1 ∨ i % 3 = 2 := by omega
  unfold usCell zUs
  rcases h6 with h | h | h <;> simp [madeCells, hi, h] <;> rfl
def usFill (cs : List CUs) (G : Nat → Nat) (k j : Nat) : Value := if j / 3 < k then usCell (cs.getD (j / 3) zUs) (some ⟨G (j / 3), 0, none⟩) (cs.getD (j / 3) zUs).us.length (j % 3) else usCell zUs none 0 (j % 3)
theorem usFill_set {w : World} {b : Nat} {cs : List CUs} {G : Nat → Nat} {n k g : Nat} (h : w.rowIs b 36 (n * 3) (usFill cs G k)) :
    (((w.setCell ⟨b, k * 3, none⟩ (.int .i64 (cs.getD k zUs).dl)).setCell ⟨b, k * 3 + 1, none⟩ (.int .i64 (cs.getD k zUs).sv)).setCell ⟨b, k * 3 + 2, none⟩ (.slice (some ⟨g, 0, none⟩) (cs.getD k zUs).us.length (cs.getD k zUs).us.length)).rowIs b 36 (n * 3) (usFill cs (fun i => if i = k then g else G i) (k + 1)) := by
  refine (((h.set (k * 3) _).set (k * 3 + 1) _).set (k * 3 + 2) _).congr fun j hj => ?_
  unfold usFill
  by_cases e2 : j = k * 3 + 2
  · rw [if_pos e2, if_pos (by omega), show j / 3 = k by omega, show j % 3 = 2 by omega]; simp [usCell]
  rw [if_neg e2]
  by_cases e1 : j = k * 3 + 1
  · rw [if_pos e1, if_pos (by omega), show j / 3 = k by omega, show j % 3 = 1 by omega]; rfl
  rw [if_neg e1]
  by_cases e0 : j = k * 3
  · rw [if_pos e0, if_pos (by omega), show j / 3 = k by omega, show j % 3 = 0 by omega]; rfl
  rw [if_neg e0]
  by_cases h : j / 3 < k
  · rw [if_pos h, if_pos (by omega)]; dsimp only; rw [if_neg (by omega)]
  · rw [if_neg h, if_neg (by omega)]
def UsIn (cs : List CUs) (G : Nat → Nat) (k b : Nat) (w : World) : Prop := (∀ i, i < k → (b < G i ∧ G i < w.heap.size) ∧ IntsAt w (G i) 0 (cs.getD i zUs).us ∧ FreeAt w (G i) 0 (cs.getD i zUs).us.length) ∧ ∀ i j, i < j → j < k → G i ≠ G j
theorem UsIn.below {cs : List CUs} {G : Nat → Nat} {k b : Nat} {w w' : World} (h : UsIn cs G k b w) (hb : Below w.heap.size w w') : UsIn cs G k b w' := ⟨fun i hi => by
  obtain ⟨⟨h1, h2⟩, h3, h4⟩ := h.1 i hi
  exact ⟨⟨h1, Nat.lt_of_lt_of_le h2 hb.size⟩, h3.below hb h2, h4.below hb h2⟩, h.2⟩
theorem UsIn.set {cs : List CUs} {G : Nat → Nat} {k b : Nat} {w : World} (h : UsIn cs G k b w) (o : Nat) (v : Value) : UsIn cs G k b (w.setCell ⟨b, o, none⟩ v) := ⟨fun i hi => by
  obtain ⟨⟨h1, h2⟩, h3, h4⟩ := h.1 i hi
  exact ⟨⟨h1, by rw [World.size_setCell]; exact h2⟩, intsAt_set h3 (by omega) _ _, freeAt_set h4 _ _⟩, h.2⟩
theorem UsIn.next {cs : List CUs} {G : Nat → Nat} {k b g S : Nat} {w : World} (h : UsIn cs G k b w) (hS : ∀ i, i < k → G i < S) (hg : S ≤ g) (h1 : b < g ∧ g < w.heap.size) (h2 : IntsAt w g 0 (cs.getD k zUs).us) (h3 : FreeAt w g 0 (cs.getD k zUs).us.length) : UsIn cs (fun i => if i = k then g else G i) (k + 1) b w := ⟨fun i hi => by
    by_cases e : i = k
    · subst e; simp only [if_true]; exact ⟨h1, h2, h3⟩
    · simp only [if_neg e]; exact h.1 i (by omega), fun i j hij hj => by
    dsimp only
    rw [if_neg (show ¬ i = k by omega)]
    by_cases e : j = k
    · rw [if_pos e]; have := hS i (by omega); omega
    · rw [if_neg e]; exact h.2 i j hij (by omega)⟩
theorem ownUs_of {cs : List CUs} {G : Nat → Nat} {b lo : Nat} {w : World} (hlo : lo ≤ b) (hr : w.rowIs b 36 (cs.length * 3) (usFill cs G cs.length)) (h : UsIn cs G cs.length b w) : OwnUs lo w (some ⟨b, 0, none⟩) cs := by
  refine .inr ⟨b, G, fun i => (cs.getD i zUs).us.length, rfl, ⟨hlo, hr.lt⟩, fun j hj => hr.frozen j, fun i hi => ?_, h.2⟩
  obtain ⟨⟨h1, h2⟩, h3, h4⟩ := h.1 i hi
  refine ⟨⟨by omega, h2, by omega⟩, ⟨?_, ?_, ?_⟩, Nat.le_refl _, h3, h4⟩
  · rw [hr.cell (i := i * 3) (by omega)]; unfold usFill; rw [if_pos (by omega), show (i * 3) / 3 = i by omega, show (i * 3) % 3 = 0 by omega]; rfl
  · rw [hr.cell (i := i * 3 + 1) (by omega)]; unfold usFill; rw [if_pos (by omega), show (i * 3 + 1) / 3 = i by omega, show (i * 3 + 1) % 3 = 1 by omega]; rfl
  · rw [hr.cell (i := i * 3 + 2) (by omega)]; unfold usFill; rw [if_pos (by omega), show (i * 3 + 2) / 3 = i by omega, show (i * 3 + 2) % 3 = 2 by omega]; rfl

end Go.Proofs.Ytkfmifbffgbiiaa

/-
  The laws' own marks on lists of uses (markUseS, markBargain), and what holds them (heldUseS, heldBargain).
-/
namespace Go.Proofs.Ytkfmifbffgbiiaa
open Go.ChangeShapes Go.WideShapes Go.ChangeAt Go.RowKit Go.Deep
set_option linter.unusedVariables false

/-- Blocks below lo, and those from hi on, are as they were. -/
def Span (lo hi : Nat) (w w' : World) : Prop := Below lo w w' ∧ ∀ c o, hi ≤ c → c < w.heap.size → w'.cell? ⟨c, o, none⟩ = w.cell? ⟨c, o, none⟩ ∧ w'.frozen? ⟨c, o, none⟩ = w.frozen? ⟨c, o, none⟩
theorem Span.refl (lo hi : Nat) (w : World) : Span lo hi w w := ⟨Below.refl _ _, fun _ _ _ _ => ⟨rfl, rfl⟩⟩
theorem Span.trans {lo hi : Nat} {w w' w'' : World} (h : Span lo hi w w') (k : Span lo hi w' w'') : Span lo hi w w'' := ⟨h.1.trans k.1, fun c o h1 h2 => ⟨(k.2 c o h1 (Nat.lt_of_lt_of_le h2 h.1.size)).1.trans (h.2 c o h1 h2).1, (k.2 c o h1 (Nat.lt_of_lt_of_le h2 h.1.size)).2.trans (h.2 c o h1 h2).2⟩⟩
theorem Span.later {lo hi : Nat} {w w' w'' : World} (h : Span lo hi w w') (hlo : lo ≤ w'.heap.size) (k : Below w'.heap.size w' w'') : Span lo hi w w'' := h.trans ⟨k.mono hlo, fun c o h1 h2 => ⟨k.cell (p := ⟨c, o, none⟩) h2, k.frozen (p := ⟨c, o, none⟩) h2⟩⟩
theorem Span.set {lo hi : Nat} {w w' : World} (h : Span lo hi w w') {c : Nat} (h1 : lo ≤ c) (h2 : c < hi) (o : Nat) (v : Value) : Span lo hi w (w'.setCell ⟨c, o, none⟩ v) := h.trans ⟨(Below.refl _ _).setCell h1 _, fun d q k1 k2 => ⟨World.cell?_setCell_far _ _ _ _ (show c ≠ d by omega), World.frozen?_setCell _ _ _ _⟩⟩
theorem Span.ofMk {lo hi b m : Nat} {w w' : World} (h : Mk b m w w') (h1 : lo ≤ b) (h2 : b < hi) : Span lo hi w w' := ⟨h.1.1.mono h1, fun c o k1 k2 => ⟨World.cell?_of_block (w := w) (a := ⟨c, o, none⟩) (h.1.2.2 c (by omega) k2), World.frozen?_of_block (w := w) (a := ⟨c, o, none⟩) (h.1.2.2 c (by omega) k2)⟩⟩
theorem Span.ofOthers {lo hi b : Nat} {w w' : World} (h : Others b w w') (h1 : lo ≤ b) (h2 : b < hi) : Span lo hi w w' := ⟨h.2.2.2 lo h1, fun c o k1 k2 => ⟨h.1 c o (by omega), h.2.1 c o⟩⟩
/-- What lies from hi on is as it was. -/
theorem Span.above {lo hi : Nat} {w w' : World} (h : Span lo hi w w') {b : Nat} (h1 : hi ≤ b) (h2 : b < w.heap.size) (o : Nat) : w'.cell? ⟨b, o, none⟩ = w.cell? ⟨b, o, none⟩ ∧ w'.frozen? ⟨b, o, none⟩ = w.frozen? ⟨b, o, none⟩ := h.2 b o h1 h2

def UsRow (lo hi : Nat) (w : World) (b n : Nat) (F : Nat → CUs) (G C : Nat → Nat) : Prop := (lo ≤ b ∧ b < hi ∧ hi ≤ w.heap.size) ∧ (∀ j, j < n * 3 → w.frozen? ⟨b, j, none⟩ = false) ∧
  (∀ i, i < n → (lo ≤ G i ∧ G i < hi ∧ G i ≠ b) ∧ UsAt w b (i * 3) (some ⟨G i, 0, none⟩) (C i) (F i) ∧ (IntsAt w (G i) 0 (F i).us ∧ (F i).us.length ≤ C i) ∧ FreeAt w (G i) 0 (F i).us.length) ∧
  ∀ i j, i < j → j < n → G i ≠ G j
theorem UsRow.below {lo hi : Nat} {w w' : World} {b n : Nat} {F : Nat → CUs} {G C : Nat → Nat} (h : UsRow lo hi w b n F G C) {D : Nat} (hb : Below D w w') (hD : hi ≤ D) : UsRow lo hi w' b n F G C := by
  obtain ⟨⟨h1, h2, h2'⟩, h3, h4, h5⟩ := h
  refine ⟨⟨h1, h2, Nat.le_trans h2' hb.size⟩, fun j hj => (hb.frozen (p := ⟨b, j, none⟩) (show b < D by omega)).trans (h3 j hj), fun i hi => ?_, h5⟩
  obtain ⟨⟨k1, k2, k3⟩, k4, k6, k7⟩ := h4 i hi
  exact ⟨⟨k1, k2, k3⟩, k4.below hb (by omega), ⟨k6.1.below hb (by omega), k6.2⟩, k7.below hb (by omega)⟩
/-- Marks elsewhere leave it as it was. -/
theorem UsRow.apart {lo hi : Nat} {w w' : World} {b n : Nat} {F : Nat → CUs} {G C : Nat → Nat} (h : UsRow lo hi w b n F G C) {lo' hi' : Nat} (hs : Span lo' hi' w w') (hD : hi' ≤ lo) : UsRow lo hi w' b n F G C := by
  obtain ⟨⟨h1, h2, h2'⟩, h3, h4, h5⟩ := h
  have A := fun c o (k1 : lo ≤ c) (k2 : c < hi) => hs.above (b := c) (by omega) (by omega) o
  refine ⟨⟨h1, h2, Nat.le_trans h2' hs.1.size⟩, fun j hj => (A b j h1 h2).2.trans (h3 j hj), fun i hi => ?_, h5⟩
  obtain ⟨⟨k1, k2, k3⟩, ⟨m0, m1, m2⟩, k6, k7⟩ := h4 i hi
  exact ⟨⟨k1, k2, k3⟩, ⟨(A b _ h1 h2).1.trans m0, (A b _ h1 h2).1.trans m1, (A b _ h1 h2).1.trans m2⟩, ⟨fun j hj => (A (G i) _ k1 k2).1.trans (k6.1 j hj), k6.2⟩, fun j hj => (A (G i) _ k1 k2).2.trans (k7 j hj)⟩
theorem UsRow.congr {lo hi : Nat} {w : World} {b n : Nat} {F F' : Nat → CUs} {G C : Nat → Nat} (h : UsRow lo hi w b n F G C) (e : ∀ i, i < n → F i = F' i) : UsRow lo hi w b n F' G C := by
  obtain ⟨h1, h3, h4, h5⟩ := h
  refine ⟨h1, h3, fun i hi => ?_, h5⟩
  have := h4 i hi
  rwa [e i hi] at this
theorem OwnUs.row {lo : Nat} {w : World} {g : Option Addr} {cs : List CUs} (h : OwnUs lo w g cs) : cs = [] ∨ ∃ b G C, g = some ⟨b, 0, none⟩ ∧ UsRow lo w.heap.size w b cs.length (fun i => cs.getD i zUs) G C := by
  rcases h with h | ⟨b, G, C, hg, ⟨h1, h2⟩, h3, h4, h5⟩
  · exact .inl h
  refine .inr ⟨b, G, C, hg, ⟨h1, h2, Nat.le_refl _⟩, h3, fun i hi => ?_, h5⟩
  obtain ⟨⟨k1, k2, k3⟩, k4, k5, k6, k7⟩ := h4 i hi
  exact ⟨⟨k1, k2, k3⟩, k4, ⟨k6, k5⟩, k7⟩
theorem reads_row {lo hi : Nat} {w : World} {b : Nat} {cs : List CUs} {G C : Nat → Nat} (h : UsRow lo hi w b cs.length (fun i => cs.getD i zUs) G C) : ReadsUs w.heap.size w (some ⟨b, 0, none⟩) cs := by
  obtain ⟨⟨h1, h2, h2'⟩, h3, h4, h5⟩ := h
  refine .inr ⟨b, 0, rfl, by omega, fun i hi => ?_⟩
  obtain ⟨⟨k1, k2, k3⟩, k4, k6, k7⟩ := h4 i hi
  rw [Nat.zero_add]
  exact ⟨_, _, k4, k6.2, .inr ⟨G i, 0, rfl, by omega, k6.1⟩⟩

/-- The mark that use i begins with. -/
def kAt (k0 : Nat) (L : Nat → Nat) : Nat → Nat
  | 0 => k0
  | i + 1 => kAt k0 L i + 2 + L i
theorem kAt_le (k0 : Nat) (L : Nat → Nat) (i j : Nat) (h : i ≤ j) : kAt k0 L i ≤ kAt k0 L j := by
  induction j with
  | zero => obtain rfl : i = 0 := by omega
            exact Nat.le_refl _
  | succ j ih =>
    by_cases e : i = j + 1
    · subst e; exact Nat.le_refl _
    · have := ih (by omega)
      show _ ≤ kAt k0 L j + 2 + L j
      omega
def mkU (k0 : Nat) (L : Nat → Nat) (i : Nat) : CUs := ⟨(kAt k0 L i : Int), (kAt k0 L i : Int) + 1, marks ((kAt k0 L i : Int) + 2) (L i)⟩
theorem usRow_mark {lo hi : Nat} {w w2 : World} {b n : Nat} {F : Nat → CUs} {G C : Nat → Nat} {j : Nat} {K : Int} (h : UsRow lo hi w b n F G C) (hj : j < n)
    (ho : Others (G j) ((w.setCell ⟨b, j * 3, none⟩ (.int .i64 K)).setCell ⟨b, j * 3 + 1, none⟩ (.int .i64 (K + 1))) w2) (hm : IntsAt w2 (G j) 0 (marks (K + 2) (F j).us.length)) :
    UsRow lo hi w2 b n (fun i => if i = j then ⟨K, K + 1, marks (K + 2) (F j).us.length⟩ else F i) G C ∧ w2.heap.size = w.heap.size := by
  obtain ⟨⟨h1, h2, h2'⟩, h3, h4, h5⟩ := h
  have hz : w2.heap.size = w.heap.size := by rw [ho.2.2.1, World.size_setCell, World.size_setCell]
  have fz : ∀ c o, w2.frozen? ⟨c, o, none⟩ = w.frozen? ⟨c, o, none⟩ := fun c o => by rw [ho.2.1, World.frozen?_setCell, World.frozen?_setCell]
  obtain ⟨⟨j1, j2, j3⟩, ⟨m0, m1, m2⟩, j6, j7⟩ := h4 j hj
  have cb : ∀ o, w2.cell? ⟨b, o, none⟩ = ((w.setCell ⟨b, j * 3, none⟩ (.int .i64 K)).setCell ⟨b, j * 3 + 1, none⟩ (.int .i64 (K + 1))).cell? ⟨b, o, none⟩ := fun o => ho.1 b o (Ne.symm j3)
  have ne : ∀ x y : Nat, x ≠ y → (⟨b, x, none⟩ : Addr) ≠ ⟨b, y, none⟩ := fun x y h e => h (by cases e; rfl)
  have co : ∀ o, o ≠ j * 3 → o ≠ j * 3 + 1 → w2.cell? ⟨b, o, none⟩ = w.cell? ⟨b, o, none⟩ := fun o e1 e2 => by
    rw [cb, World.cell?_setCell_other _ _ _ _ (ne _ _ (Ne.symm e2)), World.cell?_setCell_other _ _ _ _ (ne _ _ (Ne.symm e1))]
  refine ⟨⟨⟨h1, h2, by omega⟩, fun o ho' => (fz b o).trans (h3 o ho'), fun i hi => ?_, h5⟩, hz⟩
  by_cases e : i = j
  · subst e
    simp only [if_true]
    refine ⟨⟨j1, j2, j3⟩, ⟨?_, ?_, ?_⟩, ⟨hm, by rw [marks_length]; exact j6.2⟩, ?_⟩
    · rw [cb, World.cell?_setCell_other _ _ _ _ (ne _ _ (by omega)), World.cell?_setCell_same _ _ _ m0]
    · obtain ⟨v, hv⟩ : ∃ v, (w.setCell ⟨b, i * 3, none⟩ (.int .i64 K)).cell? ⟨b, i * 3 + 1, none⟩ = some v := ⟨_, by rw [World.cell?_setCell_other _ _ _ _ (ne _ _ (by omega)), m1]⟩
      rw [cb, World.cell?_setCell_same _ _ _ hv]
    · rw [co _ (by omega) (by omega), m2, marks_length]
    · rw [marks_length]; exact fun o ho' => (fz _ _).trans (j7 o ho')
  · simp only [if_neg e]
    obtain ⟨⟨k1, k2, k3⟩, ⟨n0, n1, n2⟩, k6, k7⟩ := h4 i hi
    have hne : G i ≠ G j := by
      rcases Nat.lt_or_gt_of_ne e with q | q
      · exact h5 i j q hj
      · exact Ne.symm (h5 j i q hi)
    refine ⟨⟨k1, k2, k3⟩, ⟨(co _ (by omega) (by omega)).trans n0, (co _ (by omega) (by omega)).trans n1, (co _ (by omega) (by omega)).trans n2⟩, ⟨fun o ho' => ?_, k6.2⟩, fun o ho' => (fz _ _).trans (k7 o ho')⟩
    rw [ho.1 _ _ hne, World.cell?_setCell_far _ _ _ _ (Ne.symm k3), World.cell?_setCell_far _ _ _ _ (Ne.symm k3)]
    exact k6.1 o ho'
theorem span_mark {lo hi : Nat} {w w1 w2 : World} {b n : Nat} {F : Nat → CUs} {G C : Nat → Nat} {j : Nat} {K : Int} (hs : Span lo hi w w1) (h : UsRow lo hi w1 b n F G C) (hj : j < n)
    (ho : Others (G j) ((w1.setCell ⟨b, j * 3, none⟩ (.int .i64 K)).setCell ⟨b, j * 3 + 1, none⟩ (.int .i64 (K + 1))) w2) : Span lo hi w w2 := by
  obtain ⟨⟨j1, j2, j3⟩, _⟩ := h.2.2.1 j hj
  have s1 := (hs.set h.1.1 h.1.2.1 (j * 3) (.int .i64 K)).set h.1.1 h.1.2.1 (j * 3 + 1) (.int .i64 (K + 1))
  exact s1.trans (Span.ofOthers ho j1 j2)




end Go.Proofs.Ytkfmifbffgbiiaa
