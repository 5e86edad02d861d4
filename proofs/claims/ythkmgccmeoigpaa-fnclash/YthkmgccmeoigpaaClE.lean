/-
  The laws' own toClauseS: a list of Clause copied, with all its lists of Term, into blocks of their own.
-/
import Derived.Test.YthkmgccmeoigpaaClA
namespace Go.Proofs.Ythkmgccmeoigpaa
open Go.ChangeShapes Go.WideShapes Go.ChangeAt Go.RowKit Go.Deep
set_option linter.unusedVariables false

/-- A list in blocks of its own, none below lo. -/
def OwnCl (lo : Nat) (w : World) (b : Nat) (cs : List CCl) : Prop := lo ≤ b ∧ b < w.heap.size ∧ (∀ j, j < cs.length * 4 → w.frozen? ⟨b, j, none⟩ = false) ∧
  ∀ i, i < cs.length → ∃ g, (g ≠ b ∧ lo ≤ g ∧ g < w.heap.size) ∧ ClAt w b (i * 4) (some ⟨g, 0, none⟩) (cs.getD i zCl).ts.length (cs.getD i zCl) ∧ TmsAt w g 0 (cs.getD i zCl).ts ∧ FreeTm w g (cs.getD i zCl).ts.length
theorem OwnCl.below {lo : Nat} {w w' : World} {b : Nat} {cs : List CCl} (h : OwnCl lo w b cs) {D : Nat} (hb : Below D w w') (hD : w.heap.size ≤ D) : OwnCl lo w' b cs := by
  obtain ⟨h1, h2, h3, h4⟩ := h
  refine ⟨h1, Nat.lt_of_lt_of_le h2 hb.size, fun j hj => (hb.frozen (p := ⟨b, j, none⟩) (Nat.lt_of_lt_of_le h2 hD)).trans (h3 j hj), fun i hi => ?_⟩
  obtain ⟨g, ⟨k1, k2, k3⟩, k4, k5, k6⟩ := h4 i hi
  exact ⟨g, ⟨k1, k2, Nat.lt_of_lt_of_le k3 hb.size⟩, k4.below hb (Nat.lt_of_lt_of_le h2 hD), k5.below hb (Nat.lt_of_lt_of_le k3 hD), k6.below hb (Nat.lt_of_lt_of_le k3 hD)⟩
theorem OwnCl.reads {lo : Nat} {w : World} {b : Nat} {cs : List CCl} (h : OwnCl lo w b cs) : ReadsCl w.heap.size w (some ⟨b, 0, none⟩) cs := by
  obtain ⟨h1, h2, h3, h4⟩ := h
  refine .inr ⟨b, 0, rfl, h2, fun i hi => ?_⟩
  obtain ⟨g, ⟨k1, k2, k3⟩, k4, k5, k6⟩ := h4 i hi
  rw [Nat.zero_add]
  exact ⟨_, _, k4, Nat.le_refl _, .inr ⟨g, 0, rfl, k3, k5⟩⟩

theorem cellOld (w : World) (o : Obj) {b j : Nat} (h : b < w.heap.size) : (w.alloc o).cell? ⟨b, j, none⟩ = w.cell? ⟨b, j, none⟩ := (below_alloc w o).cell (p := ⟨b, j, none⟩) h
theorem cellNew (w : World) (vs : Array Value) (t : TypeId) {b j : Nat} (v : Value) (hb : b = w.heap.size) (hj : vs[j]? = some v) : (w.alloc (.cells vs t)).cell? ⟨b, j, none⟩ = some v := by
  subst hb; unfold World.cell?; rw [heapNew]; simpa using hj
theorem frozenNew (w : World) (vs : Array Value) (t : TypeId) {b j : Nat} (hb : b = w.heap.size) : (w.alloc (.cells vs t)).frozen? ⟨b, j, none⟩ = false := by
  subst hb; unfold World.frozen?; rw [heapNew]; simp

theorem TmsAt.set {w : World} {g off : Nat} {ss : List RTm} (h : TmsAt w g off ss) {c : Nat} (hne : c ≠ g) (o : Nat) (v : Value) : TmsAt (w.setCell ⟨c, o, none⟩ v) g off ss := fun i hi => by
  have := h i hi
  have far : ∀ o', (w.setCell ⟨c, o, none⟩ v).cell? ⟨g, o', none⟩ = w.cell? ⟨g, o', none⟩ := fun o' => World.cell?_setCell_far _ _ _ _ hne
  unfold TmAt at *
  simp only [far]; exact this
theorem FreeTm.set {w : World} {g n : Nat} (h : FreeTm w g n) (p : Addr) (v : Value) : FreeTm (w.setCell p v) g n := fun j hj => by rw [World.frozen?_setCell]; exact h j hj


set_option maxHeartbeats 1000000 in
theorem toCl_any (c : CCl) (h : Option Addr) (cp : Nat) (hn : c.ts.length ≤ 1048576) (w : World) (hr : ReadsTm w.heap.size w h c.ts) :
    Calls Try.prog 19 #[.agg #[.string c.nm, .slice h c.ts.length cp, .int .i64 c.ac, .int .i64 c.nu]] w fun e w' => ∃ g, e = .returned (.agg #[.string c.nm, .slice (some ⟨g, 0, none⟩) c.ts.length c.ts.length, .int .i64 c.ac, .int .i64 c.nu]) ∧ (w.heap.size ≤ g ∧ g < w'.heap.size) ∧ TmsAt w' g 0 c.ts ∧ FreeTm w' g c.ts.length ∧ Below w.heap.size w w' := by
  have HR : Hid (ReadsTm w.heap.size w h c.ts) := hr
  have HT : Hid (∀ w, ReadsTm w.heap.size w h c.ts → Calls Try.prog 49 #[.slice h c.ts.length cp] w fun e w' => ∃ g, e = .returned (.slice (some ⟨g, 0, none⟩) c.ts.length c.ts.length) ∧ Below w.heap.size w w' ∧ (w.heap.size ≤ g ∧ g < w'.heap.size) ∧ TmsAt w' g 0 c.ts ∧ FreeTm w' g c.ts.length) := fun w r => (toTms_any h cp c.ts hn w r).mono fun e w' ⟨h1, h2, h3, h4, h5⟩ => ⟨_, h1, h2, ⟨Nat.le_refl _, h3⟩, h4, h5⟩
  clear hr
  obtain ⟨nm, ts, ac, nu⟩ := c
  dsimp only at *
  have l1 : ∀ n : Nat, n < n + 1 + 1 := fun n => by omega
  have l2 : ∀ n : Nat, n < n + 2 := fun n => by omega
  have l3 : ∀ n : Nat, n + 1 < n + 2 := fun n => by omega
  generalize hN : ts.length = n at HT ⊢
  go_enter Try.func19, Try.ntmps19
  go_wp2_with fail
  (first | go_at_call 49 | skip)
  refine (HT.out _ (HR.out.later (by repeat (first | exact Below.refl _ _ | refine chain ?_ (below_alloc _ _) | refine Below.setCell ?_ (by dsimp only; omega) _)))).mono ?_
  rintro e w2 ⟨g, rfl, hb2, ⟨hg2, hz2⟩, hs2, hf2⟩
  have q2 : w2.cell? ⟨w.heap.size, 2, none⟩ = some (.int .i64 ac) := (hb2.cell (p := ⟨w.heap.size, 2, none⟩) (by simp; omega)).trans ((cellOld _ _ (by simp only [World.size_alloc]; omega)).trans ((cellOld _ _ (by simp only [World.size_alloc]; omega)).trans (cellNew _ _ _ _ rfl rfl)))
  have q3 : w2.cell? ⟨w.heap.size, 3, none⟩ = some (.int .i64 nu) := (hb2.cell (p := ⟨w.heap.size, 3, none⟩) (by simp; omega)).trans ((cellOld _ _ (by simp only [World.size_alloc]; omega)).trans ((cellOld _ _ (by simp only [World.size_alloc]; omega)).trans (cellNew _ _ _ _ rfl rfl)))
  have r0 : w2.cell? ⟨w.heap.size + 1 + 1, 0, none⟩ = some (.string nm) := (hb2.cell (p := ⟨w.heap.size + 1 + 1, 0, none⟩) (by simp)).trans (cellNew _ _ _ _ (by simp) rfl)
  have r1 : w2.cell? ⟨w.heap.size + 1 + 1, 1, none⟩ = some (.slice none 0 0) := (hb2.cell (p := ⟨w.heap.size + 1 + 1, 1, none⟩) (by simp)).trans (cellNew _ _ _ _ (by simp) rfl)
  have r2 : w2.cell? ⟨w.heap.size + 1 + 1, 2, none⟩ = some (.int .i64 0) := (hb2.cell (p := ⟨w.heap.size + 1 + 1, 2, none⟩) (by simp)).trans (cellNew _ _ _ _ (by simp) rfl)
  have r3 : w2.cell? ⟨w.heap.size + 1 + 1, 3, none⟩ = some (.int .i64 0) := (hb2.cell (p := ⟨w.heap.size + 1 + 1, 3, none⟩) (by simp)).trans (cellNew _ _ _ _ (by simp) rfl)
  have t0 : w2.cell? ⟨w.heap.size + 1, 0, none⟩ = some (.string ⟨#[]⟩) := (hb2.cell (p := ⟨w.heap.size + 1, 0, none⟩) (by simp)).trans ((cellOld _ _ (by simp only [World.size_alloc]; omega)).trans (cellNew _ _ _ _ (by simp) rfl))
  have t1 : w2.cell? ⟨w.heap.size + 1, 1, none⟩ = some (.slice none 0 0) := (hb2.cell (p := ⟨w.heap.size + 1, 1, none⟩) (by simp)).trans ((cellOld _ _ (by simp only [World.size_alloc]; omega)).trans (cellNew _ _ _ _ (by simp) rfl))
  have t2 : w2.cell? ⟨w.heap.size + 1, 2, none⟩ = some (.int .i64 0) := (hb2.cell (p := ⟨w.heap.size + 1, 2, none⟩) (by simp)).trans ((cellOld _ _ (by simp only [World.size_alloc]; omega)).trans (cellNew _ _ _ _ (by simp) rfl))
  have t3 : w2.cell? ⟨w.heap.size + 1, 3, none⟩ = some (.int .i64 0) := (hb2.cell (p := ⟨w.heap.size + 1, 3, none⟩) (by simp)).trans ((cellOld _ _ (by simp only [World.size_alloc]; omega)).trans (cellNew _ _ _ _ (by simp) rfl))
  have rt : ∀ j, w2.frozen? ⟨w.heap.size + 1, j, none⟩ = false := fun j => (hb2.frozen (p := ⟨w.heap.size + 1, j, none⟩) (by simp)).trans (((below_alloc _ _).frozen (p := ⟨w.heap.size + 1, j, none⟩) (by simp)).trans (frozenNew _ _ _ (by simp)))
  have rf : ∀ j, w2.frozen? ⟨w.heap.size + 1 + 1, j, none⟩ = false := fun j => (hb2.frozen (p := ⟨w.heap.size + 1 + 1, j, none⟩) (by simp)).trans (frozenNew _ _ _ (by simp))
  have HB2 : Hid (Below w.heap.size w w2) := (by repeat (first | exact Below.refl _ _ | refine chain ?_ (below_alloc _ _)) : Below w.heap.size w _).trans (hb2.mono (by simp; omega))
  have HS2 : Hid (TmsAt w2 g 0 ts) := hs2
  have HF2 : Hid (FreeTm w2 g n) := hf2
  have hz3 : w.heap.size + 1 + 1 + 1 ≤ g := by simpa using hg2
  have g0 := rt 0
  have g1 := rt 1
  have g2 := rt 2
  have g3 := rt 3
  have f1 := rf 1
  have f2 := rf 2
  have f3 := rf 3
  clear hb2 hs2 hf2 hg2 rf rt l1 l2 l3 HR HT hn
  go_wp2
  refine bodyPost_ret (v := .agg #[.string nm, .slice (some ⟨g, 0, none⟩) n n, .int .i64 ac, .int .i64 nu]) (by simp [results, Try.results19, go_sem, t0, t1, t2, t3]) rfl ⟨g, rfl, ⟨by omega, by simp only [World.size_setCell]; exact hz2⟩, ?_, ?_, ?_⟩
  · repeat refine TmsAt.set ?_ (by omega) _ _
    exact HS2.out
  · repeat refine FreeTm.set ?_ _ _
    exact HF2.out
  · repeat refine Below.setCell ?_ (by dsimp only; omega) _
    exact HB2.out


end Go.Proofs.Ythkmgccmeoigpaa
