/-
  Texts of this claim laid together: DlE.
-/
import Derived.Test.YtbijgoaanphojaaM2
/-
  The laws' own toDealS: a list of deals copied, with all its lists of articles, into blocks of their own.
-/
namespace Go.Proofs.Ytbijgoaanphojaa
open Go.ChangeShapes Go.WideShapes Go.ChangeAt Go.RowKit Go.Deep
set_option linter.unusedVariables false

/-- A list of deals in blocks of its own, none below lo. -/
def OwnDl (lo : Nat) (w : World) (b : Nat) (cs : List CDl) : Prop := lo ≤ b ∧ b < w.heap.size ∧ (∀ j, j < cs.length * 6 → w.frozen? ⟨b, j, none⟩ = false) ∧
  ∀ i, i < cs.length → ∃ g, (g ≠ b ∧ lo ≤ g ∧ g < w.heap.size) ∧ DlAt w b (i * 6) (some ⟨g, 0, none⟩) (cs.getD i zDl).arts.length (cs.getD i zDl) ∧ StrsAt w g 0 (cs.getD i zDl).arts ∧ ∀ j, w.frozen? ⟨g, j, none⟩ = false
theorem OwnDl.below {lo : Nat} {w w' : World} {b : Nat} {cs : List CDl} (h : OwnDl lo w b cs) {D : Nat} (hb : Below D w w') (hD : w.heap.size ≤ D) : OwnDl lo w' b cs := by
  obtain ⟨h1, h2, h3, h4⟩ := h
  refine ⟨h1, Nat.lt_of_lt_of_le h2 hb.size, fun j hj => (hb.frozen (p := ⟨b, j, none⟩) (Nat.lt_of_lt_of_le h2 hD)).trans (h3 j hj), fun i hi => ?_⟩
  obtain ⟨g, ⟨k1, k2, k3⟩, k4, k5, k6⟩ := h4 i hi
  exact ⟨g, ⟨k1, k2, Nat.lt_of_lt_of_le k3 hb.size⟩, k4.below hb (Nat.lt_of_lt_of_le h2 hD), k5.below hb (Nat.lt_of_lt_of_le k3 hD), fun j => (hb.frozen (p := ⟨g, j, none⟩) (Nat.lt_of_lt_of_le k3 hD)).trans (k6 j)⟩
theorem OwnDl.reads {lo : Nat} {w : World} {b : Nat} {cs : List CDl} (h : OwnDl lo w b cs) : ReadsDl w.heap.size w (some ⟨b, 0, none⟩) cs := by
  obtain ⟨h1, h2, h3, h4⟩ := h
  refine .inr ⟨b, 0, rfl, h2, fun i hi => ?_⟩
  obtain ⟨g, ⟨k1, k2, k3⟩, k4, k5, k6⟩ := h4 i hi
  rw [Nat.zero_add]
  exact ⟨_, _, k4, Nat.le_refl _, .inr ⟨g, 0, rfl, k3, k5⟩⟩

theorem cellOld (w : World) (o : Obj) {b j : Nat} (h : b < w.heap.size) : (w.alloc o).cell? ⟨b, j, none⟩ = w.cell? ⟨b, j, none⟩ := (below_alloc w o).cell (p := ⟨b, j, none⟩) h
theorem cellNew (w : World) (vs : Array Value) (t : TypeId) {b j : Nat} (v : Value) (hb : b = w.heap.size) (hj : vs[j]? = some v) : (w.alloc (.cells vs t)).cell? ⟨b, j, none⟩ = some v := by
  subst hb; unfold World.cell?; rw [heapNew]; simpa using hj
theorem frozenNew (w : World) (vs : Array Value) (t : TypeId) {b j : Nat} (hb : b = w.heap.size) : (w.alloc (.cells vs t)).frozen? ⟨b, j, none⟩ = false := by
  subst hb; unfold World.frozen?; rw [heapNew]; simp

theorem StrsAt.set {w : World} {g off : Nat} {ss : List ByteArray} (h : StrsAt w g off ss) {c : Nat} (hne : c ≠ g) (o : Nat) (v : Value) : StrsAt (w.setCell ⟨c, o, none⟩ v) g off ss := fun i hi => by
  rw [World.cell?_setCell_far _ _ _ _ hne]; exact h i hi
theorem frozen_set {w : World} {g : Nat} (h : ∀ j, w.frozen? ⟨g, j, none⟩ = false) (p : Addr) (v : Value) : ∀ j, (w.setCell p v).frozen? ⟨g, j, none⟩ = false := fun j => by rw [World.frozen?_setCell]; exact h j


set_option maxHeartbeats 1000000 in
theorem toDl_any (c : CDl) (h : Option Addr) (cp : Nat) (hn : c.arts.length ≤ 1048576) (w : World) (hr : ReadsS w.heap.size w h c.arts) :
    Calls Try.prog 44 #[.agg #[.string c.nm, .int .i64 c.kd, .slice h c.arts.length cp, .int .i64 c.nd, .int .i64 c.vl, .bool c.on]] w fun e w' => ∃ g, e = .returned (.agg #[.string c.nm, .int .i64 c.kd, .slice (some ⟨g, 0, none⟩) c.arts.length c.arts.length, .int .i64 c.nd, .int .i64 c.vl, .bool c.on]) ∧ (w.heap.size ≤ g ∧ g < w'.heap.size) ∧ StrsAt w' g 0 c.arts ∧ (∀ j, w'.frozen? ⟨g, j, none⟩ = false) ∧ Below w.heap.size w w' := by
  have HR : Hid (ReadsS w.heap.size w h c.arts) := hr
  have HT : Hid (∀ w, ReadsS w.heap.size w h c.arts → Calls Try.prog 81 #[.slice h c.arts.length cp] w fun e w' => ∃ g, e = .returned (.slice (some ⟨g, 0, none⟩) c.arts.length c.arts.length) ∧ Below w.heap.size w w' ∧ (w.heap.size ≤ g ∧ g < w'.heap.size) ∧ StrsAt w' g 0 c.arts ∧ ∀ j, w'.frozen? ⟨g, j, none⟩ = false) := fun w r => (toStrs_any h cp c.arts hn w r).mono fun e w' ⟨h1, h2, h3, h4, h5⟩ => ⟨_, h1, h2, ⟨Nat.le_refl _, h3⟩, h4, h5⟩
  clear hr
  obtain ⟨nm, kd, arts, nd, vl, on⟩ := c
  dsimp only at *
  have l1 : ∀ n : Nat, n < n + 1 + 1 := fun n => by omega
  have l2 : ∀ n : Nat, n < n + 2 := fun n => by omega
  have l3 : ∀ n : Nat, n + 1 < n + 2 := fun n => by omega
  have HP : Hid (∀ W, StrsAt W (w.heap.size + 2) 0 arts → StrsAt W (w.heap.size + 2) 0 arts) := fun W h => h
  generalize hN : arts.length = n at HT ⊢
  go_enter Try.func44, Try.ntmps44
  go_wp2_with fail
  (first | go_at_call 81 | skip)
  refine (HT.out _ (HR.out.later (by repeat (first | exact Below.refl _ _ | refine chain ?_ (below_alloc _ _) | refine Below.setCell ?_ (by dsimp only; omega) _)))).mono ?_
  rintro e w2 ⟨g, rfl, hb2, ⟨hg2, hz2⟩, hs2, hf2⟩
  have q3 : w2.cell? ⟨w.heap.size, 3, none⟩ = some (.int .i64 nd) := (hb2.cell (p := ⟨w.heap.size, 3, none⟩) (by simp; omega)).trans ((cellOld _ _ (by simp only [World.size_alloc]; omega)).trans ((cellOld _ _ (by simp only [World.size_alloc]; omega)).trans (cellNew _ _ _ _ rfl rfl)))
  have q4 : w2.cell? ⟨w.heap.size, 4, none⟩ = some (.int .i64 vl) := (hb2.cell (p := ⟨w.heap.size, 4, none⟩) (by simp; omega)).trans ((cellOld _ _ (by simp only [World.size_alloc]; omega)).trans ((cellOld _ _ (by simp only [World.size_alloc]; omega)).trans (cellNew _ _ _ _ rfl rfl)))
  have q5 : w2.cell? ⟨w.heap.size, 5, none⟩ = some (.bool on) := (hb2.cell (p := ⟨w.heap.size, 5, none⟩) (by simp; omega)).trans ((cellOld _ _ (by simp only [World.size_alloc]; omega)).trans ((cellOld _ _ (by simp only [World.size_alloc]; omega)).trans (cellNew _ _ _ _ rfl rfl)))
  have r0 : w2.cell? ⟨w.heap.size + 1 + 1, 0, none⟩ = some (.string nm) := (hb2.cell (p := ⟨w.heap.size + 1 + 1, 0, none⟩) (by simp)).trans (cellNew _ _ _ _ (by simp) rfl)
  have r1 : w2.cell? ⟨w.heap.size + 1 + 1, 1, none⟩ = some (.int .i64 kd) := (hb2.cell (p := ⟨w.heap.size + 1 + 1, 1, none⟩) (by simp)).trans (cellNew _ _ _ _ (by simp) rfl)
  have r2 : w2.cell? ⟨w.heap.size + 1 + 1, 2, none⟩ = some (.slice none 0 0) := (hb2.cell (p := ⟨w.heap.size + 1 + 1, 2, none⟩) (by simp)).trans (cellNew _ _ _ _ (by simp) rfl)
  have r3 : w2.cell? ⟨w.heap.size + 1 + 1, 3, none⟩ = some (.int .i64 0) := (hb2.cell (p := ⟨w.heap.size + 1 + 1, 3, none⟩) (by simp)).trans (cellNew _ _ _ _ (by simp) rfl)
  have r4 : w2.cell? ⟨w.heap.size + 1 + 1, 4, none⟩ = some (.int .i64 0) := (hb2.cell (p := ⟨w.heap.size + 1 + 1, 4, none⟩) (by simp)).trans (cellNew _ _ _ _ (by simp) rfl)
  have r5 : w2.cell? ⟨w.heap.size + 1 + 1, 5, none⟩ = some (.bool false) := (hb2.cell (p := ⟨w.heap.size + 1 + 1, 5, none⟩) (by simp)).trans (cellNew _ _ _ _ (by simp) rfl)
  have t0 : w2.cell? ⟨w.heap.size + 1, 0, none⟩ = some (.string ⟨#[]⟩) := (hb2.cell (p := ⟨w.heap.size + 1, 0, none⟩) (by simp)).trans ((cellOld _ _ (by simp only [World.size_alloc]; omega)).trans (cellNew _ _ _ _ (by simp) rfl))
  have t1 : w2.cell? ⟨w.heap.size + 1, 1, none⟩ = some (.int .i64 0) := (hb2.cell (p := ⟨w.heap.size + 1, 1, none⟩) (by simp)).trans ((cellOld _ _ (by simp only [World.size_alloc]; omega)).trans (cellNew _ _ _ _ (by simp) rfl))
  have t2 : w2.cell? ⟨w.heap.size + 1, 2, none⟩ = some (.slice none 0 0) := (hb2.cell (p := ⟨w.heap.size + 1, 2, none⟩) (by simp)).trans ((cellOld _ _ (by simp only [World.size_alloc]; omega)).trans (cellNew _ _ _ _ (by simp) rfl))
  have t3 : w2.cell? ⟨w.heap.size + 1, 3, none⟩ = some (.int .i64 0) := (hb2.cell (p := ⟨w.heap.size + 1, 3, none⟩) (by simp)).trans ((cellOld _ _ (by simp only [World.size_alloc]; omega)).trans (cellNew _ _ _ _ (by simp) rfl))
  have t4 : w2.cell? ⟨w.heap.size + 1, 4, none⟩ = some (.int .i64 0) := (hb2.cell (p := ⟨w.heap.size + 1, 4, none⟩) (by simp)).trans ((cellOld _ _ (by simp only [World.size_alloc]; omega)).trans (cellNew _ _ _ _ (by simp) rfl))
  have t5 : w2.cell? ⟨w.heap.size + 1, 5, none⟩ = some (.bool false) := (hb2.cell (p := ⟨w.heap.size + 1, 5, none⟩) (by simp)).trans ((cellOld _ _ (by simp only [World.size_alloc]; omega)).trans (cellNew _ _ _ _ (by simp) rfl))
  have rt : ∀ j, w2.frozen? ⟨w.heap.size + 1, j, none⟩ = false := fun j => (hb2.frozen (p := ⟨w.heap.size + 1, j, none⟩) (by simp)).trans (((below_alloc _ _).frozen (p := ⟨w.heap.size + 1, j, none⟩) (by simp)).trans (frozenNew _ _ _ (by simp)))
  have rf : ∀ j, w2.frozen? ⟨w.heap.size + 1 + 1, j, none⟩ = false := fun j => (hb2.frozen (p := ⟨w.heap.size + 1 + 1, j, none⟩) (by simp)).trans (frozenNew _ _ _ (by simp))
  have HB2 : Hid (Below w.heap.size w w2) := (by repeat (first | exact Below.refl _ _ | refine chain ?_ (below_alloc _ _)) : Below w.heap.size w _).trans (hb2.mono (by simp; omega))
  have HS2 : Hid (StrsAt w2 g 0 arts) := hs2
  have HF2 : Hid (∀ j, w2.frozen? ⟨g, j, none⟩ = false) := hf2
  have hz3 : w.heap.size + 1 + 1 + 1 ≤ g := by simpa using hg2
  have g0 := rt 0
  have g1 := rt 1
  have g2 := rt 2
  have g3 := rt 3
  have g4 := rt 4
  have g5 := rt 5
  have f2 := rf 2
  have f3 := rf 3
  have f4 := rf 4
  have f5 := rf 5
  have hso : w.heap.size ≠ w.heap.size + 1 + 1 := by omega
  have hgo : g ≠ w.heap.size + 1 + 1 := by omega
  have hgs : w.heap.size ≤ g := by omega
  have hos : w.heap.size ≤ w.heap.size + 1 + 1 := by omega
  clear hb2 hs2 hf2 hg2 HP rf rt l1 l2 l3 HR HT hn
  clear hso hgo hos hgs
  go_wp2
  refine bodyPost_ret (v := .agg #[.string nm, .int .i64 kd, .slice (some ⟨g, 0, none⟩) n n, .int .i64 nd, .int .i64 vl, .bool on]) (by simp [results, Try.results44, go_sem, t0, t1, t2, t3, t4, t5]) rfl ⟨g, rfl, ⟨by omega, by simp only [World.size_setCell]; exact hz2⟩, ?_, ?_, ?_⟩
  · repeat refine StrsAt.set ?_ (by omega) _ _
    exact HS2.out
  · repeat refine frozen_set ?_ _ _
    exact HF2.out
  · repeat refine Below.setCell ?_ (by dsimp only; omega) _
    exact HB2.out

def dlCell (c : CDl) (h : Option Addr) (n j : Nat) : Value := if j = 0 then .string c.nm else if j = 1 then .int .i64 c.kd else if j = 2 then .slice h n n else if j = 3 then .int .i64 c.nd else if j = 4 then .int .i64 c.vl else .bool c.on
theorem dlInfo : (Try.prog.info? 39).map (fun i => (i.zero, i.size, i.bytes)) = some (some (.agg #[.string ⟨#[]⟩, .int .i64 0, .slice none 0 0, .int .i64 0, .int .i64 0, .bool false]), 6, 72) := by kernel_rfl
theorem makeDls (n : Nat) (hn : n ≤ 100000000) (w : World) :
    (Instr.makeSlice 24 (.int .i64 (n : Int)) (.int .i64 (n : Int))).run Try.prog w = .ok (.slice (some ⟨w.heap.size, 0, none⟩) n n) (w.alloc (.cells (madeCells #[.string ⟨#[]⟩, .int .i64 0, .slice none 0 0, .int .i64 0, .int .i64 0, .bool false] (n * 6)) 39)) := by
  obtain ⟨i, hi, hzz⟩ := Option.map_eq_some_iff.1 dlInfo
  simp only [Prod.mk.injEq] at hzz
  obtain ⟨hz, hs, hb⟩ := hzz
  have hr := run_make (P := Try.prog) w 24 39 i _ Try.underlying24 hi hz .i64 .i64 (n : Int) (n : Int) (by omega) (Int.le_refl _) (by rw [hb]; omega) (by omega)
  simp only [Int.toNat_natCast, hs] at hr
  exact hr
theorem dls_made (w : World) (n : Nat) : (w.alloc (.cells (madeCells #[.string ⟨#[]⟩, .int .i64 0, .slice none 0 0, .int .i64 0, .int .i64 0, .bool false] (n * 6)) 39)).rowIs w.heap.size 39 (n * 6) (fun j => dlCell zDl none 0 (j % 6)) := by
  refine ⟨_, heapNew _ _, size_madeCells _ _, fun i hi => ?_⟩
  have h6 : i % 6 = 0 ∨ i % 6 = 1 ∨ i % 6 = 2 ∨ i % 6 = 3 ∨ i % 6 = 4 ∨ i % 6 = 5 := by omega
  unfold dlCell zDl
  rcases h6 with h | h | h | h | h | h <;> simp [madeCells, hi, h] <;> rfl
/-- The cells of the row when the first k are there, G telling the blocks of their lists. -/
def dlFill (cs : List CDl) (G : Nat → Nat) (k j : Nat) : Value := if j / 6 < k then dlCell (cs.getD (j / 6) zDl) (some ⟨G (j / 6), 0, none⟩) (cs.getD (j / 6) zDl).arts.length (j % 6) else dlCell zDl none 0 (j % 6)
theorem dlFill_set {w : World} {b : Nat} {cs : List CDl} {G : Nat → Nat} {n k g : Nat} (h : w.rowIs b 39 (n * 6) (dlFill cs G k)) :
    ((((((w.setCell ⟨b, k * 6, none⟩ (.string (cs.getD k zDl).nm)).setCell ⟨b, k * 6 + 1, none⟩ (.int .i64 (cs.getD k zDl).kd)).setCell ⟨b, k * 6 + 2, none⟩ (.slice (some ⟨g, 0, none⟩) (cs.getD k zDl).arts.length (cs.getD k zDl).arts.length)).setCell ⟨b, k * 6 + 3, none⟩ (.int .i64 (cs.getD k zDl).nd)).setCell ⟨b, k * 6 + 4, none⟩ (.int .i64 (cs.getD k zDl).vl)).setCell ⟨b, k * 6 + 5, none⟩ (.bool (cs.getD k zDl).on)).rowIs b 39 (n * 6) (dlFill cs (fun i => if i = k then g else G i) (k + 1)) := by
  refine ((((((h.set (k * 6) _).set (k * 6 + 1) _).set (k * 6 + 2) _).set (k * 6 + 3) _).set (k * 6 + 4) _).set (k * 6 + 5) _).congr fun j hj => ?_
  unfold dlFill
  by_cases e5 : j = k * 6 + 5
  · rw [if_pos e5, if_pos (by omega), show j / 6 = k by omega, show j % 6 = 5 by omega]; rfl
  rw [if_neg e5]
  by_cases e4 : j = k * 6 + 4
  · rw [if_pos e4, if_pos (by omega), show j / 6 = k by omega, show j % 6 = 4 by omega]; rfl
  rw [if_neg e4]
  by_cases e3 : j = k * 6 + 3
  · rw [if_pos e3, if_pos (by omega), show j / 6 = k by omega, show j % 6 = 3 by omega]; rfl
  rw [if_neg e3]
  by_cases e2 : j = k * 6 + 2
  · rw [if_pos e2, if_pos (by omega), show j / 6 = k by omega, show j % 6 = 2 by omega]; simp [dlCell]
  rw [if_neg e2]
  by_cases e1 : j = k * 6 + 1
  · rw [if_pos e1, if_pos (by omega), show j / 6 = k by omega, show j % 6 = 1 by omega]; rfl
  rw [if_neg e1]
  by_cases e0 : j = k * 6
  · rw [if_pos e0, if_pos (by omega), show j / 6 = k by omega, show j % 6 = 0 by omega]; rfl
  rw [if_neg e0]
  by_cases h : j / 6 < k
  · rw [if_pos h, if_pos (by omega)]; dsimp only; rw [if_neg (by omega)]
  · rw [if_neg h, if_neg (by omega)]
/-- The first k lists of articles lie in blocks of their own, none the row's. -/
def DlIn (cs : List CDl) (G : Nat → Nat) (k b : Nat) (w : World) : Prop := ∀ i, i < k → (b < G i ∧ G i < w.heap.size) ∧ StrsAt w (G i) 0 (cs.getD i zDl).arts ∧ ∀ j, w.frozen? ⟨G i, j, none⟩ = false
theorem DlIn.below {cs : List CDl} {G : Nat → Nat} {k b : Nat} {w w' : World} (h : DlIn cs G k b w) (hb : Below w.heap.size w w') : DlIn cs G k b w' := fun i hi => by
  obtain ⟨⟨h1, h2⟩, h3, h4⟩ := h i hi
  exact ⟨⟨h1, Nat.lt_of_lt_of_le h2 hb.size⟩, h3.below hb h2, fun j => (hb.frozen (p := ⟨G i, j, none⟩) h2).trans (h4 j)⟩
theorem DlIn.set {cs : List CDl} {G : Nat → Nat} {k b : Nat} {w : World} (h : DlIn cs G k b w) (o : Nat) (v : Value) : DlIn cs G k b (w.setCell ⟨b, o, none⟩ v) := fun i hi => by
  obtain ⟨⟨h1, h2⟩, h3, h4⟩ := h i hi
  exact ⟨⟨h1, by rw [World.size_setCell]; exact h2⟩, h3.set (by omega) _ _, frozen_set h4 _ _⟩
theorem DlIn.next {cs : List CDl} {G : Nat → Nat} {k b g : Nat} {w : World} (h : DlIn cs G k b w) (h1 : b < g ∧ g < w.heap.size) (h2 : StrsAt w g 0 (cs.getD k zDl).arts) (h3 : ∀ j, w.frozen? ⟨g, j, none⟩ = false) : DlIn cs (fun i => if i = k then g else G i) (k + 1) b w := fun i hi => by
  by_cases e : i = k
  · subst e; simp only [if_true]; exact ⟨h1, h2, h3⟩
  · simp only [if_neg e]; exact h i (by omega)
theorem ownDl_of {cs : List CDl} {G : Nat → Nat} {b lo : Nat} {w : World} (hlo : lo ≤ b) (hr : w.rowIs b 39 (cs.length * 6) (dlFill cs G cs.length)) (h : DlIn cs G cs.length b w) : OwnDl lo w b cs := by
  refine ⟨hlo, hr.lt, fun j hj => hr.frozen j, fun i hi => ?_⟩
  obtain ⟨⟨h1, h2⟩, h3, h4⟩ := h i hi
  refine ⟨G i, ⟨by omega, by omega, h2⟩, ⟨?_, ?_, ?_, ?_, ?_, ?_⟩, h3, h4⟩
  · rw [hr.cell (i := i * 6) (by omega)]; unfold dlFill; rw [if_pos (by omega), show (i * 6) / 6 = i by omega, show (i * 6) % 6 = 0 by omega]; rfl
  · rw [hr.cell (i := i * 6 + 1) (by omega)]; unfold dlFill; rw [if_pos (by omega), show (i * 6 + 1) / 6 = i by omega, show (i * 6 + 1) % 6 = 1 by omega]; rfl
  · rw [hr.cell (i := i * 6 + 2) (by omega)]; unfold dlFill; rw [if_pos (by omega), show (i * 6 + 2) / 6 = i by omega, show (i * 6 + 2) % 6 = 2 by omega]; rfl
  · rw [hr.cell (i := i * 6 + 3) (by omega)]; unfold dlFill; rw [if_pos (by omega), show (i * 6 + 3) / 6 = i by omega, show (i * 6 + 3) % 6 = 3 by omega]; rfl
  · rw [hr.cell (i := i * 6 + 4) (by omega)]; unfold dlFill; rw [if_pos (by omega), show (i * 6 + 4) / 6 = i by omega, show (i * 6 + 4) % 6 = 4 by omega]; rfl
  · rw [hr.cell (i := i * 6 + 5) (by omega)]; unfold dlFill; rw [if_pos (by omega), show (i * 6 + 5) / 6 = i by omega, show (i * 6 + 5) % 6 = 5 by omega]; rfl

set_option maxHeartbeats 2000000 in
theorem toDls_any (a : Option Addr) (cap : Nat) (cs : List CDl) (hn : cs.length ≤ 1048576) (hp : ∀ r ∈ cs, DlOK r) (w : World) (hr : ReadsDl w.heap.size w a cs) :
    Calls Try.prog 13 #[.slice a cs.length cap] w fun e w' => e = .returned (.slice (some ⟨w.heap.size, 0, none⟩) cs.length cs.length) ∧ Below w.heap.size w w' ∧ OwnDl w.heap.size w' w.heap.size cs := by
  have hmk := fun w => makeDls cs.length (by omega) w
  have HM : Hid ((w.alloc (.cells (madeCells #[.string ⟨#[]⟩, .int .i64 0, .slice none 0 0, .int .i64 0, .int .i64 0, .bool false] (cs.length * 6)) 39)).rowIs w.heap.size 39 (cs.length * 6) (fun j => dlCell zDl none 0 (j % 6))) := dls_made w cs.length
  have HR : Hid (ReadsDl w.heap.size w a cs) := hr
  have HP : Hid (∀ r ∈ cs, DlOK r) := hp
  clear hr hp
  go_enter Try.func13, Try.ntmps13
  go_wp2
  go_loopw [4] (fun i wr => ∃ (k : Nat) (G : Nat → Nat), k ≤ cs.length ∧ i = .int .i64 (k : Int) ∧ Below w.heap.size w wr ∧ wr.rowIs w.heap.size 39 (cs.length * 6) (dlFill cs G k) ∧ DlIn cs G k w.heap.size wr) (fun i _ => cs.length - (intOf i).toNat)
  case atStart => exact ⟨0, fun _ => 0, Nat.zero_le _, rfl, below_alloc _ _, HM.out.congr (fun i hi => by unfold dlFill; rw [if_neg (by omega)]), fun i hi => by omega⟩
  case round =>
    obtain ⟨k, G, hk, rfl, hb, hrow, hin⟩ := hrel
    have HB : Hid (Below w.heap.size w wr) := hb
    have HW : Hid (wr.rowIs w.heap.size 39 (cs.length * 6) (dlFill cs G k)) := hrow
    have HI : Hid (DlIn cs G k w.heap.size wr) := hin
    clear hb hrow hin
    by_cases hlt : k < cs.length
    · have hlt' : (k : Int) < (cs.length : Int) := by omega
      rcases HR.out with h | ⟨b0, o0, ha, hB0, ia⟩
      · rw [h] at hlt; simp at hlt
      obtain ⟨h, cp, ⟨c0, c1, c2, c3, c4, c5⟩, _, hS⟩ := (ia.below HB.out hB0 (Nat.le_refl _)) k hlt
      have hT := toDl_any (cs.getD k zDl) h cp (getDl HP.out hlt).2.1 wr (hS.mono HB.out.size)
      have HN : Hid (∀ g w2, Below wr.heap.size wr w2 → (wr.heap.size ≤ g ∧ g < w2.heap.size) → StrsAt w2 g 0 (cs.getD k zDl).arts → (∀ j, w2.frozen? ⟨g, j, none⟩ = false) → (∃ G', ((((((w2.setCell ⟨w.heap.size, k * 6, none⟩ (.string (cs.getD k zDl).nm)).setCell ⟨w.heap.size, k * 6 + 1, none⟩ (.int .i64 (cs.getD k zDl).kd)).setCell ⟨w.heap.size, k * 6 + 2, none⟩ (.slice (some ⟨g, 0, none⟩) (cs.getD k zDl).arts.length (cs.getD k zDl).arts.length)).setCell ⟨w.heap.size, k * 6 + 3, none⟩ (.int .i64 (cs.getD k zDl).nd)).setCell ⟨w.heap.size, k * 6 + 4, none⟩ (.int .i64 (cs.getD k zDl).vl)).setCell ⟨w.heap.size, k * 6 + 5, none⟩ (.bool (cs.getD k zDl).on)).rowIs w.heap.size 39 (cs.length * 6) (dlFill cs G' (k + 1)) ∧
          DlIn cs G' (k + 1) w.heap.size ((((((w2.setCell ⟨w.heap.size, k * 6, none⟩ (.string (cs.getD k zDl).nm)).setCell ⟨w.heap.size, k * 6 + 1, none⟩ (.int .i64 (cs.getD k zDl).kd)).setCell ⟨w.heap.size, k * 6 + 2, none⟩ (.slice (some ⟨g, 0, none⟩) (cs.getD k zDl).arts.length (cs.getD k zDl).arts.length)).setCell ⟨w.heap.size, k * 6 + 3, none⟩ (.int .i64 (cs.getD k zDl).nd)).setCell ⟨w.heap.size, k * 6 + 4, none⟩ (.int .i64 (cs.getD k zDl).vl)).setCell ⟨w.heap.size, k * 6 + 5, none⟩ (.bool (cs.getD k zDl).on))) ∧
          Below w.heap.size w ((((((w2.setCell ⟨w.heap.size, k * 6, none⟩ (.string (cs.getD k zDl).nm)).setCell ⟨w.heap.size, k * 6 + 1, none⟩ (.int .i64 (cs.getD k zDl).kd)).setCell ⟨w.heap.size, k * 6 + 2, none⟩ (.slice (some ⟨g, 0, none⟩) (cs.getD k zDl).arts.length (cs.getD k zDl).arts.length)).setCell ⟨w.heap.size, k * 6 + 3, none⟩ (.int .i64 (cs.getD k zDl).nd)).setCell ⟨w.heap.size, k * 6 + 4, none⟩ (.int .i64 (cs.getD k zDl).vl)).setCell ⟨w.heap.size, k * 6 + 5, none⟩ (.bool (cs.getD k zDl).on)) ∧ (∀ j, j < 6 → (w2.cell? ⟨w.heap.size, k * 6 + j, none⟩).isSome = true) ∧ (∀ j, w2.frozen? ⟨w.heap.size, j, none⟩ = false)) := fun g w2 hb2 hg hs hf => by
        have hw2 := HW.out.of_block (hb2.block _ HW.out.lt)
        have hbg : w.heap.size < g := Nat.lt_of_lt_of_le HW.out.lt hg.1
        have hin := (HI.out.below hb2).next ⟨hbg, hg.2⟩ hs hf
        refine ⟨⟨_, dlFill_set hw2, (((((hin.set _ _).set _ _).set _ _).set _ _).set _ _).set _ _⟩, ((((((HB.out.trans (hb2.mono HB.out.size)).setCell (Nat.le_refl _) _).setCell (Nat.le_refl _) _).setCell (Nat.le_refl _) _).setCell (Nat.le_refl _) _).setCell (Nat.le_refl _) _).setCell (Nat.le_refl _) _, fun j hj => ?_, fun j => hw2.frozen j⟩
        rw [hw2.cell (by omega)]; rfl
      rw [ha]
      clear ia hS
      generalize cs.getD k zDl = r at *
      obtain ⟨nm, kd, arts, nd, vl, on⟩ := r
      dsimp only at c0 c1 c2 c3 c4 c5 HN hT
      generalize arts.length = n at *
      go_wp2_with (go_at_call 44; refine hT.mono ?_; rintro e w2 ⟨g, rfl, hg2, hs2, hf2, hb2⟩; obtain ⟨n1, n2, n3, n4⟩ := HN.out g w2 hb2 hg2 hs2 hf2; have N1 : Hid (_) := n1; have N2 : Hid (_) := n2; obtain ⟨v0, hv0⟩ := Option.isSome_iff_exists.mp (n3 0 (by omega)); obtain ⟨v1, hv1⟩ := Option.isSome_iff_exists.mp (n3 1 (by omega)); obtain ⟨v2, hv2⟩ := Option.isSome_iff_exists.mp (n3 2 (by omega)); obtain ⟨v3, hv3⟩ := Option.isSome_iff_exists.mp (n3 3 (by omega)); obtain ⟨v4, hv4⟩ := Option.isSome_iff_exists.mp (n3 4 (by omega)); obtain ⟨v5, hv5⟩ := Option.isSome_iff_exists.mp (n3 5 (by omega)); rw [Nat.add_zero] at hv0; clear n1 n2 n3 hs2 hf2 hb2 hg2)
      obtain ⟨G', m1, m2⟩ := N1.out
      have M1 : Hid _ := m1
      have M2 : Hid _ := m2
      clear m1 m2
      go_roundw
      case rel => exact ⟨k + 1, G', by omega, by go_num, N2.out, M1.out, M2.out⟩
      case measure => simp [intOf]; omega
    · obtain rfl : k = cs.length := by omega
      go_wp2
      go_ret
      exact ⟨rfl, HB.out, ownDl_of (Nat.le_refl _) HW.out HI.out⟩

end Go.Proofs.Ytbijgoaanphojaa
