/-
  A list of uses in blocks of its own; the laws' own toUseS.
-/
import Derived.Test.YtlnhnocegfnllaaUsA
namespace Go.Proofs.Ytlnhnocegfnllaa
open Go.ChangeShapes Go.WideShapes Go.ChangeAt Go.RowKit Go.Deep
set_option linter.unusedVariables false

/-- A list of uses in blocks of its own, none below lo, no two of them the same. -/
def OwnUs (lo : Nat) (w : World) (g : Option Addr) (cs : List CUs) : Prop := cs = [] ∨ ∃ (b : Nat) (G C : Nat → Nat), g = some ⟨b, 0, none⟩ ∧ (lo ≤ b ∧ b < w.heap.size) ∧ (∀ j, j < cs.length * 3 → w.frozen? ⟨b, j, none⟩ = false) ∧
  (∀ i, i < cs.length → (lo ≤ G i ∧ G i < w.heap.size ∧ G i ≠ b) ∧ UsAt w b (i * 3) (some ⟨G i, 0, none⟩) (C i) (cs.getD i zUs) ∧ (cs.getD i zUs).us.length ≤ C i ∧ IntsAt w (G i) 0 (cs.getD i zUs).us ∧ FreeAt w (G i) 0 (cs.getD i zUs).us.length) ∧
  ∀ i j, i < j → j < cs.length → G i ≠ G j
theorem OwnUs.below {lo : Nat} {w w' : World} {g : Option Addr} {cs : List CUs} (h : OwnUs lo w g cs) {D : Nat} (hb : Below D w w') (hD : w.heap.size ≤ D) : OwnUs lo w' g cs := by
  rcases h with h | ⟨b, G, C, hg, ⟨h1, h2⟩, h3, h4, h5⟩
  · exact .inl h
  refine .inr ⟨b, G, C, hg, ⟨h1, Nat.lt_of_lt_of_le h2 hb.size⟩, fun j hj => (hb.frozen (p := ⟨b, j, none⟩) (Nat.lt_of_lt_of_le h2 hD)).trans (h3 j hj), fun i hi => ?_, h5⟩
  obtain ⟨⟨k1, k2, k3⟩, k4, k5, k6, k7⟩ := h4 i hi
  exact ⟨⟨k1, Nat.lt_of_lt_of_le k2 hb.size, k3⟩, k4.below hb (Nat.lt_of_lt_of_le h2 hD), k5, k6.below hb (Nat.lt_of_lt_of_le k2 hD), k7.below hb (Nat.lt_of_lt_of_le k2 hD)⟩
theorem OwnUs.reads {lo : Nat} {w : World} {g : Option Addr} {cs : List CUs} (h : OwnUs lo w g cs) : ReadsUs w.heap.size w g cs := by
  rcases h with h | ⟨b, G, C, hg, ⟨h1, h2⟩, h3, h4, h5⟩
  · exact .inl h
  refine .inr ⟨b, 0, hg, h2, fun i hi => ?_⟩
  obtain ⟨⟨k1, k2, k3⟩, k4, k5, k6, k7⟩ := h4 i hi
  rw [Nat.zero_add]
  exact ⟨_, _, k4, k5, .inr ⟨G i, 0, rfl, k2, k6⟩⟩

theorem intsAt_set {w : World} {g off : Nat} {xs : List Int} (h : IntsAt w g off xs) {c : Nat} (hne : c ≠ g) (o : Nat) (v : Value) : IntsAt (w.setCell ⟨c, o, none⟩ v) g off xs := fun i hi => by
  rw [World.cell?_setCell_far _ _ _ _ hne]; exact h i hi
theorem freeAt_set {w : World} {g off n : Nat} (h : FreeAt w g off n) (p : Addr) (v : Value) : FreeAt (w.setCell p v) g off n := fun j hj => by rw [World.frozen?_setCell]; exact h j hj


set_option maxHeartbeats 1000000 in
theorem toUs_any (c : CUs) (h : Option Addr) (cp : Nat) (hn : c.us.length ≤ 1048576) (w : World) (hr : Reads w.heap.size w h c.us) :
    Calls Try.prog 31 #[.agg #[.int .i64 c.dl, .int .i64 c.sv, .slice h c.us.length cp]] w fun e w' => ∃ g, e = .returned (.agg #[.int .i64 c.dl, .int .i64 c.sv, .slice (some ⟨g, 0, none⟩) c.us.length c.us.length]) ∧ (w.heap.size ≤ g ∧ g < w'.heap.size) ∧ IntsAt w' g 0 c.us ∧ FreeAt w' g 0 c.us.length ∧ Below w.heap.size w w' := by
  have HR : Hid (Reads w.heap.size w h c.us) := hr
  have HT : Hid (∀ w, Reads w.heap.size w h c.us → Calls Try.prog 48 #[.slice h c.us.length cp] w fun e w' => ∃ g, e = .returned (.slice (some ⟨g, 0, none⟩) c.us.length c.us.length) ∧ Below w.heap.size w w' ∧ (w.heap.size ≤ g ∧ g < w'.heap.size) ∧ IntsAt w' g 0 c.us ∧ FreeAt w' g 0 c.us.length) := fun w r => (toInts_any h cp c.us (by omega) w r).mono fun e w' ⟨h1, h2, h3, h4, h5⟩ => ⟨_, h1, h2, ⟨Nat.le_refl _, h3⟩, h4, h5⟩
  clear hr
  obtain ⟨dl, sv, us⟩ := c
  dsimp only at *
  generalize hN : us.length = n at HT ⊢
  go_enter Try.func31, Try.ntmps31
  go_wp2_with fail
  (first | go_at_call 48 | skip)
  refine (HT.out _ (HR.out.later (by repeat (first | exact Below.refl _ _ | refine chain ?_ (below_alloc _ _) | refine Below.setCell ?_ (by dsimp only; omega) _)))).mono ?_
  rintro e w2 ⟨g, rfl, hb2, ⟨hg2, hz2⟩, hs2, hf2⟩
  have r0 : w2.cell? ⟨w.heap.size + 1 + 1, 0, none⟩ = some (.int .i64 dl) := (hb2.cell (p := ⟨w.heap.size + 1 + 1, 0, none⟩) (by simp)).trans (cellNew _ _ _ _ (by simp) rfl)
  have r1 : w2.cell? ⟨w.heap.size + 1 + 1, 1, none⟩ = some (.int .i64 sv) := (hb2.cell (p := ⟨w.heap.size + 1 + 1, 1, none⟩) (by simp)).trans (cellNew _ _ _ _ (by simp) rfl)
  have r2 : w2.cell? ⟨w.heap.size + 1 + 1, 2, none⟩ = some (.slice none 0 0) := (hb2.cell (p := ⟨w.heap.size + 1 + 1, 2, none⟩) (by simp)).trans (cellNew _ _ _ _ (by simp) rfl)
  have t0 : w2.cell? ⟨w.heap.size + 1, 0, none⟩ = some (.int .i64 0) := (hb2.cell (p := ⟨w.heap.size + 1, 0, none⟩) (by simp)).trans ((cellOld _ _ (by simp only [World.size_alloc]; omega)).trans (cellNew _ _ _ _ (by simp) rfl))
  have t1 : w2.cell? ⟨w.heap.size + 1, 1, none⟩ = some (.int .i64 0) := (hb2.cell (p := ⟨w.heap.size + 1, 1, none⟩) (by simp)).trans ((cellOld _ _ (by simp only [World.size_alloc]; omega)).trans (cellNew _ _ _ _ (by simp) rfl))
  have t2 : w2.cell? ⟨w.heap.size + 1, 2, none⟩ = some (.slice none 0 0) := (hb2.cell (p := ⟨w.heap.size + 1, 2, none⟩) (by simp)).trans ((cellOld _ _ (by simp only [World.size_alloc]; omega)).trans (cellNew _ _ _ _ (by simp) rfl))
  have rt : ∀ j, w2.frozen? ⟨w.heap.size + 1, j, none⟩ = false := fun j => (hb2.frozen (p := ⟨w.heap.size + 1, j, none⟩) (by simp)).trans (((below_alloc _ _).frozen (p := ⟨w.heap.size + 1, j, none⟩) (by simp)).trans (frozenNew _ _ _ (by simp)))
  have rf : ∀ j, w2.frozen? ⟨w.heap.size + 1 + 1, j, none⟩ = false := fun j => (hb2.frozen (p := ⟨w.heap.size + 1 + 1, j, none⟩) (by simp)).trans (frozenNew _ _ _ (by simp))
  have HB2 : Hid (Below w.heap.size w w2) := (by repeat (first | exact Below.refl _ _ | refine chain ?_ (below_alloc _ _)) : Below w.heap.size w _).trans (hb2.mono (by simp; omega))
  have HS2 : Hid (IntsAt w2 g 0 us) := hs2
  have HF2 : Hid (FreeAt w2 g 0 n) := hf2
  have hz3 : w.heap.size + 1 + 1 + 1 ≤ g := by simpa using hg2
  have g0 := rt 0
  have g1 := rt 1
  have g2 := rt 2
  have f2 := rf 2
  clear hb2 hs2 hf2 hg2 rf rt HR HT hn
  go_wp2
  refine bodyPost_ret (v := .agg #[.int .i64 dl, .int .i64 sv, .slice (some ⟨g, 0, none⟩) n n]) (by simp [results, Try.results31, go_sem, t0, t1, t2]) rfl ⟨g, rfl, ⟨by omega, by simp only [World.size_setCell]; exact hz2⟩, ?_, ?_, ?_⟩
  · repeat refine intsAt_set ?_ (by omega) _ _
    exact HS2.out
  · repeat refine freeAt_set ?_ _ _
    exact HF2.out
  · repeat refine Below.setCell ?_ (by dsimp only; omega) _
    exact HB2.out

def usCell (c : CUs) (h : Option Addr) (n j : Nat) : Value := if j = 0 then .int .i64 c.dl else if j = 1 then .int .i64 c.sv else .slice h n n
theorem usInfo : (Try.prog.info? 62).map (fun i => (i.zero, i.size, i.bytes)) = some (some (.agg #[.int .i64 0, .int .i64 0, .slice none 0 0]), 3, 40) := by kernel_rfl
theorem makeUss (m n : Nat) (hm : m ≤ n) (hn : n ≤ 100000000) (w : World) :
    (Instr.makeSlice 28 (.int .i64 (m : Int)) (.int .i64 (n : Int))).run Try.prog w = .ok (.slice (some ⟨w.heap.size, 0, none⟩) m n) (w.alloc (.cells (madeCells #[.int .i64 0, .int .i64 0, .slice none 0 0] (n * 3)) 62)) := by
  obtain ⟨i, hi, hzz⟩ := Option.map_eq_some_iff.1 usInfo
  simp only [Prod.mk.injEq] at hzz
  obtain ⟨hz, hs, hb⟩ := hzz
  have hr := run_make (P := Try.prog) w 28 62 i _ Try.underlying28 hi hz .i64 .i64 (m : Int) (n : Int) (by omega) (by omega) (by rw [hb]; omega) (by omega)
  simp only [Int.toNat_natCast, hs] at hr
  exact hr
theorem uss_made (w : World) (n : Nat) : (w.alloc (.cells (madeCells #[.int .i64 0, .int .i64 0, .slice none 0 0] (n * 3)) 62)).rowIs w.heap.size 62 (n * 3) (fun j => usCell zUs none 0 (j % 3)) := by
  refine ⟨_, heapNew _ _, size_madeCells _ _, fun i hi => ?_⟩
  have h6 : i % 3 = 0 ∨ i % 3 = 1 ∨ i % 3 = 2 := by omega
  unfold usCell zUs
  rcases h6 with h | h | h <;> simp [madeCells, hi, h] <;> rfl
def usFill (cs : List CUs) (G : Nat → Nat) (k j : Nat) : Value := if j / 3 < k then usCell (cs.getD (j / 3) zUs) (some ⟨G (j / 3), 0, none⟩) (cs.getD (j / 3) zUs).us.length (j % 3) else usCell zUs none 0 (j % 3)
theorem usFill_set {w : World} {b : Nat} {cs : List CUs} {G : Nat → Nat} {n k g : Nat} (h : w.rowIs b 62 (n * 3) (usFill cs G k)) :
    (((w.setCell ⟨b, k * 3, none⟩ (.int .i64 (cs.getD k zUs).dl)).setCell ⟨b, k * 3 + 1, none⟩ (.int .i64 (cs.getD k zUs).sv)).setCell ⟨b, k * 3 + 2, none⟩ (.slice (some ⟨g, 0, none⟩) (cs.getD k zUs).us.length (cs.getD k zUs).us.length)).rowIs b 62 (n * 3) (usFill cs (fun i => if i = k then g else G i) (k + 1)) := by
  refine (((h.set (k * 3) _).set (k * 3 + 1) _).set (k * 3 + 2) _).congr fun j hj => ?_
  unfold usFill
  by_cases e2 : j = k * 3 + 2
  · rw [if_pos e2, if_pos (by omega), show j / 3 = k by omega, show j % 3 = 2 by omega]; simp [usCell]
  rw [if_neg e2]
  by_cases e1 : j = k * 3 + 1
  · rw [if_pos e1, if_pos (by omega), show j / 3 = k by omega, show j % 3 = 1 by omega]; rfl
  rw [if_neg e1]
  by_cases e0 : j = k * 3
  · rw [if_pos e0, if_pos (by omega), show j / 3 = k by omega, show j % 3 = 0 by omega]; rfl
  rw [if_neg e0]
  by_cases h : j / 3 < k
  · rw [if_pos h, if_pos (by omega)]; dsimp only; rw [if_neg (by omega)]
  · rw [if_neg h, if_neg (by omega)]
def UsIn (cs : List CUs) (G : Nat → Nat) (k b : Nat) (w : World) : Prop := (∀ i, i < k → (b < G i ∧ G i < w.heap.size) ∧ IntsAt w (G i) 0 (cs.getD i zUs).us ∧ FreeAt w (G i) 0 (cs.getD i zUs).us.length) ∧ ∀ i j, i < j → j < k → G i ≠ G j
theorem UsIn.below {cs : List CUs} {G : Nat → Nat} {k b : Nat} {w w' : World} (h : UsIn cs G k b w) (hb : Below w.heap.size w w') : UsIn cs G k b w' := ⟨fun i hi => by
  obtain ⟨⟨h1, h2⟩, h3, h4⟩ := h.1 i hi
  exact ⟨⟨h1, Nat.lt_of_lt_of_le h2 hb.size⟩, h3.below hb h2, h4.below hb h2⟩, h.2⟩
theorem UsIn.set {cs : List CUs} {G : Nat → Nat} {k b : Nat} {w : World} (h : UsIn cs G k b w) (o : Nat) (v : Value) : UsIn cs G k b (w.setCell ⟨b, o, none⟩ v) := ⟨fun i hi => by
  obtain ⟨⟨h1, h2⟩, h3, h4⟩ := h.1 i hi
  exact ⟨⟨h1, by rw [World.size_setCell]; exact h2⟩, intsAt_set h3 (by omega) _ _, freeAt_set h4 _ _⟩, h.2⟩
theorem UsIn.next {cs : List CUs} {G : Nat → Nat} {k b g S : Nat} {w : World} (h : UsIn cs G k b w) (hS : ∀ i, i < k → G i < S) (hg : S ≤ g) (h1 : b < g ∧ g < w.heap.size) (h2 : IntsAt w g 0 (cs.getD k zUs).us) (h3 : FreeAt w g 0 (cs.getD k zUs).us.length) : UsIn cs (fun i => if i = k then g else G i) (k + 1) b w := ⟨fun i hi => by
    by_cases e : i = k
    · subst e; simp only [if_true]; exact ⟨h1, h2, h3⟩
    · simp only [if_neg e]; exact h.1 i (by omega), fun i j hij hj => by
    dsimp only
    rw [if_neg (show ¬ i = k by omega)]
    by_cases e : j = k
    · rw [if_pos e]; have := hS i (by omega); omega
    · rw [if_neg e]; exact h.2 i j hij (by omega)⟩
theorem ownUs_of {cs : List CUs} {G : Nat → Nat} {b lo : Nat} {w : World} (hlo : lo ≤ b) (hr : w.rowIs b 62 (cs.length * 3) (usFill cs G cs.length)) (h : UsIn cs G cs.length b w) : OwnUs lo w (some ⟨b, 0, none⟩) cs := by
  refine .inr ⟨b, G, fun i => (cs.getD i zUs).us.length, rfl, ⟨hlo, hr.lt⟩, fun j hj => hr.frozen j, fun i hi => ?_, h.2⟩
  obtain ⟨⟨h1, h2⟩, h3, h4⟩ := h.1 i hi
  refine ⟨⟨by omega, h2, by omega⟩, ⟨?_, ?_, ?_⟩, Nat.le_refl _, h3, h4⟩
  · rw [hr.cell (i := i * 3) (by omega)]; unfold usFill; rw [if_pos (by omega), show (i * 3) / 3 = i by omega, show (i * 3) % 3 = 0 by omega]; rfl
  · rw [hr.cell (i := i * 3 + 1) (by omega)]; unfold usFill; rw [if_pos (by omega), show (i * 3 + 1) / 3 = i by omega, show (i * 3 + 1) % 3 = 1 by omega]; rfl
  · rw [hr.cell (i := i * 3 + 2) (by omega)]; unfold usFill; rw [if_pos (by omega), show (i * 3 + 2) / 3 = i by omega, show (i * 3 + 2) % 3 = 2 by omega]; rfl

set_option maxHeartbeats 2000000 in
theorem toUss_any (a : Option Addr) (cap : Nat) (cs : List CUs) (hn : cs.length ≤ 1048576) (hp : ∀ r ∈ cs, UsOK r) (w : World) (hr : ReadsUs w.heap.size w a cs) :
    Calls Try.prog 10 #[.slice a cs.length cap] w fun e w' => ∃ g, e = .returned (.slice (some ⟨g, 0, none⟩) cs.length cs.length) ∧ Below w.heap.size w w' ∧ OwnUs w.heap.size w' (some ⟨g, 0, none⟩) cs := by
  have hmk := fun w => makeUss cs.length cs.length (Nat.le_refl _) (by omega) w
  have HM : Hid ((w.alloc (.cells (madeCells #[.int .i64 0, .int .i64 0, .slice none 0 0] (cs.length * 3)) 62)).rowIs w.heap.size 62 (cs.length * 3) (fun j => usCell zUs none 0 (j % 3))) := uss_made w cs.length
  have HR : Hid (ReadsUs w.heap.size w a cs) := hr
  have HP : Hid (∀ r ∈ cs, UsOK r) := hp
  clear hr hp
  go_enter Try.func10, Try.ntmps10
  go_wp2
  go_loopw [4] (fun i wr => ∃ (k : Nat) (G : Nat → Nat), k ≤ cs.length ∧ i = .int .i64 (k : Int) ∧ Below w.heap.size w wr ∧ wr.rowIs w.heap.size 62 (cs.length * 3) (usFill cs G k) ∧ UsIn cs G k w.heap.size wr) (fun i _ => cs.length - (intOf i).toNat)
  case atStart => exact ⟨0, fun _ => 0, Nat.zero_le _, rfl, below_alloc _ _, HM.out.congr (fun i hi => by unfold usFill; rw [if_neg (by omega)]), fun i hi => by omega, fun i j _ hj => by omega⟩
  case round =>
    obtain ⟨k, G, hk, rfl, hb, hrow, hin⟩ := hrel
    have HB : Hid (Below w.heap.size w wr) := hb
    have HW : Hid (wr.rowIs w.heap.size 62 (cs.length * 3) (usFill cs G k)) := hrow
    have HI : Hid (UsIn cs G k w.heap.size wr) := hin
    clear hb hrow hin
    by_cases hlt : k < cs.length
    · have hlt' : (k : Int) < (cs.length : Int) := by omega
      rcases HR.out with h | ⟨b0, o0, ha, hB0, ia⟩
      · rw [h] at hlt; simp at hlt
      obtain ⟨h, cp, ⟨c0, c1, c2⟩, _, hS⟩ := (ia.below HB.out hB0 (Nat.le_refl _)) k hlt
      have hT := toUs_any (cs.getD k zUs) h cp (getUs HP.out hlt) wr (hS.mono HB.out.size)
      have HN : Hid (∀ g w2, Below wr.heap.size wr w2 → (wr.heap.size ≤ g ∧ g < w2.heap.size) → IntsAt w2 g 0 (cs.getD k zUs).us → FreeAt w2 g 0 (cs.getD k zUs).us.length → (∃ G', (((w2.setCell ⟨w.heap.size, k * 3, none⟩ (.int .i64 (cs.getD k zUs).dl)).setCell ⟨w.heap.size, k * 3 + 1, none⟩ (.int .i64 (cs.getD k zUs).sv)).setCell ⟨w.heap.size, k * 3 + 2, none⟩ (.slice (some ⟨g, 0, none⟩) (cs.getD k zUs).us.length (cs.getD k zUs).us.length)).rowIs w.heap.size 62 (cs.length * 3) (usFill cs G' (k + 1)) ∧
          UsIn cs G' (k + 1) w.heap.size (((w2.setCell ⟨w.heap.size, k * 3, none⟩ (.int .i64 (cs.getD k zUs).dl)).setCell ⟨w.heap.size, k * 3 + 1, none⟩ (.int .i64 (cs.getD k zUs).sv)).setCell ⟨w.heap.size, k * 3 + 2, none⟩ (.slice (some ⟨g, 0, none⟩) (cs.getD k zUs).us.length (cs.getD k zUs).us.length))) ∧
          Below w.heap.size w (((w2.setCell ⟨w.heap.size, k * 3, none⟩ (.int .i64 (cs.getD k zUs).dl)).setCell ⟨w.heap.size, k * 3 + 1, none⟩ (.int .i64 (cs.getD k zUs).sv)).setCell ⟨w.heap.size, k * 3 + 2, none⟩ (.slice (some ⟨g, 0, none⟩) (cs.getD k zUs).us.length (cs.getD k zUs).us.length)) ∧ (∀ j, j < 3 → (w2.cell? ⟨w.heap.size, k * 3 + j, none⟩).isSome = true) ∧ (∀ j, w2.frozen? ⟨w.heap.size, j, none⟩ = false)) := fun g w2 hb2 hg hs hf => by
        have hw2 := HW.out.of_block (hb2.block _ HW.out.lt)
        have hbg : w.heap.size < g := Nat.lt_of_lt_of_le HW.out.lt hg.1
        have hin := (HI.out.below hb2).next (fun i hi => (HI.out.1 i hi).1.2) hg.1 ⟨hbg, hg.2⟩ hs hf
        refine ⟨⟨_, usFill_set hw2, ((hin.set _ _).set _ _).set _ _⟩, (((HB.out.trans (hb2.mono HB.out.size)).setCell (Nat.le_refl _) _).setCell (Nat.le_refl _) _).setCell (Nat.le_refl _) _, fun j hj => ?_, fun j => hw2.frozen j⟩
        rw [hw2.cell (by omega)]; rfl
      rw [ha]
      clear ia hS
      generalize cs.getD k zUs = r at *
      obtain ⟨dl, sv, us⟩ := r
      dsimp only at c0 c1 c2 HN hT
      generalize us.length = n at *
      go_wp2_with (go_at_call 31; refine hT.mono ?_; rintro e w2 ⟨g, rfl, hg2, hs2, hf2, hb2⟩; obtain ⟨n1, n2, n3, n4⟩ := HN.out g w2 hb2 hg2 hs2 hf2; have N1 : Hid (_) := n1; have N2 : Hid (_) := n2; obtain ⟨v0, hv0⟩ := Option.isSome_iff_exists.mp (n3 0 (by omega)); obtain ⟨v1, hv1⟩ := Option.isSome_iff_exists.mp (n3 1 (by omega)); obtain ⟨v2, hv2⟩ := Option.isSome_iff_exists.mp (n3 2 (by omega)); rw [Nat.add_zero] at hv0; clear n1 n2 n3 hs2 hf2 hb2 hg2)
      obtain ⟨G', m1, m2⟩ := N1.out
      have M1 : Hid _ := m1
      have M2 : Hid _ := m2
      clear m1 m2
      go_roundw
      case rel => exact ⟨k + 1, G', by omega, by go_num, N2.out, M1.out, M2.out⟩
      case measure => simp [intOf]; omega
    · obtain rfl : k = cs.length := by omega
      go_wp2
      go_ret
      exact ⟨_, rfl, HB.out, ownUs_of (Nat.le_refl _) HW.out HI.out⟩

end Go.Proofs.Ytlnhnocegfnllaa
