/-
  The laws' own toSegmentS: a list of Segment copied, with all its lists of String, into blocks of their own.
-/
import Derived.Test.YtjnlghngneonhaaSgA
namespace Go.Proofs.Ytjnlghngneonhaa
open Go.ChangeShapes Go.WideShapes Go.ChangeAt Go.RowKit Go.Deep
set_option linter.unusedVariables false

/-- A list in blocks of its own, none below lo. -/
def OwnSg (lo : Nat) (w : World) (b : Nat) (cs : List CSg) : Prop := lo ≤ b ∧ b < w.heap.size ∧ (∀ j, j < cs.length * 2 → w.frozen? ⟨b, j, none⟩ = false) ∧
  ∀ i, i < cs.length → ∃ g, (g ≠ b ∧ lo ≤ g ∧ g < w.heap.size) ∧ SgAt w b (i * 2) (some ⟨g, 0, none⟩) (cs.getD i zSg).ps.length (cs.getD i zSg) ∧ StrsAt w g 0 (cs.getD i zSg).ps ∧ FreeSt w g (cs.getD i zSg).ps.length
theorem OwnSg.below {lo : Nat} {w w' : World} {b : Nat} {cs : List CSg} (h : OwnSg lo w b cs) {D : Nat} (hb : Below D w w') (hD : w.heap.size ≤ D) : OwnSg lo w' b cs := by
  obtain ⟨h1, h2, h3, h4⟩ := h
  refine ⟨h1, Nat.lt_of_lt_of_le h2 hb.size, fun j hj => (hb.frozen (p := ⟨b, j, none⟩) (Nat.lt_of_lt_of_le h2 hD)).trans (h3 j hj), fun i hi => ?_⟩
  obtain ⟨g, ⟨k1, k2, k3⟩, k4, k5, k6⟩ := h4 i hi
  exact ⟨g, ⟨k1, k2, Nat.lt_of_lt_of_le k3 hb.size⟩, k4.below hb (Nat.lt_of_lt_of_le h2 hD), k5.below hb (Nat.lt_of_lt_of_le k3 hD), k6.below hb (Nat.lt_of_lt_of_le k3 hD)⟩
theorem OwnSg.reads {lo : Nat} {w : World} {b : Nat} {cs : List CSg} (h : OwnSg lo w b cs) : ReadsSg w.heap.size w (some ⟨b, 0, none⟩) cs := by
  obtain ⟨h1, h2, h3, h4⟩ := h
  refine .inr ⟨b, 0, rfl, h2, fun i hi => ?_⟩
  obtain ⟨g, ⟨k1, k2, k3⟩, k4, k5, k6⟩ := h4 i hi
  rw [Nat.zero_add]
  exact ⟨_, _, k4, Nat.le_refl _, .inr ⟨g, 0, rfl, k3, k5⟩⟩

theorem cellOld (w : World) (o : Obj) {b j : Nat} (h : b < w.heap.size) : (w.alloc o).cell? ⟨b, j, none⟩ = w.cell? ⟨b, j, none⟩ := (below_alloc w o).cell (p := ⟨b, j, none⟩) h
theorem cellNew (w : World) (vs : Array Value) (t : TypeId) {b j : Nat} (v : Value) (hb : b = w.heap.size) (hj : vs[j]? = some v) : (w.alloc (.cells vs t)).cell? ⟨b, j, none⟩ = some v := by
  subst hb; unfold World.cell?; rw [heapNew]; simpa using hj
theorem frozenNew (w : World) (vs : Array Value) (t : TypeId) {b j : Nat} (hb : b = w.heap.size) : (w.alloc (.cells vs t)).frozen? ⟨b, j, none⟩ = false := by
  subst hb; unfold World.frozen?; rw [heapNew]; simp

theorem StrsAt.set {w : World} {g off : Nat} {ss : List ByteArray} (h : StrsAt w g off ss) {c : Nat} (hne : c ≠ g) (o : Nat) (v : Value) : StrsAt (w.setCell ⟨c, o, none⟩ v) g off ss := fun i hi => by
  rw [World.cell?_setCell_far _ _ _ _ hne]; exact h i hi

set_option maxHeartbeats 1000000 in
theorem toSg_any (c : CSg) (h : Option Addr) (cp : Nat) (hn : c.ps.length ≤ 1048576) (w : World) (hr : ReadsS w.heap.size w h c.ps) :
    Calls Try.prog 26 #[.agg #[.string c.nm, .slice h c.ps.length cp]] w fun e w' => ∃ g, e = .returned (.agg #[.string c.nm, .slice (some ⟨g, 0, none⟩) c.ps.length c.ps.length]) ∧ (w.heap.size ≤ g ∧ g < w'.heap.size) ∧ StrsAt w' g 0 c.ps ∧ FreeSt w' g c.ps.length ∧ Below w.heap.size w w' := by
  have HR : Hid (ReadsS w.heap.size w h c.ps) := hr
  have HT : Hid (∀ w, ReadsS w.heap.size w h c.ps → Calls Try.prog 46 #[.slice h c.ps.length cp] w fun e w' => ∃ g, e = .returned (.slice (some ⟨g, 0, none⟩) c.ps.length c.ps.length) ∧ Below w.heap.size w w' ∧ (w.heap.size ≤ g ∧ g < w'.heap.size) ∧ StrsAt w' g 0 c.ps ∧ FreeSt w' g c.ps.length) := fun w r => (toSts_any h cp c.ps hn w r).mono fun e w' ⟨h1, h2, h3, h4, h5⟩ => ⟨_, h1, h2, ⟨Nat.le_refl _, h3⟩, h4, h5⟩
  clear hr
  obtain ⟨nm, ps⟩ := c
  dsimp only at *
  have l1 : ∀ n : Nat, n < n + 1 + 1 := fun n => by omega
  have l2 : ∀ n : Nat, n < n + 2 := fun n => by omega
  have l3 : ∀ n : Nat, n + 1 < n + 2 := fun n => by omega
  generalize hN : ps.length = n at HT ⊢
  go_enter Try.func26, Try.ntmps26
  go_wp2_with fail
  (first | go_at_call 46 | skip)
  refine (HT.out _ (HR.out.later (by repeat (first | exact Below.refl _ _ | refine chain ?_ (below_alloc _ _) | refine Below.setCell ?_ (by dsimp only; omega) _)))).mono ?_
  rintro e w2 ⟨g, rfl, hb2, ⟨hg2, hz2⟩, hs2, hf2⟩
  have r0 : w2.cell? ⟨w.heap.size + 1 + 1, 0, none⟩ = some (.string nm) := (hb2.cell (p := ⟨w.heap.size + 1 + 1, 0, none⟩) (by simp)).trans (cellNew _ _ _ _ (by simp) rfl)
  have r1 : w2.cell? ⟨w.heap.size + 1 + 1, 1, none⟩ = some (.slice none 0 0) := (hb2.cell (p := ⟨w.heap.size + 1 + 1, 1, none⟩) (by simp)).trans (cellNew _ _ _ _ (by simp) rfl)
  have t0 : w2.cell? ⟨w.heap.size + 1, 0, none⟩ = some (.string ⟨#[]⟩) := (hb2.cell (p := ⟨w.heap.size + 1, 0, none⟩) (by simp)).trans ((cellOld _ _ (by simp only [World.size_alloc]; omega)).trans (cellNew _ _ _ _ (by simp) rfl))
  have t1 : w2.cell? ⟨w.heap.size + 1, 1, none⟩ = some (.slice none 0 0) := (hb2.cell (p := ⟨w.heap.size + 1, 1, none⟩) (by simp)).trans ((cellOld _ _ (by simp only [World.size_alloc]; omega)).trans (cellNew _ _ _ _ (by simp) rfl))
  have rt : ∀ j, w2.frozen? ⟨w.heap.size + 1, j, none⟩ = false := fun j => (hb2.frozen (p := ⟨w.heap.size + 1, j, none⟩) (by simp)).trans (((below_alloc _ _).frozen (p := ⟨w.heap.size + 1, j, none⟩) (by simp)).trans (frozenNew _ _ _ (by simp)))
  have rf : ∀ j, w2.frozen? ⟨w.heap.size + 1 + 1, j, none⟩ = false := fun j => (hb2.frozen (p := ⟨w.heap.size + 1 + 1, j, none⟩) (by simp)).trans (frozenNew _ _ _ (by simp))
  have HB2 : Hid (Below w.heap.size w w2) := (by repeat (first | exact Below.refl _ _ | refine chain ?_ (below_alloc _ _)) : Below w.heap.size w _).trans (hb2.mono (by simp; omega))
  have HS2 : Hid (StrsAt w2 g 0 ps) := hs2
  have HF2 : Hid (FreeSt w2 g n) := hf2
  have hz3 : w.heap.size + 1 + 1 + 1 ≤ g := by simpa using hg2
  have g0 := rt 0
  have g1 := rt 1
  have f1 := rf 1
  clear hb2 hs2 hf2 hg2 rf rt l1 l2 l3 HR HT hn
  go_wp2
  refine bodyPost_ret (v := .agg #[.string nm, .slice (some ⟨g, 0, none⟩) n n]) (by simp [results, Try.results26, go_sem, t0, t1]) rfl ⟨g, rfl, ⟨by omega, by simp only [World.size_setCell]; exact hz2⟩, ?_, ?_, ?_⟩
  · repeat refine StrsAt.set ?_ (by omega) _ _
    exact HS2.out
  · repeat refine FreeSt.set ?_ _ _
    exact HF2.out
  · repeat refine Below.setCell ?_ (by dsimp only; omega) _
    exact HB2.out


def sgCell (c : CSg) (h : Option Addr) (n j : Nat) : Value := if j = 0 then .string c.nm else .slice h n n
theorem sgInfo : (Try.prog.info? 43).map (fun i => (i.zero, i.size, i.bytes)) = some (some (.agg #[.string ⟨#[]⟩, .slice none 0 0]), 2, 40) := by kernel_rfl
theorem makeSgs (n : Nat) (hn : n ≤ 100000000) (w : World) :
    (Instr.makeSlice 23 (.int .i64 (n : Int)) (.int .i64 (n : Int))).run Try.prog w = .ok (.slice (some ⟨w.heap.size, 0, none⟩) n n) (w.alloc (.cells (madeCells #[.string ⟨#[]⟩, .slice none 0 0] (n * 2)) 43)) := by
  obtain ⟨i, hi, hzz⟩ := Option.map_eq_some_iff.1 sgInfo
  simp only [Prod.mk.injEq] at hzz
  obtain ⟨hz, hs, hb⟩ := hzz
  have hr := run_make (P := Try.prog) w 23 43 i _ Try.underlying23 hi hz .i64 .i64 (n : Int) (n : Int) (by omega) (Int.le_refl _) (by rw [hb]; omega) (by omega)
  simp only [Int.toNat_natCast, hs] at hr
  exact hr
theorem sgs_made (w : World) (n : Nat) : (w.alloc (.cells (madeCells #[.string ⟨#[]⟩, .slice none 0 0] (n * 2)) 43)).rowIs w.heap.size 43 (n * 2) (fun j => sgCell zSg none 0 (j % 2)) := by
  refine ⟨_, heapNew _ _, size_madeCells _ _, fun i hi => ?_⟩
  have h6 : i % 2 = 0 ∨ i % 2 = 1 := by omega
  unfold sgCell zSg
  rcases h6 with h | h <;> simp [madeCells, hi, h] <;> rfl
def sgFill (cs : List CSg) (G : Nat → Nat) (k j : Nat) : Value := if j / 2 < k then sgCell (cs.getD (j / 2) zSg) (some ⟨G (j / 2), 0, none⟩) (cs.getD (j / 2) zSg).ps.length (j % 2) else sgCell zSg none 0 (j % 2)
theorem sgFill_set {w : World} {b : Nat} {cs : List CSg} {G : Nat → Nat} {n k g : Nat} (h : w.rowIs b 43 (n * 2) (sgFill cs G k)) :
    ((w.setCell ⟨b, k * 2, none⟩ (.string (cs.getD k zSg).nm)).setCell ⟨b, k * 2 + 1, none⟩ (.slice (some ⟨g, 0, none⟩) (cs.getD k zSg).ps.length (cs.getD k zSg).ps.length)).rowIs b 43 (n * 2) (sgFill cs (fun i => if i = k then g else G i) (k + 1)) := by
  refine ((h.set (k * 2) _).set (k * 2 + 1) _).congr fun j hj => ?_
  unfold sgFill
  by_cases e1 : j = k * 2 + 1
  · rw [if_pos e1, if_pos (by omega), show j / 2 = k by omega, show j % 2 = 1 by omega]; simp [sgCell]
  rw [if_neg e1]
  by_cases e0 : j = k * 2
  · rw [if_pos e0, if_pos (by omega), show j / 2 = k by omega, show j % 2 = 0 by omega]; rfl
  rw [if_neg e0]
  by_cases h : j / 2 < k
  · rw [if_pos h, if_pos (by omega)]; dsimp only; rw [if_neg (by omega)]
  · rw [if_neg h, if_neg (by omega)]
def SgIn (cs : List CSg) (G : Nat → Nat) (k b : Nat) (w : World) : Prop := ∀ i, i < k → (b < G i ∧ G i < w.heap.size) ∧ StrsAt w (G i) 0 (cs.getD i zSg).ps ∧ FreeSt w (G i) (cs.getD i zSg).ps.length
theorem SgIn.below {cs : List CSg} {G : Nat → Nat} {k b : Nat} {w w' : World} (h : SgIn cs G k b w) (hb : Below w.heap.size w w') : SgIn cs G k b w' := fun i hi => by
  obtain ⟨⟨h1, h2⟩, h3, h4⟩ := h i hi
  exact ⟨⟨h1, Nat.lt_of_lt_of_le h2 hb.size⟩, h3.below hb h2, h4.below hb h2⟩
theorem SgIn.set {cs : List CSg} {G : Nat → Nat} {k b : Nat} {w : World} (h : SgIn cs G k b w) (o : Nat) (v : Value) : SgIn cs G k b (w.setCell ⟨b, o, none⟩ v) := fun i hi => by
  obtain ⟨⟨h1, h2⟩, h3, h4⟩ := h i hi
  exact ⟨⟨h1, by rw [World.size_setCell]; exact h2⟩, h3.set (by omega) _ _, h4.set _ _⟩
theorem SgIn.next {cs : List CSg} {G : Nat → Nat} {k b g : Nat} {w : World} (h : SgIn cs G k b w) (h1 : b < g ∧ g < w.heap.size) (h2 : StrsAt w g 0 (cs.getD k zSg).ps) (h3 : FreeSt w g (cs.getD k zSg).ps.length) : SgIn cs (fun i => if i = k then g else G i) (k + 1) b w := fun i hi => by
  by_cases e : i = k
  · subst e; simp only [if_true]; exact ⟨h1, h2, h3⟩
  · dsimp only; rw [if_neg e]; exact h i (by omega)
theorem ownSg_of {lo : Nat} {w : World} {b : Nat} {cs : List CSg} {G : Nat → Nat} (hlo : lo ≤ b) (h : w.rowIs b 43 (cs.length * 2) (sgFill cs G cs.length)) (hi : SgIn cs G cs.length b w) : OwnSg lo w b cs := by
  refine ⟨hlo, h.lt, fun j _ => h.frozen j, fun i hik => ?_⟩
  obtain ⟨⟨h1, h2⟩, h3, h4⟩ := hi i hik
  refine ⟨G i, ⟨by omega, by omega, h2⟩, ⟨?_, ?_⟩, h3, h4⟩
  · rw [h.cell (i := i * 2) (by omega)]; unfold sgFill; rw [if_pos (by omega), show (i * 2) / 2 = i by omega, show (i * 2) % 2 = 0 by omega]; rfl
  · rw [h.cell (i := i * 2 + 1) (by omega)]; unfold sgFill; rw [if_pos (by omega), show (i * 2 + 1) / 2 = i by omega, show (i * 2 + 1) % 2 = 1 by omega]; rfl

set_option maxHeartbeats 2000000 in
theorem toSgs_any (a : Option Addr) (cap : Nat) (cs : List CSg) (hn : cs.length ≤ 1048576) (hp : ∀ r ∈ cs, SgOK r) (w : World) (hr : ReadsSg w.heap.size w a cs) :
    Calls Try.prog 12 #[.slice a cs.length cap] w fun e w' => e = .returned (.slice (some ⟨w.heap.size, 0, none⟩) cs.length cs.length) ∧ Below w.heap.size w w' ∧ OwnSg w.heap.size w' w.heap.size cs := by
  have hmk := fun w => makeSgs cs.length (by omega) w
  have HM : Hid ((w.alloc (.cells (madeCells #[.string ⟨#[]⟩, .slice none 0 0] (cs.length * 2)) 43)).rowIs w.heap.size 43 (cs.length * 2) (fun j => sgCell zSg none 0 (j % 2))) := sgs_made w cs.length
  have HR : Hid (ReadsSg w.heap.size w a cs) := hr
  have HP : Hid (∀ r ∈ cs, SgOK r) := hp
  clear hr hp
  go_enter Try.func12, Try.ntmps12
  go_wp2
  go_loopw [4] (fun i wr => ∃ (k : Nat) (G : Nat → Nat), k ≤ cs.length ∧ i = .int .i64 (k : Int) ∧ Below w.heap.size w wr ∧ wr.rowIs w.heap.size 43 (cs.length * 2) (sgFill cs G k) ∧ SgIn cs G k w.heap.size wr) (fun i _ => cs.length - (intOf i).toNat)
  case atStart => exact ⟨0, fun _ => 0, Nat.zero_le _, rfl, below_alloc _ _, HM.out.congr (fun i hi => by unfold sgFill; rw [if_neg (by omega)]), fun i hi => by omega⟩
  case round =>
    obtain ⟨k, G, hk, rfl, hb, hrow, hin⟩ := hrel
    have HB : Hid (Below w.heap.size w wr) := hb
    have HW : Hid (wr.rowIs w.heap.size 43 (cs.length * 2) (sgFill cs G k)) := hrow
    have HI : Hid (SgIn cs G k w.heap.size wr) := hin
    clear hb hrow hin
    by_cases hlt : k < cs.length
    · have hlt' : (k : Int) < (cs.length : Int) := by omega
      rcases HR.out with h | ⟨b0, o0, ha, hB0, ia⟩
      · rw [h] at hlt; simp at hlt
      obtain ⟨h, cp, ⟨c0, c1⟩, _, hS⟩ := (ia.below HB.out hB0 (Nat.le_refl _)) k hlt
      have hT := toSg_any (cs.getD k zSg) h cp (getSg HP.out hlt).2.1 wr (hS.mono HB.out.size)
      have HN : Hid (∀ g w2, Below wr.heap.size wr w2 → (wr.heap.size ≤ g ∧ g < w2.heap.size) → StrsAt w2 g 0 (cs.getD k zSg).ps → FreeSt w2 g (cs.getD k zSg).ps.length → (∃ G', ((w2.setCell ⟨w.heap.size, k * 2, none⟩ (.string (cs.getD k zSg).nm)).setCell ⟨w.heap.size, k * 2 + 1, none⟩ (.slice (some ⟨g, 0, none⟩) (cs.getD k zSg).ps.length (cs.getD k zSg).ps.length)).rowIs w.heap.size 43 (cs.length * 2) (sgFill cs G' (k + 1)) ∧
          SgIn cs G' (k + 1) w.heap.size ((w2.setCell ⟨w.heap.size, k * 2, none⟩ (.string (cs.getD k zSg).nm)).setCell ⟨w.heap.size, k * 2 + 1, none⟩ (.slice (some ⟨g, 0, none⟩) (cs.getD k zSg).ps.length (cs.getD k zSg).ps.length))) ∧
          Below w.heap.size w ((w2.setCell ⟨w.heap.size, k * 2, none⟩ (.string (cs.getD k zSg).nm)).setCell ⟨w.heap.size, k * 2 + 1, none⟩ (.slice (some ⟨g, 0, none⟩) (cs.getD k zSg).ps.length (cs.getD k zSg).ps.length)) ∧ (∀ j, j < 2 → (w2.cell? ⟨w.heap.size, k * 2 + j, none⟩).isSome = true) ∧ (∀ j, w2.frozen? ⟨w.heap.size, j, none⟩ = false)) := fun g w2 hb2 hg hs hf => by
        have hw2 := HW.out.of_block (hb2.block _ HW.out.lt)
        have hbg : w.heap.size < g := Nat.lt_of_lt_of_le HW.out.lt hg.1
        have hin := (HI.out.below hb2).next ⟨hbg, hg.2⟩ hs hf
        refine ⟨⟨_, sgFill_set hw2, (hin.set _ _).set _ _⟩, ((HB.out.trans (hb2.mono HB.out.size)).setCell (Nat.le_refl _) _).setCell (Nat.le_refl _) _, fun j hj => ?_, fun j => hw2.frozen j⟩
        rw [hw2.cell (by omega)]; rfl
      rw [ha]
      clear ia hS
      generalize cs.getD k zSg = r at *
      obtain ⟨nm, ps⟩ := r
      dsimp only at c0 c1 HN hT
      generalize ps.length = n at *
      go_wp2_with (go_at_call 26; refine hT.mono ?_; rintro e w2 ⟨g, rfl, hg2, hs2, hf2, hb2⟩; obtain ⟨n1, n2, n3, n4⟩ := HN.out g w2 hb2 hg2 hs2 hf2; have N1 : Hid (_) := n1; have N2 : Hid (_) := n2; obtain ⟨v0, hv0⟩ := Option.isSome_iff_exists.mp (n3 0 (by omega)); obtain ⟨v1, hv1⟩ := Option.isSome_iff_exists.mp (n3 1 (by omega)); rw [Nat.add_zero] at hv0; clear n1 n2 n3 hs2 hf2 hb2 hg2)
      obtain ⟨G', m1, m2⟩ := N1.out
      have M1 : Hid _ := m1
      have M2 : Hid _ := m2
      clear m1 m2
      go_roundw
      case rel => exact ⟨k + 1, G', by omega, by go_num, N2.out, M1.out, M2.out⟩
      case measure => simp [intOf]; omega
    · obtain rfl : k = cs.length := by omega
      go_wp2
      go_ret
      exact ⟨rfl, HB.out, ownSg_of (Nat.le_refl _) HW.out HI.out⟩

end Go.Proofs.Ytjnlghngneonhaa
