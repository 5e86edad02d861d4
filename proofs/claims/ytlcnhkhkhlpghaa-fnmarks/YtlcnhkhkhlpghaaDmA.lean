/-
  Lists of lists of numbers in memory; the laws' own szIntSS, toIntSS, eqIntSS, and such a list that came in, opened.
-/
import Derived.Test.YtlcnhkhkhlpghaaZiE
import Derived.Laws.OwnMore
namespace Go.Proofs.Ytlcnhkhkhlpghaa
open Go.ChangeShapes Go.WideShapes Go.ChangeAt Go.RowKit Go.Deep Go.Joins
set_option linter.unusedVariables false

abbrev LL := List (List Int)
def DmsAt (B : Nat) (w : World) (b off : Nat) (cs : LL) : Prop := ∀ i, i < cs.length → ∃ h cp, w.cell? ⟨b, off + i, none⟩ = some (.slice h (cs.getD i []).length cp) ∧ (cs.getD i []).length ≤ cp ∧ Reads B w h (cs.getD i [])
def ReadsDm (B : Nat) (w : World) (a : Option Addr) (cs : LL) : Prop := cs = [] ∨ ∃ b off, a = some ⟨b, off, none⟩ ∧ b < B ∧ DmsAt B w b off cs
theorem DmsAt.below {B D : Nat} {w w' : World} {b off : Nat} {cs : LL} (h : DmsAt B w b off cs) (hb : Below D w w') (hB : b < D) (hD : B ≤ D) : DmsAt B w' b off cs := fun i hi => by
  obtain ⟨h', cp, k, k', k''⟩ := h i hi
  exact ⟨h', cp, (hb.cell (p := ⟨b, off + i, none⟩) hB).trans k, k', k''.below (hb.mono hD)⟩
theorem DmsAt.mono {B B' : Nat} {w : World} {b off : Nat} {cs : LL} (h : DmsAt B w b off cs) (hb : B ≤ B') : DmsAt B' w b off cs := fun i hi => by
  obtain ⟨h', cp, k, k', k''⟩ := h i hi
  exact ⟨h', cp, k, k', k''.mono hb⟩
theorem ReadsDm.below {B : Nat} {w w' : World} {a : Option Addr} {cs : LL} (h : ReadsDm B w a cs) (hb : Below B w w') : ReadsDm B w' a cs := by
  rcases h with h | ⟨b, off, ha, hB, hi⟩
  · exact .inl h
  · exact .inr ⟨b, off, ha, hB, hi.below hb hB (Nat.le_refl _)⟩
theorem ReadsDm.mono {B B' : Nat} {w : World} {a : Option Addr} {cs : LL} (h : ReadsDm B w a cs) (hb : B ≤ B') : ReadsDm B' w a cs := by
  rcases h with h | ⟨b, off, ha, hB, hi⟩
  · exact .inl h
  · exact .inr ⟨b, off, ha, by omega, hi.mono hb⟩
theorem ReadsDm.later {w w' : World} {a : Option Addr} {cs : LL} (h : ReadsDm w.heap.size w a cs) (hb : Below w.heap.size w w') : ReadsDm w'.heap.size w' a cs := (h.below hb).mono hb.size
theorem Reads.later {w w' : World} {a : Option Addr} {cs : List Int} (h : Reads w.heap.size w a cs) (hb : Below w.heap.size w w') : Reads w'.heap.size w' a cs := (h.below hb).mono hb.size
theorem getDm {p : List Int → Prop} {cs : LL} (h : ∀ r ∈ cs, p r) {k : Nat} (hk : k < cs.length) : p (cs.getD k []) := by
  have e : cs.getD k [] = cs[k] := by simp [List.getD_eq_getElem?_getD, hk]
  rw [e]; exact h _ (List.getElem_mem _)
theorem take_nextDm {p : List Int → Prop} {rs : LL} {k : Nat} (h : k < rs.length) (ha : ∀ r ∈ rs.take k, p r) (hk : p (rs.getD k [])) : ∀ r ∈ rs.take (k + 1), p r := fun r hr => by
  rw [List.take_succ_eq_append_getElem h] at hr
  rcases List.mem_append.mp hr with h' | h'
  · exact ha r h'
  · simp at h'
    have e : rs.getD k [] = rs[k] := by simp [List.getD_eq_getElem?_getD, h]
    rw [h', ← e]; exact hk
def DmOK (c : List Int) : Prop := c.length ≤ 1048576
def DmWide (c : List Int) : Prop := c.length ≤ maxLen
def totDm (cs : LL) : Nat := (cs.map List.length).sum
def SzDms (cs : LL) (w : World) (e : Ending) (w' : World) : Prop := ∃ x : Int, e = .returned (.int .i64 x) ∧ (x < 0 ∨ (0 ≤ x ∧ x ≤ 1048576 ∧ cs.length ≤ 1048576 ∧ totDm cs ≤ 1048576 ∧ ∀ r ∈ cs, DmOK r)) ∧ Below w.heap.size w w'
set_option maxHeartbeats 1000000 in
theorem szDms_any (a : Option Addr) (cap : Nat) (cs : LL) (hl : cs.length ≤ maxLen) (hp : ∀ r ∈ cs, DmWide r) (x0 : Int) (hx0 : 0 ≤ x0) (hx1 : x0 ≤ 1048576) (w : World) (hr : ReadsDm w.heap.size w a cs) :
    Calls Try.prog 13 #[.slice a cs.length cap, .int .i64 x0] w (SzDms cs w) := by
  have HR : Hid (ReadsDm w.heap.size w a cs) := hr
  have HP : Hid (∀ r ∈ cs, DmWide r) := hp
  clear hr hp
  unfold maxLen at hl
  have hwr : IntKind.i64.wrap (x0 - (cs.length : Int)) = x0 - (cs.length : Int) := wrap_id _ (by omega) (by omega)
  by_cases c1 : x0 < (cs.length : Int)
  · go_enter Try.func13, Try.ntmps13
    go_wp2
    go_ret
    exact ⟨-1, rfl, .inl (by omega), Below.refl _ _⟩
  · go_enter Try.func13, Try.ntmps13
    go_wp2
    go_loopw [1, 5] (fun l c wr => ∃ (k : Nat) (x : Int), k ≤ cs.length ∧ c = .int .i64 (k : Int) ∧ l = .int .i64 x ∧ 0 ≤ x ∧ x + (totDm (cs.take k) : Int) ≤ 1048576 ∧ (∀ r ∈ cs.take k, DmOK r) ∧ Below w.heap.size w wr) (fun _ c _ => cs.length - (intOf c).toNat)
    case atStart => exact ⟨0, x0 - (cs.length : Int), Nat.zero_le _, rfl, rfl, by omega, by simp [totDm]; omega, by simp, Below.refl _ _⟩
    case round =>
      obtain ⟨k, x, hk, rfl, rfl, hx0, hx2, hall, hb⟩ := hrel
      have hx1 : x ≤ 1048576 := by omega
      have HX2 : Hid (x + (totDm (cs.take k) : Int) ≤ 1048576) := hx2
      clear hx2
      have HA : Hid (∀ r ∈ cs.take k, DmOK r) := hall
      have HB : Hid (Below w.heap.size w wr) := hb
      clear hall hb
      by_cases hlt : k < cs.length
      · have hlt' : (k : Int) < (cs.length : Int) := by omega
        rcases HR.out with h | ⟨b0, o0, ha, hB0, ia⟩
        · rw [h] at hlt; simp at hlt
        obtain ⟨h, cp, c0, _, hS⟩ := (ia.below HB.out hB0 (Nat.le_refl _)) k hlt
        have HN : Hid (DmOK (cs.getD k []) → ∀ r ∈ cs.take (k + 1), DmOK r) := fun q => take_nextDm hlt HA.out q
        have HSum : Hid (totDm (cs.take (k + 1)) = totDm (cs.take k) + (cs.getD k []).length) := by
          have e : cs.getD k [] = cs[k] := by simp [List.getD_eq_getElem?_getD, hlt]
          show _ = _
          unfold totDm
          rw [List.take_succ_eq_append_getElem hlt, e, List.map_append, List.sum_append]; simp only [List.map_cons, List.map_nil, List.sum_cons, List.sum_nil, Nat.add_zero]
        have hsz := szInts_any h (cs.getD k []).length cp (getDm HP.out hlt) x hx0 hx1 wr
        rw [ha]
        clear ia hS
        have HY2 : Hid (∀ y : Int, (y < 0 ∨ (0 ≤ y ∧ y + ((cs.getD k []).length : Int) ≤ x ∧ (cs.getD k []).length ≤ 1048576)) → y < 0 ∨ (0 ≤ y ∧ y ≤ x ∧ y + (totDm (cs.take (k + 1)) : Int) ≤ 1048576 ∧ DmOK (cs.getD k []))) := fun y h => by
          rcases h with h | ⟨h1, h2, h3⟩
          · exact .inl h
          · have := HX2.out
            have := HSum.out
            exact .inr ⟨h1, by omega, by omega, h3⟩
        clear HSum
        generalize cs.getD k [] = r at *
        generalize r.length = n at *
        go_wp2_with (go_at_call 42; refine hsz.mono ?_; rintro e w2 ⟨⟨y, rfl, hy⟩, rfl⟩; have HY : Hid _ := hy; clear hy)
        · go_ret
          exact ⟨-1, rfl, .inl (by omega), HB.out⟩
        · rcases HY2.out y HY.out with h | ⟨y0, y1, y2, z⟩
          · omega
          have HN1 : Hid (∀ r ∈ cs.take (k + 1), DmOK r) := HN.out z
          have HN2 : Hid (y + (totDm (cs.take (k + 1)) : Int) ≤ 1048576) := y2
          clear z y2
          go_roundw
          case rel => exact ⟨k + 1, y, by omega, by go_num, rfl, by omega, HN2.out, HN1.out, HB.out⟩
          case measure => simp [intOf]; omega
      · have hle : (cs.length : Int) ≤ (k : Int) := by omega
        have HE : Hid (∀ r ∈ cs, DmOK r) := by
          have := HA.out
          rw [List.take_of_length_le (by omega)] at this
          exact this
        have HE2 : Hid (totDm cs ≤ 1048576) := by
          have := HX2.out
          rw [List.take_of_length_le (by omega)] at this
          show _ ≤ _
          omega
        go_wp2
        go_ret
        exact ⟨x, rfl, .inr ⟨hx0, hx1, by omega, HE2.out, HE.out⟩, HB.out⟩
/-- A list in blocks of its own, none below lo. -/
def OwnDm (lo : Nat) (w : World) (b : Nat) (cs : LL) : Prop := lo ≤ b ∧ b < w.heap.size ∧ (∀ j, j < cs.length → w.frozen? ⟨b, j, none⟩ = false) ∧
  ∀ i, i < cs.length → ∃ g, (g ≠ b ∧ lo ≤ g ∧ g < w.heap.size) ∧ w.cell? ⟨b, i, none⟩ = some (.slice (some ⟨g, 0, none⟩) (cs.getD i []).length (cs.getD i []).length) ∧ IntsAt w g 0 (cs.getD i []) ∧ FreeZi w g (cs.getD i []).length
theorem OwnDm.reads {lo : Nat} {w : World} {b : Nat} {cs : LL} (h : OwnDm lo w b cs) : ReadsDm w.heap.size w (some ⟨b, 0, none⟩) cs := by
  obtain ⟨h1, h2, h3, h4⟩ := h
  refine .inr ⟨b, 0, rfl, h2, fun i hi => ?_⟩
  obtain ⟨g, ⟨k1, k2, k3⟩, k4, k5, k6⟩ := h4 i hi
  rw [Nat.zero_add]
  exact ⟨_, _, k4, Nat.le_refl _, .inr ⟨g, 0, rfl, k3, k5⟩⟩
theorem cellOld (w : World) (o : Obj) {b j : Nat} (h : b < w.heap.size) : (w.alloc o).cell? ⟨b, j, none⟩ = w.cell? ⟨b, j, none⟩ := (below_alloc w o).cell (p := ⟨b, j, none⟩) h
theorem cellNew (w : World) (vs : Array Value) (t : TypeId) {b j : Nat} (v : Value) (hb : b = w.heap.size) (hj : vs[j]? = some v) : (w.alloc (.cells vs t)).cell? ⟨b, j, none⟩ = some v := by
  subst hb; unfold World.cell?; rw [heapNew]; simpa using hj
theorem frozenNew (w : World) (vs : Array Value) (t : TypeId) {b j : Nat} (hb : b = w.heap.size) : (w.alloc (.cells vs t)).frozen? ⟨b, j, none⟩ = false := by
  subst hb; unfold World.frozen?; rw [heapNew]; simp
theorem IntsAt.set {w : World} {g off : Nat} {ss : List Int} (h : IntsAt w g off ss) {c : Nat} (hne : c ≠ g) (o : Nat) (v : Value) : IntsAt (w.setCell ⟨c, o, none⟩ v) g off ss := fun i hi => by
  rw [World.cell?_setCell_far _ _ _ _ hne]; exact h i hi
theorem FreeZi.set {w : World} {g n : Nat} (h : FreeZi w g n) (p : Addr) (v : Value) : FreeZi (w.setCell p v) g n := fun j hj => by rw [World.frozen?_setCell]; exact h j hj
theorem dmInfo : (Try.prog.info? 23).map (fun i => (i.zero, i.size, i.bytes)) = some (some (.slice none 0 0), 1, 24) := by kernel_rfl
theorem makeDms (n : Nat) (hn : n ≤ 100000000) (w : World) :
    (Instr.makeSlice 24 (.int .i64 (n : Int)) (.int .i64 (n : Int))).run Try.prog w = .ok (.slice (some ⟨w.heap.size, 0, none⟩) n n) (w.alloc (.cells (madeCells #[.slice none 0 0] n) 23)) := by
  obtain ⟨i, hi, hzz⟩ := Option.map_eq_some_iff.1 dmInfo
  simp only [Prod.mk.injEq] at hzz
  obtain ⟨hz, hs, hb⟩ := hzz
  have hr := run_make (P := Try.prog) w 24 23 i _ Try.underlying24 hi hz .i64 .i64 (n : Int) (n : Int) (by omega) (Int.le_refl _) (by rw [hb]; omega) (by omega)
  simp only [Int.toNat_natCast, hs, Nat.mul_one] at hr
  exact hr
def dmFill (cs : LL) (G : Nat → Nat) (k j : Nat) : Value := if j < k then .slice (some ⟨G j, 0, none⟩) (cs.getD j []).length (cs.getD j []).length else .slice none 0 0
theorem dms_made (w : World) (cs : LL) (G : Nat → Nat) (n : Nat) : (w.alloc (.cells (madeCells #[.slice none 0 0] n) 23)).rowIs w.heap.size 23 n (dmFill cs G 0) := by
  refine ⟨_, heapNew _ _, by rw [size_madeCells], fun i hi => ?_⟩
  unfold dmFill
  simp [madeCells, hi, Nat.mod_one]
theorem dmFill_set {w : World} {b : Nat} {cs : LL} {G : Nat → Nat} {n k g : Nat} (h : w.rowIs b 23 n (dmFill cs G k)) :
    (w.setCell ⟨b, k, none⟩ (.slice (some ⟨g, 0, none⟩) (cs.getD k []).length (cs.getD k []).length)).rowIs b 23 n (dmFill cs (fun i => if i = k then g else G i) (k + 1)) := by
  refine (h.set k _).congr fun j hj => ?_
  unfold dmFill
  by_cases e0 : j = k
  · subst e0; rw [if_pos rfl, if_pos (by omega)]; simp
  rw [if_neg e0]
  by_cases h : j < k
  · rw [if_pos h, if_pos (by omega)]; dsimp only; rw [if_neg e0]
  · rw [if_neg h, if_neg (by omega)]
def DmIn (cs : LL) (G : Nat → Nat) (k b : Nat) (w : World) : Prop := ∀ i, i < k → (b < G i ∧ G i < w.heap.size) ∧ IntsAt w (G i) 0 (cs.getD i []) ∧ FreeZi w (G i) (cs.getD i []).length
theorem DmIn.below {cs : LL} {G : Nat → Nat} {k b : Nat} {w w' : World} (h : DmIn cs G k b w) (hb : Below w.heap.size w w') : DmIn cs G k b w' := fun i hi => by
  obtain ⟨⟨h1, h2⟩, h3, h4⟩ := h i hi
  exact ⟨⟨h1, Nat.lt_of_lt_of_le h2 hb.size⟩, h3.below hb h2, h4.below hb h2⟩
theorem DmIn.set {cs : LL} {G : Nat → Nat} {k b : Nat} {w : World} (h : DmIn cs G k b w) (o : Nat) (v : Value) : DmIn cs G k b (w.setCell ⟨b, o, none⟩ v) := fun i hi => by
  obtain ⟨⟨h1, h2⟩, h3, h4⟩ := h i hi
  exact ⟨⟨h1, by rw [World.size_setCell]; exact h2⟩, h3.set (by omega) _ _, h4.set _ _⟩
theorem DmIn.next {cs : LL} {G : Nat → Nat} {k b g : Nat} {w : World} (h : DmIn cs G k b w) (h1 : b < g ∧ g < w.heap.size) (h2 : IntsAt w g 0 (cs.getD k [])) (h3 : FreeZi w g (cs.getD k []).length) : DmIn cs (fun i => if i = k then g else G i) (k + 1) b w := fun i hi => by
  by_cases e : i = k
  · subst e; simp only [if_true]; exact ⟨h1, h2, h3⟩
  · dsimp only; rw [if_neg e]; exact h i (by omega)
theorem ownDm_of {lo : Nat} {w : World} {b : Nat} {cs : LL} {G : Nat → Nat} (hlo : lo ≤ b) (h : w.rowIs b 23 cs.length (dmFill cs G cs.length)) (hi : DmIn cs G cs.length b w) : OwnDm lo w b cs := by
  refine ⟨hlo, h.lt, fun j _ => h.frozen j, fun i hik => ?_⟩
  obtain ⟨⟨h1, h2⟩, h3, h4⟩ := hi i hik
  refine ⟨G i, ⟨by omega, by omega, h2⟩, ?_, h3, h4⟩
  rw [h.cell (i := i) hik]; unfold dmFill; rw [if_pos hik]

set_option maxHeartbeats 2000000 in
theorem toDms_any (a : Option Addr) (cap : Nat) (cs : LL) (hn : cs.length ≤ 1048576) (hp : ∀ r ∈ cs, DmOK r) (w : World) (hr : ReadsDm w.heap.size w a cs) :
    Calls Try.prog 16 #[.slice a cs.length cap] w fun e w' => e = .returned (.slice (some ⟨w.heap.size, 0, none⟩) cs.length cs.length) ∧ Below w.heap.size w w' ∧ OwnDm w.heap.size w' w.heap.size cs := by
  have hmk := fun w => makeDms cs.length (by omega) w
  have HM : Hid ((w.alloc (.cells (madeCells #[.slice none 0 0] cs.length) 23)).rowIs w.heap.size 23 cs.length (dmFill cs (fun _ => 0) 0)) := dms_made w cs _ cs.length
  have HR : Hid (ReadsDm w.heap.size w a cs) := hr
  have HP : Hid (∀ r ∈ cs, DmOK r) := hp
  clear hr hp
  go_enter Try.func16, Try.ntmps16
  go_wp2
  go_loopw [4] (fun i wr => ∃ (k : Nat) (G : Nat → Nat), k ≤ cs.length ∧ i = .int .i64 (k : Int) ∧ Below w.heap.size w wr ∧ wr.rowIs w.heap.size 23 cs.length (dmFill cs G k) ∧ DmIn cs G k w.heap.size wr) (fun i _ => cs.length - (intOf i).toNat)
  case atStart => exact ⟨0, fun _ => 0, Nat.zero_le _, rfl, below_alloc _ _, HM.out, fun i hi => by omega⟩
  case round =>
    obtain ⟨k, G, hk, rfl, hb, hrow, hin⟩ := hrel
    have HB : Hid (Below w.heap.size w wr) := hb
    have HW : Hid (wr.rowIs w.heap.size 23 cs.length (dmFill cs G k)) := hrow
    have HI : Hid (DmIn cs G k w.heap.size wr) := hin
    clear hb hrow hin
    by_cases hlt : k < cs.length
    · have hlt' : (k : Int) < (cs.length : Int) := by omega
      rcases HR.out with h | ⟨b0, o0, ha, hB0, ia⟩
      · rw [h] at hlt; simp at hlt
      obtain ⟨h, cp, c0, _, hS⟩ := (ia.below HB.out hB0 (Nat.le_refl _)) k hlt
      have hT := toZis_any h cp (cs.getD k []) (getDm HP.out hlt) wr (hS.mono HB.out.size)
      have HN : Hid (∀ g w2, Below wr.heap.size wr w2 → (wr.heap.size ≤ g ∧ g < w2.heap.size) → IntsAt w2 g 0 (cs.getD k []) → FreeZi w2 g (cs.getD k []).length → (∃ G', (w2.setCell ⟨w.heap.size, k, none⟩ (.slice (some ⟨g, 0, none⟩) (cs.getD k []).length (cs.getD k []).length)).rowIs w.heap.size 23 cs.length (dmFill cs G' (k + 1)) ∧
          DmIn cs G' (k + 1) w.heap.size (w2.setCell ⟨w.heap.size, k, none⟩ (.slice (some ⟨g, 0, none⟩) (cs.getD k []).length (cs.getD k []).length))) ∧
          Below w.heap.size w (w2.setCell ⟨w.heap.size, k, none⟩ (.slice (some ⟨g, 0, none⟩) (cs.getD k []).length (cs.getD k []).length)) ∧ (w2.cell? ⟨w.heap.size, k, none⟩).isSome = true ∧ (w2.frozen? ⟨w.heap.size, k, none⟩ = false)) := fun g w2 hb2 hg hs hf => by
        have hw2 := HW.out.of_block (hb2.block _ HW.out.lt)
        have hbg : w.heap.size < g := Nat.lt_of_lt_of_le HW.out.lt hg.1
        have hin := (HI.out.below hb2).next ⟨hbg, hg.2⟩ hs hf
        refine ⟨⟨_, dmFill_set hw2, hin.set _ _⟩, (HB.out.trans (hb2.mono HB.out.size)).setCell (Nat.le_refl _) _, ?_, hw2.frozen k⟩
        rw [hw2.cell hlt]; rfl
      rw [ha]
      clear ia hS
      generalize cs.getD k [] = r at *
      generalize r.length = n at *
      go_wp2_with (go_at_call 15; refine hT.mono ?_; rintro e w2 ⟨rfl, hb2, hg2, hs2, hf2⟩; obtain ⟨n1, n2, n3, n4⟩ := HN.out _ w2 hb2 ⟨Nat.le_refl _, hg2⟩ hs2 hf2; have N1 : Hid (_) := n1; have N2 : Hid (_) := n2; obtain ⟨v0, hv0⟩ := Option.isSome_iff_exists.mp n3; clear n1 n2 n3 hs2 hf2 hb2 hg2)
      obtain ⟨G', m1, m2⟩ := N1.out
      have M1 : Hid _ := m1
      have M2 : Hid _ := m2
      clear m1 m2
      go_roundw
      case rel => exact ⟨k + 1, G', by omega, by go_num, N2.out, M1.out, M2.out⟩
      case measure => simp [intOf]; omega
    · obtain rfl : k = cs.length := by omega
      go_wp2
      go_ret
      exact ⟨rfl, HB.out, ownDm_of (Nat.le_refl _) HW.out HI.out⟩
theorem keepDms {W w1 : World} {b0 b1 p0 q0 : Nat} {c0 d0 : Value} {h k : Option Addr} {ss : List Int} (hb : Below W.heap.size W w1) (x : W.cell? ⟨b0, p0, none⟩ = some c0 ∧ W.cell? ⟨b1, q0, none⟩ = some d0 ∧ b0 < W.heap.size ∧ b1 < W.heap.size ∧ Reads W.heap.size W h ss ∧ Reads W.heap.size W k ss) :
    w1.cell? ⟨b0, p0, none⟩ = some c0 ∧ w1.cell? ⟨b1, q0, none⟩ = some d0 ∧ b0 < w1.heap.size ∧ b1 < w1.heap.size ∧ Reads w1.heap.size w1 h ss ∧ Reads w1.heap.size w1 k ss := by
  obtain ⟨h0, k0, l0, l1, m0, m1⟩ := x
  exact ⟨(hb.cell (p := ⟨b0, p0, none⟩) l0).trans h0, (hb.cell (p := ⟨b1, q0, none⟩) l1).trans k0, Nat.lt_of_lt_of_le l0 hb.size, Nat.lt_of_lt_of_le l1 hb.size, m0.later hb, m1.later hb⟩

set_option maxHeartbeats 2000000 in
theorem eqDms_any (a b : Option Addr) (ca cb : Nat) (cs : LL) (hn : cs.length ≤ 1048576) (hp : ∀ r ∈ cs, DmOK r) (w : World) (ra : ReadsDm w.heap.size w a cs) (rb : ReadsDm w.heap.size w b cs) :
    Calls Try.prog 19 #[.slice a cs.length ca, .slice b cs.length cb] w fun e w' => e = .returned (.bool true) ∧ Below w.heap.size w w' := by
  have HA : Hid (ReadsDm w.heap.size w a cs) := ra
  have HBb : Hid (ReadsDm w.heap.size w b cs) := rb
  have HP : Hid (∀ r ∈ cs, DmOK r) := hp
  clear ra rb hp
  go_enter Try.func19, Try.ntmps19
  go_wp2
  go_loopw [5] (fun i wr => ∃ k : Nat, k ≤ cs.length ∧ i = .int .i64 (k : Int) ∧ Below w.heap.size w wr) (fun i _ => cs.length - (intOf i).toNat)
  case atStart => exact ⟨0, Nat.zero_le _, rfl, Below.refl _ _⟩
  case round =>
    obtain ⟨k, hk, rfl, hb⟩ := hrel
    have HB : Hid (Below w.heap.size w wr) := hb
    clear hb
    by_cases hlt : k < cs.length
    · have hlt' : (k : Int) < (cs.length : Int) := by omega
      rcases HA.out with h | ⟨b0, o0, ha, hB0, ia⟩
      · rw [h] at hlt; simp at hlt
      rcases HBb.out with h | ⟨b1, o1, hbb, hB1, ib⟩
      · rw [h] at hlt; simp at hlt
      obtain ⟨h, cp, c0, _, hS⟩ := (ia.below HB.out hB0 (Nat.le_refl _)) k hlt
      obtain ⟨h', cq, d0, _, hS'⟩ := (ib.below HB.out hB1 (Nat.le_refl _)) k hlt
      have HS : Hid (Reads wr.heap.size wr h (cs.getD k [])) := hS.mono HB.out.size
      have HS' : Hid (Reads wr.heap.size wr h' (cs.getD k [])) := hS'.mono HB.out.size
      have lt0 : b0 < wr.heap.size := Nat.lt_of_lt_of_le hB0 HB.out.size
      have lt1 : b1 < wr.heap.size := Nat.lt_of_lt_of_le hB1 HB.out.size
      have hE : ∀ W, Reads W.heap.size W h (cs.getD k []) → Reads W.heap.size W h' (cs.getD k []) → _ := fun W x y => eqZis_any h h' cp cq (cs.getD k []) (getDm HP.out hlt) W x y
      have HE : Hid _ := hE
      rw [ha, hbb]
      clear ia ib hS hS' hE
      generalize cs.getD k [] = r at *
      generalize hr : r.length = n at *
      clear hr
      go_wp2
      go_region_held3 (fun W => W.cell? ⟨b0, o0 + k, none⟩ = some (.slice h n cp) ∧ W.cell? ⟨b1, o1 + k, none⟩ = some (.slice h' n cq) ∧ b0 < W.heap.size ∧ b1 < W.heap.size ∧ Reads W.heap.size W h r ∧ Reads W.heap.size W h' r) (first | exact ⟨c0, d0, lt0, lt1, HS.out, HS'.out⟩ | exact keepDms (by assumption) (by assumption)) (first | (go_at_call 18; refine (HE.out _ (by assumption) (by assumption)).mono ?_; rintro e w2 ⟨rfl, hb2⟩))
      have HB2 : Hid (Below w.heap.size w w2) := chain HB.out.drew hb2
      go_wp2
      go_roundw
      case rel => exact ⟨k + 1, by omega, by go_num, HB2.out⟩
      case measure => simp [intOf]; omega
    · go_wp2
      go_ret
      exact ⟨rfl, HB.out⟩
def IsDms (w : World) (a : Option Addr) (len cap : Nat) (cs : LL) : Prop := cs.length = len ∧ len ≤ cap ∧ cap ≤ maxLen ∧ (∀ r ∈ cs, DmWide r) ∧ ReadsDm w.heap.size w a cs
theorem openDms {H : Type} {enc : TypeId × Value → H} {w : World} {spare : Nat → Bool} {held : Bool} {fuel : Nat} {a : Option Addr} {len cap : Nat} {x : DataW H × List MemPlace} (h : DataW.trod enc Try.prog w 0 spare held fuel 24 [.slice a len cap] = some x) :
    ∃ rs, IsDms w a len cap rs := by
  rcases open_slice Try.underlying24 h with ⟨hcs, _⟩ | ⟨ad, l, c, m, n, D, Pl, hcs, _, hl, hm, hmm, _, hx⟩
  · simp at hcs
    obtain ⟨rfl, rfl, rfl⟩ := hcs
    exact ⟨[], rfl, Nat.le_refl _, by unfold maxLen; omega, by simp, .inl rfl⟩
  · simp at hcs
    obtain ⟨rfl, rfl, rfl⟩ := hcs
    have hlm : len ≤ m := by rw [hmm]; split <;> omega
    have hc : Try.prog.cellsOf 23 = 1 := by kernel_rfl
    rw [hc] at hx
    haveI : Inhabited (List Int × Option Addr × Nat) := ⟨⟨[], none, 0⟩⟩
    obtain ⟨f, hf⟩ := choose_lt (α := List Int × Option Addr × Nat) (n := len) (p := fun i r => w.cell? ((ad.add (i * 1)).add 0) = some (.slice r.2.1 r.1.length r.2.2) ∧ DmWide r.1 ∧ r.1.length ≤ r.2.2 ∧ Reads w.heap.size w r.2.1 r.1) (fun i hi => by
      obtain ⟨cs', h1, h2⟩ := hx i (by omega)
      obtain ⟨q, len', cp, ss, rfl, hl1, hl2, hl3, hs⟩ := openZisIn h2
      obtain ⟨_, _, hcell⟩ := World.cells?_some h1
      subst hl1
      exact ⟨⟨ss, q, cp⟩, hcell 0 (by simp), Nat.le_trans hl2 hl3, hl2, hs⟩)
    have hg : ∀ i, i < len → ((List.range len).map (fun i => (f i).1)).getD i [] = (f i).1 := fun i hi => by simp [List.getD_eq_getElem?_getD, hi]
    refine ⟨(List.range len).map (fun i => (f i).1), by simp, hl, hm, fun r hr => ?_, ?_⟩
    · obtain ⟨i, hi, rfl⟩ := List.mem_map.mp hr
      exact (hf i (by simpa using hi)).2.1
    · by_cases h0 : len = 0
      · exact .inl (by subst h0; rfl)
      · obtain ⟨b, off, spot⟩ := ad
        have hspot : spot = none := by simpa [Addr.add] using World.cell?_spot (hf 0 (by omega)).1
        subst hspot
        refine .inr ⟨b, off, rfl, ?_, fun i hi => ?_⟩
        · have := (hf 0 (by omega)).1
          rw [Go.WideShapes.add_plain, Go.WideShapes.add_plain] at this
          exact World.block_lt_of_cell? _ _ this
        · have hi' : i < len := by simpa using hi
          obtain ⟨q0, _, z7, z8⟩ := hf i hi'
          rw [Go.WideShapes.add_plain, Go.WideShapes.add_plain, Nat.mul_one, Nat.add_zero] at q0
          rw [hg i hi']
          exact ⟨_, _, q0, z7, z8⟩
end Go.Proofs.Ytlcnhkhkhlpghaa
