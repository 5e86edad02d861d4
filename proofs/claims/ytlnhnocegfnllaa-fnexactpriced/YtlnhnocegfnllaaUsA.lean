/-
  Lists of uses in memory, each with its list of units; the laws' own szUseS, toUseS.
-/
import Derived.Test.YtlnhnocegfnllaaLists
import Derived.Test.YtlnhnocegfnllaaDlE
namespace Go.Proofs.Ytlnhnocegfnllaa
open Go.ChangeShapes Go.WideShapes Go.ChangeAt Go.RowKit Go.Deep
set_option linter.unusedVariables false

structure CUs where
  dl : Int
  sv : Int
  us : List Int
def zUs : CUs := ⟨0, 0, []⟩
/-- One lies in block b from off on, three cells; h and cp are where its list of units is. -/
def UsAt (w : World) (b off : Nat) (h : Option Addr) (cp : Nat) (c : CUs) : Prop :=
  w.cell? ⟨b, off, none⟩ = some (.int .i64 c.dl) ∧ w.cell? ⟨b, off + 1, none⟩ = some (.int .i64 c.sv) ∧ w.cell? ⟨b, off + 2, none⟩ = some (.slice h c.us.length cp)
theorem UsAt.below {B : Nat} {w w' : World} {b off : Nat} {h : Option Addr} {cp : Nat} {c : CUs} (k : UsAt w b off h cp c) (hb : Below B w w') (hB : b < B) : UsAt w' b off h cp c := by
  obtain ⟨h0, h1, h2⟩ := k
  exact ⟨(hb.cell (p := ⟨b, off, none⟩) hB).trans h0, (hb.cell (p := ⟨b, off + 1, none⟩) hB).trans h1, (hb.cell (p := ⟨b, off + 2, none⟩) hB).trans h2⟩
theorem UsAt.set {w : World} {b off : Nat} {h : Option Addr} {cp : Nat} {c : CUs} (k : UsAt w b off h cp c) {d : Nat} (hne : d ≠ b) (o : Nat) (v : Value) : UsAt (w.setCell ⟨d, o, none⟩ v) b off h cp c := by
  obtain ⟨h0, h1, h2⟩ := k
  exact ⟨(World.cell?_setCell_far _ _ _ _ hne).trans h0, (World.cell?_setCell_far _ _ _ _ hne).trans h1, (World.cell?_setCell_far _ _ _ _ hne).trans h2⟩
def UssAt (B : Nat) (w : World) (b off : Nat) (cs : List CUs) : Prop := ∀ i, i < cs.length → ∃ h cp, UsAt w b (off + i * 3) h cp (cs.getD i zUs) ∧ (cs.getD i zUs).us.length ≤ cp ∧ Reads B w h (cs.getD i zUs).us
def ReadsUs (B : Nat) (w : World) (a : Option Addr) (cs : List CUs) : Prop := cs = [] ∨ ∃ b off, a = some ⟨b, off, none⟩ ∧ b < B ∧ UssAt B w b off cs
theorem UssAt.below {B D : Nat} {w w' : World} {b off : Nat} {cs : List CUs} (h : UssAt B w b off cs) (hb : Below D w w') (hB : b < D) (hD : B ≤ D) : UssAt B w' b off cs := fun i hi => by
  obtain ⟨h', cp, k, k', k''⟩ := h i hi
  exact ⟨h', cp, k.below hb hB, k', k''.below (hb.mono hD)⟩
theorem UssAt.mono {B B' : Nat} {w : World} {b off : Nat} {cs : List CUs} (h : UssAt B w b off cs) (hb : B ≤ B') : UssAt B' w b off cs := fun i hi => by
  obtain ⟨h', cp, k, k', k''⟩ := h i hi
  exact ⟨h', cp, k, k', k''.mono hb⟩
theorem ReadsUs.below {B : Nat} {w w' : World} {a : Option Addr} {cs : List CUs} (h : ReadsUs B w a cs) (hb : Below B w w') : ReadsUs B w' a cs := by
  rcases h with h | ⟨b, off, ha, hB, hi⟩
  · exact .inl h
  · exact .inr ⟨b, off, ha, hB, hi.below hb hB (Nat.le_refl _)⟩
theorem ReadsUs.mono {B B' : Nat} {w : World} {a : Option Addr} {cs : List CUs} (h : ReadsUs B w a cs) (hb : B ≤ B') : ReadsUs B' w a cs := by
  rcases h with h | ⟨b, off, ha, hB, hi⟩
  · exact .inl h
  · exact .inr ⟨b, off, ha, by omega, hi.mono hb⟩
theorem ReadsUs.later {w w' : World} {a : Option Addr} {cs : List CUs} (h : ReadsUs w.heap.size w a cs) (hb : Below w.heap.size w w') : ReadsUs w'.heap.size w' a cs := (h.below hb).mono hb.size
theorem Reads.later {w w' : World} {a : Option Addr} {xs : List Int} (h : Reads w.heap.size w a xs) (hb : Below w.heap.size w w') : Reads w'.heap.size w' a xs := (h.below hb).mono hb.size
theorem getUs {p : CUs → Prop} {cs : List CUs} (h : ∀ r ∈ cs, p r) {k : Nat} (hk : k < cs.length) : p (cs.getD k zUs) := by
  have e : cs.getD k zUs = cs[k] := by simp [List.getD_eq_getElem?_getD, hk]
  rw [e]; exact h _ (List.getElem_mem _)
theorem take_nextUs {p : CUs → Prop} {rs : List CUs} {k : Nat} (h : k < rs.length) (ha : ∀ r ∈ rs.take k, p r) (hk : p (rs.getD k zUs)) : ∀ r ∈ rs.take (k + 1), p r := fun r hr => by
  rw [List.take_succ_eq_append_getElem h] at hr
  rcases List.mem_append.mp hr with h' | h'
  · exact ha r h'
  · simp at h'
    have e : rs.getD k zUs = rs[k] := by simp [List.getD_eq_getElem?_getD, h]
    rw [h', ← e]; exact hk
def UsOK (c : CUs) : Prop := c.us.length ≤ 1048576
def UsWide (c : CUs) : Prop := c.us.length ≤ maxLen


def totU (cs : List CUs) : Nat := (cs.map (fun r => r.us.length)).sum
def SzU (c : CUs) (x0 x : Int) : Prop := x < 0 ∨ (0 ≤ x ∧ x + (c.us.length : Int) ≤ x0 ∧ UsOK c)
theorem szInts_any (a : Option Addr) (n cap : Nat) (hl : n ≤ maxLen) (x0 : Int) (hx0 : 0 ≤ x0) (hx1 : x0 ≤ 1048576) (w : World) :
    Calls Try.prog 43 #[.slice a n cap, .int .i64 x0] w fun e w' => (∃ y : Int, e = .returned (.int .i64 y) ∧ (y < 0 ∨ (0 ≤ y ∧ y + (n : Int) ≤ x0 ∧ n ≤ 1048576))) ∧ w' = w := by
  unfold maxLen at hl
  have hwr : IntKind.i64.wrap (x0 - (n : Int)) = x0 - (n : Int) := wrap_id _ (by omega) (by omega)
  by_cases h : x0 - (n : Int) < 0
  · go_enter Try.func43, Try.ntmps43
    go_wp2
    go_ret
    exact ⟨⟨-1, rfl, .inl (by omega)⟩, rfl⟩
  · have h' : 0 ≤ x0 - (n : Int) := by omega
    go_enter Try.func43, Try.ntmps43
    go_wp2
    go_ret
    exact ⟨⟨_, rfl, .inr ⟨h', by omega, by omega⟩⟩, rfl⟩
set_option maxHeartbeats 1000000 in
theorem szUs_any (c : CUs) (h : Option Addr) (cp : Nat) (hW : UsWide c) (l : Int) (hl : 0 ≤ l) (hl' : l ≤ 1048576) (w : World) :
    Calls Try.prog 23 #[.agg #[.int .i64 c.dl, .int .i64 c.sv, .slice h c.us.length cp], .int .i64 l] w fun e w' => (∃ x : Int, e = .returned (.int .i64 x) ∧ SzU c l x) ∧ Below w.heap.size w w' := by
  have HZ : Hid (∀ W, Calls Try.prog 43 #[.slice h c.us.length cp, .int .i64 l] W fun e w' => (∃ y : Int, e = .returned (.int .i64 y) ∧ (y < 0 ∨ (0 ≤ y ∧ y + (c.us.length : Int) ≤ l ∧ c.us.length ≤ 1048576))) ∧ w' = W) := fun W => szInts_any h c.us.length cp hW l hl hl' W
  have HO : Hid (∀ x : Int, (x < 0 ∨ (0 ≤ x ∧ x + (c.us.length : Int) ≤ l ∧ c.us.length ≤ 1048576)) → SzU c l x) := fun x a => a
  clear hW
  obtain ⟨dl, sv, us⟩ := c
  dsimp only at *
  generalize us.length = n at *
  go_enter Try.func23, Try.ntmps23
  go_wp2_with (go_at_call 43; refine (HZ.out _).mono ?_; rintro e w1 ⟨⟨x, rfl, hx⟩, rfl⟩; have HX : Hid _ := HO.out x hx; clear hx)
  · go_ret
    exact ⟨⟨-1, rfl, .inl (by omega)⟩, below_alloc _ _⟩
  · go_wp2
    go_ret
    exact ⟨⟨x, rfl, HX.out⟩, below_alloc _ _⟩

def SzUs (cs : List CUs) (w : World) (e : Ending) (w' : World) : Prop := ∃ x : Int, e = .returned (.int .i64 x) ∧ (x < 0 ∨ (0 ≤ x ∧ x ≤ 1048576 ∧ cs.length ≤ 1048576 ∧ totU cs ≤ 1048576 ∧ ∀ r ∈ cs, UsOK r)) ∧ Below w.heap.size w w'
set_option maxHeartbeats 1000000 in
theorem szUss_any (a : Option Addr) (cap : Nat) (cs : List CUs) (hl : cs.length ≤ maxLen) (hp : ∀ r ∈ cs, UsWide r) (x0 : Int) (hx0 : 0 ≤ x0) (hx1 : x0 ≤ 1048576) (w : World) (hr : ReadsUs w.heap.size w a cs) :
    Calls Try.prog 6 #[.slice a cs.length cap, .int .i64 x0] w (SzUs cs w) := by
  have HR : Hid (ReadsUs w.heap.size w a cs) := hr
  have HP : Hid (∀ r ∈ cs, UsWide r) := hp
  clear hr hp
  unfold maxLen at hl
  have hwr : IntKind.i64.wrap (x0 - (cs.length : Int)) = x0 - (cs.length : Int) := wrap_id _ (by omega) (by omega)
  by_cases c1 : x0 < (cs.length : Int)
  · go_enter Try.func6, Try.ntmps6
    go_wp2
    go_ret
    exact ⟨-1, rfl, .inl (by omega), Below.refl _ _⟩
  · go_enter Try.func6, Try.ntmps6
    go_wp2
    go_loopw [1, 5] (fun l c wr => ∃ (k : Nat) (x : Int), k ≤ cs.length ∧ c = .int .i64 (k : Int) ∧ l = .int .i64 x ∧ 0 ≤ x ∧ x + (totU (cs.take k) : Int) ≤ 1048576 ∧ (∀ r ∈ cs.take k, UsOK r) ∧ Below w.heap.size w wr) (fun _ c _ => cs.length - (intOf c).toNat)
    case atStart => exact ⟨0, x0 - (cs.length : Int), Nat.zero_le _, rfl, rfl, by omega, by simp [totU]; omega, by simp, Below.refl _ _⟩
    case round =>
      obtain ⟨k, x, hk, rfl, rfl, hx0, hx2, hall, hb⟩ := hrel
      have hx1 : x ≤ 1048576 := by omega
      have HX2 : Hid (x + (totU (cs.take k) : Int) ≤ 1048576) := hx2
      clear hx2
      have HA : Hid (∀ r ∈ cs.take k, UsOK r) := hall
      have HB : Hid (Below w.heap.size w wr) := hb
      clear hall hb
      by_cases hlt : k < cs.length
      · have hlt' : (k : Int) < (cs.length : Int) := by omega
        rcases HR.out with h | ⟨b0, o0, ha, hB0, ia⟩
        · rw [h] at hlt; simp at hlt
        obtain ⟨h, cp, ⟨c0, c1', c2⟩, _, hS⟩ := (ia.below HB.out hB0 (Nat.le_refl _)) k hlt
        have HN : Hid (UsOK (cs.getD k zUs) → ∀ r ∈ cs.take (k + 1), UsOK r) := fun q => take_nextUs hlt HA.out q
        have HSum : Hid (totU (cs.take (k + 1)) = totU (cs.take k) + (cs.getD k zUs).us.length) := by
          have e : cs.getD k zUs = cs[k] := by simp [List.getD_eq_getElem?_getD, hlt]
          show _ = _
          unfold totU
          rw [List.take_succ_eq_append_getElem hlt, e, List.map_append, List.sum_append]; simp only [List.map_cons, List.map_nil, List.sum_cons, List.sum_nil, Nat.add_zero]
        have hsz := szUs_any (cs.getD k zUs) h cp (getUs HP.out hlt) x hx0 hx1 wr
        rw [ha]
        clear ia hS
        generalize cs.getD k zUs = r at *
        obtain ⟨dl, sv, us⟩ := r
        dsimp only at c0 c1' c2 HN hsz HSum
        have HY2 : Hid (∀ y : Int, SzU ⟨dl, sv, us⟩ x y → y < 0 ∨ (0 ≤ y ∧ y ≤ x ∧ y + (totU (cs.take (k + 1)) : Int) ≤ 1048576 ∧ UsOK ⟨dl, sv, us⟩)) := fun y h => by
          rcases h with h | ⟨h1, h2, h3⟩
          · exact .inl h
          · dsimp only at h2
            have := HX2.out
            have := HSum.out
            exact .inr ⟨h1, by omega, by omega, h3⟩
        clear HSum
        generalize us.length = n at *
        go_wp2_with (go_at_call 23; refine hsz.mono ?_; rintro e w2 ⟨⟨y, rfl, hy⟩, hb2⟩; have HY : Hid _ := hy; have HB2 : Hid (Below w.heap.size w w2) := chain HB.out hb2; clear hy hb2)
        · go_ret
          exact ⟨-1, rfl, .inl (by omega), HB2.out⟩
        · rcases HY2.out y HY.out with h | ⟨y0, y1, y2, z⟩
          · omega
          have HN1 : Hid (∀ r ∈ cs.take (k + 1), UsOK r) := HN.out z
          have HN2 : Hid (y + (totU (cs.take (k + 1)) : Int) ≤ 1048576) := y2
          clear z y2
          go_roundw
          case rel => exact ⟨k + 1, y, by omega, by go_num, rfl, by omega, HN2.out, HN1.out, HB2.out⟩
          case measure => simp [intOf]; omega
      · have hle : (cs.length : Int) ≤ (k : Int) := by omega
        have HE : Hid (∀ r ∈ cs, UsOK r) := by
          have := HA.out
          rw [List.take_of_length_le (by omega)] at this
          exact this
        have HE2 : Hid (totU cs ≤ 1048576) := by
          have := HX2.out
          rw [List.take_of_length_le (by omega)] at this
          show _ ≤ _
          omega
        go_wp2
        go_ret
        exact ⟨x, rfl, .inr ⟨hx0, hx1, by omega, HE2.out, HE.out⟩, HB.out⟩

end Go.Proofs.Ytlnhnocegfnllaa
