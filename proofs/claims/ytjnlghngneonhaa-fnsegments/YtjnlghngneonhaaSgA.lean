/-
  Lists of Segment in memory, each with its list of String; the laws' own szSegmentS.
-/
import Derived.Test.YtjnlghngneonhaaStE
import Derived.Laws.OwnMore
namespace Go.Proofs.Ytjnlghngneonhaa
open Go.ChangeShapes Go.WideShapes Go.ChangeAt Go.RowKit Go.Deep
set_option linter.unusedVariables false

structure CSg where
  nm : ByteArray
  ps : List ByteArray
def zSg : CSg := ⟨ByteArray.empty, []⟩
def SgAt (w : World) (b off : Nat) (h : Option Addr) (cp : Nat) (c : CSg) : Prop :=
  w.cell? ⟨b, off, none⟩ = some (.string c.nm) ∧ w.cell? ⟨b, off + 1, none⟩ = some (.slice h c.ps.length cp)
theorem SgAt.below {B : Nat} {w w' : World} {b off : Nat} {h : Option Addr} {cp : Nat} {c : CSg} (k : SgAt w b off h cp c) (hb : Below B w w') (hB : b < B) : SgAt w' b off h cp c := by
  obtain ⟨h0, h1⟩ := k
  exact ⟨(hb.cell (p := ⟨b, off, none⟩) hB).trans h0, (hb.cell (p := ⟨b, off + 1, none⟩) hB).trans h1⟩
def SgsAt (B : Nat) (w : World) (b off : Nat) (cs : List CSg) : Prop := ∀ i, i < cs.length → ∃ h cp, SgAt w b (off + i * 2) h cp (cs.getD i zSg) ∧ (cs.getD i zSg).ps.length ≤ cp ∧ ReadsS B w h (cs.getD i zSg).ps
def ReadsSg (B : Nat) (w : World) (a : Option Addr) (cs : List CSg) : Prop := cs = [] ∨ ∃ b off, a = some ⟨b, off, none⟩ ∧ b < B ∧ SgsAt B w b off cs
theorem SgsAt.below {B D : Nat} {w w' : World} {b off : Nat} {cs : List CSg} (h : SgsAt B w b off cs) (hb : Below D w w') (hB : b < D) (hD : B ≤ D) : SgsAt B w' b off cs := fun i hi => by
  obtain ⟨h', cp, k, k', k''⟩ := h i hi
  exact ⟨h', cp, k.below hb hB, k', k''.below (hb.mono hD)⟩
theorem SgsAt.mono {B B' : Nat} {w : World} {b off : Nat} {cs : List CSg} (h : SgsAt B w b off cs) (hb : B ≤ B') : SgsAt B' w b off cs := fun i hi => by
  obtain ⟨h', cp, k, k', k''⟩ := h i hi
  exact ⟨h', cp, k, k', k''.mono hb⟩
theorem ReadsSg.below {B : Nat} {w w' : World} {a : Option Addr} {cs : List CSg} (h : ReadsSg B w a cs) (hb : Below B w w') : ReadsSg B w' a cs := by
  rcases h with h | ⟨b, off, ha, hB, hi⟩
  · exact .inl h
  · exact .inr ⟨b, off, ha, hB, hi.below hb hB (Nat.le_refl _)⟩
theorem ReadsSg.mono {B B' : Nat} {w : World} {a : Option Addr} {cs : List CSg} (h : ReadsSg B w a cs) (hb : B ≤ B') : ReadsSg B' w a cs := by
  rcases h with h | ⟨b, off, ha, hB, hi⟩
  · exact .inl h
  · exact .inr ⟨b, off, ha, by omega, hi.mono hb⟩
theorem ReadsSg.later {w w' : World} {a : Option Addr} {cs : List CSg} (h : ReadsSg w.heap.size w a cs) (hb : Below w.heap.size w w') : ReadsSg w'.heap.size w' a cs := (h.below hb).mono hb.size
theorem getSg {p : CSg → Prop} {cs : List CSg} (h : ∀ r ∈ cs, p r) {k : Nat} (hk : k < cs.length) : p (cs.getD k zSg) := by
  have e : cs.getD k zSg = cs[k] := by simp [List.getD_eq_getElem?_getD, hk]
  rw [e]; exact h _ (List.getElem_mem _)
theorem take_nextSg {p : CSg → Prop} {rs : List CSg} {k : Nat} (h : k < rs.length) (ha : ∀ r ∈ rs.take k, p r) (hk : p (rs.getD k zSg)) : ∀ r ∈ rs.take (k + 1), p r := fun r hr => by
  rw [List.take_succ_eq_append_getElem h] at hr
  rcases List.mem_append.mp hr with h' | h'
  · exact ha r h'
  · simp at h'
    have e : rs.getD k zSg = rs[k] := by simp [List.getD_eq_getElem?_getD, h]
    rw [h', ← e]; exact hk
def SgOK (c : CSg) : Prop := c.nm.size ≤ 2000000 ∧ c.ps.length ≤ 1048576 ∧ ∀ s ∈ c.ps, s.size ≤ 2000000
def SgWide (c : CSg) : Prop := c.nm.size ≤ maxLen ∧ c.ps.length ≤ maxLen ∧ ∀ s ∈ c.ps, s.size ≤ maxLen
def totSg (cs : List CSg) : Nat := (cs.map (fun r => r.ps.length)).sum

def SzSg (c : CSg) (x0 x : Int) : Prop := x < 0 ∨ (0 ≤ x ∧ x + (c.ps.length : Int) ≤ x0 ∧ SgOK c)
set_option maxHeartbeats 1000000 in
theorem szSg_any (c : CSg) (h : Option Addr) (cp : Nat) (hW : SgWide c) (l : Int) (hl : 0 ≤ l) (hl' : l ≤ 1048576) (w : World) (hr : ReadsS w.heap.size w h c.ps) :
    Calls Try.prog 25 #[.agg #[.string c.nm, .slice h c.ps.length cp], .int .i64 l] w fun e w' => (∃ x : Int, e = .returned (.int .i64 x) ∧ SzSg c l x) ∧ Below w.heap.size w w' := by
  obtain ⟨h1, h2, h3⟩ := hW
  have HR : Hid (ReadsS w.heap.size w h c.ps) := hr
  have HZ : Hid (∀ x0 w, 0 ≤ x0 → x0 ≤ 1048576 → ReadsS w.heap.size w h c.ps → Calls Try.prog 45 #[.slice h c.ps.length cp, .int .i64 x0] w fun e w' => (∃ x : Int, e = .returned (.int .i64 x) ∧ SzS c.ps x0 x) ∧ w' = w) := fun x0 w p q r => szStrs_any h cp c.ps h2 h3 x0 p q w r
  have HO : Hid (∀ x y : Int, 0 ≤ y → y ≤ 1048576 → (c.nm.size : Int) ≤ 1048576 → 0 ≤ x → SzS c.ps y x → x + (c.ps.length : Int) ≤ y ∧ SgOK c) := fun x y a1 a2 a3 a4 a5 => by
    rcases a5 with a5 | ⟨b1, b2, b4⟩
    · omega
    · exact ⟨b2, by omega, by omega, b4⟩
  clear hr h3
  clear h2
  obtain ⟨nm, ps⟩ := c
  dsimp only at *
  generalize hN : ps.length = n at *
  unfold maxLen at h1
  have hwr : IntKind.i64.wrap (l - (nm.size : Int)) = l - (nm.size : Int) := wrap_id _ (by omega) (by omega)
  by_cases c1 : l < (nm.size : Int)
  · go_enter Try.func25, Try.ntmps25
    go_wp2
    go_ret
    exact ⟨⟨-1, rfl, .inl (by omega)⟩, below_alloc _ _⟩
  · go_enter Try.func25, Try.ntmps25
    go_wp2_with (go_at_call 45; refine (HZ.out _ _ (by omega) (by omega) (HR.out.later (below_alloc _ _))).mono ?_; rintro e w1 ⟨⟨x, rfl, hx⟩, rfl⟩; have HX : Hid _ := hx; clear hx)
    · go_ret
      exact ⟨⟨-1, rfl, .inl (by omega)⟩, below_alloc _ _⟩
    · have hx0 : 0 ≤ x := by omega
      obtain ⟨k1, k2⟩ := HO.out x _ (by omega) (by omega) (by omega) hx0 HX.out
      have K2 : Hid (SgOK _) := k2
      clear k2
      go_wp2
      go_ret
      exact ⟨⟨x, rfl, .inr ⟨hx0, by show x + (ps.length : Int) ≤ l; rw [hN]; omega, K2.out⟩⟩, below_alloc _ _⟩


def SzSgs (cs : List CSg) (w : World) (e : Ending) (w' : World) : Prop := ∃ x : Int, e = .returned (.int .i64 x) ∧ (x < 0 ∨ (0 ≤ x ∧ x ≤ 1048576 ∧ cs.length ≤ 1048576 ∧ totSg cs ≤ 1048576 ∧ ∀ r ∈ cs, SgOK r)) ∧ Below w.heap.size w w'
set_option maxHeartbeats 1000000 in
theorem szSgs_any (a : Option Addr) (cap : Nat) (cs : List CSg) (hl : cs.length ≤ maxLen) (hp : ∀ r ∈ cs, SgWide r) (x0 : Int) (hx0 : 0 ≤ x0) (hx1 : x0 ≤ 1048576) (w : World) (hr : ReadsSg w.heap.size w a cs) :
    Calls Try.prog 11 #[.slice a cs.length cap, .int .i64 x0] w (SzSgs cs w) := by
  have HR : Hid (ReadsSg w.heap.size w a cs) := hr
  have HP : Hid (∀ r ∈ cs, SgWide r) := hp
  clear hr hp
  unfold maxLen at hl
  have hwr : IntKind.i64.wrap (x0 - (cs.length : Int)) = x0 - (cs.length : Int) := wrap_id _ (by omega) (by omega)
  by_cases c1 : x0 < (cs.length : Int)
  · go_enter Try.func11, Try.ntmps11
    go_wp2
    go_ret
    exact ⟨-1, rfl, .inl (by omega), Below.refl _ _⟩
  · go_enter Try.func11, Try.ntmps11
    go_wp2
    go_loopw [1, 5] (fun l c wr => ∃ (k : Nat) (x : Int), k ≤ cs.length ∧ c = .int .i64 (k : Int) ∧ l = .int .i64 x ∧ 0 ≤ x ∧ x + (totSg (cs.take k) : Int) ≤ 1048576 ∧ (∀ r ∈ cs.take k, SgOK r) ∧ Below w.heap.size w wr) (fun _ c _ => cs.length - (intOf c).toNat)
    case atStart => exact ⟨0, x0 - (cs.length : Int), Nat.zero_le _, rfl, rfl, by omega, by simp [totSg]; omega, by simp, Below.refl _ _⟩
    case round =>
      obtain ⟨k, x, hk, rfl, rfl, hx0, hx2, hall, hb⟩ := hrel
      have hx1 : x ≤ 1048576 := by omega
      have HX2 : Hid (x + (totSg (cs.take k) : Int) ≤ 1048576) := hx2
      clear hx2
      have HA : Hid (∀ r ∈ cs.take k, SgOK r) := hall
      have HB : Hid (Below w.heap.size w wr) := hb
      clear hall hb
      by_cases hlt : k < cs.length
      · have hlt' : (k : Int) < (cs.length : Int) := by omega
        rcases HR.out with h | ⟨b0, o0, ha, hB0, ia⟩
        · rw [h] at hlt; simp at hlt
        obtain ⟨h, cp, ⟨c0, c1⟩, _, hS⟩ := (ia.below HB.out hB0 (Nat.le_refl _)) k hlt
        have HN : Hid (SgOK (cs.getD k zSg) → ∀ r ∈ cs.take (k + 1), SgOK r) := fun q => take_nextSg hlt HA.out q
        have HSum : Hid (totSg (cs.take (k + 1)) = totSg (cs.take k) + (cs.getD k zSg).ps.length) := by
          have e : cs.getD k zSg = cs[k] := by simp [List.getD_eq_getElem?_getD, hlt]
          show _ = _
          unfold totSg
          rw [List.take_succ_eq_append_getElem hlt, e, List.map_append, List.sum_append]; simp only [List.map_cons, List.map_nil, List.sum_cons, List.sum_nil, Nat.add_zero]
        have hsz := szSg_any (cs.getD k zSg) h cp (getSg HP.out hlt) x hx0 hx1 wr (hS.mono HB.out.size)
        rw [ha]
        clear ia hS
        generalize cs.getD k zSg = r at *
        obtain ⟨nm, ps⟩ := r
        dsimp only at c0 c1 HN hsz HSum
        have HY2 : Hid (∀ y : Int, SzSg ⟨nm, ps⟩ x y → y < 0 ∨ (0 ≤ y ∧ y ≤ x ∧ y + (totSg (cs.take (k + 1)) : Int) ≤ 1048576 ∧ SgOK ⟨nm, ps⟩)) := fun y h => by
          rcases h with h | ⟨h1, h2, h3⟩
          · exact .inl h
          · dsimp only at h2
            have := HX2.out
            have := HSum.out
            exact .inr ⟨h1, by omega, by omega, h3⟩
        clear HSum
        generalize ps.length = n at *
        go_wp2_with (go_at_call 25; refine hsz.mono ?_; rintro e w2 ⟨⟨y, rfl, hy⟩, hb2⟩; have HY : Hid _ := hy; have HB2 : Hid (Below w.heap.size w w2) := chain HB.out hb2; clear hy hb2)
        · go_ret
          exact ⟨-1, rfl, .inl (by omega), HB2.out⟩
        · rcases HY2.out y HY.out with h | ⟨y0, y1, y2, z⟩
          · omega
          have HN1 : Hid (∀ r ∈ cs.take (k + 1), SgOK r) := HN.out z
          have HN2 : Hid (y + (totSg (cs.take (k + 1)) : Int) ≤ 1048576) := y2
          clear z y2
          go_roundw
          case rel => exact ⟨k + 1, y, by omega, by go_num, rfl, by omega, HN2.out, HN1.out, HB2.out⟩
          case measure => simp [intOf]; omega
      · have hle : (cs.length : Int) ≤ (k : Int) := by omega
        have HE : Hid (∀ r ∈ cs, SgOK r) := by
          have := HA.out
          rw [List.take_of_length_le (by omega)] at this
          exact this
        have HE2 : Hid (totSg cs ≤ 1048576) := by
          have := HX2.out
          rw [List.take_of_length_le (by omega)] at this
          show _ ≤ _
          omega
        go_wp2
        go_ret
        exact ⟨x, rfl, .inr ⟨hx0, hx1, by omega, HE2.out, HE.out⟩, HB.out⟩

end Go.Proofs.Ytjnlghngneonhaa
