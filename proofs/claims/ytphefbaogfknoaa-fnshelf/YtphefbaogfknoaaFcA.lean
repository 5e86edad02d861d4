/-
  Lists of Facing in memory, each with its list of Int; the laws' own szFacingS.
-/
import Derived.Test.YtphefbaogfknoaaZiE
import Derived.Laws.OwnMore
namespace Go.Proofs.Ytphefbaogfknoaa
open Go.ChangeShapes Go.WideShapes Go.ChangeAt Go.RowKit Go.Deep
set_option linter.unusedVariables false

structure CFc where
  nm : ByteArray
  wd : Int
  ls : Int
  gs : List Int
def zFc : CFc := ⟨ByteArray.empty, 0, 0, []⟩
def FcAt (w : World) (b off : Nat) (h : Option Addr) (cp : Nat) (c : CFc) : Prop :=
  w.cell? ⟨b, off, none⟩ = some (.string c.nm) ∧ w.cell? ⟨b, off + 1, none⟩ = some (.int .i64 c.wd) ∧ w.cell? ⟨b, off + 2, none⟩ = some (.int .i64 c.ls) ∧ w.cell? ⟨b, off + 3, none⟩ = some (.slice h c.gs.length cp)
theorem FcAt.below {B : Nat} {w w' : World} {b off : Nat} {h : Option Addr} {cp : Nat} {c : CFc} (k : FcAt w b off h cp c) (hb : Below B w w') (hB : b < B) : FcAt w' b off h cp c := by
  obtain ⟨h0, h1, h2, h3⟩ := k
  exact ⟨(hb.cell (p := ⟨b, off, none⟩) hB).trans h0, (hb.cell (p := ⟨b, off + 1, none⟩) hB).trans h1, (hb.cell (p := ⟨b, off + 2, none⟩) hB).trans h2, (hb.cell (p := ⟨b, off + 3, none⟩) hB).trans h3⟩
def FcsAt (B : Nat) (w : World) (b off : Nat) (cs : List CFc) : Prop := ∀ i, i < cs.length → ∃ h cp, FcAt w b (off + i * 4) h cp (cs.getD i zFc) ∧ (cs.getD i zFc).gs.length ≤ cp ∧ Reads B w h (cs.getD i zFc).gs
def ReadsFc (B : Nat) (w : World) (a : Option Addr) (cs : List CFc) : Prop := cs = [] ∨ ∃ b off, a = some ⟨b, off, none⟩ ∧ b < B ∧ FcsAt B w b off cs
theorem FcsAt.below {B D : Nat} {w w' : World} {b off : Nat} {cs : List CFc} (h : FcsAt B w b off cs) (hb : Below D w w') (hB : b < D) (hD : B ≤ D) : FcsAt B w' b off cs := fun i hi => by
  obtain ⟨h', cp, k, k', k''⟩ := h i hi
  exact ⟨h', cp, k.below hb hB, k', k''.below (hb.mono hD)⟩
theorem FcsAt.mono {B B' : Nat} {w : World} {b off : Nat} {cs : List CFc} (h : FcsAt B w b off cs) (hb : B ≤ B') : FcsAt B' w b off cs := fun i hi => by
  obtain ⟨h', cp, k, k', k''⟩ := h i hi
  exact ⟨h', cp, k, k', k''.mono hb⟩
theorem ReadsFc.below {B : Nat} {w w' : World} {a : Option Addr} {cs : List CFc} (h : ReadsFc B w a cs) (hb : Below B w w') : ReadsFc B w' a cs := by
  rcases h with h | ⟨b, off, ha, hB, hi⟩
  · exact .inl h
  · exact .inr ⟨b, off, ha, hB, hi.below hb hB (Nat.le_refl _)⟩
theorem ReadsFc.mono {B B' : Nat} {w : World} {a : Option Addr} {cs : List CFc} (h : ReadsFc B w a cs) (hb : B ≤ B') : ReadsFc B' w a cs := by
  rcases h with h | ⟨b, off, ha, hB, hi⟩
  · exact .inl h
  · exact .inr ⟨b, off, ha, by omega, hi.mono hb⟩
theorem ReadsFc.later {w w' : World} {a : Option Addr} {cs : List CFc} (h : ReadsFc w.heap.size w a cs) (hb : Below w.heap.size w w') : ReadsFc w'.heap.size w' a cs := (h.below hb).mono hb.size
theorem Reads.later {w w' : World} {a : Option Addr} {cs : List Int} (h : Reads w.heap.size w a cs) (hb : Below w.heap.size w w') : Reads w'.heap.size w' a cs := (h.below hb).mono hb.size
theorem getFc {p : CFc → Prop} {cs : List CFc} (h : ∀ r ∈ cs, p r) {k : Nat} (hk : k < cs.length) : p (cs.getD k zFc) := by
  have e : cs.getD k zFc = cs[k] := by simp [List.getD_eq_getElem?_getD, hk]
  rw [e]; exact h _ (List.getElem_mem _)
theorem take_nextFc {p : CFc → Prop} {rs : List CFc} {k : Nat} (h : k < rs.length) (ha : ∀ r ∈ rs.take k, p r) (hk : p (rs.getD k zFc)) : ∀ r ∈ rs.take (k + 1), p r := fun r hr => by
  rw [List.take_succ_eq_append_getElem h] at hr
  rcases List.mem_append.mp hr with h' | h'
  · exact ha r h'
  · simp at h'
    have e : rs.getD k zFc = rs[k] := by simp [List.getD_eq_getElem?_getD, h]
    rw [h', ← e]; exact hk
def FcOK (c : CFc) : Prop := c.nm.size ≤ 2000000 ∧ c.gs.length ≤ 1048576
def FcWide (c : CFc) : Prop := c.nm.size ≤ maxLen ∧ c.gs.length ≤ maxLen
def totFc (cs : List CFc) : Nat := (cs.map (fun r => r.gs.length)).sum

def SzFc (c : CFc) (x0 x : Int) : Prop := x < 0 ∨ (0 ≤ x ∧ x + (c.gs.length : Int) ≤ x0 ∧ FcOK c)
set_option maxHeartbeats 1000000 in
theorem szFc_any (c : CFc) (h : Option Addr) (cp : Nat) (hW : FcWide c) (l : Int) (hl : 0 ≤ l) (hl' : l ≤ 1048576) (w : World) :
    Calls Try.prog 42 #[.agg #[.string c.nm, .int .i64 c.wd, .int .i64 c.ls, .slice h c.gs.length cp], .int .i64 l] w fun e w' => (∃ x : Int, e = .returned (.int .i64 x) ∧ SzFc c l x) ∧ Below w.heap.size w w' := by
  obtain ⟨h1, h2⟩ := hW
  have HZ : Hid (∀ x0 w, 0 ≤ x0 → x0 ≤ 1048576 → Calls Try.prog 62 #[.slice h c.gs.length cp, .int .i64 x0] w fun e w' => (∃ y : Int, e = .returned (.int .i64 y) ∧ (y < 0 ∨ (0 ≤ y ∧ y + (c.gs.length : Int) ≤ x0))) ∧ w' = w) := fun x0 w p q => szZis_any h cp c.gs h2 x0 p q w
  have HO : Hid (∀ x y : Int, 0 ≤ y → y ≤ 1048576 → (c.nm.size : Int) ≤ 1048576 → 0 ≤ x → (x < 0 ∨ (0 ≤ x ∧ x + (c.gs.length : Int) ≤ y)) → x + (c.gs.length : Int) ≤ y ∧ FcOK c) := fun x y a1 a2 a3 a4 a5 => by
    rcases a5 with a5 | ⟨b1, b2⟩
    · omega
    · exact ⟨b2, by omega, by omega⟩
  clear h2
  obtain ⟨nm, wd, ls, gs⟩ := c
  dsimp only at *
  generalize hN : gs.length = n at *
  unfold maxLen at h1
  have hwr : IntKind.i64.wrap (l - (nm.size : Int)) = l - (nm.size : Int) := wrap_id _ (by omega) (by omega)
  by_cases c1 : l < (nm.size : Int)
  · go_enter Try.func42, Try.ntmps42
    go_wp2
    go_ret
    exact ⟨⟨-1, rfl, .inl (by omega)⟩, below_alloc _ _⟩
  · go_enter Try.func42, Try.ntmps42
    go_wp2_with (go_at_call 62; refine (HZ.out _ _ (by omega) (by omega)).mono ?_; rintro e w1 ⟨⟨x, rfl, hx⟩, rfl⟩; have HX : Hid _ := hx; clear hx)
    · go_ret
      exact ⟨⟨-1, rfl, .inl (by omega)⟩, below_alloc _ _⟩
    · have hx0 : 0 ≤ x := by omega
      obtain ⟨k1, k2⟩ := HO.out x _ (by omega) (by omega) (by omega) hx0 HX.out
      have K2 : Hid (FcOK _) := k2
      clear k2
      go_wp2
      go_ret
      exact ⟨⟨x, rfl, .inr ⟨hx0, by show x + (gs.length : Int) ≤ l; rw [hN]; omega, K2.out⟩⟩, below_alloc _ _⟩


def SzFcs (cs : List CFc) (w : World) (e : Ending) (w' : World) : Prop := ∃ x : Int, e = .returned (.int .i64 x) ∧ (x < 0 ∨ (0 ≤ x ∧ x ≤ 1048576 ∧ cs.length ≤ 1048576 ∧ totFc cs ≤ 1048576 ∧ ∀ r ∈ cs, FcOK r)) ∧ Below w.heap.size w w'
set_option maxHeartbeats 1000000 in
theorem szFcs_any (a : Option Addr) (cap : Nat) (cs : List CFc) (hl : cs.length ≤ maxLen) (hp : ∀ r ∈ cs, FcWide r) (x0 : Int) (hx0 : 0 ≤ x0) (hx1 : x0 ≤ 1048576) (w : World) (hr : ReadsFc w.heap.size w a cs) :
    Calls Try.prog 12 #[.slice a cs.length cap, .int .i64 x0] w (SzFcs cs w) := by
  have HR : Hid (ReadsFc w.heap.size w a cs) := hr
  have HP : Hid (∀ r ∈ cs, FcWide r) := hp
  clear hr hp
  unfold maxLen at hl
  have hwr : IntKind.i64.wrap (x0 - (cs.length : Int)) = x0 - (cs.length : Int) := wrap_id _ (by omega) (by omega)
  by_cases c1 : x0 < (cs.length : Int)
  · go_enter Try.func12, Try.ntmps12
    go_wp2
    go_ret
    exact ⟨-1, rfl, .inl (by omega), Below.refl _ _⟩
  · go_enter Try.func12, Try.ntmps12
    go_wp2
    go_loopw [1, 5] (fun l c wr => ∃ (k : Nat) (x : Int), k ≤ cs.length ∧ c = .int .i64 (k : Int) ∧ l = .int .i64 x ∧ 0 ≤ x ∧ x + (totFc (cs.take k) : Int) ≤ 1048576 ∧ (∀ r ∈ cs.take k, FcOK r) ∧ Below w.heap.size w wr) (fun _ c _ => cs.length - (intOf c).toNat)
    case atStart => exact ⟨0, x0 - (cs.length : Int), Nat.zero_le _, rfl, rfl, by omega, by simp [totFc]; omega, by simp, Below.refl _ _⟩
    case round =>
      obtain ⟨k, x, hk, rfl, rfl, hx0, hx2, hall, hb⟩ := hrel
      have hx1 : x ≤ 1048576 := by omega
      have HX2 : Hid (x + (totFc (cs.take k) : Int) ≤ 1048576) := hx2
      clear hx2
      have HA : Hid (∀ r ∈ cs.take k, FcOK r) := hall
      have HB : Hid (Below w.heap.size w wr) := hb
      clear hall hb
      by_cases hlt : k < cs.length
      · have hlt' : (k : Int) < (cs.length : Int) := by omega
        rcases HR.out with h | ⟨b0, o0, ha, hB0, ia⟩
        · rw [h] at hlt; simp at hlt
        obtain ⟨h, cp, ⟨c0, c1, c2, c3⟩, _, hS⟩ := (ia.below HB.out hB0 (Nat.le_refl _)) k hlt
        have HN : Hid (FcOK (cs.getD k zFc) → ∀ r ∈ cs.take (k + 1), FcOK r) := fun q => take_nextFc hlt HA.out q
        have HSum : Hid (totFc (cs.take (k + 1)) = totFc (cs.take k) + (cs.getD k zFc).gs.length) := by
          have e : cs.getD k zFc = cs[k] := by simp [List.getD_eq_getElem?_getD, hlt]
          show _ = _
          unfold totFc
          rw [List.take_succ_eq_append_getElem hlt, e, List.map_append, List.sum_append]; simp only [List.map_cons, List.map_nil, List.sum_cons, List.sum_nil, Nat.add_zero]
        have hsz := szFc_any (cs.getD k zFc) h cp (getFc HP.out hlt) x hx0 hx1 wr
        rw [ha]
        clear ia hS
        generalize cs.getD k zFc = r at *
        obtain ⟨nm, wd, ls, gs⟩ := r
        dsimp only at c0 c1 c2 c3 HN hsz HSum
        have HY2 : Hid (∀ y : Int, SzFc ⟨nm, wd, ls, gs⟩ x y → y < 0 ∨ (0 ≤ y ∧ y ≤ x ∧ y + (totFc (cs.take (k + 1)) : Int) ≤ 1048576 ∧ FcOK ⟨nm, wd, ls, gs⟩)) := fun y h => by
          rcases h with h | ⟨h1, h2, h3⟩
          · exact .inl h
          · dsimp only at h2
            have := HX2.out
            have := HSum.out
            exact .inr ⟨h1, by omega, by omega, h3⟩
        clear HSum
        generalize gs.length = n at *
        go_wp2_with (go_at_call 42; refine hsz.mono ?_; rintro e w2 ⟨⟨y, rfl, hy⟩, hb2⟩; have HY : Hid _ := hy; have HB2 : Hid (Below w.heap.size w w2) := chain HB.out hb2; clear hy hb2)
        · go_ret
          exact ⟨-1, rfl, .inl (by omega), HB2.out⟩
        · rcases HY2.out y HY.out with h | ⟨y0, y1, y2, z⟩
          · omega
          have HN1 : Hid (∀ r ∈ cs.take (k + 1), FcOK r) := HN.out z
          have HN2 : Hid (y + (totFc (cs.take (k + 1)) : Int) ≤ 1048576) := y2
          clear z y2
          go_roundw
          case rel => exact ⟨k + 1, y, by omega, by go_num, rfl, by omega, HN2.out, HN1.out, HB2.out⟩
          case measure => simp [intOf]; omega
      · have hle : (cs.length : Int) ≤ (k : Int) := by omega
        have HE : Hid (∀ r ∈ cs, FcOK r) := by
          have := HA.out
          rw [List.take_of_length_le (by omega)] at this
          exact this
        have HE2 : Hid (totFc cs ≤ 1048576) := by
          have := HX2.out
          rw [List.take_of_length_le (by omega)] at this
          show _ ≤ _
          omega
        go_wp2
        go_ret
        exact ⟨x, rfl, .inr ⟨hx0, hx1, by omega, HE2.out, HE.out⟩, HB.out⟩

end Go.Proofs.Ytphefbaogfknoaa
