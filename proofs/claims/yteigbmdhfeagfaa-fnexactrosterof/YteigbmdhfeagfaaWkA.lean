/-
  Lists of Worker in memory, each with its list of String; the laws' own szWorkerS.
-/
import Derived.Test.YteigbmdhfeagfaaStE
import Derived.Laws.OwnMore
namespace Go.Proofs.Yteigbmdhfeagfaa
open Go.ChangeShapes Go.WideShapes Go.ChangeAt Go.RowKit Go.Deep
set_option linter.unusedVariables false

structure CWk where
  nm : ByteArray
  ms : Int
  rt : Int
  co : Int
  sk : List ByteArray
def zWk : CWk := ⟨ByteArray.empty, 0, 0, 0, []⟩
def WkAt (w : World) (b off : Nat) (h : Option Addr) (cp : Nat) (c : CWk) : Prop :=
  w.cell? ⟨b, off, none⟩ = some (.string c.nm) ∧ w.cell? ⟨b, off + 1, none⟩ = some (.int .i64 c.ms) ∧ w.cell? ⟨b, off + 2, none⟩ = some (.int .i64 c.rt) ∧ w.cell? ⟨b, off + 3, none⟩ = some (.int .i64 c.co) ∧ w.cell? ⟨b, off + 4, none⟩ = some (.slice h c.sk.length cp)
theorem WkAt.below {B : Nat} {w w' : World} {b off : Nat} {h : Option Addr} {cp : Nat} {c : CWk} (k : WkAt w b off h cp c) (hb : Below B w w') (hB : b < B) : WkAt w' b off h cp c := by
  obtain ⟨h0, h1, h2, h3, h4⟩ := k
  exact ⟨(hb.cell (p := ⟨b, off, none⟩) hB).trans h0, (hb.cell (p := ⟨b, off + 1, none⟩) hB).trans h1, (hb.cell (p := ⟨b, off + 2, none⟩) hB).trans h2, (hb.cell (p := ⟨b, off + 3, none⟩) hB).trans h3, (hb.cell (p := ⟨b, off + 4, none⟩) hB).trans h4⟩
def WksAt (B : Nat) (w : World) (b off : Nat) (cs : List CWk) : Prop := ∀ i, i < cs.length → ∃ h cp, WkAt w b (off + i * 5) h cp (cs.getD i zWk) ∧ (cs.getD i zWk).sk.length ≤ cp ∧ ReadsS B w h (cs.getD i zWk).sk
def ReadsWk (B : Nat) (w : World) (a : Option Addr) (cs : List CWk) : Prop := cs = [] ∨ ∃ b off, a = some ⟨b, off, none⟩ ∧ b < B ∧ WksAt B w b off cs
theorem WksAt.below {B D : Nat} {w w' : World} {b off : Nat} {cs : List CWk} (h : WksAt B w b off cs) (hb : Below D w w') (hB : b < D) (hD : B ≤ D) : WksAt B w' b off cs := fun i hi => by
  obtain ⟨h', cp, k, k', k''⟩ := h i hi
  exact ⟨h', cp, k.below hb hB, k', k''.below (hb.mono hD)⟩
theorem WksAt.mono {B B' : Nat} {w : World} {b off : Nat} {cs : List CWk} (h : WksAt B w b off cs) (hb : B ≤ B') : WksAt B' w b off cs := fun i hi => by
  obtain ⟨h', cp, k, k', k''⟩ := h i hi
  exact ⟨h', cp, k, k', k''.mono hb⟩
theorem ReadsWk.below {B : Nat} {w w' : World} {a : Option Addr} {cs : List CWk} (h : ReadsWk B w a cs) (hb : Below B w w') : ReadsWk B w' a cs := by
  rcases h with h | ⟨b, off, ha, hB, hi⟩
  · exact .inl h
  · exact .inr ⟨b, off, ha, hB, hi.below hb hB (Nat.le_refl _)⟩
theorem ReadsWk.mono {B B' : Nat} {w : World} {a : Option Addr} {cs : List CWk} (h : ReadsWk B w a cs) (hb : B ≤ B') : ReadsWk B' w a cs := by
  rcases h with h | ⟨b, off, ha, hB, hi⟩
  · exact .inl h
  · exact .inr ⟨b, off, ha, by omega, hi.mono hb⟩
theorem ReadsWk.later {w w' : World} {a : Option Addr} {cs : List CWk} (h : ReadsWk w.heap.size w a cs) (hb : Below w.heap.size w w') : ReadsWk w'.heap.size w' a cs := (h.below hb).mono hb.size
theorem getWk {p : CWk → Prop} {cs : List CWk} (h : ∀ r ∈ cs, p r) {k : Nat} (hk : k < cs.length) : p (cs.getD k zWk) := by
  have e : cs.getD k zWk = cs[k] := by simp [List.getD_eq_getElem?_getD, hk]
  rw [e]; exact h _ (List.getElem_mem _)
theorem take_nextWk {p : CWk → Prop} {rs : List CWk} {k : Nat} (h : k < rs.length) (ha : ∀ r ∈ rs.take k, p r) (hk : p (rs.getD k zWk)) : ∀ r ∈ rs.take (k + 1), p r := fun r hr => by
  rw [List.take_succ_eq_append_getElem h] at hr
  rcases List.mem_append.mp hr with h' | h'
  · exact ha r h'
  · simp at h'
    have e : rs.getD k zWk = rs[k] := by simp [List.getD_eq_getElem?_getD, h]
    rw [h', ← e]; exact hk
def WkOK (c : CWk) : Prop := c.nm.size ≤ 2000000 ∧ c.sk.length ≤ 1048576 ∧ ∀ s ∈ c.sk, s.size ≤ 2000000
def WkWide (c : CWk) : Prop := c.nm.size ≤ maxLen ∧ c.sk.length ≤ maxLen ∧ ∀ s ∈ c.sk, s.size ≤ maxLen
def totWk (cs : List CWk) : Nat := (cs.map (fun r => r.sk.length)).sum

def SzWk (c : CWk) (x0 x : Int) : Prop := x < 0 ∨ (0 ≤ x ∧ x + (c.sk.length : Int) ≤ x0 ∧ WkOK c)
set_option maxHeartbeats 1000000 in
theorem szWk_any (c : CWk) (h : Option Addr) (cp : Nat) (hW : WkWide c) (l : Int) (hl : 0 ≤ l) (hl' : l ≤ 1048576) (w : World) (hr : ReadsS w.heap.size w h c.sk) :
    Calls Try.prog 24 #[.agg #[.string c.nm, .int .i64 c.ms, .int .i64 c.rt, .int .i64 c.co, .slice h c.sk.length cp], .int .i64 l] w fun e w' => (∃ x : Int, e = .returned (.int .i64 x) ∧ SzWk c l x) ∧ Below w.heap.size w w' := by
  obtain ⟨h1, h2, h3⟩ := hW
  have HR : Hid (ReadsS w.heap.size w h c.sk) := hr
  have HZ : Hid (∀ x0 w, 0 ≤ x0 → x0 ≤ 1048576 → ReadsS w.heap.size w h c.sk → Calls Try.prog 50 #[.slice h c.sk.length cp, .int .i64 x0] w fun e w' => (∃ x : Int, e = .returned (.int .i64 x) ∧ SzS c.sk x0 x) ∧ w' = w) := fun x0 w p q r => szStrs_any h cp c.sk h2 h3 x0 p q w r
  have HO : Hid (∀ x y : Int, 0 ≤ y → y ≤ 1048576 → (c.nm.size : Int) ≤ 1048576 → 0 ≤ x → SzS c.sk y x → x + (c.sk.length : Int) ≤ y ∧ WkOK c) := fun x y a1 a2 a3 a4 a5 => by
    rcases a5 with a5 | ⟨b1, b2, b4⟩
    · omega
    · exact ⟨b2, by omega, by omega, b4⟩
  clear hr h3
  clear h2
  obtain ⟨nm, ms, rt, co, sk⟩ := c
  dsimp only at *
  generalize hN : sk.length = n at *
  unfold maxLen at h1
  have hwr : IntKind.i64.wrap (l - (nm.size : Int)) = l - (nm.size : Int) := wrap_id _ (by omega) (by omega)
  by_cases c1 : l < (nm.size : Int)
  · go_enter Try.func24, Try.ntmps24
    go_wp2
    go_ret
    exact ⟨⟨-1, rfl, .inl (by omega)⟩, below_alloc _ _⟩
  · go_enter Try.func24, Try.ntmps24
    go_wp2_with (go_at_call 50; refine (HZ.out _ _ (by omega) (by omega) (HR.out.later (below_alloc _ _))).mono ?_; rintro e w1 ⟨⟨x, rfl, hx⟩, rfl⟩; have HX : Hid _ := hx; clear hx)
    · go_ret
      exact ⟨⟨-1, rfl, .inl (by omega)⟩, below_alloc _ _⟩
    · have hx0 : 0 ≤ x := by omega
      obtain ⟨k1, k2⟩ := HO.out x _ (by omega) (by omega) (by omega) hx0 HX.out
      have K2 : Hid (WkOK _) := k2
      clear k2
      go_wp2
      go_ret
      exact ⟨⟨x, rfl, .inr ⟨hx0, by show x + (sk.length : Int) ≤ l; rw [hN]; omega, K2.out⟩⟩, below_alloc _ _⟩


def SzWks (cs : List CWk) (w : World) (e : Ending) (w' : World) : Prop := ∃ x : Int, e = .returned (.int .i64 x) ∧ (x < 0 ∨ (0 ≤ x ∧ x ≤ 1048576 ∧ cs.length ≤ 1048576 ∧ totWk cs ≤ 1048576 ∧ ∀ r ∈ cs, WkOK r)) ∧ Below w.heap.size w w'
set_option maxHeartbeats 1000000 in
theorem szWks_any (a : Option Addr) (cap : Nat) (cs : List CWk) (hl : cs.length ≤ maxLen) (hp : ∀ r ∈ cs, WkWide r) (x0 : Int) (hx0 : 0 ≤ x0) (hx1 : x0 ≤ 1048576) (w : World) (hr : ReadsWk w.heap.size w a cs) :
    Calls Try.prog 6 #[.slice a cs.length cap, .int .i64 x0] w (SzWks cs w) := by
  have HR : Hid (ReadsWk w.heap.size w a cs) := hr
  have HP : Hid (∀ r ∈ cs, WkWide r) := hp
  clear hr hp
  unfold maxLen at hl
  have hwr : IntKind.i64.wrap (x0 - (cs.length : Int)) = x0 - (cs.length : Int) := wrap_id _ (by omega) (by omega)
  by_cases c1 : x0 < (cs.length : Int)
  · go_enter Try.func6, Try.ntmps6
    go_wp2
    go_ret
    exact ⟨-1, rfl, .inl (by omega), Below.refl _ _⟩
  · go_enter Try.func6, Try.ntmps6
    go_wp2
    go_loopw [1, 5] (fun l c wr => ∃ (k : Nat) (x : Int), k ≤ cs.length ∧ c = .int .i64 (k : Int) ∧ l = .int .i64 x ∧ 0 ≤ x ∧ x + (totWk (cs.take k) : Int) ≤ 1048576 ∧ (∀ r ∈ cs.take k, WkOK r) ∧ Below w.heap.size w wr) (fun _ c _ => cs.length - (intOf c).toNat)
    case atStart => exact ⟨0, x0 - (cs.length : Int), Nat.zero_le _, rfl, rfl, by omega, by simp [totWk]; omega, by simp, Below.refl _ _⟩
    case round =>
      obtain ⟨k, x, hk, rfl, rfl, hx0, hx2, hall, hb⟩ := hrel
      have hx1 : x ≤ 1048576 := by omega
      have HX2 : Hid (x + (totWk (cs.take k) : Int) ≤ 1048576) := hx2
      clear hx2
      have HA : Hid (∀ r ∈ cs.take k, WkOK r) := hall
      have HB : Hid (Below w.heap.size w wr) := hb
      clear hall hb
      by_cases hlt : k < cs.length
      · have hlt' : (k : Int) < (cs.length : Int) := by omega
        rcases HR.out with h | ⟨b0, o0, ha, hB0, ia⟩
        · rw [h] at hlt; simp at hlt
        obtain ⟨h, cp, ⟨c0, c1, c2, c3, c4⟩, _, hS⟩ := (ia.below HB.out hB0 (Nat.le_refl _)) k hlt
        have HN : Hid (WkOK (cs.getD k zWk) → ∀ r ∈ cs.take (k + 1), WkOK r) := fun q => take_nextWk hlt HA.out q
        have HSum : Hid (totWk (cs.take (k + 1)) = totWk (cs.take k) + (cs.getD k zWk).sk.length) := by
          have e : cs.getD k zWk = cs[k] := by simp [List.getD_eq_getElem?_getD, hlt]
          show _ = _
          unfold totWk
          rw [List.take_succ_eq_append_getElem hlt, e, List.map_append, List.sum_append]; simp only [List.map_cons, List.map_nil, List.sum_cons, List.sum_nil, Nat.add_zero]
        have hsz := szWk_any (cs.getD k zWk) h cp (getWk HP.out hlt) x hx0 hx1 wr (hS.mono HB.out.size)
        rw [ha]
        clear ia hS
        generalize cs.getD k zWk = r at *
        obtain ⟨nm, ms, rt, co, sk⟩ := r
        dsimp only at c0 c1 c2 c3 c4 HN hsz HSum
        have HY2 : Hid (∀ y : Int, SzWk ⟨nm, ms, rt, co, sk⟩ x y → y < 0 ∨ (0 ≤ y ∧ y ≤ x ∧ y + (totWk (cs.take (k + 1)) : Int) ≤ 1048576 ∧ WkOK ⟨nm, ms, rt, co, sk⟩)) := fun y h => by
          rcases h with h | ⟨h1, h2, h3⟩
          · exact .inl h
          · dsimp only at h2
            have := HX2.out
            have := HSum.out
            exact .inr ⟨h1, by omega, by omega, h3⟩
        clear HSum
        generalize sk.length = n at *
        go_wp2_with (go_at_call 24; refine hsz.mono ?_; rintro e w2 ⟨⟨y, rfl, hy⟩, hb2⟩; have HY : Hid _ := hy; have HB2 : Hid (Below w.heap.size w w2) := chain HB.out hb2; clear hy hb2)
        · go_ret
          exact ⟨-1, rfl, .inl (by omega), HB2.out⟩
        · rcases HY2.out y HY.out with h | ⟨y0, y1, y2, z⟩
          · omega
          have HN1 : Hid (∀ r ∈ cs.take (k + 1), WkOK r) := HN.out z
          have HN2 : Hid (y + (totWk (cs.take (k + 1)) : Int) ≤ 1048576) := y2
          clear z y2
          go_roundw
          case rel => exact ⟨k + 1, y, by omega, by go_num, rfl, by omega, HN2.out, HN1.out, HB2.out⟩
          case measure => simp [intOf]; omega
      · have hle : (cs.length : Int) ≤ (k : Int) := by omega
        have HE : Hid (∀ r ∈ cs, WkOK r) := by
          have := HA.out
          rw [List.take_of_length_le (by omega)] at this
          exact this
        have HE2 : Hid (totWk cs ≤ 1048576) := by
          have := HX2.out
          rw [List.take_of_length_le (by omega)] at this
          show _ ≤ _
          omega
        go_wp2
        go_ret
        exact ⟨x, rfl, .inr ⟨hx0, hx1, by omega, HE2.out, HE.out⟩, HB.out⟩

end Go.Proofs.Yteigbmdhfeagfaa
