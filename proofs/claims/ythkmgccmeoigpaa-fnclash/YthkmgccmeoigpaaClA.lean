/-
  Lists of Clause in memory, each with its list of Term; the laws' own szClauseS.
-/
import Derived.Test.YthkmgccmeoigpaaTmE
import Derived.Laws.OwnMore
namespace Go.Proofs.Ythkmgccmeoigpaa
open Go.ChangeShapes Go.WideShapes Go.ChangeAt Go.RowKit Go.Deep
set_option linter.unusedVariables false

structure CCl where
  nm : ByteArray
  ts : List RTm
  ac : Int
  nu : Int
def zCl : CCl := ⟨ByteArray.empty, [], 0, 0⟩
def ClAt (w : World) (b off : Nat) (h : Option Addr) (cp : Nat) (c : CCl) : Prop :=
  w.cell? ⟨b, off, none⟩ = some (.string c.nm) ∧ w.cell? ⟨b, off + 1, none⟩ = some (.slice h c.ts.length cp) ∧ w.cell? ⟨b, off + 2, none⟩ = some (.int .i64 c.ac) ∧ w.cell? ⟨b, off + 3, none⟩ = some (.int .i64 c.nu)
theorem ClAt.below {B : Nat} {w w' : World} {b off : Nat} {h : Option Addr} {cp : Nat} {c : CCl} (k : ClAt w b off h cp c) (hb : Below B w w') (hB : b < B) : ClAt w' b off h cp c := by
  obtain ⟨h0, h1, h2, h3⟩ := k
  exact ⟨(hb.cell (p := ⟨b, off, none⟩) hB).trans h0, (hb.cell (p := ⟨b, off + 1, none⟩) hB).trans h1, (hb.cell (p := ⟨b, off + 2, none⟩) hB).trans h2, (hb.cell (p := ⟨b, off + 3, none⟩) hB).trans h3⟩
def ClsAt (B : Nat) (w : World) (b off : Nat) (cs : List CCl) : Prop := ∀ i, i < cs.length → ∃ h cp, ClAt w b (off + i * 4) h cp (cs.getD i zCl) ∧ (cs.getD i zCl).ts.length ≤ cp ∧ ReadsTm B w h (cs.getD i zCl).ts
def ReadsCl (B : Nat) (w : World) (a : Option Addr) (cs : List CCl) : Prop := cs = [] ∨ ∃ b off, a = some ⟨b, off, none⟩ ∧ b < B ∧ ClsAt B w b off cs
theorem ClsAt.below {B D : Nat} {w w' : World} {b off : Nat} {cs : List CCl} (h : ClsAt B w b off cs) (hb : Below D w w') (hB : b < D) (hD : B ≤ D) : ClsAt B w' b off cs := fun i hi => by
  obtain ⟨h', cp, k, k', k''⟩ := h i hi
  exact ⟨h', cp, k.below hb hB, k', k''.below (hb.mono hD)⟩
theorem ClsAt.mono {B B' : Nat} {w : World} {b off : Nat} {cs : List CCl} (h : ClsAt B w b off cs) (hb : B ≤ B') : ClsAt B' w b off cs := fun i hi => by
  obtain ⟨h', cp, k, k', k''⟩ := h i hi
  exact ⟨h', cp, k, k', k''.mono hb⟩
theorem ReadsCl.below {B : Nat} {w w' : World} {a : Option Addr} {cs : List CCl} (h : ReadsCl B w a cs) (hb : Below B w w') : ReadsCl B w' a cs := by
  rcases h with h | ⟨b, off, ha, hB, hi⟩
  · exact .inl h
  · exact .inr ⟨b, off, ha, hB, hi.below hb hB (Nat.le_refl _)⟩
theorem ReadsCl.mono {B B' : Nat} {w : World} {a : Option Addr} {cs : List CCl} (h : ReadsCl B w a cs) (hb : B ≤ B') : ReadsCl B' w a cs := by
  rcases h with h | ⟨b, off, ha, hB, hi⟩
  · exact .inl h
  · exact .inr ⟨b, off, ha, by omega, hi.mono hb⟩
theorem ReadsCl.later {w w' : World} {a : Option Addr} {cs : List CCl} (h : ReadsCl w.heap.size w a cs) (hb : Below w.heap.size w w') : ReadsCl w'.heap.size w' a cs := (h.below hb).mono hb.size
theorem ReadsTm.later {w w' : World} {a : Option Addr} {cs : List RTm} (h : ReadsTm w.heap.size w a cs) (hb : Below w.heap.size w w') : ReadsTm w'.heap.size w' a cs := (h.below hb).mono hb.size
theorem getCl {p : CCl → Prop} {cs : List CCl} (h : ∀ r ∈ cs, p r) {k : Nat} (hk : k < cs.length) : p (cs.getD k zCl) := by
  have e : cs.getD k zCl = cs[k] := by simp [List.getD_eq_getElem?_getD, hk]
  rw [e]; exact h _ (List.getElem_mem _)
theorem take_nextCl {p : CCl → Prop} {rs : List CCl} {k : Nat} (h : k < rs.length) (ha : ∀ r ∈ rs.take k, p r) (hk : p (rs.getD k zCl)) : ∀ r ∈ rs.take (k + 1), p r := fun r hr => by
  rw [List.take_succ_eq_append_getElem h] at hr
  rcases List.mem_append.mp hr with h' | h'
  · exact ha r h'
  · simp at h'
    have e : rs.getD k zCl = rs[k] := by simp [List.getD_eq_getElem?_getD, h]
    rw [h', ← e]; exact hk
def ClOK (c : CCl) : Prop := c.nm.size ≤ 2000000 ∧ c.ts.length ≤ 1048576
def ClWide (c : CCl) : Prop := c.nm.size ≤ maxLen ∧ c.ts.length ≤ maxLen
def totCl (cs : List CCl) : Nat := (cs.map (fun r => r.ts.length)).sum

def SzCl (c : CCl) (x0 x : Int) : Prop := x < 0 ∨ (0 ≤ x ∧ x + (c.ts.length : Int) ≤ x0 ∧ ClOK c)
set_option maxHeartbeats 1000000 in
theorem szCl_any (c : CCl) (h : Option Addr) (cp : Nat) (hW : ClWide c) (l : Int) (hl : 0 ≤ l) (hl' : l ≤ 1048576) (w : World) :
    Calls Try.prog 17 #[.agg #[.string c.nm, .slice h c.ts.length cp, .int .i64 c.ac, .int .i64 c.nu], .int .i64 l] w fun e w' => (∃ x : Int, e = .returned (.int .i64 x) ∧ SzCl c l x) ∧ Below w.heap.size w w' := by
  obtain ⟨h1, h2⟩ := hW
  have HZ : Hid (∀ x0 w, 0 ≤ x0 → x0 ≤ 1048576 → Calls Try.prog 48 #[.slice h c.ts.length cp, .int .i64 x0] w fun e w' => (∃ y : Int, e = .returned (.int .i64 y) ∧ (y < 0 ∨ (0 ≤ y ∧ y + (c.ts.length : Int) ≤ x0))) ∧ w' = w) := fun x0 w p q => szTms_any h cp c.ts h2 x0 p q w
  have HO : Hid (∀ x y : Int, 0 ≤ y → y ≤ 1048576 → (c.nm.size : Int) ≤ 1048576 → 0 ≤ x → (x < 0 ∨ (0 ≤ x ∧ x + (c.ts.length : Int) ≤ y)) → x + (c.ts.length : Int) ≤ y ∧ ClOK c) := fun x y a1 a2 a3 a4 a5 => by
    rcases a5 with a5 | ⟨b1, b2⟩
    · omega
    · exact ⟨b2, by omega, by omega⟩
  clear h2
  obtain ⟨nm, ts, ac, nu⟩ := c
  dsimp only at *
  generalize hN : ts.length = n at *
  unfold maxLen at h1
  have hwr : IntKind.i64.wrap (l - (nm.size : Int)) = l - (nm.size : Int) := wrap_id _ (by omega) (by omega)
  by_cases c1 : l < (nm.size : Int)
  · go_enter Try.func17, Try.ntmps17
    go_wp2
    go_ret
    exact ⟨⟨-1, rfl, .inl (by omega)⟩, below_alloc _ _⟩
  · go_enter Try.func17, Try.ntmps17
    go_wp2_with (go_at_call 48; refine (HZ.out _ _ (by omega) (by omega)).mono ?_; rintro e w1 ⟨⟨x, rfl, hx⟩, rfl⟩; have HX : Hid _ := hx; clear hx)
    · go_ret
      exact ⟨⟨-1, rfl, .inl (by omega)⟩, below_alloc _ _⟩
    · have hx0 : 0 ≤ x := by omega
      obtain ⟨k1, k2⟩ := HO.out x _ (by omega) (by omega) (by omega) hx0 HX.out
      have K2 : Hid (ClOK _) := k2
      clear k2
      go_wp2
      go_ret
      exact ⟨⟨x, rfl, .inr ⟨hx0, by show x + (ts.length : Int) ≤ l; rw [hN]; omega, K2.out⟩⟩, below_alloc _ _⟩


end Go.Proofs.Ythkmgccmeoigpaa
