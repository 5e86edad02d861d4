/-
  Texts of this claim laid together: Mark0, DrawTax1, UnA.
-/
import Derived.Test.YtkfmifbffgbiiaaM2
import Derived.Deep.Slices
/-
  Which blocks a mark turns; small lemmas on answers that own their memory (the same words as in the texts on packs, for seats that have no packs).
-/
namespace Go.Proofs.Ytkfmifbffgbiiaa
open Go.ChangeShapes Go.WideShapes Go.ChangeAt Go.RowKit
set_option linter.unusedVariables false

/-- All blocks but D are as they were. -/
def Apart (D : Nat) (w w' : World) : Prop := w.heap.size ≤ w'.heap.size ∧ ∀ k, k ≠ D → k < w.heap.size → w'.heap[k]? = w.heap[k]?
theorem own2_apart {B D : Nat} {w w' : World} {g : Option Addr} {L : List Int} (h : Own2 B w g L) (ha : Apart D w w') (hne : ∀ c, g = some ⟨c, 0, none⟩ → c ≠ D ∨ L = []) : Own2 B w' g L := by
  rcases h with h | ⟨b, hg, hB, hl, hi, hf⟩
  · exact .inl h
  · rcases hne b hg with h | h
    · have e := ha.2 b h hl
      exact .inr ⟨b, hg, hB, Nat.lt_of_lt_of_le hl ha.1, fun i hk => (World.cell?_of_block (w := w) (a := ⟨b, 0 + i, none⟩) e).trans (hi i hk), fun i hk => (World.frozen?_of_block (w := w) (a := ⟨b, 0 + i, none⟩) e).trans (hf i hk)⟩
    · exact .inl h
/-- Block b has m cells that may be written; below it, and beside it, nothing has turned. -/
def Mk (b m : Nat) (w wr : World) : Prop := (Below b w wr ∧ Apart b w wr) ∧ b < wr.heap.size ∧ (∀ j, j < m → (wr.cell? ⟨b, j, none⟩).isSome = true) ∧ ∀ j, j < m → wr.frozen? ⟨b, j, none⟩ = false
theorem Mk.later {b m : Nat} {w wr w2 : World} (h : Mk b m w wr) (hb : Below wr.heap.size wr w2) : Mk b m w w2 := by
  obtain ⟨⟨h1, ha⟩, h2, h3, h4⟩ := h
  exact ⟨⟨h1.trans (hb.mono (Nat.le_of_lt h2)), Nat.le_trans ha.1 hb.size, fun k hk hl => (hb.block k (Nat.lt_of_lt_of_le hl ha.1)).trans (ha.2 k hk hl)⟩, Nat.lt_of_lt_of_le h2 hb.size, fun j hj => by rw [hb.cell (p := ⟨b, j, none⟩) h2]; exact h3 j hj, fun j hj => by rw [hb.frozen (p := ⟨b, j, none⟩) h2]; exact h4 j hj⟩
theorem Mk.set {b m : Nat} {w wr : World} (h : Mk b m w wr) (o : Nat) (v : Value) : Mk b m w (wr.setCell ⟨b, o, none⟩ v) := by
  obtain ⟨⟨h1, ha⟩, h2, h3, h4⟩ := h
  refine ⟨⟨h1.setCell (Nat.le_refl _) _, by rw [World.size_setCell]; exact ha.1, fun k hk hl => (Below.heap_setCell _ _ _ _ hk).trans (ha.2 k hk hl)⟩, by rw [World.size_setCell]; exact h2, fun j hj => ?_, fun j hj => by rw [World.frozen?_setCell]; exact h4 j hj⟩
  obtain ⟨u, hu⟩ := Option.isSome_iff_exists.mp (h3 j hj)
  by_cases e : j = o
  · subst e; rw [World.cell?_setCell_same _ _ _ hu]; rfl
  · rw [World.cell?_setCell_other _ _ _ _ (fun h => e (by first | (simp at h; omega) | (simp at h; done) | (cases h; rfl)))]; rw [hu]; rfl
theorem Mk.at {b m : Nat} {w wr : World} (h : Mk b m w wr) (j : Nat) (hj : j < m) : ∃ v, wr.cell? ⟨b, j, none⟩ = some v ∧ wr.frozen? ⟨b, j, none⟩ = false := by
  obtain ⟨u, hu⟩ := Option.isSome_iff_exists.mp (h.2.2.1 j hj)
  exact ⟨u, hu, h.2.2.2 j hj⟩
theorem Mk.start {b n : Nat} {w : World} (hc : b < w.heap.size) (h : ∀ j, j < n → (w.cell? ⟨b, j, none⟩).isSome = true) (hf : ∀ j, j < n → w.frozen? ⟨b, j, none⟩ = false) : Mk b n w w :=
  ⟨⟨Below.refl _ _, Nat.le_refl _, fun _ _ _ => rfl⟩, hc, h, hf⟩
theorem own2_ne {B : Nat} {w : World} {g : Option Addr} {L : List Int} (h : Own2 B w g L) : ∀ c, g = some ⟨c, 0, none⟩ → c ≠ w.heap.size ∨ L = [] := fun c hc => by
  rcases h with h | ⟨b, hg, _, hlt, _⟩
  · exact .inr h
  · rw [hg] at hc; cases hc; exact .inl (by omega)
theorem own2_lt {B D : Nat} {w : World} {g : Option Addr} {L : List Int} (h : Own2 B w g L) (hD : w.heap.size ≤ D) : ∀ c, g = some ⟨c, 0, none⟩ → c < D ∨ L = [] := fun c hc => by
  rcases h with h | ⟨b, hg, _, hlt, _⟩
  · exact .inr h
  · rw [hg] at hc; cases hc; exact .inl (by omega)
theorem own2_low {B D : Nat} {w w' : World} {g : Option Addr} {L : List Int} (h : Own2 B w g L) (hb : Below D w w') (hlt : ∀ c, g = some ⟨c, 0, none⟩ → c < D ∨ L = []) : Own2 B w' g L := by
  rcases h with h | ⟨b, hg, hB, hl, hi, hf⟩
  · exact .inl h
  · rcases hlt b hg with h | h
    · exact .inr ⟨b, hg, hB, Nat.lt_of_lt_of_le hl hb.size, hi.below hb h, hf.below hb h⟩
    · exact .inl h
theorem own2_ge {B D : Nat} {w : World} {g : Option Addr} {L : List Int} (h : Own2 B w g L) (hD : D < B) : ∀ c, g = some ⟨c, 0, none⟩ → c ≠ D ∨ L = [] := fun c hc => by
  rcases h with h | ⟨b, hg, hB, hlt, _⟩
  · exact .inr h
  · rw [hg] at hc; cases hc; exact .inl (by omega)
end Go.Proofs.Ytkfmifbffgbiiaa

/-
  Contracts of the source's pick and place.
-/
namespace Go.Proofs.Ytkfmifbffgbiiaa
open Go.ChangeShapes Go.WideShapes Go.ChangeAt Go.RowKit
set_option linter.unusedVariables false

theorem Src.allocT {w : World} {b : Nat} {a : Option Addr} {len cap : Nat} {x s : Int} (h : Src w b a len cap x s) (o : Obj) : Src (w.alloc o) b a len cap x s := by
  obtain ⟨h0, h1, h2, f1, f2, hb, r⟩ := h
  have hB := below_alloc w o
  exact ⟨(hB.cell (p := ⟨b, 0, none⟩) hb).trans h0, (hB.cell (p := ⟨b, 1, none⟩) hb).trans h1, (hB.cell (p := ⟨b, 2, none⟩) hb).trans h2, (hB.frozen (p := ⟨b, 1, none⟩) hb).trans f1, (hB.frozen (p := ⟨b, 2, none⟩) hb).trans f2, Nat.lt_of_lt_of_le hb hB.size, r⟩
theorem pick_any (B b bl : Nat) (a : Option Addr) (len cap : Nat) (zs : List Int) (at' seed : Int) (ss : List ByteArray) (w : World) (hB : B ≤ b) (hs : Src w b a len cap at' seed) (hr : RowB B w a len zs) (a1 : at' ≤ 999999999000)
    (hl : 1 ≤ ss.length) (hl' : ss.length ≤ 256) (hne : bl ≠ b) (hc : ∀ j, j < ss.length → w.cell? ⟨bl, j, none⟩ = some (.string (ss.getD j ⟨#[]⟩))) (c : Nat) :
    Calls Try.prog 50 #[.pointer (some ⟨b, 0, none⟩), .slice (some ⟨bl, 0, none⟩) ss.length c] w fun e w' => ∃ (j : Nat) (at2 s' : Int), j < ss.length ∧ e = .returned (.string (ss.getD j ⟨#[]⟩)) ∧ at' ≤ at2 ∧ at2 ≤ at' + 3 ∧ Src w' b a len cap at2 s' ∧ Below B w w' ∧ Apt b w w' := by
  have hn := next_anyA B b a len cap zs (ss.length : Int) at' seed w hB hs hr a1 (by omega)
  have HC : Hid (∀ j, j < ss.length → w.cell? ⟨bl, j, none⟩ = some (.string (ss.getD j ⟨#[]⟩))) := hc
  have hz : ((ss.length : Int) == 0) = false := by rw [beq_eq_false_iff_ne]; omega
  have hz' : ¬ (ss.length : Int) = 0 := by omega
  clear hc hs hr
  go_enter Try.func50, Try.ntmps50
  go_wp2_with fail
  (first | go_at_call 21 | skip)
  refine hn.mono ?_
  rintro e w1 ⟨x, at2, s', rfl, hx, q1, q2, hs1, hb1, ha1⟩
  obtain ⟨j, rfl⟩ : ∃ j : Nat, x = (j : Int) := ⟨x.toNat, by have := hx.1; omega⟩
  have hj : j < ss.length := by rcases hx.2 with h | h <;> omega
  have hj' : (j : Int) < (ss.length : Int) := by omega
  have cj : w1.cell? ⟨bl, j, none⟩ = some (.string (ss.getD j ⟨#[]⟩)) := (World.cell?_of_block (w := w) (a := ⟨bl, j, none⟩) (ha1 bl hne)).trans (HC.out j hj)
  have HS1 : Hid (Src w1 b a len cap at2 s' ∧ Below B w w1 ∧ Apt b w w1) := ⟨hs1, hb1, ha1⟩
  clear hs1 hb1 ha1 hx
  generalize hq : ss.getD j ⟨#[]⟩ = q at *
  go_wp2
  go_ret
  exact ⟨j, at2, s', hj, by rw [hq]; rfl, q1, q2, HS1.out.1, HS1.out.2.1, HS1.out.2.2⟩

theorem Apt.apart {b : Nat} {w w' : World} (h : Apt b w w') (hb : Below b w w') : Apart b w w' := ⟨hb.size, fun k hk _ => h k hk⟩
theorem Apart.trans {b : Nat} {w w' w'' : World} (h : Apart b w w') (k : Apart b w' w'') : Apart b w w'' := ⟨Nat.le_trans h.1 k.1, fun c hc hl => (k.2 c hc (Nat.lt_of_lt_of_le hl h.1)).trans (h.2 c hc hl)⟩
theorem apart_alloc (b : Nat) (w : World) (o : Obj) : Apart b w (w.alloc o) := ⟨by simp, fun k _ hl => Below.heap_alloc _ _ _ hl⟩

/-- The places that are drawn. -/
def plc : List ByteArray := [⟨#[]⟩, ⟨#[110, 111, 114, 116, 104]⟩, ⟨#[115, 111, 117, 116, 104]⟩, ⟨#[107, 195, 164, 115, 101]⟩, ⟨#[110, 111, 114, 116, 104]⟩]
theorem plc_cells (w : World) : ∀ j, j < plc.length → (w.alloc (Obj.cells #[.string ⟨#[]⟩, .string ⟨#[110, 111, 114, 116, 104]⟩, .string ⟨#[115, 111, 117, 116, 104]⟩, .string ⟨#[107, 195, 164, 115, 101]⟩, .string ⟨#[110, 111, 114, 116, 104]⟩] 9)).cell? ⟨w.heap.size, j, none⟩ = some (.string (plc.getD j ⟨#[]⟩)) := fun j hj => by
  have h := heapNew w (Obj.cells #[.string ⟨#[]⟩, .string ⟨#[110, 111, 114, 116, 104]⟩, .string ⟨#[115, 111, 117, 116, 104]⟩, .string ⟨#[107, 195, 164, 115, 101]⟩, .string ⟨#[110, 111, 114, 116, 104]⟩] 9)
  unfold World.cell?
  rw [h]
  match j, hj with
  | 0, _ => rfl
  | 1, _ => rfl
  | 2, _ => rfl
  | 3, _ => rfl
  | 4, _ => rfl

end Go.Proofs.Ytkfmifbffgbiiaa

/-
  Lists of Unit in memory.
-/
namespace Go.Proofs.Ytkfmifbffgbiiaa
open Go.ChangeShapes Go.WideShapes Go.ChangeAt Go.RowKit Go.Deep
set_option linter.unusedVariables false

structure RUn where
  art : ByteArray
  pr : Int
def zUn : RUn := ⟨ByteArray.empty, 0⟩
/-- One lies in block b from off on, 2 cells. -/
def UnAt (w : World) (b off : Nat) (r : RUn) : Prop :=
  w.cell? ⟨b, off, none⟩ = some (.string r.art) ∧ w.cell? ⟨b, off + 1, none⟩ = some (.int .i64 r.pr)
def UnsAt (w : World) (b off : Nat) (rs : List RUn) : Prop := ∀ i, i < rs.length → UnAt w b (off + i * 2) (rs.getD i zUn)
def ReadsUn (B : Nat) (w : World) (a : Option Addr) (rs : List RUn) : Prop := rs = [] ∨ ∃ b off, a = some ⟨b, off, none⟩ ∧ b < B ∧ UnsAt w b off rs
theorem UnAt.below {B : Nat} {w w' : World} {b off : Nat} {r : RUn} (h : UnAt w b off r) (hb : Below B w w') (hB : b < B) : UnAt w' b off r := by
  obtain ⟨h0, h1⟩ := h
  exact ⟨(hb.cell (p := ⟨b, off, none⟩) hB).trans h0, (hb.cell (p := ⟨b, off + 1, none⟩) hB).trans h1⟩
theorem UnsAt.below {B : Nat} {w w' : World} {b off : Nat} {rs : List RUn} (h : UnsAt w b off rs) (hb : Below B w w') (hB : b < B) : UnsAt w' b off rs := fun i hi => (h i hi).below hb hB
theorem ReadsUn.below {B : Nat} {w w' : World} {a : Option Addr} {rs : List RUn} (h : ReadsUn B w a rs) (hb : Below B w w') : ReadsUn B w' a rs := by
  rcases h with h | ⟨b, off, ha, hB, hi⟩
  · exact .inl h
  · exact .inr ⟨b, off, ha, hB, hi.below hb hB⟩
theorem ReadsUn.mono {B B' : Nat} {w : World} {a : Option Addr} {rs : List RUn} (h : ReadsUn B w a rs) (hb : B ≤ B') : ReadsUn B' w a rs := by
  rcases h with h | ⟨b, off, ha, hB, hi⟩
  · exact .inl h
  · exact .inr ⟨b, off, ha, by omega, hi⟩
theorem getUn {p : RUn → Prop} {rs : List RUn} (h : ∀ r ∈ rs, p r) {k : Nat} (hk : k < rs.length) : p (rs.getD k zUn) := by
  have e : rs.getD k zUn = rs[k] := by simp [List.getD_eq_getElem?_getD, hk]
  rw [e]; exact h _ (List.getElem_mem _)
theorem unNew (w : World) (r0 : ByteArray) (r1 : Int) : UnAt (w.alloc (Obj.cells #[.string r0, .int .i64 r1] 41)) w.heap.size 0 ⟨r0, r1⟩ :=
  ⟨by simp, by simp⟩
def UnOK (r : RUn) : Prop := r.art.size ≤ 2000000
def UnWide (r : RUn) : Prop := r.art.size ≤ maxLen ∧ (Lit.int .i64 r.pr).wf = true
end Go.Proofs.Ytkfmifbffgbiiaa
