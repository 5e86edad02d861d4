/-
  A list of packs that came in, opened: its packs, their texts, and where they lie.
-/
import Derived.Test.YtaledfdhiimhdajPackE
import Derived.Deep.Slices
namespace Go.Proofs.Ytaledfdhiimhdaj
open Go.ChangeShapes Go.WideShapes Go.ChangeAt Go.RowKit Go.Deep
set_option linter.unusedVariables false

def IsPacks (w : World) (a : Option Addr) (len cap : Nat) (ps : List Pk) : Prop := ps.length = len ∧ len ≤ cap ∧ cap ≤ maxLen ∧ (∀ p ∈ ps, PkWide p) ∧ ReadsP w.heap.size w a ps

theorem openPack {H : Type} {enc : TypeId × Value → H} {w : World} {base : Nat} {spare : Nat → Bool} {held : Bool} {fuel : Nat} {cs : List Value} {x : DataW H × List MemPlace} (h : DataW.trod enc Try.prog w base spare held fuel 60 cs = some x) :
    ∃ p : Pk, cs = [.string p.name, .string p.of, .int .i64 p.count] ∧ PkWide p := by
  obtain ⟨xs, n, _, _, hl, hlen, hf⟩ := DataW.trod_struct Try.underlying60 h
  have hc : Try.prog.cellsOf 60 = 3 := by kernel_rfl
  have hcs : Try.prog.cellsOf 9 = 1 := by kernel_rfl
  have hci : Try.prog.cellsOf 3 = 1 := by kernel_rfl
  rw [hc] at hl
  obtain ⟨v0, v1, v2, rfl⟩ : ∃ a b c, cs = [a, b, c] := by
    rcases cs with _ | ⟨a, _ | ⟨b, _ | ⟨c, _ | ⟨d, r⟩⟩⟩⟩ <;> simp at hl
    exact ⟨a, b, c, rfl⟩
  have hlen' : xs.length = 3 := hlen
  obtain ⟨y0, y1, y2, rfl⟩ : ∃ a b c, xs = [a, b, c] := by
    rcases xs with _ | ⟨a, _ | ⟨b, _ | ⟨c, _ | ⟨d, r⟩⟩⟩⟩ <;> simp at hlen'
    exact ⟨a, b, c, rfl⟩
  clear hlen hlen' h hl
  have h0 := hf 0 _ rfl
  have h1 := hf 1 _ rfl
  have h2 := hf 2 _ rfl
  clear hf
  simp [hcs, hci] at h0 h1 h2
  obtain ⟨s0, e0, _, z0⟩ := DataW.trod_string Try.underlying9 h0
  obtain ⟨s1, e1, _, z1⟩ := DataW.trod_string Try.underlying9 h1
  obtain ⟨c, e2, _, _⟩ := DataW.trod_int Try.underlying3 h2
  simp at e0 e1 e2
  subst e0 e1 e2
  exact ⟨⟨s0, s1, c⟩, rfl, z0, z1⟩

theorem openPacks {H : Type} {enc : TypeId × Value → H} {w : World} {spare : Nat → Bool} {held : Bool} {fuel : Nat} {a : Option Addr} {len cap : Nat} {x : DataW H × List MemPlace} (h : DataW.trod enc Try.prog w 0 spare held fuel 22 [.slice a len cap] = some x) :
    ∃ ps, IsPacks w a len cap ps := by
  haveI : Inhabited Pk := ⟨pk0⟩
  rcases open_slice Try.underlying22 h with ⟨hcs, _⟩ | ⟨ad, l, c, m, n, D, Pl, hcs, _, hl, hm, hmm, _, hx⟩
  · simp at hcs
    obtain ⟨rfl, rfl, rfl⟩ := hcs
    exact ⟨[], rfl, Nat.le_refl _, by unfold maxLen; omega, by simp, .inl rfl⟩
  · simp at hcs
    obtain ⟨rfl, rfl, rfl⟩ := hcs
    have hlm : len ≤ m := by rw [hmm]; split <;> omega
    have hc : Try.prog.cellsOf 60 = 3 := by kernel_rfl
    rw [hc] at hx
    obtain ⟨f, hf⟩ := choose_lt (α := Pk) (n := len) (p := fun i p => w.cell? ((ad.add (i * 3)).add 0) = some (.string p.name) ∧ w.cell? ((ad.add (i * 3)).add 1) = some (.string p.of) ∧ w.cell? ((ad.add (i * 3)).add 2) = some (.int .i64 p.count) ∧ PkWide p) (fun i hi => by
      obtain ⟨cs', h1, h2⟩ := hx i (by omega)
      obtain ⟨p, rfl, hw⟩ := openPack h2
      obtain ⟨_, _, hcell⟩ := World.cells?_some h1
      exact ⟨p, hcell 0 (by omega), hcell 1 (by omega), hcell 2 (by omega), hw⟩)
    have hg : ∀ i, i < len → ((List.range len).map f).getD i pk0 = f i := fun i hi => by simp [List.getD_eq_getElem?_getD, hi]
    refine ⟨(List.range len).map f, by simp, hl, hm, fun p hp => ?_, ?_⟩
    · obtain ⟨i, hi, rfl⟩ := List.mem_map.mp hp
      exact (hf i (by simpa using hi)).2.2.2
    · by_cases h0 : len = 0
      · exact .inl (by subst h0; rfl)
      · obtain ⟨b, off, spot⟩ := ad
        have hspot : spot = none := by simpa [Addr.add] using World.cell?_spot (hf 0 (by omega)).1
        subst hspot
        refine .inr ⟨b, off, rfl, ?_, fun i hi => ?_⟩
        · have := (hf 0 (by omega)).1
          rw [Go.WideShapes.add_plain, Go.WideShapes.add_plain] at this
          exact World.block_lt_of_cell? _ _ this
        · have hi' : i < len := by simpa using hi
          obtain ⟨q0, q1, q2, _⟩ := hf i hi'
          rw [Go.WideShapes.add_plain, Go.WideShapes.add_plain] at q0 q1 q2
          rw [hg i hi']
          exact ⟨q0, q1, q2⟩
end Go.Proofs.Ytaledfdhiimhdaj
