/-
  A list of Segment, and one Segment, that came in, opened.
-/
import Derived.Test.YtlkjpemhamemgaaSgE
namespace Go.Proofs.Ytlkjpemhamemgaa
open Go.ChangeShapes Go.WideShapes Go.ChangeAt Go.RowKit Go.Deep Go.Joins
set_option linter.unusedVariables false

theorem openSg0 {H : Type} {enc : TypeId × Value → H} {w : World} {base : Nat} {spare : Nat → Bool} {held : Bool} {fuel : Nat} {cs : List Value} {x : DataW H × List MemPlace} (h : DataW.trod enc Try.prog w base spare held fuel 88 cs = some x) :
    ∃ (r : CSg) (a : Option Addr) (cp : Nat), cs = [.string r.nm, .slice a r.ps.length cp] ∧ SgWide r ∧ (r.ps.length ≤ cp ∧ cp ≤ maxLen) ∧ ReadsS w.heap.size w a r.ps := by
  obtain ⟨xs, n, _, _, hl, hlen, hf⟩ := DataW.trod_struct Try.underlying88 h
  have hc : Try.prog.cellsOf 88 = 2 := by kernel_rfl
  have hcs : Try.prog.cellsOf 9 = 1 := by kernel_rfl
  have hcl : Try.prog.cellsOf 67 = 1 := by kernel_rfl
  rw [hc] at hl
  obtain ⟨v0, v1, rfl⟩ : ∃ a0 a1, cs = [a0, a1] := by
    rcases cs with _ | ⟨a0, _ | ⟨a1, _ | ⟨g, r⟩⟩⟩ <;> simp at hl
    exact ⟨a0, a1, rfl⟩
  have hlen' : xs.length = 2 := hlen
  obtain ⟨y0, y1, rfl⟩ : ∃ a0 a1, xs = [a0, a1] := by
    rcases xs with _ | ⟨a0, _ | ⟨a1, _ | ⟨g, r⟩⟩⟩ <;> simp at hlen'
    exact ⟨a0, a1, rfl⟩
  clear hlen hlen' h hl
  have h0 := hf 0 _ rfl
  have h1 := hf 1 _ rfl
  clear hf
  simp [hcs, hcl] at h0 h1
  obtain ⟨u0, e0, _, w0⟩ := DataW.trod_string Try.underlying9 h0
  obtain ⟨a, len, cap, u1, e1, s1, s2, s3, s4, s5⟩ := openStsIn h1
  simp at e0 e1
  subst e0 e1 s1
  exact ⟨⟨u0, u1⟩, a, cap, rfl, ⟨w0, Nat.le_trans s2 s3, s4⟩, ⟨s2, s3⟩, s5⟩
set_option maxRecDepth 100000 in
/-- One, by value. -/
theorem openSgV {H : Type} {enc : TypeId × Value → H} {w : World} {rc : Reach} {b0 : Nat} {base : Nat} {spare : Nat → Bool} {held : Bool} {v : Value} {d : DataW H} {p : List MemPlace} (hv : Value.okWide Try.prog w rc b0 88 v) (h : DataW.Trod enc Try.prog w base spare held 88 v d p) :
    ∃ (r : CSg) (a : Option Addr) (cp : Nat), v = .agg #[.string r.nm, .slice a r.ps.length cp] ∧ SgWide r ∧ (r.ps.length ≤ cp ∧ cp ≤ maxLen) ∧ ReadsS w.heap.size w a r.ps := by
  obtain ⟨cs, rfl, hsz⟩ := okWide_struct Try.underlying88 hv
  obtain ⟨fuel, hf⟩ := h
  obtain ⟨r, a, cp, he, h1, h2, h3⟩ := openSg0 hf
  refine ⟨r, a, cp, ?_, h1, h2, h3⟩
  have he' : cs.toList = [.string r.nm, .slice a r.ps.length cp] := he
  congr 1
  exact Array.toList_inj.mp he'
def IsSgs (w : World) (a : Option Addr) (len cap : Nat) (cs : List CSg) : Prop := cs.length = len ∧ len ≤ cap ∧ cap ≤ maxLen ∧ (∀ r ∈ cs, SgWide r) ∧ ReadsSg w.heap.size w a cs

theorem openSgs {H : Type} {enc : TypeId × Value → H} {w : World} {spare : Nat → Bool} {held : Bool} {fuel : Nat} {a : Option Addr} {len cap : Nat} {x : DataW H × List MemPlace} (h : DataW.trod enc Try.prog w 0 spare held fuel 41 [.slice a len cap] = some x) :
    ∃ rs, IsSgs w a len cap rs := by
  rcases open_slice Try.underlying41 h with ⟨hcs, _⟩ | ⟨ad, l, c, m, n, D, Pl, hcs, _, hl, hm, hmm, _, hx⟩
  · simp at hcs
    obtain ⟨rfl, rfl, rfl⟩ := hcs
    exact ⟨[], rfl, Nat.le_refl _, by unfold maxLen; omega, by simp, .inl rfl⟩
  · simp at hcs
    obtain ⟨rfl, rfl, rfl⟩ := hcs
    have hlm : len ≤ m := by rw [hmm]; split <;> omega
    have hc : Try.prog.cellsOf 88 = 2 := by kernel_rfl
    rw [hc] at hx
    haveI : Inhabited (CSg × Option Addr × Nat) := ⟨⟨zSg, none, 0⟩⟩
    obtain ⟨f, hf⟩ := choose_lt (α := CSg × Option Addr × Nat) (n := len) (p := fun i r => w.cell? ((ad.add (i * 2)).add 0) = some (.string r.1.nm) ∧ w.cell? ((ad.add (i * 2)).add 1) = some (.slice r.2.1 r.1.ps.length r.2.2) ∧ SgWide r.1 ∧ r.1.ps.length ≤ r.2.2 ∧ ReadsS w.heap.size w r.2.1 r.1.ps) (fun i hi => by
      obtain ⟨cs', h1, h2⟩ := hx i (by omega)
      obtain ⟨r, q, cp, rfl, hw, hcp, hs⟩ := openSg0 h2
      obtain ⟨_, _, hcell⟩ := World.cells?_some h1
      exact ⟨⟨r, q, cp⟩, hcell 0 (by omega), hcell 1 (by omega), hw, hcp.1, hs⟩)
    have hg : ∀ i, i < len → ((List.range len).map (fun i => (f i).1)).getD i zSg = (f i).1 := fun i hi => by simp [List.getD_eq_getElem?_getD, hi]
    refine ⟨(List.range len).map (fun i => (f i).1), by simp, hl, hm, fun r hr => ?_, ?_⟩
    · obtain ⟨i, hi, rfl⟩ := List.mem_map.mp hr
      exact (hf i (by simpa using hi)).2.2.1
    · by_cases h0 : len = 0
      · exact .inl (by subst h0; rfl)
      · obtain ⟨b, off, spot⟩ := ad
        have hspot : spot = none := by simpa [Addr.add] using World.cell?_spot (hf 0 (by omega)).1
        subst hspot
        refine .inr ⟨b, off, rfl, ?_, fun i hi => ?_⟩
        · have := (hf 0 (by omega)).1
          rw [Go.WideShapes.add_plain, Go.WideShapes.add_plain] at this
          exact World.block_lt_of_cell? _ _ this
        · have hi' : i < len := by simpa using hi
          obtain ⟨q0, q1, _, z7, z8⟩ := hf i hi'
          rw [Go.WideShapes.add_plain, Go.WideShapes.add_plain] at q0 q1
          rw [hg i hi']
          exact ⟨_, _, ⟨q0, q1⟩, z7, z8⟩

end Go.Proofs.Ytlkjpemhamemgaa
