/-
  A list of Worker, and one Worker, that came in, opened.
-/
import Derived.Test.YteigbmdhfeagfaaWkE
namespace Go.Proofs.Yteigbmdhfeagfaa
open Go.ChangeShapes Go.WideShapes Go.ChangeAt Go.RowKit Go.Deep Go.Joins
set_option linter.unusedVariables false

set_option maxRecDepth 100000 in
theorem openWk0 {H : Type} {enc : TypeId × Value → H} {w : World} {base : Nat} {spare : Nat → Bool} {held : Bool} {fuel : Nat} {cs : List Value} {x : DataW H × List MemPlace} (h : DataW.trod enc Try.prog w base spare held fuel 53 cs = some x) :
    ∃ (r : CWk) (a : Option Addr) (cp : Nat), cs = [.string r.nm, .int .i64 r.ms, .int .i64 r.rt, .int .i64 r.co, .slice a r.sk.length cp] ∧ WkWide r ∧ (r.sk.length ≤ cp ∧ cp ≤ maxLen) ∧ ReadsS w.heap.size w a r.sk := by
  obtain ⟨xs, n, _, _, hl, hlen, hf⟩ := DataW.trod_struct Try.underlying53 h
  have hc : Try.prog.cellsOf 53 = 5 := by kernel_rfl
  have hcs : Try.prog.cellsOf 9 = 1 := by kernel_rfl
  have hci : Try.prog.cellsOf 3 = 1 := by kernel_rfl
  have hcl : Try.prog.cellsOf 51 = 1 := by kernel_rfl
  rw [hc] at hl
  obtain ⟨v0, v1, v2, v3, v4, rfl⟩ : ∃ a0 a1 a2 a3 a4, cs = [a0, a1, a2, a3, a4] := by
    rcases cs with _ | ⟨a0, _ | ⟨a1, _ | ⟨a2, _ | ⟨a3, _ | ⟨a4, _ | ⟨g, r⟩⟩⟩⟩⟩⟩ <;> simp at hl
    exact ⟨a0, a1, a2, a3, a4, rfl⟩
  have hlen' : xs.length = 5 := hlen
  obtain ⟨y0, y1, y2, y3, y4, rfl⟩ : ∃ a0 a1 a2 a3 a4, xs = [a0, a1, a2, a3, a4] := by
    rcases xs with _ | ⟨a0, _ | ⟨a1, _ | ⟨a2, _ | ⟨a3, _ | ⟨a4, _ | ⟨g, r⟩⟩⟩⟩⟩⟩ <;> simp at hlen'
    exact ⟨a0, a1, a2, a3, a4, rfl⟩
  clear hlen hlen' h hl
  have h0 := hf 0 _ rfl
  have h1 := hf 1 _ rfl
  have h2 := hf 2 _ rfl
  have h3 := hf 3 _ rfl
  have h4 := hf 4 _ rfl
  clear hf
  simp [hcs, hci, hcl] at h0 h1 h2 h3 h4
  obtain ⟨u0, e0, _, w0⟩ := DataW.trod_string Try.underlying9 h0
  obtain ⟨u1, e1, _, w1⟩ := DataW.trod_int Try.underlying3 h1
  obtain ⟨u2, e2, _, w2⟩ := DataW.trod_int Try.underlying3 h2
  obtain ⟨u3, e3, _, w3⟩ := DataW.trod_int Try.underlying3 h3
  obtain ⟨a, len, cap, u4, e4, s1, s2, s3, s4, s5⟩ := openStsIn h4
  simp at e0 e1 e2 e3 e4
  subst e0 e1 e2 e3 e4 s1
  exact ⟨⟨u0, u1, u2, u3, u4⟩, a, cap, rfl, ⟨w0, Nat.le_trans s2 s3, s4⟩, ⟨s2, s3⟩, s5⟩
set_option maxRecDepth 100000 in
/-- One, by value. -/
theorem openWkV {H : Type} {enc : TypeId × Value → H} {w : World} {rc : Reach} {b0 : Nat} {base : Nat} {spare : Nat → Bool} {held : Bool} {v : Value} {d : DataW H} {p : List MemPlace} (hv : Value.okWide Try.prog w rc b0 53 v) (h : DataW.Trod enc Try.prog w base spare held 53 v d p) :
    ∃ (r : CWk) (a : Option Addr) (cp : Nat), v = .agg #[.string r.nm, .int .i64 r.ms, .int .i64 r.rt, .int .i64 r.co, .slice a r.sk.length cp] ∧ WkWide r ∧ (r.sk.length ≤ cp ∧ cp ≤ maxLen) ∧ ReadsS w.heap.size w a r.sk := by
  obtain ⟨cs, rfl, hsz⟩ := okWide_struct Try.underlying53 hv
  obtain ⟨fuel, hf⟩ := h
  obtain ⟨r, a, cp, he, h1, h2, h3⟩ := openWk0 hf
  refine ⟨r, a, cp, ?_, h1, h2, h3⟩
  have he' : cs.toList = [.string r.nm, .int .i64 r.ms, .int .i64 r.rt, .int .i64 r.co, .slice a r.sk.length cp] := he
  congr 1
  exact Array.toList_inj.mp he'
def IsWks (w : World) (a : Option Addr) (len cap : Nat) (cs : List CWk) : Prop := cs.length = len ∧ len ≤ cap ∧ cap ≤ maxLen ∧ (∀ r ∈ cs, WkWide r) ∧ ReadsWk w.heap.size w a cs

theorem openWks {H : Type} {enc : TypeId × Value → H} {w : World} {spare : Nat → Bool} {held : Bool} {fuel : Nat} {a : Option Addr} {len cap : Nat} {x : DataW H × List MemPlace} (h : DataW.trod enc Try.prog w 0 spare held fuel 23 [.slice a len cap] = some x) :
    ∃ rs, IsWks w a len cap rs := by
  rcases open_slice Try.underlying23 h with ⟨hcs, _⟩ | ⟨ad, l, c, m, n, D, Pl, hcs, _, hl, hm, hmm, _, hx⟩
  · simp at hcs
    obtain ⟨rfl, rfl, rfl⟩ := hcs
    exact ⟨[], rfl, Nat.le_refl _, by unfold maxLen; omega, by simp, .inl rfl⟩
  · simp at hcs
    obtain ⟨rfl, rfl, rfl⟩ := hcs
    have hlm : len ≤ m := by rw [hmm]; split <;> omega
    have hc : Try.prog.cellsOf 53 = 5 := by kernel_rfl
    rw [hc] at hx
    haveI : Inhabited (CWk × Option Addr × Nat) := ⟨⟨zWk, none, 0⟩⟩
    obtain ⟨f, hf⟩ := choose_lt (α := CWk × Option Addr × Nat) (n := len) (p := fun i r => w.cell? ((ad.add (i * 5)).add 0) = some (.string r.1.nm) ∧ w.cell? ((ad.add (i * 5)).add 1) = some (.int .i64 r.1.ms) ∧ w.cell? ((ad.add (i * 5)).add 2) = some (.int .i64 r.1.rt) ∧ w.cell? ((ad.add (i * 5)).add 3) = some (.int .i64 r.1.co) ∧ w.cell? ((ad.add (i * 5)).add 4) = some (.slice r.2.1 r.1.sk.length r.2.2) ∧ WkWide r.1 ∧ r.1.sk.length ≤ r.2.2 ∧ ReadsS w.heap.size w r.2.1 r.1.sk) (fun i hi => by
      obtain ⟨cs', h1, h2⟩ := hx i (by omega)
      obtain ⟨r, q, cp, rfl, hw, hcp, hs⟩ := openWk0 h2
      obtain ⟨_, _, hcell⟩ := World.cells?_some h1
      exact ⟨⟨r, q, cp⟩, hcell 0 (by omega), hcell 1 (by omega), hcell 2 (by omega), hcell 3 (by omega), hcell 4 (by omega), hw, hcp.1, hs⟩)
    have hg : ∀ i, i < len → ((List.range len).map (fun i => (f i).1)).getD i zWk = (f i).1 := fun i hi => by simp [List.getD_eq_getElem?_getD, hi]
    refine ⟨(List.range len).map (fun i => (f i).1), by simp, hl, hm, fun r hr => ?_, ?_⟩
    · obtain ⟨i, hi, rfl⟩ := List.mem_map.mp hr
      exact (hf i (by simpa using hi)).2.2.2.2.2.1
    · by_cases h0 : len = 0
      · exact .inl (by subst h0; rfl)
      · obtain ⟨b, off, spot⟩ := ad
        have hspot : spot = none := by simpa [Addr.add] using World.cell?_spot (hf 0 (by omega)).1
        subst hspot
        refine .inr ⟨b, off, rfl, ?_, fun i hi => ?_⟩
        · have := (hf 0 (by omega)).1
          rw [Go.WideShapes.add_plain, Go.WideShapes.add_plain] at this
          exact World.block_lt_of_cell? _ _ this
        · have hi' : i < len := by simpa using hi
          obtain ⟨q0, q1, q2, q3, q4, _, z7, z8⟩ := hf i hi'
          rw [Go.WideShapes.add_plain, Go.WideShapes.add_plain] at q0 q1 q2 q3 q4
          rw [hg i hi']
          exact ⟨_, _, ⟨q0, q1, q2, q3, q4⟩, z7, z8⟩

end Go.Proofs.Yteigbmdhfeagfaa
