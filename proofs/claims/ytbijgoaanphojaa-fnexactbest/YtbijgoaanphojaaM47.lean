/-
  Texts of this claim laid together: DlO.
-/
import Derived.Test.YtbijgoaanphojaaM3
/-
  A list of deals that came in, opened.
-/
namespace Go.Proofs.Ytbijgoaanphojaa
open Go.ChangeShapes Go.WideShapes Go.ChangeAt Go.RowKit Go.Deep
set_option linter.unusedVariables false

theorem openStrs {H : Type} {enc : TypeId × Value → H} {w : World} {base : Nat} {spare : Nat → Bool} {held : Bool} {fuel : Nat} {cs : List Value} {x : DataW H × List MemPlace} (h : DataW.trod enc Try.prog w base spare held fuel 37 cs = some x) :
    ∃ a len cap ss, cs = [.slice a len cap] ∧ ss.length = len ∧ len ≤ cap ∧ cap ≤ maxLen ∧ (∀ s ∈ ss, ByteArray.size s ≤ maxLen) ∧ ReadsS w.heap.size w a ss := by
  rcases open_slice Try.underlying37 h with ⟨hcs, _⟩ | ⟨ad, len, cap, m, n, D, Pl, hcs, _, hl, hm, hmm, _, hx⟩
  · exact ⟨none, 0, 0, [], hcs, rfl, Nat.le_refl _, by unfold maxLen; omega, by simp, .inl rfl⟩
  · have hlm : len ≤ m := by rw [hmm]; split <;> omega
    have hc : Try.prog.cellsOf 9 = 1 := by kernel_rfl
    rw [hc] at hx
    haveI : Inhabited ByteArray := ⟨ByteArray.empty⟩
    obtain ⟨f, hf⟩ := choose_lt (α := ByteArray) (n := len) (p := fun i r => w.cell? ((ad.add (i * 1)).add 0) = some (.string r) ∧ r.size ≤ maxLen) (fun i hi => by
      obtain ⟨cs', h1, h2⟩ := hx i (by omega)
      obtain ⟨u, rfl, _, hw⟩ := DataW.trod_string Try.underlying9 h2
      obtain ⟨_, _, hcell⟩ := World.cells?_some h1
      exact ⟨u, hcell 0 (by simp), hw⟩)
    have hg : ∀ i, i < len → ((List.range len).map f).getD i ByteArray.empty = f i := fun i hi => by simp [List.getD_eq_getElem?_getD, hi]
    refine ⟨some ad, len, cap, (List.range len).map f, hcs, by simp, hl, hm, fun r hr => ?_, ?_⟩
    · obtain ⟨i, hi, rfl⟩ := List.mem_map.mp hr
      exact (hf i (by simpa using hi)).2
    · by_cases h0 : len = 0
      · exact .inl (by subst h0; rfl)
      · obtain ⟨b, off, spot⟩ := ad
        have hspot : spot = none := by simpa [Addr.add] using World.cell?_spot (hf 0 (by omega)).1
        subst hspot
        refine .inr ⟨b, off, rfl, ?_, fun i hi => ?_⟩
        · have := (hf 0 (by omega)).1
          rw [Go.WideShapes.add_plain, Go.WideShapes.add_plain] at this
          exact World.block_lt_of_cell? _ _ this
        · have hi' : i < len := by simpa using hi
          obtain ⟨q0, _⟩ := hf i hi'
          rw [Go.WideShapes.add_plain, Go.WideShapes.add_plain, Nat.mul_one, Nat.add_zero] at q0
          rw [hg i hi']
          exact q0


def IsDls (w : World) (a : Option Addr) (len cap : Nat) (cs : List CDl) : Prop := cs.length = len ∧ len ≤ cap ∧ cap ≤ maxLen ∧ (∀ r ∈ cs, DlWide r) ∧ ReadsDl w.heap.size w a cs
theorem openDl {H : Type} {enc : TypeId × Value → H} {w : World} {base : Nat} {spare : Nat → Bool} {held : Bool} {fuel : Nat} {cs : List Value} {x : DataW H × List MemPlace} (h : DataW.trod enc Try.prog w base spare held fuel 70 cs = some x) :
    ∃ (r : CDl) (a : Option Addr) (cp : Nat), cs = [.string r.nm, .int .i64 r.kd, .slice a r.arts.length cp, .int .i64 r.nd, .int .i64 r.vl, .bool r.on] ∧ DlWide r ∧ r.arts.length ≤ cp ∧ ReadsS w.heap.size w a r.arts := by
  obtain ⟨xs, n, _, _, hl, hlen, hf⟩ := DataW.trod_struct Try.underlying70 h
  have hc : Try.prog.cellsOf 70 = 6 := by kernel_rfl
  have hcs : Try.prog.cellsOf 9 = 1 := by kernel_rfl
  have hci : Try.prog.cellsOf 3 = 1 := by kernel_rfl
  have hcl : Try.prog.cellsOf 37 = 1 := by kernel_rfl
  have hcb : Try.prog.cellsOf 4 = 1 := by kernel_rfl
  rw [hc] at hl
  obtain ⟨v0, v1, v2, v3, v4, v5, rfl⟩ : ∃ a0 a1 a2 a3 a4 a5, cs = [a0, a1, a2, a3, a4, a5] := by
    rcases cs with _ | ⟨a0, _ | ⟨a1, _ | ⟨a2, _ | ⟨a3, _ | ⟨a4, _ | ⟨a5, _ | ⟨g, r⟩⟩⟩⟩⟩⟩⟩ <;> simp at hl
    exact ⟨a0, a1, a2, a3, a4, a5, rfl⟩
  have hlen' : xs.length = 6 := hlen
  obtain ⟨y0, y1, y2, y3, y4, y5, rfl⟩ : ∃ a0 a1 a2 a3 a4 a5, xs = [a0, a1, a2, a3, a4, a5] := by
    rcases xs with _ | ⟨a0, _ | ⟨a1, _ | ⟨a2, _ | ⟨a3, _ | ⟨a4, _ | ⟨a5, _ | ⟨g, r⟩⟩⟩⟩⟩⟩⟩ <;> simp at hlen'
    exact ⟨a0, a1, a2, a3, a4, a5, rfl⟩
  clear hlen hlen' h hl
  have h0 := hf 0 _ rfl
  have h1 := hf 1 _ rfl
  have h2 := hf 2 _ rfl
  have h3 := hf 3 _ rfl
  have h4 := hf 4 _ rfl
  have h5 := hf 5 _ rfl
  clear hf
  simp [hcs, hci, hcl, hcb] at h0 h1 h2 h3 h4 h5
  obtain ⟨u0, e0, _, w0⟩ := DataW.trod_string Try.underlying9 h0
  obtain ⟨u1, e1, _, w1⟩ := DataW.trod_int Try.underlying3 h1
  obtain ⟨a, len, cap, ss, e2, s1, s2, s3, s4, s5⟩ := openStrs h2
  obtain ⟨u3, e3, _, w3⟩ := DataW.trod_int Try.underlying3 h3
  obtain ⟨u4, e4, _, w4⟩ := DataW.trod_int Try.underlying3 h4
  obtain ⟨u5, e5, _⟩ := DataW.trod_bool Try.underlying4 h5
  simp at e0 e1 e2 e3 e4 e5
  subst e0 e1 e2 e3 e4 e5 s1
  exact ⟨⟨u0, u1, ss, u3, u4, u5⟩, a, cap, rfl, ⟨w0, Nat.le_trans s2 s3, s4⟩, s2, s5⟩
theorem openDls {H : Type} {enc : TypeId × Value → H} {w : World} {spare : Nat → Bool} {held : Bool} {fuel : Nat} {a : Option Addr} {len cap : Nat} {x : DataW H × List MemPlace} (h : DataW.trod enc Try.prog w 0 spare held fuel 44 [.slice a len cap] = some x) :
    ∃ rs, IsDls w a len cap rs := by
  rcases open_slice Try.underlying44 h with ⟨hcs, _⟩ | ⟨ad, l, c, m, n, D, Pl, hcs, _, hl, hm, hmm, _, hx⟩
  · simp at hcs
    obtain ⟨rfl, rfl, rfl⟩ := hcs
    exact ⟨[], rfl, Nat.le_refl _, by unfold maxLen; omega, by simp, .inl rfl⟩
  · simp at hcs
    obtain ⟨rfl, rfl, rfl⟩ := hcs
    have hlm : len ≤ m := by rw [hmm]; split <;> omega
    have hc : Try.prog.cellsOf 70 = 6 := by kernel_rfl
    rw [hc] at hx
    haveI : Inhabited (CDl × Option Addr × Nat) := ⟨⟨zDl, none, 0⟩⟩
    obtain ⟨f, hf⟩ := choose_lt (α := CDl × Option Addr × Nat) (n := len) (p := fun i r => w.cell? ((ad.add (i * 6)).add 0) = some (.string r.1.nm) ∧ w.cell? ((ad.add (i * 6)).add 1) = some (.int .i64 r.1.kd) ∧ w.cell? ((ad.add (i * 6)).add 2) = some (.slice r.2.1 r.1.arts.length r.2.2) ∧ w.cell? ((ad.add (i * 6)).add 3) = some (.int .i64 r.1.nd) ∧ w.cell? ((ad.add (i * 6)).add 4) = some (.int .i64 r.1.vl) ∧ w.cell? ((ad.add (i * 6)).add 5) = some (.bool r.1.on) ∧ DlWide r.1 ∧ r.1.arts.length ≤ r.2.2 ∧ ReadsS w.heap.size w r.2.1 r.1.arts) (fun i hi => by
      obtain ⟨cs', h1, h2⟩ := hx i (by omega)
      obtain ⟨r, q, cp, rfl, hw, hcp, hs⟩ := openDl h2
      obtain ⟨_, _, hcell⟩ := World.cells?_some h1
      exact ⟨⟨r, q, cp⟩, hcell 0 (by omega), hcell 1 (by omega), hcell 2 (by omega), hcell 3 (by omega), hcell 4 (by omega), hcell 5 (by omega), hw, hcp, hs⟩)
    have hg : ∀ i, i < len → ((List.range len).map (fun i => (f i).1)).getD i zDl = (f i).1 := fun i hi => by simp [List.getD_eq_getElem?_getD, hi]
    refine ⟨(List.range len).map (fun i => (f i).1), by simp, hl, hm, fun r hr => ?_, ?_⟩
    · obtain ⟨i, hi, rfl⟩ := List.mem_map.mp hr
      exact (hf i (by simpa using hi)).2.2.2.2.2.2.1
    · by_cases h0 : len = 0
      · exact .inl (by subst h0; rfl)
      · obtain ⟨b, off, spot⟩ := ad
        have hspot : spot = none := by simpa [Addr.add] using World.cell?_spot (hf 0 (by omega)).1
        subst hspot
        refine .inr ⟨b, off, rfl, ?_, fun i hi => ?_⟩
        · have := (hf 0 (by omega)).1
          rw [Go.WideShapes.add_plain, Go.WideShapes.add_plain] at this
          exact World.block_lt_of_cell? _ _ this
        · have hi' : i < len := by simpa using hi
          obtain ⟨q0, q1, q2, q3, q4, q5, _, q7, q8⟩ := hf i hi'
          rw [Go.WideShapes.add_plain, Go.WideShapes.add_plain] at q0 q1 q2 q3 q4 q5
          rw [hg i hi']
          exact ⟨_, _, ⟨q0, q1, q2, q3, q4, q5⟩, q7, q8⟩

end Go.Proofs.Ytbijgoaanphojaa
