/-
  Lists of texts as the list inside a record: the names that gennest.py wants.
-/
import Derived.Test.YtjnlghngneonhaaStrA
namespace Go.Proofs.Ytjnlghngneonhaa
open Go.ChangeShapes Go.WideShapes Go.ChangeAt Go.RowKit Go.Deep
set_option linter.unusedVariables false

def FreeSt (w : World) (g n : Nat) : Prop := ∀ j, w.frozen? ⟨g, j, none⟩ = false
theorem FreeSt.below {B : Nat} {w w' : World} {g n : Nat} (h : FreeSt w g n) (hb : Below B w w') (hB : g < B) : FreeSt w' g n := fun j => (hb.frozen (p := ⟨g, j, none⟩) hB).trans (h j)
theorem FreeSt.set {w : World} {g n : Nat} (h : FreeSt w g n) (p : Addr) (v : Value) : FreeSt (w.setCell p v) g n := fun j => by rw [World.frozen?_setCell]; exact h j
theorem toSts_any (a : Option Addr) (cap : Nat) (ss : List ByteArray) (hn : ss.length ≤ 1048576) (w : World) (hr : ReadsS w.heap.size w a ss) :
    Calls Try.prog 46 #[.slice a ss.length cap] w fun e w' => e = .returned (.slice (some ⟨w.heap.size, 0, none⟩) ss.length ss.length) ∧ Below w.heap.size w w' ∧ w.heap.size < w'.heap.size ∧ StrsAt w' w.heap.size 0 ss ∧ FreeSt w' w.heap.size ss.length := toStrs_any a cap ss hn w hr
theorem eqSts_any (a b : Option Addr) (ca cb : Nat) (ss : List ByteArray) (hn : ss.length ≤ 1048576) (w : World) (ra : ReadsS w.heap.size w a ss) (rb : ReadsS w.heap.size w b ss) :
    Calls Try.prog 47 #[.slice a ss.length ca, .slice b ss.length cb] w fun e w' => e = .returned (.bool true) ∧ Below w.heap.size w w' := eqStrs_any a b ca cb ss hn w ra rb
theorem openStsIn {H : Type} {enc : TypeId × Value → H} {w : World} {base : Nat} {spare : Nat → Bool} {held : Bool} {fuel : Nat} {cs : List Value} {x : DataW H × List MemPlace} (h : DataW.trod enc Try.prog w base spare held fuel 41 cs = some x) :
    ∃ a len cap ss, cs = [.slice a len cap] ∧ ss.length = len ∧ len ≤ cap ∧ cap ≤ maxLen ∧ (∀ s ∈ ss, ByteArray.size s ≤ maxLen) ∧ ReadsS w.heap.size w a ss := by
  rcases open_slice Try.underlying41 h with ⟨hcs, _⟩ | ⟨ad, len, cap, m, n, D, Pl, hcs, _, hl, hm, hmm, _, hx⟩
  · exact ⟨none, 0, 0, [], hcs, rfl, Nat.le_refl _, by unfold maxLen; omega, by simp, .inl rfl⟩
  · have hlm : len ≤ m := by rw [hmm]; split <;> omega
    have hc : Try.prog.cellsOf 9 = 1 := by kernel_rfl
    rw [hc] at hx
    haveI : Inhabited ByteArray := ⟨ByteArray.empty⟩
    obtain ⟨f, hf⟩ := choose_lt (α := ByteArray) (n := len) (p := fun i r => w.cell? ((ad.add (i * 1)).add 0) = some (.string r) ∧ r.size ≤ maxLen) (fun i hi => by
      obtain ⟨cs', h1, h2⟩ := hx i (by omega)
      obtain ⟨u, rfl, _, hw⟩ := DataW.trod_string Try.underlying9 h2
      obtain ⟨_, _, hcell⟩ := World.cells?_some h1
      exact ⟨u, hcell 0 (by simp), hw⟩)
    have hg : ∀ i, i < len → ((List.range len).map f).getD i ByteArray.empty = f i := fun i hi => by simp [List.getD_eq_getElem?_getD, hi]
    refine ⟨some ad, len, cap, (List.range len).map f, hcs, by simp, hl, hm, fun r hr => ?_, ?_⟩
    · obtain ⟨i, hi, rfl⟩ := List.mem_map.mp hr
      exact (hf i (by simpa using hi)).2
    · by_cases h0 : len = 0
      · exact .inl (by subst h0; rfl)
      · obtain ⟨b, off, spot⟩ := ad
        have hspot : spot = none := by simpa [Addr.add] using World.cell?_spot (hf 0 (by omega)).1
        subst hspot
        refine .inr ⟨b, off, rfl, ?_, fun i hi => ?_⟩
        · have := (hf 0 (by omega)).1
          rw [Go.WideShapes.add_plain, Go.WideShapes.add_plain] at this
          exact World.block_lt_of_cell? _ _ this
        · have hi' : i < len := by simpa using hi
          obtain ⟨q0, _⟩ := hf i hi'
          rw [Go.WideShapes.add_plain, Go.WideShapes.add_plain, Nat.mul_one, Nat.add_zero] at q0
          rw [hg i hi']
          exact q0
end Go.Proofs.Ytjnlghngneonhaa
