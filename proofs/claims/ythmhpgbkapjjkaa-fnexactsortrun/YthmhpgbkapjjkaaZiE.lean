/-
  Lists of numbers within records: the laws' own szIntS, toIntS, eqIntS at them, and one that came in, opened.
-/
import Derived.Test.YthmhpgbkapjjkaaLists
import Derived.Lib.SmallJoins
namespace Go.Proofs.Ythmhpgbkapjjkaa
open Go.ChangeShapes Go.WideShapes Go.ChangeAt Go.RowKit Go.Deep Go.Joins
set_option linter.unusedVariables false

def FreeZi (w : World) (g n : Nat) : Prop := FreeAt w g 0 n
theorem FreeZi.below {B : Nat} {w w' : World} {g n : Nat} (h : FreeZi w g n) (hb : Below B w w') (hB : g < B) : FreeZi w' g n := FreeAt.below h hb hB
theorem toZis_any (a : Option Addr) (cap : Nat) (xs : List Int) (hn : xs.length ≤ 1048576) (w : World) (hr : Reads w.heap.size w a xs) :
    Calls Try.prog 25 #[.slice a xs.length cap] w fun e w' => e = .returned (.slice (some ⟨w.heap.size, 0, none⟩) xs.length xs.length) ∧ Below w.heap.size w w' ∧ w.heap.size < w'.heap.size ∧ IntsAt w' w.heap.size 0 xs ∧ FreeZi w' w.heap.size xs.length := toInts_any a cap xs (by omega) w hr
theorem eqZis_any (a b : Option Addr) (ca cb : Nat) (xs : List Int) (hn : xs.length ≤ 1048576) (w : World) (ra : Reads w.heap.size w a xs) (rb : Reads w.heap.size w b xs) :
    Calls Try.prog 17 #[.slice a xs.length ca, .slice b xs.length cb] w fun e w' => e = .returned (.bool true) ∧ Below w.heap.size w w' :=
  (eqInts_any w.heap.size a b ca cb xs xs (by omega) (by omega) w ra rb).mono fun e w' ⟨h1, h2⟩ => ⟨by rw [h1, decide_eq_true rfl], h2⟩
theorem openZisIn {H : Type} {enc : TypeId × Value → H} {w : World} {base : Nat} {spare : Nat → Bool} {held : Bool} {fuel : Nat} {cs : List Value} {x : DataW H × List MemPlace} (h : DataW.trod enc Try.prog w base spare held fuel 26 cs = some x) :
    ∃ a len cap ss, cs = [.slice a len cap] ∧ ss.length = len ∧ len ≤ cap ∧ cap ≤ maxLen ∧ Reads w.heap.size w a ss := by
  rcases open_slice Try.underlying26 h with ⟨hcs, _⟩ | ⟨ad, len, cap, m, n, D, Pl, hcs, _, hl, hm, hmm, _, hx⟩
  · exact ⟨none, 0, 0, [], hcs, rfl, Nat.le_refl _, by unfold maxLen; omega, .inl rfl⟩
  · have hlm : len ≤ m := by rw [hmm]; split <;> omega
    have hc : Try.prog.cellsOf 3 = 1 := by kernel_rfl
    rw [hc] at hx
    obtain ⟨f, hf⟩ := choose_lt (α := Int) (n := len) (p := fun i r => w.cell? ((ad.add (i * 1)).add 0) = some (.int .i64 r)) (fun i hi => by
      obtain ⟨cs', h1, h2⟩ := hx i (by omega)
      obtain ⟨u, rfl, _, hw⟩ := DataW.trod_int Try.underlying3 h2
      obtain ⟨_, _, hcell⟩ := World.cells?_some h1
      exact ⟨u, hcell 0 (by simp)⟩)
    have hg : ∀ i, i < len → ((List.range len).map f).getD i 0 = f i := fun i hi => by simp [List.getD_eq_getElem?_getD, hi]
    refine ⟨some ad, len, cap, (List.range len).map f, hcs, by simp, hl, hm, ?_⟩
    by_cases h0 : len = 0
    · exact .inl (by subst h0; rfl)
    · obtain ⟨b, off, spot⟩ := ad
      have hspot : spot = none := by simpa [Addr.add] using World.cell?_spot (hf 0 (by omega))
      subst hspot
      refine .inr ⟨b, off, rfl, ?_, fun i hi => ?_⟩
      · have := (hf 0 (by omega))
        rw [Go.WideShapes.add_plain, Go.WideShapes.add_plain] at this
        exact World.block_lt_of_cell? _ _ this
      · have hi' : i < len := by simpa using hi
        have q0 := hf i hi'
        rw [Go.WideShapes.add_plain, Go.WideShapes.add_plain, Nat.mul_one, Nat.add_zero] at q0
        rw [hg i hi']
        exact q0
end Go.Proofs.Ythmhpgbkapjjkaa
