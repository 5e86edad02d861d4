/-
  The reader's steps, case by case; what the scanner's run keeps.
-/
import Derived.Test.YtjnlghngneonhaaScT
import Derived.Test.YtjnlghngneonhaaScJ
namespace Go.Proofs.Ytjnlghngneonhaa
open Go.ChangeShapes Go.WideShapes Go.ChangeAt Go.RowKit Go.Joins Go.Deep
set_option linter.unusedVariables false

section
variable {t : ByteArray} {pl : Nat} {out : List CSg} {tag : ByteArray} {ps : List ByteArray} {pt : List Int}
theorem rd0a (h : pl = t.size) : rdStep t ⟨0, pl, out, tag, ps, pt⟩ = .inl (0, 0, out) := by simp [rdStep, h]
theorem rd0b (h : pl < t.size) (h1 : out.length = 200) : rdStep t ⟨0, pl, out, tag, ps, pt⟩ = .inl (9, pl, []) := by simp [rdStep, h1, Nat.ne_of_lt h]
theorem rd0c (h : pl < t.size) (h1 : out.length ≠ 200) {k : Nat} (h2 : tagF t pl = some k) : rdStep t ⟨0, pl, out, tag, ps, pt⟩ = .inl (4, pl + k, []) := by simp [rdStep, h1, h2, Nat.ne_of_lt h]
theorem rd0d (h : pl < t.size) (h1 : out.length ≠ 200) (h2 : tagF t pl = none) : rdStep t ⟨0, pl, out, tag, ps, pt⟩ = .inr ⟨1, pl + 3, out, t.extract pl (pl + 3), [], []⟩ := by simp [rdStep, h1, h2, Nat.ne_of_lt h]
theorem rd1a (h : pl < t.size) (h1 : (byL t).getD pl 0 = 39) : rdStep t ⟨1, pl, out, tag, ps, pt⟩ = .inr ⟨0, pl + 1, out ++ [⟨tag, ps⟩], tag, ps, []⟩ := by unfold rdStep; dsimp only; rw [if_neg (by decide), if_pos rfl, if_pos ⟨h, h1⟩]
theorem rd1b (h : pl < t.size) (h1 : (byL t).getD pl 0 = 43) (h2 : ps.length = 20) : rdStep t ⟨1, pl, out, tag, ps, pt⟩ = .inl (9, pl, []) := by unfold rdStep; dsimp only; rw [if_neg (by decide), if_pos rfl, if_neg (by omega), if_pos ⟨h, h1⟩, if_pos h2]
theorem rd1c (h : pl < t.size) (h1 : (byL t).getD pl 0 = 43) (h2 : ps.length ≠ 20) : rdStep t ⟨1, pl, out, tag, ps, pt⟩ = .inr ⟨2, pl + 1, out, tag, ps, []⟩ := by unfold rdStep; dsimp only; rw [if_neg (by decide), if_pos rfl, if_neg (by omega), if_pos ⟨h, h1⟩, if_neg h2]
theorem rd1d (h1 : pl < t.size → (byL t).getD pl 0 ≠ 39 ∧ (byL t).getD pl 0 ≠ 43) : rdStep t ⟨1, pl, out, tag, ps, pt⟩ = .inl (4, pl, []) := by
  unfold rdStep; dsimp only
  rw [if_neg (by decide), if_pos rfl, if_neg (fun e => (h1 e.1).1 e.2), if_neg (fun e => (h1 e.1).2 e.2)]
theorem rd2a (h : pl = t.size) : rdStep t ⟨2, pl, out, tag, ps, pt⟩ = .inl (4, pl, []) := by unfold rdStep; dsimp only; rw [if_neg (by decide), if_neg (by decide), if_pos h]
theorem rd2b (h : pl < t.size) (h1 : (byL t).getD pl 0 = 39 ∨ (byL t).getD pl 0 = 43) : rdStep t ⟨2, pl, out, tag, ps, pt⟩ = .inr ⟨1, pl, out, tag, ps ++ [txL pt], []⟩ := by unfold rdStep; dsimp only; rw [if_neg (by decide), if_neg (by decide), if_neg (by omega), if_pos h1]
theorem rd2c (h : pl < t.size) (h1 : (byL t).getD pl 0 = 63) (h2 : pl + 1 = t.size ∨ mkB ((byL t).getD (pl + 1) 0) = false) : rdStep t ⟨2, pl, out, tag, ps, pt⟩ = .inl (4, pl + 1, []) := by unfold rdStep; dsimp only; rw [if_neg (by decide), if_neg (by decide), if_neg (by omega), if_neg (by omega), if_pos h1, if_pos h2]
theorem rd2d (h : pl < t.size) (h1 : (byL t).getD pl 0 = 63) (h2 : ¬ (pl + 1 = t.size ∨ mkB ((byL t).getD (pl + 1) 0) = false)) (h3 : pt.length = 80) : rdStep t ⟨2, pl, out, tag, ps, pt⟩ = .inl (5, pl + 1, []) := by unfold rdStep; dsimp only; rw [if_neg (by decide), if_neg (by decide), if_neg (by omega), if_neg (by omega), if_pos h1, if_neg h2, if_pos h3]
theorem rd2e (h : pl < t.size) (h1 : (byL t).getD pl 0 = 63) (h2 : ¬ (pl + 1 = t.size ∨ mkB ((byL t).getD (pl + 1) 0) = false)) (h3 : pt.length ≠ 80) : rdStep t ⟨2, pl, out, tag, ps, pt⟩ = .inr ⟨2, pl + 2, out, tag, ps, pt ++ [(byL t).getD (pl + 1) 0]⟩ := by unfold rdStep; dsimp only; rw [if_neg (by decide), if_neg (by decide), if_neg (by omega), if_neg (by omega), if_pos h1, if_neg h2, if_neg h3]
theorem rd2f (h : pl < t.size) (h1 : (byL t).getD pl 0 ≠ 39 ∧ (byL t).getD pl 0 ≠ 43 ∧ (byL t).getD pl 0 ≠ 63) (h3 : pt.length = 80) : rdStep t ⟨2, pl, out, tag, ps, pt⟩ = .inl (5, pl, []) := by unfold rdStep; dsimp only; rw [if_neg (by decide), if_neg (by decide), if_neg (by omega), if_neg (by omega), if_neg h1.2.2, if_pos h3]
theorem rd2g (h : pl < t.size) (h1 : (byL t).getD pl 0 ≠ 39 ∧ (byL t).getD pl 0 ≠ 43 ∧ (byL t).getD pl 0 ≠ 63) (h3 : pt.length ≠ 80) : rdStep t ⟨2, pl, out, tag, ps, pt⟩ = .inr ⟨2, pl + 1, out, tag, ps, pt ++ [(byL t).getD pl 0]⟩ := by unfold rdStep; dsimp only; rw [if_neg (by decide), if_neg (by decide), if_neg (by omega), if_neg (by omega), if_neg h1.2.2, if_neg h3]
end
/-- What holds wherever the reader stands. -/
structure RdV (t : ByteArray) (lb pl : Nat) (n : Nat) (ps : List ByteArray) (pt : List Int) : Prop where
  pl : pl ≤ t.size
  o1 : n ≤ 200
  o2 : lb ≠ 0 → n ≤ 199
  p1 : ps.length ≤ 20
  p2 : lb = 2 → ps.length ≤ 19
  q1 : pt.length ≤ 80
  q2 : lb ≠ 2 → pt = []
/-- The scanner stands at a label (lb says which), n steps are to come at most. -/
def RdJ (B sb : Nat) (t : ByteArray) (fin : Int × Nat × List CSg) (w : World) (lb n : Nat) (W : World) : Prop :=
  ∃ (pb : Nat) (fr : Bool) (pl : Nat) (E : List SgE) (la : Option Addr) (lk : Nat) (tg : ByteArray) (ps : List ByteArray) (pa : Option Addr) (pk : Nat) (pt : List Int) (qa : Option Addr) (qk : Nat),
    RdV t lb pl E.length ps pt ∧ (lb ≠ 0 → fr = true) ∧ muR t ⟨lb, pl, E.map (·.c), tg, ps, pt⟩ = n ∧ rdEnd t ⟨lb, pl, E.map (·.c), tg, ps, pt⟩ = fin ∧ RdI B sb pb fr t pl E la lk tg ps pa pk pt qa qk W ∧ Below B w W
/-- What the scanner tells, and how it lies then. -/
def ScA (B sb : Nat) (t : ByteArray) (fin : Int × Nat × List CSg) (w : World) (e : Ending) (w' : World) : Prop :=
  e = .returned (.int .i64 fin.1) ∧ Below B w w' ∧ ∃ (pb : Nat) (fr : Bool) (pl : Nat) (E : List SgE) (la : Option Addr) (lk : Nat) (tg : ByteArray) (ps : List ByteArray) (pa : Option Addr) (pk : Nat) (pt : List Int) (qa : Option Addr) (qk : Nat),
    RdI B sb pb fr t pl E la lk tg ps pa pk pt qa qk w' ∧ pl ≤ t.size ∧ E.length ≤ 200 ∧ (fin.1 = 0 → fin.2.2 = E.map (·.c)) ∧ (fin.1 ≠ 0 → fin.2.1 = pl ∧ fin.2.2 = [])
section
variable {B sb pb : Nat} {fr : Bool} {t : ByteArray} {pl : Nat} {E : List SgE} {la : Option Addr} {lk : Nat} {tg : ByteArray} {ps : List ByteArray} {pa : Option Addr} {pk : Nat} {pt : List Int} {qa : Option Addr} {qk : Nat} {fin : Int × Nat × List CSg} {w W : World} {lb : Nat}
/-- It ends with a code. -/
theorem sc_bad {c : Int} {s : RdS} (hs : rdStep t s = .inl (c, pl, [])) (hf : rdEnd t s = fin) (hc : c ≠ 0) (hp : pl ≤ t.size) (hE : E.length ≤ 200) (h : RdI B sb pb fr t pl E la lk tg ps pa pk pt qa qk W) (hb : Below B w W) : ScA B sb t fin w (.returned (.int .i64 c)) W := by
  rw [rdEnd_inl hs] at hf
  subst hf
  exact ⟨rfl, hb, _, _, _, _, _, _, _, _, _, _, _, _, _, h, hp, hE, fun e => absurd e hc, fun _ => ⟨rfl, rfl⟩⟩
/-- It ends well. -/
theorem sc_good {s : RdS} (hs : rdStep t s = .inl (0, 0, E.map (·.c))) (hf : rdEnd t s = fin) (hp : pl ≤ t.size) (hE : E.length ≤ 200) (h : RdI B sb pb fr t pl E la lk tg ps pa pk pt qa qk W) (hb : Below B w W) : ScA B sb t fin w (.returned (.int .i64 0)) W := by
  rw [rdEnd_inl hs] at hf
  subst hf
  exact ⟨rfl, hb, _, _, _, _, _, _, _, _, _, _, _, _, _, h, hp, hE, fun _ => rfl, fun e => absurd rfl e⟩
/-- It goes on. -/
theorem sc_on {s : RdS} {n : Nat} (hs : rdStep t s = .inr ⟨lb, pl, E.map (·.c), tg, ps, pt⟩) (hsp : s.pl ≤ t.size) (hn : muR t s = n) (hf : rdEnd t s = fin) (hv : RdV t lb pl E.length ps pt) (hfr : lb ≠ 0 → fr = true) (h : RdI B sb pb fr t pl E la lk tg ps pa pk pt qa qk W) (hb : Below B w W) : ∃ n', n' < n ∧ RdJ B sb t fin w lb n' W := by
  have := step_mu hsp hs
  exact ⟨_, by rw [← hn]; exact this.1, _, _, _, _, _, _, _, _, _, _, _, _, _, hv, hfr, rfl, by rw [← rdEnd_inr hsp hs]; exact hf, h, hb⟩
end
theorem nxB_end {t : ByteArray} {pl : Nat} (h : pl = t.size) : nxB t pl = -1 := by unfold nxB; rw [if_neg (by omega)]
theorem nxB_in {t : ByteArray} {pl : Nat} (h : pl < t.size) : nxB t pl = (byL t).getD pl 0 := by unfold nxB; rw [if_pos h]
theorem nxB_rg {t : ByteArray} {pl : Nat} : -1 ≤ nxB t pl ∧ nxB t pl ≤ 255 := by
  unfold nxB
  have := byL_range t pl
  split <;> omega
theorem isMark_all (c : Int) (hc : -1 ≤ c) (hc' : c ≤ 255) (w : World) :
    Calls Try.prog 43 #[.int .i64 c] w fun e w' => e = .returned (.bool (mkB c)) ∧ w = w' := by
  by_cases h : c = -1
  · subst h
    go_enter Try.func43, Try.ntmps43
    go_wp2
    go_ret
    exact ⟨rfl, rfl⟩
  · exact isMark_any c (by omega) hc' w
theorem mk_nx {t : ByteArray} {pl : Nat} (h : pl ≤ t.size) : mkB (nxB t pl) = true ↔ ¬ (pl = t.size ∨ mkB ((byL t).getD pl 0) = false) := by
  by_cases h1 : pl < t.size
  · rw [nxB_in h1]
    have : ¬ pl = t.size := by omega
    simp [this]
  · have : pl = t.size := by omega
    rw [nxB_end this]
    simp [this, mkB]
end Go.Proofs.Ytjnlghngneonhaa
