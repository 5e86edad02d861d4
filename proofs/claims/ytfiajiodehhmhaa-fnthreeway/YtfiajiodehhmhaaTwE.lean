/-
  The program's ThreeWay: for each article of three right lists what is to be said of it.
-/
import Derived.Test.YtfiajiodehhmhaaTwD
import Derived.Test.YtfiajiodehhmhaaVdQ
import Derived.Test.YtfiajiodehhmhaaShelf
import Derived.Deep.RegionHeld
import Derived.Deep.AppendLies
namespace Go.Proofs.Ytfiajiodehhmhaa
open Go.ChangeShapes Go.WideShapes Go.ChangeAt Go.RowKit Go.Joins Go.Deep
set_option linter.unusedVariables false

/-- The cells of verdicts. -/
def vdC (rs : List RVd) : List Value := (rs.map fun r => [Value.string r.ar, .int .i64 r.cd]).flatten
theorem vdC_len (rs : List RVd) : (vdC rs).length = rs.length * 2 := by
  induction rs with
  | nil => rfl
  | cons r rs ih => unfold vdC at *; simp only [List.map_cons, List.flatten_cons, List.length_append, List.length_cons, List.length_nil, ih]; omega
theorem vdC_app (a b : List RVd) : vdC (a ++ b) = vdC a ++ vdC b := by unfold vdC; rw [List.map_append, List.flatten_append]
theorem vdC_at : ∀ (L : List RVd) (i : Nat), i < L.length → (vdC L)[i * 2]? = some (.string (L.getD i zVd).ar) ∧ (vdC L)[i * 2 + 1]? = some (.int .i64 (L.getD i zVd).cd)
  | [], i, hi => by simp at hi
  | r :: L, i, hi => by
    have e : vdC (r :: L) = Value.string r.ar :: .int .i64 r.cd :: vdC L := by unfold vdC; simp
    rw [e]
    cases i with
    | zero => exact ⟨rfl, rfl⟩
    | succ i =>
      obtain ⟨q1, q2⟩ := vdC_at L i (by simpa using hi)
      rw [show (i + 1) * 2 = i * 2 + 2 by omega]
      exact ⟨by simpa using q1, by simpa using q2⟩
def OneV (w : World) (B : Nat) (v : Value) (L : List RVd) (wr : World) : Prop :=
  wr.ownsRow B 39 2 v L.length (vdC L) ∧ B ≤ wr.heap.size ∧ Below B w wr
theorem OneV.nil (w : World) (B : Nat) (hB : w.heap.size = B) : OneV w B (.slice none 0 0) [] w := by
  subst hB
  exact ⟨⟨rfl, .inl ⟨rfl, rfl⟩⟩, Nat.le_refl _, Below.refl _ _⟩
theorem OneV.start (w : World) (B : Nat) (hB : w.heap.size = B) : OneV w B (.slice (some ⟨B, 0, none⟩) 0 0) [] (w.alloc (Obj.cells #[] 39)) := by
  subst hB
  refine ⟨⟨rfl, .inr ⟨w.heap.size, 0, #[], rfl, Nat.le_refl _, heapNew w _, Nat.le_refl _, by unfold maxLen; omega, rfl, rfl⟩⟩, by simp, below_alloc w _⟩
theorem OneV.alloc {w : World} {B : Nat} {v : Value} {L : List RVd} {wr : World} (h : OneV w B v L wr) (o : Obj) : OneV w B v L (wr.alloc o) :=
  ⟨h.1.alloc _, by have := h.2.1; simp; omega, h.2.2.alloc h.2.1 _⟩
theorem OneV.later {w : World} {B : Nat} {v : Value} {L : List RVd} {wr w' : World} (h : OneV w B v L wr) (hb : Below wr.heap.size wr w') : OneV w B v L w' := by
  obtain ⟨⟨h1, h2⟩, h3, h4⟩ := h
  refine ⟨⟨h1, ?_⟩, Nat.le_trans h3 hb.size, h4.trans (hb.mono h3)⟩
  rcases h2 with h2 | ⟨g, cap, cur, e, hB, hg, r⟩
  · exact .inl h2
  · exact .inr ⟨g, cap, cur, e, hB, (hb.block g (Array.getElem?_eq_some_iff.1 hg).1).trans hg, r⟩
theorem OneV.push {w : World} {B : Nat} {v : Value} {L : List RVd} {wr w' : World} {g cp : Nat} {t : ByteArray} {c : Int} (h : OneV w B v L wr)
    (ho : w'.ownsRow B 39 2 (.slice (some ⟨g, 0, none⟩) (L.length + 1) cp) (L.length + 1) (vdC L ++ [.string t, .int .i64 c])) (hg : wr.grownBy w' v.ownBlock) : OneV w B (.slice (some ⟨g, 0, none⟩) (L.length + 1) cp) (L ++ [⟨t, c⟩]) w' := by
  obtain ⟨h1, h4, h5⟩ := h
  refine ⟨?_, Nat.le_trans h4 hg.size, h5.grown hg h4 (fun q hq => (h1.lt q hq).1)⟩
  rw [List.length_append, vdC_app]; exact ho
theorem OneV.form {w : World} {B : Nat} {v : Value} {L : List RVd} {wr : World} (h : OneV w B v L wr) : ∃ a cp, v = .slice a L.length cp ∧ ReadsVd wr.heap.size wr a L := by
  rcases h.1.2 with ⟨h1, h2⟩ | ⟨g, cap, cur, e, hB, hg, r⟩
  · have h0 : L.length = 0 := by have := vdC_len L; rw [h2] at this; simp at this; omega
    have : L = [] := List.eq_nil_of_length_eq_zero h0
    subst this
    exact ⟨none, 0, h1, .inl rfl⟩
  · refine ⟨_, _, e, .inr ⟨g, 0, rfl, (Array.getElem?_eq_some_iff.1 hg).1, fun i hi => ?_⟩⟩
    have key : ∀ j, j < 2 → wr.cell? ⟨g, 0 + i * 2 + j, none⟩ = (vdC L)[i * 2 + j]? := fun j hj => by
      have hlt2 : i * 2 + j < (vdC L).length := by rw [vdC_len]; omega
      have := h.1.cells (g := g) (by rw [e]; rfl) (i * 2 + j) _ (List.getElem?_eq_getElem hlt2)
      rw [Go.WideShapes.add_plain] at this
      rw [Nat.zero_add, List.getElem?_eq_getElem hlt2]
      simpa using this
    obtain ⟨q1, q2⟩ := vdC_at L i hi
    exact ⟨(key 0 (by omega)).trans q1, (key 1 (by omega)).trans q2⟩
theorem vdInfo : (Try.prog.info? 39).map (fun i => (i.zero, i.size, i.bytes)) = some (some (.agg #[.string ⟨#[]⟩, .int .i64 0]), 2, 24) := by kernel_rfl
/-- What ThreeWay tells. -/
def twV (o r v : List RDc) (t : ByteArray) : RVd := ⟨t, cdV (lnO o t) (lnO r t) (lnO v t)⟩
def twL (o r v : List RDc) : List RVd := (artL ((o ++ r ++ v).map (·.ar))).map (twV o r v)
def twC (o r v : List RDc) : Int := if 4096 < o.length ∨ 4096 < r.length ∨ 4096 < v.length then 2 else if (dcsB o && (dcsB r && dcsB v)) = true then 0 else 1
def twA (o r v : List RDc) : List RVd := if twC o r v = 0 then twL o r v else []
def AnsW3 (w : World) (L : List RVd) (c : Int) (e : Ending) (w' : World) : Prop := ∃ v, e = .returned (.tuple #[v, .int .i64 c]) ∧ OneV w w.heap.size v L w'
theorem AnsW3.of {w W w' : World} {L : List RVd} {v : Value} (hb : Below w.heap.size w W) (h : OneV W W.heap.size v L w') (c : Int) : AnsW3 w L c (.returned (.tuple #[v, .int .i64 c])) w' := by
  refine ⟨v, rfl, ?_, Nat.le_trans hb.size h.2.1, chain hb h.2.2⟩
  obtain ⟨h1, h2⟩ := h.1
  refine ⟨h1, ?_⟩
  rcases h2 with h2 | ⟨g, cap, cur, e, hB, r⟩
  · exact .inl h2
  · exact .inr ⟨g, cap, cur, e, Nat.le_trans hb.size hB, r⟩
theorem tw_ways (o r v : List RDc) : ((4096 < o.length ∨ 4096 < r.length ∨ 4096 < v.length) ∧ twC o r v = 2 ∧ twA o r v = []) ∨ ((o.length ≤ 4096 ∧ r.length ≤ 4096 ∧ v.length ≤ 4096) ∧ (dcsB o && (dcsB r && dcsB v)) = false ∧ twC o r v = 1 ∧ twA o r v = []) ∨ ((o.length ≤ 60 ∧ r.length ≤ 60 ∧ v.length ≤ 60) ∧ (dcsB o = true ∧ dcsB r = true ∧ dcsB v = true) ∧ twC o r v = 0 ∧ twA o r v = twL o r v) := by
  by_cases h1 : 4096 < o.length ∨ 4096 < r.length ∨ 4096 < v.length
  · have e : twC o r v = 2 := by unfold twC; rw [if_pos h1]
    exact .inl ⟨h1, e, by unfold twA; rw [e]; rfl⟩
  · cases h2 : (dcsB o && (dcsB r && dcsB v))
    · have e : twC o r v = 1 := by unfold twC; rw [if_neg h1, h2]; rfl
      exact .inr (.inl ⟨by omega, rfl, e, by unfold twA; rw [e]; rfl⟩)
    · have e : twC o r v = 0 := by unfold twC; rw [if_neg h1, h2]; rfl
      have h3 : dcsB o = true ∧ dcsB r = true ∧ dcsB v = true := by simpa using h2
      have hl : ∀ rs, dcsB rs = true → rs.length ≤ 60 := fun rs h => by unfold dcsB at h; simp only [Bool.and_eq_true, decide_eq_true_eq] at h; exact h.1
      exact .inr (.inr ⟨⟨hl _ h3.1, hl _ h3.2.1, hl _ h3.2.2⟩, h3, e, by unfold twA; rw [if_pos e]⟩)
theorem dcs_z {rs : List RDc} (h : dcsB rs = true) (t : ByteArray) : dcZ (lnO rs t) := by
  unfold dcsB at h
  simp only [Bool.and_eq_true, decide_eq_true_eq] at h
  rcases ln_right h.2.2 t with h1 | h1
  · rw [h1]; unfold dcZ zDc; simp
  · obtain ⟨p, q⟩ := dc_facts h1
    exact ⟨⟨by omega, p.2⟩, q⟩
theorem twClone_any (s : ByteArray) (hs : s.size ≤ 2000000) (w : World) :
    Calls Try.prog 49 #[.string s] w fun e w' => e = .returned (.string s) ∧ Below w.heap.size w w' := by
  have hc := fun w => Try.stringslite_Clone s w (by omega)
  go_enter Try.func49, Try.ntmps49
  go_wp2_with (go_at_call 95; refine (hc _).mono ?_; rintro e w1 ⟨rfl, hb1⟩)
  go_ret
  exact ⟨rfl, hb1⟩
end Go.Proofs.Ytfiajiodehhmhaa
