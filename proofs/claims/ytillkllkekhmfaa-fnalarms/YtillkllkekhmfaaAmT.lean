/-
  Alarms once more: a longer hold gives no more of them; where each begins and ends.
-/
import Derived.Test.YtillkllkekhmfaaAmM
import Derived.Test.YtillkllkekhmfaaWtM
namespace Go.Proofs.Ytillkllkekhmfaa
open Go.ChangeShapes Go.WideShapes Go.ChangeAt Go.RowKit Go.Joins Go.Deep
set_option linter.unusedVariables false

theorem le_lt_not {x lo hi : Nat} (h : leF x lo = true) (hn : ltF hi lo = false) : ltF hi x = false := by
  cases e : ltF hi x with
  | false => rfl
  | true =>
    unfold leF at h
    unfold ltF at e hn
    cases h1 : kF x <;> cases h2 : kF lo <;> cases h3 : kF hi <;> rw [h1, h2] at h <;> rw [h1, h3] at e <;> rw [h2, h3] at hn <;> first | cases h; done | cases e; done | skip
    rename_i a b c
    have q1 := of_decide_eq_true h
    have q2 := of_decide_eq_true e
    have q3 := of_decide_eq_false hn
    omega
/-- Two states, the second with a longer hold. -/
def AmR (h : Int) (s s' : AmS) : Prop := s'.L.length ≤ s.L.length ∧ (s.cur = none → s'.cur = none ∧ s'.ab = s.ab ∧ s.ab + 1 ≤ h)
theorem amR_next {lo hi : Nat} {h : Int} (hn : ltF hi lo = false) (h1 : 1 ≤ h) {s s' : AmS} (r : AmR h s s') (p : Nat × Nat) : AmR h (amN lo hi h s p) (amN lo hi (h + 1) s' p) := by
  obtain ⟨c, ab, L⟩ := s
  obtain ⟨c', ab', L'⟩ := s'
  obtain ⟨r1, r2⟩ := r
  dsimp only at r1 r2
  unfold amN
  cases c with
  | none =>
    obtain ⟨r3, r4, r5⟩ := r2 rfl
    subst r3 r4
    dsimp only
    by_cases ha : ltF hi p.2 = true
    · rw [if_pos ha, if_pos ha]
      by_cases h2 : ab' + 1 = h
      · rw [if_pos h2, if_neg (by omega)]
        exact ⟨r1, fun e => by cases e⟩
      · rw [if_neg h2, if_neg (by omega)]
        exact ⟨r1, fun _ => ⟨rfl, rfl, by dsimp only; omega⟩⟩
    · rw [if_neg ha, if_neg ha]
      exact ⟨r1, fun _ => ⟨rfl, rfl, by dsimp only; omega⟩⟩
  | some f =>
    dsimp only
    by_cases hl : leF p.2 lo = true
    · rw [if_pos hl]
      have ha := le_lt_not hl hn
      cases c' with
      | none =>
        dsimp only
        rw [if_neg (by rw [ha]; simp)]
        exact ⟨by simp; omega, fun _ => ⟨rfl, rfl, by dsimp only; omega⟩⟩
      | some f' =>
        dsimp only
        rw [if_pos hl]
        exact ⟨by simp; omega, fun _ => ⟨rfl, rfl, by dsimp only; omega⟩⟩
    · rw [if_neg hl]
      cases c' with
      | none =>
        dsimp only
        by_cases ha : ltF hi p.2 = true
        · rw [if_pos ha]
          by_cases h2 : ab' + 1 = h + 1
          · rw [if_pos h2]; exact ⟨r1, fun e => by cases e⟩
          · rw [if_neg h2]; exact ⟨r1, fun e => by cases e⟩
        · rw [if_neg ha]; exact ⟨r1, fun e => by cases e⟩
      | some f' =>
        dsimp only
        rw [if_neg hl]
        exact ⟨r1, fun e => by cases e⟩
theorem amR_all {lo hi : Nat} {h : Int} (hn : ltF hi lo = false) (h1 : 1 ≤ h) : ∀ ps, AmR h (amF lo hi h ps) (amF lo hi (h + 1) ps) :=
  snoc_ind ⟨Nat.le_refl _, fun _ => ⟨rfl, rfl, by show (0 : Int) + 1 ≤ h; omega⟩⟩ (fun ps p ih => by
    rw [amF_snoc, amF_snoc]
    exact amR_next hn h1 ih p.1)
theorem full_longer {lo hi : Nat} {h : Int} (hn : ltF hi lo = false) (h1 : 1 ≤ h) (n : Int) (ps : List TH) : (full n (amF lo hi (h + 1) ps)).length ≤ (full n (amF lo hi h ps)).length := by
  obtain ⟨r1, r2⟩ := amR_all hn h1 ps
  generalize amF lo hi h ps = s at *
  generalize amF lo hi (h + 1) ps = s' at *
  obtain ⟨c, ab, L⟩ := s
  obtain ⟨c', ab', L'⟩ := s'
  dsimp only at r1 r2
  cases c with
  | none =>
    obtain ⟨r3, _⟩ := r2 rfl
    subst r3
    rw [full_none rfl, full_none rfl]; exact r1
  | some f =>
    rw [full_some (t := ⟨some f, ab, L⟩) rfl, List.length_append]
    cases c' with
    | none => rw [full_none rfl]; dsimp only; omega
    | some f' => rw [full_some (t := ⟨some f', ab', L'⟩) rfl, List.length_append]; dsimp only; simp only [List.length_cons, List.length_nil]; omega
/-! ### Where each begins and ends -/
def Al1 (xs : List Nat) (hi lo : Nat) (r : Int × Int) : Prop := ∃ f e : Nat, r = ((f : Int), (e : Int)) ∧ f < e ∧ e ≤ xs.length ∧ ltF hi (xs.getD f 0) = true ∧ (e < xs.length → leF (xs.getD e 0) lo = true) ∧ ∀ j, f ≤ j → j < e → leF (xs.getD j 0) lo = false
def Ord : List (Int × Int) → Prop := fun L => ∀ q, q + 1 < L.length → (L.getD q (0, 0)).2 < (L.getD (q + 1) (0, 0)).1
theorem ord_snoc {L : List (Int × Int)} {r : Int × Int} (h : Ord L) (hr : ∀ x ∈ L, x.2 < r.1) : Ord (L ++ [r]) := fun q hq => by
  rw [List.length_append] at hq
  simp only [List.length_cons, List.length_nil] at hq
  have h1 : (L ++ [r]).getD q (0, 0) = L.getD q (0, 0) := by simp [List.getD_eq_getElem?_getD, List.getElem?_append_left (show q < L.length by omega)]
  rw [h1]
  by_cases h2 : q + 1 < L.length
  · have h3 : (L ++ [r]).getD (q + 1) (0, 0) = L.getD (q + 1) (0, 0) := by simp [List.getD_eq_getElem?_getD, List.getElem?_append_left h2]
    rw [h3]; exact h q h2
  · have h4 : q + 1 = L.length := by omega
    have h3 : (L ++ [r]).getD (q + 1) (0, 0) = r := by rw [h4]; simp [List.getD_eq_getElem?_getD]
    rw [h3]
    have e : L.getD q (0, 0) = L[q] := by simp [List.getD_eq_getElem?_getD, show q < L.length by omega]
    rw [e]
    exact hr _ (List.getElem_mem _)
structure AmSh (xs : List Nat) (hi lo : Nat) (k : Nat) (s : AmS) : Prop where
  each : ∀ r ∈ s.L, Al1 xs hi lo r ∧ r.2 < (k : Int)
  ord : Ord s.L
  on : ∀ f, s.cur = some f → ∃ f' : Nat, f = (f' : Int) ∧ f' < k ∧ ltF hi (xs.getD f' 0) = true ∧ (∀ j, f' ≤ j → j < k → leF (xs.getD j 0) lo = false) ∧ ∀ r ∈ s.L, r.2 < f
theorem le_none {x y : Nat} (h : msF x = true) : leF x y = false := by
  unfold msF at h
  unfold leF
  cases h1 : kF x with
  | none => rfl
  | some a => rw [h1] at h; cases h
theorem sh_all {xs : List Nat} {hi lo : Nat} {hold : Int} (hn : ltF hi lo = false) (hok : oksF xs = true) (hl : xs.length ≤ 4096) : ∀ k, k ≤ xs.length → AmSh xs hi lo k (amF lo hi hold (thT xs k))
  | 0, _ => ⟨(fun r hr => by cases hr), (fun q hq => absurd hq (Nat.not_lt_zero _)), (fun f hf => by cases hf)⟩
  | k + 1, hk => by
    have ih := sh_all (hold := hold) hn hok hl k (by omega)
    have h1 := oks_get hok (k := k) (by omega)
    by_cases hm : msF (xs.getD k 0) = true
    · rw [thT_skip hm]
      generalize amF lo hi hold (thT xs k) = s at *
      refine ⟨fun r hr => ⟨(ih.each r hr).1, by have := (ih.each r hr).2; omega⟩, ih.ord, fun f hf => ?_⟩
      obtain ⟨f', a1, a2, a3, a4, a5⟩ := ih.on f hf
      refine ⟨f', a1, by omega, a3, fun j hj1 hj2 => ?_, a5⟩
      by_cases hjk : j < k
      · exact a4 j hj1 hjk
      · rw [show j = k by omega]; exact le_none hm
    · have hm' : msF (xs.getD k 0) = false := by simpa using hm
      have hd : dgF (xs.getD k 0) = true := by
        unfold okF at h1
        rw [hm'] at h1
        simpa using h1
      rw [thT_next ⟨by show k < 4096; omega, hd⟩, amF_snoc]
      generalize amF lo hi hold (thT xs k) = s at *
      obtain ⟨c, ab, L⟩ := s
      obtain ⟨i1, i2, i3⟩ := ih
      dsimp only at i1 i2 i3
      have keepE : ∀ r ∈ L, Al1 xs hi lo r ∧ r.2 < ((k + 1 : Nat) : Int) := fun r hr => ⟨(i1 r hr).1, by have := (i1 r hr).2; omega⟩
      unfold amN
      cases c with
      | some f =>
        obtain ⟨f', a1, a2, a3, a4, a5⟩ := i3 f rfl
        dsimp only
        by_cases hle : leF (xs.getD k 0) lo = true
        · rw [if_pos hle]
          refine ⟨fun r hr => ?_, ord_snoc i2 (fun x hx => a5 x hx), fun f hf => by cases hf⟩
          rcases List.mem_append.1 hr with h | h
          · exact keepE r h
          · have e : r = (f, (k : Int)) := by simpa using h
            subst e
            exact ⟨⟨f', k, by rw [a1], a2, by omega, a3, fun _ => hle, a4⟩, by show (k : Int) < _; omega⟩
        · rw [if_neg hle]
          refine ⟨keepE, i2, fun f hf => ?_⟩
          cases hf
          refine ⟨f', a1, by omega, a3, fun j hj1 hj2 => ?_, a5⟩
          by_cases hjk : j < k
          · exact a4 j hj1 hjk
          · rw [show j = k by omega]; simpa using hle
      | none =>
        dsimp only
        by_cases ha : ltF hi (xs.getD k 0) = true
        · rw [if_pos ha]
          by_cases h2 : ab + 1 = hold
          · rw [if_pos h2]
            refine ⟨keepE, i2, fun f hf => ?_⟩
            cases hf
            refine ⟨k, rfl, by omega, ha, fun j hj1 hj2 => ?_, fun r hr => (i1 r hr).2⟩
            rw [show j = k by omega]
            cases hle : leF (xs.getD k 0) lo with
            | false => rfl
            | true => rw [le_lt_not hle hn] at ha; cases ha
          · rw [if_neg h2]
            exact ⟨keepE, i2, fun f hf => by cases hf⟩
        · rw [if_neg ha]
          exact ⟨keepE, i2, fun f hf => by cases hf⟩
theorem full_shape {xs : List Nat} {hi lo : Nat} {hold : Int} (hn : ltF hi lo = false) (hok : oksF xs = true) (hl : xs.length ≤ 4096) : (∀ r ∈ full (xs.length : Int) (amF lo hi hold (thT xs xs.length)), Al1 xs hi lo r) ∧ Ord (full (xs.length : Int) (amF lo hi hold (thT xs xs.length))) := by
  have h := sh_all (hold := hold) hn hok hl xs.length (Nat.le_refl _)
  generalize amF lo hi hold (thT xs xs.length) = s at *
  obtain ⟨c, ab, L⟩ := s
  obtain ⟨i1, i2, i3⟩ := h
  dsimp only at i1 i2 i3
  cases c with
  | none => rw [full_none rfl]; exact ⟨fun r hr => (i1 r hr).1, i2⟩
  | some f =>
    obtain ⟨f', a1, a2, a3, a4, a5⟩ := i3 f rfl
    rw [full_some (t := ⟨some f, ab, L⟩) rfl]
    dsimp only
    refine ⟨fun r hr => ?_, ord_snoc i2 (fun x hx => a5 x hx)⟩
    rcases List.mem_append.1 hr with h | h
    · exact (i1 r h).1
    · have e : r = (f, (xs.length : Int)) := by simpa using h
      subst e
      exact ⟨f', xs.length, by rw [a1], a2, Nat.le_refl _, a3, fun h => absurd h (Nat.lt_irrefl _), a4⟩
/-- The limits that are drawn. -/
def okLim (i j : Nat) : Bool := match floatBits .add .f64 (floatOfInt .f64 (i : Int)) (floatOfInt .f64 (j : Int)) with | some r => dgF r && dgF (floatOfInt .f64 (i : Int)) && !ltF r (floatOfInt .f64 (i : Int)) | none => false
theorem okLims : ((List.range 8).all fun i => (List.range 4).all fun j => okLim i j) = true := by decide +kernel
theorem lim_ok {hi lo : Nat} (h : hiOK hi lo) : dgF hi = true ∧ dgF lo = true ∧ ltF hi lo = false := by
  obtain ⟨i, j, h1, h2, rfl, h4⟩ := h
  have h5 := okLims
  rw [List.all_eq_true] at h5
  have h6 := h5 i (List.mem_range.2 h1)
  rw [List.all_eq_true] at h6
  have h7 := h6 j (List.mem_range.2 h2)
  unfold okLim at h7
  rw [h4] at h7
  simp only [Bool.and_eq_true, Bool.not_eq_true'] at h7
  exact ⟨h7.1.1, h7.1.2, h7.2⟩
theorem al_facts {L : List Nat} (hl : L.length ≤ 25) (hd : ∀ x ∈ L, okDr x) {hi lo : Nat} (hh : hiOK hi lo) {hold : Int} (h1 : 1 ≤ hold) (h2 : hold ≤ 4) : amC L hi lo hold = 0 ∧ amL L hi lo hold = full (L.length : Int) (amF lo hi hold (thT L L.length)) := by
  have hok : oksF L = true := List.all_eq_true.2 (fun x hx => okDr_ok (hd x hx))
  have ht : trC L = 0 := by
    unfold trC trB
    rw [if_neg (by omega), decide_eq_true (by omega : L.length ≤ 200), hok]
    rfl
  obtain ⟨a1, a2, a3⟩ := lim_ok hh
  have hb : (dgF hi && dgF lo && !ltF hi lo && inB hold 1 200) = true := by
    rw [a1, a2, a3]
    unfold inB
    simp
    omega
  rcases am_ways L hi lo hold with ⟨q, _⟩ | ⟨_, q, _⟩ | ⟨_, _, q1, q2⟩
  · exact absurd ht q
  · rw [hb] at q; cases q
  · exact ⟨q1, q2⟩
end Go.Proofs.Ytillkllkekhmfaa
