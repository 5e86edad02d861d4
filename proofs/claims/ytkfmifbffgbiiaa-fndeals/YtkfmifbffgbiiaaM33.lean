/-
  Texts of this claim laid together: BeM.
-/
import Derived.Test.YtkfmifbffgbiiaaM27
/-
  The uses of least total, as mathematics: what a deal may take of units that are left, and the way that saves most; nothing of the program is in it.
-/
namespace Go.Proofs.Ytkfmifbffgbiiaa
open Go.ChangeShapes Go.WideShapes Go.ChangeAt Go.RowKit Go.Deep
set_option linter.unusedVariables false

/-- Numbers as the program has them. -/
def zN (l : List Nat) : List Int := l.map fun (n : Nat) => (n : Int)
theorem zN_len (l : List Nat) : (zN l).length = l.length := by simp [zN]
theorem zN_get (l : List Nat) (i : Nat) : (zN l).getD i 0 = ((l.getD i 0 : Nat) : Int) := by
  simp only [zN, List.getD_eq_getElem?_getD, List.getElem?_map]
  cases l[i]? <;> rfl
def fitU (us : List RUn) (d : CDl) (x : Nat) : Bool := hasB d.arts (us.getD x zUn).art
def svU (us : List RUn) (d : CDl) (t : List Nat) : Int := svB d.kd d.vl ((zN t).map (prAt us))
/-- What is taken, behind t, of q, and what is left with it; p was passed over. -/
def tkR (f : Nat → Bool) : List Nat → Nat → List Nat → List Nat → List (List Nat × List Nat)
  | q, 0, t, p => [(t, p ++ q)]
  | [], _ + 1, _, _ => []
  | x :: q, k + 1, t, p => (if f x = true then tkR f q k (t ++ [x]) p else []) ++ tkR f q (k + 1) t (p ++ [x])
theorem tkR_zero (f : Nat → Bool) (q t p : List Nat) : tkR f q 0 t p = [(t, p ++ q)] := by cases q <;> rfl
def takes (us : List RUn) (d : CDl) : List Nat → List (List Nat × List Nat)
  | [] => []
  | x :: l => if fitU us d x = true then tkR (fitU us d) l (d.nd.toNat - 1) [x] [] else []
/-- A way: what it saves, and its uses. -/
structure Wy where
  sv : Int
  us : List (Nat × List Nat)
def stT (g : List Nat → Int) (S : List Nat → Wy) (k : Nat) (b : Wy) (c : List Nat × List Nat) : Wy := if b.sv < g c.1 + (S c.2).sv then ⟨g c.1 + (S c.2).sv, (k, c.1) :: (S c.2).us⟩ else b
theorem stT_same {g : List Nat → Int} {S S' : List Nat → Wy} {k : Nat} {b : Wy} {c : List Nat × List Nat} (h : S c.2 = S' c.2) : stT g S k b c = stT g S' k b c := by unfold stT; rw [h]
def offD (d : CDl) (sp k : Nat) : Bool := d.on && sp.testBit k
def spD (d : CDl) (sp k : Nat) : Nat := if d.on = true then sp ||| 2 ^ k else sp
def stD (us : List RUn) (ds : List CDl) (S : List Nat → Nat → Wy) (left : List Nat) (sp : Nat) (b : Wy) (k : Nat) : Wy :=
  if offD (ds.getD k zDl) sp k = true then b else (takes us (ds.getD k zDl) left).foldl (stT (svU us (ds.getD k zDl)) (fun r => S r (spD (ds.getD k zDl) sp k)) k) b
def srF (us : List RUn) (ds : List CDl) : Nat → List Nat → Nat → Wy
  | 0, _, _ => ⟨0, []⟩
  | _ + 1, [], _ => ⟨0, []⟩
  | n + 1, x :: l, sp => (List.range ds.length).foldl (stD us ds (srF us ds n) (x :: l) sp) (srF us ds n l sp)
/-- The way that saves most, the first of several. -/
def sr (us : List RUn) (ds : List CDl) (left : List Nat) (sp : Nat) : Wy := srF us ds left.length left sp
theorem foldl_same {α β : Type} {f g : α → β → α} : ∀ (l : List β) (a : α), (∀ b, ∀ x ∈ l, f b x = g b x) → l.foldl f a = l.foldl g a
  | [], _, _ => rfl
  | x :: l, a, h => by
    rw [List.foldl_cons, List.foldl_cons, h a x List.mem_cons_self]
    exact foldl_same l _ (fun b y hy => h b y (List.mem_cons_of_mem _ hy))
theorem foldl_keep {α β : Type} {f : α → β → α} {P : α → Prop} : ∀ (l : List β) (a : α), P a → (∀ b, ∀ x ∈ l, P b → P (f b x)) → P (l.foldl f a)
  | [], _, h, _ => h
  | x :: l, a, h, hs => by
    rw [List.foldl_cons]
    exact foldl_keep l _ (hs a x List.mem_cons_self h) (fun b y hy => hs b y (List.mem_cons_of_mem _ hy))
/-- What is taken: k that fit, in their order; the rest is left, in its order. -/
theorem tkR_mem (f : Nat → Bool) : ∀ (q : List Nat) (k : Nat) (t p : List Nat) (c : List Nat × List Nat), c ∈ tkR f q k t p → ∃ s r, c.1 = t ++ s ∧ c.2 = p ++ r ∧ s.Sublist q ∧ r.Sublist q ∧ s.length = k ∧ r.length + k = q.length ∧ (∀ x ∈ s, f x = true) ∧ (q.Nodup → r = q.filter fun x => decide (x ∉ s))
  | q, 0, t, p, c, h => by
    rw [tkR_zero, List.mem_singleton] at h
    subst h
    exact ⟨[], q, by simp, rfl, List.nil_sublist _, List.Sublist.refl _, rfl, rfl, fun x hx => (by cases hx), fun _ => (List.filter_eq_self.2 (fun a _ => by simp)).symm⟩
  | [], k + 1, t, p, c, h => by simp [tkR] at h
  | x :: q, k + 1, t, p, c, h => by
    rw [tkR] at h
    rcases List.mem_append.1 h with h | h
    · by_cases hx : f x = true
      · rw [if_pos hx] at h
        obtain ⟨s, r, h1, h2, h3, h4, h5, h6, h7, h8⟩ := tkR_mem f q k _ _ c h
        refine ⟨x :: s, r, by rw [h1]; simp, h2, h3.cons_cons x, h4.cons x, by simp [h5], by simp; omega, fun y hy => ?_, fun hn => ?_⟩
        · rcases List.mem_cons.1 hy with e | e
          · rw [e]; exact hx
          · exact h7 y e
        · obtain ⟨n1, n2⟩ := List.nodup_cons.1 hn
          rw [h8 n2, List.filter_cons, if_neg (by simp)]
          refine List.filter_congr (fun y hy => ?_)
          have : y ≠ x := fun e => n1 (e ▸ hy)
          simp [this]
      · rw [if_neg hx] at h; cases h
    · obtain ⟨s, r, h1, h2, h3, h4, h5, h6, h7, h8⟩ := tkR_mem f q (k + 1) _ _ c h
      refine ⟨s, x :: r, h1, by rw [h2]; simp, h3.cons x, h4.cons_cons x, h5, by simp; omega, h7, fun hn => ?_⟩
      obtain ⟨n1, n2⟩ := List.nodup_cons.1 hn
      have hs : x ∉ s := fun e => n1 (h3.subset e)
      rw [h8 n2, List.filter_cons, if_pos (by simpa using hs)]
/-- The numbers below n that rise. -/
def Ris (n : Nat) (l : List Nat) : Prop := l.Pairwise (· < ·) ∧ ∀ x ∈ l, x < n
theorem Ris.tail {n x : Nat} {l : List Nat} (h : Ris n (x :: l)) : Ris n l := ⟨(List.pairwise_cons.1 h.1).2, fun y hy => h.2 y (List.mem_cons_of_mem _ hy)⟩
theorem Ris.sub {n : Nat} {l s : List Nat} (h : Ris n l) (hs : s.Sublist l) : Ris n s := ⟨h.1.sublist hs, fun y hy => h.2 y (hs.subset hy)⟩
theorem Ris.nodup {n : Nat} {l : List Nat} (h : Ris n l) : l.Nodup := h.1.imp (fun h => Nat.ne_of_lt h)
theorem Ris.len {n : Nat} : ∀ {l : List Nat} {a : Nat}, l.Pairwise (· < ·) → (∀ x ∈ l, a ≤ x ∧ x < n) → a + l.length ≤ max a n
  | [], a, _, _ => by simp; omega
  | x :: l, a, h, hx => by
    obtain ⟨h1, h2⟩ := List.pairwise_cons.1 h
    have hxx := hx x List.mem_cons_self
    have := Ris.len (l := l) (a := x + 1) (n := n) h2 (fun y hy => ⟨h1 y hy, (hx y (List.mem_cons_of_mem _ hy)).2⟩)
    simp
    omega
theorem takes_mem {us : List RUn} {d : CDl} {left : List Nat} {c : List Nat × List Nat} (hd : 1 ≤ d.nd) (h : c ∈ takes us d left) : ∃ x l s, left = x :: l ∧ c.1 = x :: s ∧ (x :: s).Sublist left ∧ c.2.Sublist l ∧ (c.1.length : Int) = d.nd ∧ c.2.length + c.1.length = left.length ∧ (∀ y ∈ c.1, fitU us d y = true) ∧ (left.Nodup → c.2 = left.filter fun y => decide (y ∉ c.1)) := by
  cases left with
  | nil => cases h
  | cons x l =>
    have h : c ∈ (if fitU us d x = true then tkR (fitU us d) l (d.nd.toNat - 1) [x] [] else []) := h
    by_cases hx : fitU us d x = true
    · rw [if_pos hx] at h
      obtain ⟨s, r, h1, h2, h3, h4, h5, h6, h7, h8⟩ := tkR_mem _ _ _ _ _ c h
      have e1 : c.1 = x :: s := by rw [h1]; rfl
      have e2 : c.2 = r := by rw [h2]; rfl
      refine ⟨x, l, s, rfl, e1, h3.cons_cons x, by rw [e2]; exact h4, by rw [e1]; simp; omega, by rw [e1, e2]; simp; omega, fun y hy => ?_, fun hn => ?_⟩
      · rw [e1] at hy
        rcases List.mem_cons.1 hy with e | e
        · rw [e]; exact hx
        · exact h7 y e
      · obtain ⟨n1, n2⟩ := List.nodup_cons.1 hn
        rw [e2, h8 n2, e1, List.filter_cons, if_neg (by simp)]
        refine List.filter_congr (fun y hy => ?_)
        have : y ≠ x := fun e => n1 (e ▸ hy)
        simp [this]
    · rw [if_neg hx] at h; cases h
/-- Each deal takes a unit at least. -/
def NdOK (ds : List CDl) : Prop := ∀ k, k < ds.length → 1 ≤ (ds.getD k zDl).nd
theorem srF_fuel {us : List RUn} {ds : List CDl} (hd : NdOK ds) : ∀ (n m : Nat) (left : List Nat) (sp : Nat), left.length ≤ n → left.length ≤ m → srF us ds n left sp = srF us ds m left sp
  | 0, m, left, sp, h1, h2 => by
    have : left = [] := List.eq_nil_of_length_eq_zero (by omega)
    subst this
    cases m <;> rfl
  | n + 1, 0, left, sp, h1, h2 => by
    have : left = [] := List.eq_nil_of_length_eq_zero (by omega)
    subst this
    rfl
  | n + 1, m + 1, [], sp, h1, h2 => rfl
  | n + 1, m + 1, x :: l, sp, h1, h2 => by
    have hl1 : l.length ≤ n := by simpa using h1
    have hl2 : l.length ≤ m := by simpa using h2
    rw [srF, srF, srF_fuel hd n m l sp hl1 hl2]
    refine foldl_same _ _ (fun b k hk => ?_)
    have hk' : k < ds.length := List.mem_range.1 hk
    unfold stD
    split
    · rfl
    · refine foldl_same _ _ (fun b2 c hc => ?_)
      obtain ⟨x2, l2, s, e, _, _, e2, _⟩ := takes_mem (hd k hk') hc
      injection e with e3 e4
      have hcl : c.2.length ≤ l.length := by rw [e4]; exact e2.length_le
      exact stT_same (srF_fuel hd n m c.2 _ (by omega) (by omega))
theorem sr_nil (us : List RUn) (ds : List CDl) (sp : Nat) : sr us ds [] sp = ⟨0, []⟩ := rfl
theorem sr_cons {us : List RUn} {ds : List CDl} (hd : NdOK ds) (x : Nat) (l : List Nat) (sp : Nat) : sr us ds (x :: l) sp = (List.range ds.length).foldl (stD us ds (sr us ds) (x :: l) sp) (sr us ds l sp) := by
  unfold sr
  rw [List.length_cons, srF]
  refine foldl_same _ _ (fun b k hk => ?_)
  have hk' : k < ds.length := List.mem_range.1 hk
  unfold stD
  split
  · rfl
  · refine foldl_same _ _ (fun b2 c hc => ?_)
    obtain ⟨x2, l2, s, e, _, _, e2, _⟩ := takes_mem (hd k hk') hc
    injection e with e3 e4
    have hcl : c.2.length ≤ l.length := by rw [e4]; exact e2.length_le
    exact stT_same (srF_fuel hd l.length c.2.length c.2 _ (by omega) (by omega))
end Go.Proofs.Ytkfmifbffgbiiaa
