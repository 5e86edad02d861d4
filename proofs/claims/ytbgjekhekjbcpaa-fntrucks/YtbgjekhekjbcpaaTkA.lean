/-
  Loads, what is right of them, how many trucks they want, as mathematics.
-/
import Derived.Test.YtbgjekhekjbcpaaTkM
import Derived.Test.YtbgjekhekjbcpaaLdA
import Derived.Test.YtbgjekhekjbcpaaQsA
namespace Go.Proofs.Ytbgjekhekjbcpaa
open Go.ChangeShapes Go.WideShapes Go.ChangeAt Go.RowKit Go.Joins Go.Deep
set_option linter.unusedVariables false

def ldB (r : RLd) : Bool := inB r.pl 0 1000 && inB r.ex 0 1000
def ldsB (rs : List RLd) : Bool := rs.all ldB
theorem lds_take (r : List RLd) (k : Nat) (h : k < r.length) : ldsB (r.take (k + 1)) = (ldsB (r.take k) && ldB (r.getD k zLd)) := by
  unfold ldsB
  rw [List.take_succ_eq_append_getElem h, List.all_append]
  have e : r.getD k zLd = r[k] := by simp [List.getD_eq_getElem?_getD, h]
  rw [e]; simp
theorem lds_fail {r : List RLd} {k : Nat} (h : k < r.length) (hp : ldB (r.getD k zLd) = false) : ldsB r = false := by
  have e : r.getD k zLd = r[k] := by simp [List.getD_eq_getElem?_getD, h]
  rw [e] at hp
  unfold ldsB
  rw [List.all_eq_false]
  exact ⟨r[k], List.getElem_mem _, by simp [hp]⟩
theorem ld_facts {r : RLd} (h : ldB r = true) : (0 ≤ r.pl ∧ r.pl ≤ 1000) ∧ 0 ≤ r.ex ∧ r.ex ≤ 1000 := by
  unfold ldB inB at h
  simp only [Bool.and_eq_true, decide_eq_true_eq] at h
  exact h
theorem lds_mem {rs : List RLd} (h : ldsB rs = true) : ∀ r ∈ rs, (0 ≤ r.pl ∧ r.pl ≤ 1000) ∧ 0 ≤ r.ex ∧ r.ex ≤ 1000 := fun r hr => by
  unfold ldsB at h
  rw [List.all_eq_true] at h
  exact ld_facts (h r hr)
theorem lds_of {rs : List RLd} (h : ∀ r ∈ rs, (0 ≤ r.pl ∧ r.pl ≤ 1000) ∧ 0 ≤ r.ex ∧ r.ex ≤ 1000) : ldsB rs = true := by
  unfold ldsB
  rw [List.all_eq_true]
  intro r hr
  unfold ldB inB
  simp only [Bool.and_eq_true, decide_eq_true_eq]
  exact h r hr
theorem lds_at {rs : List RLd} (h : ldsB rs = true) {k : Nat} (hk : k < rs.length) : (0 ≤ (rs.getD k zLd).pl ∧ (rs.getD k zLd).pl ≤ 1000) ∧ 0 ≤ (rs.getD k zLd).ex ∧ (rs.getD k zLd).ex ≤ 1000 := getLd (lds_mem h) hk
def plL (rs : List RLd) : List Int := rs.map RLd.pl
def exL (rs : List RLd) : List Int := rs.map RLd.ex
def lmL (rs : List RLd) : List Int := rs.map (fun r => r.pl + r.ex)
theorem plL_len (rs : List RLd) : (plL rs).length = rs.length := by simp [plL]
theorem lmL_len (rs : List RLd) : (lmL rs).length = rs.length := by simp [lmL]
theorem plL_at (rs : List RLd) (k : Nat) (h : k < rs.length) : (plL rs).getD k 0 = (rs.getD k zLd).pl := by simp [plL, List.getD_eq_getElem?_getD, h]
theorem exL_at (rs : List RLd) (k : Nat) (h : k < rs.length) : (exL rs).getD k 0 = (rs.getD k zLd).ex := by simp [exL, List.getD_eq_getElem?_getD, h]
theorem lmL_at (rs : List RLd) (k : Nat) (h : k < rs.length) : (lmL rs).getD k 0 = (rs.getD k zLd).pl + (rs.getD k zLd).ex := by simp [lmL, List.getD_eq_getElem?_getD, h]
theorem plL_take (rs : List RLd) (k : Nat) (h : k < rs.length) : plL (rs.take (k + 1)) = plL (rs.take k) ++ [(rs.getD k zLd).pl] := by
  unfold plL
  rw [List.take_succ_eq_append_getElem h, List.map_append]
  have e : rs.getD k zLd = rs[k] := by simp [List.getD_eq_getElem?_getD, h]
  rw [e]; rfl
theorem pS_bound {L : List Int} {c : Int} (h : ∀ k, k < L.length → 0 ≤ L.getD k 0 ∧ L.getD k 0 ≤ c) : ∀ k, k ≤ L.length → 0 ≤ pS L k ∧ pS L k ≤ c * (k : Int)
  | 0, _ => by simp [pS]
  | k + 1, hk => by
    have ih := pS_bound h k (by omega)
    have hh := h k (by omega)
    rw [pS]
    have e : c * ((k + 1 : Nat) : Int) = c * (k : Int) + c := by push_cast; rw [Int.mul_add, Int.mul_one]
    rw [e]; omega
/-- All pallets that must go. -/
def tkA (rs : List RLd) : Int := pS (plL rs) rs.length
def tkN (rs : List RLd) (tr : Int) : Int := (tkA rs + tr - 1) / tr
def tkR (rs : List RLd) (tr : Int) : Nat := (tkN rs tr * tr - tkA rs).toNat
def tkF (rs : List RLd) (tr : Int) : List Int := fil (lmL rs) (tkR rs tr + 1) (plL rs) (tkR rs tr)
def tkC (rs : List RLd) (tr : Int) : Int := if 4096 < rs.length then 2 else if 40 < rs.length then 9 else if inB tr 1 100 = false then 5 else if ldsB rs = false then 1 else 0
def tkL (rs : List RLd) (tr : Int) : List Int := if tkC rs tr = 0 then tkF rs tr else []
def tkT (rs : List RLd) (tr : Int) : Int := if tkC rs tr = 0 then tkN rs tr else 0
theorem tk_ways (rs : List RLd) (tr : Int) : (4096 < rs.length ∧ tkC rs tr = 2 ∧ tkL rs tr = [] ∧ tkT rs tr = 0) ∨ (rs.length ≤ 4096 ∧ 40 < rs.length ∧ tkC rs tr = 9 ∧ tkL rs tr = [] ∧ tkT rs tr = 0) ∨
    (rs.length ≤ 40 ∧ inB tr 1 100 = false ∧ tkC rs tr = 5 ∧ tkL rs tr = [] ∧ tkT rs tr = 0) ∨ (rs.length ≤ 40 ∧ inB tr 1 100 = true ∧ ldsB rs = false ∧ tkC rs tr = 1 ∧ tkL rs tr = [] ∧ tkT rs tr = 0) ∨
    (rs.length ≤ 40 ∧ inB tr 1 100 = true ∧ ldsB rs = true ∧ tkC rs tr = 0 ∧ tkL rs tr = tkF rs tr ∧ tkT rs tr = tkN rs tr) := by
  have key : ∀ c, tkC rs tr = c → c ≠ 0 → tkL rs tr = [] ∧ tkT rs tr = 0 := fun c h1 h2 => by unfold tkL tkT; rw [h1, if_neg h2, if_neg h2]; exact ⟨rfl, rfl⟩
  by_cases h1 : 4096 < rs.length
  · have e : tkC rs tr = 2 := by unfold tkC; rw [if_pos h1]
    exact .inl ⟨h1, e, key _ e (by decide)⟩
  by_cases h2 : 40 < rs.length
  · have e : tkC rs tr = 9 := by unfold tkC; rw [if_neg h1, if_pos h2]
    exact .inr (.inl ⟨by omega, h2, e, key _ e (by decide)⟩)
  by_cases h3 : inB tr 1 100 = false
  · have e : tkC rs tr = 5 := by unfold tkC; rw [if_neg h1, if_neg h2, if_pos h3]
    exact .inr (.inr (.inl ⟨by omega, h3, e, key _ e (by decide)⟩))
  have h3' : inB tr 1 100 = true := by simpa using h3
  by_cases h4 : ldsB rs = false
  · have e : tkC rs tr = 1 := by unfold tkC; rw [if_neg h1, if_neg h2, if_neg h3, if_pos h4]
    exact .inr (.inr (.inr (.inl ⟨by omega, h3', h4, e, key _ e (by decide)⟩)))
  have h4' : ldsB rs = true := by simpa using h4
  have e : tkC rs tr = 0 := by unfold tkC; rw [if_neg h1, if_neg h2, if_neg h3, if_neg h4]
  exact .inr (.inr (.inr (.inr ⟨by omega, h3', h4', e, by unfold tkL; rw [if_pos e], by unfold tkT; rw [if_pos e]⟩)))
theorem tk_le (rs : List RLd) (tr : Int) : (tkL rs tr).length ≤ 40 := by
  rcases tk_ways rs tr with ⟨_, _, h, _⟩ | ⟨_, _, _, h, _⟩ | ⟨_, _, _, h, _⟩ | ⟨_, _, _, _, h, _⟩ | ⟨h1, _, _, _, h, _⟩ <;> rw [h]
  · simp
  · simp
  · simp
  · simp
  · unfold tkF; rw [fil_len, plL_len]; exact h1
theorem tk_nums {rs : List RLd} {tr : Int} (h1 : rs.length ≤ 40) (h2 : 1 ≤ tr ∧ tr ≤ 100) (h3 : ldsB rs = true) : (0 ≤ tkA rs ∧ tkA rs ≤ 40000) ∧ (tkA rs + tr - 1).tdiv tr = tkN rs tr ∧ (0 ≤ tkN rs tr ∧ tkN rs tr ≤ 40100) ∧ tkN rs tr * tr = tkA rs + (tkR rs tr : Int) ∧ tkR rs tr ≤ 100 := by
  have hb := pS_bound (L := plL rs) (c := 1000) (fun k hk => by rw [plL_len] at hk; rw [plL_at rs k hk]; exact (lds_at h3 hk).1) rs.length (by rw [plL_len]; omega)
  have ha : 0 ≤ tkA rs ∧ tkA rs ≤ 40000 := by unfold tkA; omega
  have e1 : (tkA rs + tr - 1).tdiv tr = tkN rs tr := Int.tdiv_eq_ediv_of_nonneg (by omega)
  have e2 := Int.emod_add_mul_ediv (tkA rs + tr - 1) tr
  have e3 := Int.emod_nonneg (tkA rs + tr - 1) (show tr ≠ 0 by omega)
  have e4 := Int.emod_lt_of_pos (tkA rs + tr - 1) (show 0 < tr by omega)
  have e5 : 0 ≤ (tkA rs + tr - 1) / tr := Int.ediv_nonneg (by omega) (by omega)
  have e6 : (tkA rs + tr - 1) / tr ≤ tkA rs + tr - 1 := Int.ediv_le_self _ (by omega)
  have e7 : tr * ((tkA rs + tr - 1) / tr) = (tkA rs + tr - 1) / tr * tr := Int.mul_comm _ _
  have e8 : tkN rs tr = (tkA rs + tr - 1) / tr := rfl
  have e9 : (tkR rs tr : Int) = tkN rs tr * tr - tkA rs := by unfold tkR; rw [Int.toNat_of_nonneg]; rw [e8]; omega
  rw [← e8] at e2 e5 e6 e7
  refine ⟨ha, e1, ⟨e5, by omega⟩, by omega, ?_⟩
  omega
theorem stp_bound {lim cur : List Int} {r : Nat} (hc : ∀ i, i < cur.length → 0 ≤ cur.getD i 0 ∧ cur.getD i 0 ≤ 100000) {k : Nat} (hk : k ≤ cur.length) : ∀ i, i < cur.length → 0 ≤ (stp lim cur r k).1.getD i 0 ∧ (stp lim cur r k).1.getD i 0 ≤ 100001 := fun i hi => by
  have h1 := hc i hi
  rcases stp_each lim cur r k hk i with h | ⟨h, _⟩ <;> omega
end Go.Proofs.Ytbgjekhekjbcpaa
