/-
  What the law on drawn loads asks, as mathematics; the laws' own sum.
-/
import Derived.Test.YtbgjekhekjbcpaaTkE
import Derived.Test.YtbgjekhekjbcpaaTkC
namespace Go.Proofs.Ytbgjekhekjbcpaa
open Go.ChangeShapes Go.WideShapes Go.ChangeAt Go.RowKit Go.Joins Go.Deep
set_option linter.unusedVariables false

/-- How many more the first k loads could have. -/
def rS (rs : List RLd) (L : List Int) : Nat → Int
  | 0 => 0
  | k + 1 => rS rs L k + ((rs.getD k zLd).pl + (rs.getD k zLd).ex - L.getD k 0)
theorem tk_rest {rs : List RLd} {tr : Int} (h1 : rs.length ≤ 40) (h2 : 1 ≤ tr ∧ tr ≤ 100) (h3 : ldsB rs = true) : tkN rs tr * tr ≤ tkA rs + tr - 1 ∧ (tkN rs tr - 1) * tr < tkA rs := by
  have e2 := Int.emod_add_mul_ediv (tkA rs + tr - 1) tr
  have e3 := Int.emod_nonneg (tkA rs + tr - 1) (show tr ≠ 0 by omega)
  have e7 : tr * ((tkA rs + tr - 1) / tr) = (tkA rs + tr - 1) / tr * tr := Int.mul_comm _ _
  have e8 : tkN rs tr = (tkA rs + tr - 1) / tr := rfl
  have e9 : (tkN rs tr - 1) * tr = tkN rs tr * tr - tr := by rw [Int.sub_mul, Int.one_mul]
  rw [← e8] at e2 e7
  omega
theorem trk_facts {rs : List RLd} {tr : Int} (h : DrT rs tr) : (tkC rs tr = 0 ∧ tkL rs tr = tkF rs tr ∧ tkT rs tr = tkN rs tr) ∧ (tkF rs tr).length = rs.length ∧ (∀ i, i < rs.length → (rs.getD i zLd).pl ≤ (tkF rs tr).getD i 0 ∧ (tkF rs tr).getD i 0 ≤ (rs.getD i zLd).pl + (rs.getD i zLd).ex) ∧ ((0 ≤ tkA rs ∧ tkA rs ≤ 40000) ∧ 0 ≤ tkN rs tr ∧ tkN rs tr ≤ 40100) ∧ pS (tkF rs tr) rs.length ≤ tkN rs tr * tr ∧ tkA rs ≤ tkN rs tr * tr ∧ tkN rs tr * tr ≤ 40100 ∧ (tkN rs tr - 1) * tr < tkA rs ∧ (pS (tkF rs tr) rs.length < tkN rs tr * tr → ∀ i, i < rs.length → (tkF rs tr).getD i 0 = (rs.getD i zLd).pl + (rs.getD i zLd).ex) ∧ (∀ i k, i < rs.length → k < rs.length → (tkF rs tr).getD k 0 < (rs.getD k zLd).pl + (rs.getD k zLd).ex → (tkF rs tr).getD i 0 - (rs.getD i zLd).pl ≤ (tkF rs tr).getD k 0 - (rs.getD k zLd).pl + 1) := by
  obtain ⟨hl, hm, ht⟩ := h
  have hok : ldsB rs = true := lds_of hm
  have h40 : rs.length ≤ 40 := by omega
  have htr : 1 ≤ tr ∧ tr ≤ 100 := by omega
  obtain ⟨n1, n3, n4, n6, n7⟩ := tk_nums h40 htr hok
  obtain ⟨g1, g2⟩ := tk_rest h40 htr hok
  have hcode : tkC rs tr = 0 ∧ tkL rs tr = tkF rs tr ∧ tkT rs tr = tkN rs tr := by
    rcases tk_ways rs tr with ⟨h, _⟩ | ⟨_, h, _⟩ | ⟨_, h, _⟩ | ⟨_, _, h, _⟩ | ⟨_, _, _, h⟩
    · omega
    · omega
    · unfold inB at h; simp at h; omega
    · rw [hok] at h; cases h
    · exact h
  have hlim : ∀ i, i < rs.length → (lmL rs).getD i 0 = (plL rs).getD i 0 + (exL rs).getD i 0 := fun i hi => by rw [lmL_at rs i hi, plL_at rs i hi, exL_at rs i hi]
  have hx : ∀ i, i < rs.length → 0 ≤ (exL rs).getD i 0 := fun i hi => by rw [exL_at rs i hi]; exact (lds_at hok hi).2.1
  obtain ⟨t, r', ht', f1, f2, f3⟩ := fil_fin (plL rs) (exL rs) (lmL rs) rs.length hlim (tkR rs tr + 1) (plL rs) (tkR rs tr) 0 (by omega) (by omega) (plL_len rs) (fun i hi => by have := hx i hi; omega)
  have hF : fil (lmL rs) (tkR rs tr + 1) (plL rs) (tkR rs tr) = tkF rs tr := rfl
  rw [hF] at f1 f2 f3
  have hA : pS (plL rs) rs.length = tkA rs := rfl
  rw [hA] at f2
  have hlen : (tkF rs tr).length = rs.length := by unfold tkF; rw [fil_len, plL_len]
  have hrange : ∀ i, i < rs.length → (rs.getD i zLd).pl ≤ (tkF rs tr).getD i 0 ∧ (tkF rs tr).getD i 0 ≤ (rs.getD i zLd).pl + (rs.getD i zLd).ex := fun i hi => by
    have h1 := f1 i hi
    have h2 := hx i hi
    rw [exL_at rs i hi, plL_at rs i hi] at h1
    rw [exL_at rs i hi] at h2
    rcases h1 with h1 | h1 <;> omega
  refine ⟨hcode, hlen, hrange, ⟨n1, n4⟩, by omega, by omega, by omega, g2, fun hlt i hi => ?_, fun i k hi hk hlt => ?_⟩
  · rcases f3 with f3 | f3
    · omega
    · have h1 := f3 i hi
      rw [lmL_at rs i hi] at h1
      have := hrange i hi
      omega
  · have h1 := f1 i hi
    have h2 := f1 k hk
    rw [plL_at rs i hi, exL_at rs i hi] at h1
    rw [plL_at rs k hk, exL_at rs k hk] at h2
    omega
theorem rS_zero {rs : List RLd} {L : List Int} (h : ∀ i, i < rs.length → L.getD i 0 = (rs.getD i zLd).pl + (rs.getD i zLd).ex) : ∀ k, k ≤ rs.length → rS rs L k = 0
  | 0, _ => rfl
  | k + 1, hk => by rw [rS, rS_zero h k (by omega), h k (by omega)]; omega
theorem sumTk_any (g : Option Addr) (cap : Nat) (L : List Int) (hl : L.length ≤ 40) (hs : ∀ k, k ≤ L.length → 0 ≤ pS L k ∧ pS L k ≤ 1000000) (w : World) (hr : Reads w.heap.size w g L) :
    Calls Try.prog 15 #[.slice g L.length cap] w fun e w' => e = .returned (.int .i64 (pS L L.length)) ∧ w = w' := by
  have HR : Hid (Reads w.heap.size w g L) := hr
  have HS : Hid (∀ k, k ≤ L.length → 0 ≤ pS L k ∧ pS L k ≤ 1000000) := hs
  clear hr hs
  go_enter Try.func15, Try.ntmps15
  go_wp2
  go_loopw [3, 4] (fun s c wr => ∃ k : Nat, k ≤ L.length ∧ c = .int .i64 (k : Int) ∧ s = .int .i64 (pS L k) ∧ w = wr) (fun _ c _ => L.length - (intOf c).toNat)
  case atStart => exact ⟨0, Nat.zero_le _, rfl, rfl, rfl⟩
  case round =>
    obtain ⟨k, hk, rfl, rfl, hw⟩ := hrel
    subst hw
    by_cases hlt : k < L.length
    · have hlt' : (k : Int) < (L.length : Int) := by omega
      rcases HR.out with h | ⟨b0, o0, ha, hB0, ia⟩
      · rw [h] at hlt; simp at hlt
      have c0 := ia k hlt
      have HN : Hid (pS L (k + 1) = pS L k + L.getD k 0) := rfl
      obtain ⟨s1, s2⟩ := HS.out (k + 1) hlt
      rw [HN.out] at s1 s2
      have hw1 : IntKind.i64.wrap (pS L k + L.getD k 0) = pS L k + L.getD k 0 := wrap_id _ (by omega) (by omega)
      rw [ha]
      clear ia
      generalize L.getD k 0 = x at *
      generalize pS L k = s at *
      go_wp2
      exact ⟨⟨k + 1, by omega, by go_num, by rw [HN.out], by first | rfl | trivial⟩, by simp [intOf]; omega⟩
    · obtain rfl : k = L.length := by omega
      go_wp2
      go_ret
      exact ⟨rfl, rfl⟩
end Go.Proofs.Ytbgjekhekjbcpaa
