/-
  The laws' own sum over what was sold; all that the law on drawn marks asks, as mathematics.
-/
import Derived.Test.YtlcnhkhkhlpghaaMsC
import Derived.Test.YtlcnhkhkhlpghaaMrF
namespace Go.Proofs.Ytlcnhkhkhlpghaa
open Go.ChangeShapes Go.WideShapes Go.ChangeAt Go.RowKit Go.Deep
set_option linter.unusedVariables false

def psum (L : List Int) : Nat → Int
  | 0 => 0
  | k + 1 => psum L k + L.getD k 0
theorem drewBelowM (w : World) (n : Nat) : Below w.heap.size w (w.drewN n) := ⟨rfl, rfl, rfl, Nat.le_refl _, fun _ _ => rfl⟩
theorem sumMs_any (g : Option Addr) (cap : Nat) (L : List Int) (hl : L.length ≤ 100) (hs : ∀ k, k ≤ L.length → -1000 ≤ psum L k ∧ psum L k ≤ 1000) (w : World) (hr : Reads w.heap.size w g L) :
    Calls Try.prog 10 #[.slice g L.length cap] w fun e w' => e = .returned (.int .i64 (psum L L.length)) ∧ w' = w := by
  have HR : Hid (Reads w.heap.size w g L) := hr
  have HS : Hid (∀ k, k ≤ L.length → -1000 ≤ psum L k ∧ psum L k ≤ 1000) := hs
  clear hr hs
  go_enter Try.func10, Try.ntmps10
  go_wp2
  go_loopw [3, 4] (fun s c wr => ∃ k : Nat, k ≤ L.length ∧ c = .int .i64 (k : Int) ∧ s = .int .i64 (psum L k) ∧ wr = w) (fun _ c _ => L.length - (intOf c).toNat)
  case atStart => exact ⟨0, Nat.zero_le _, rfl, rfl, rfl⟩
  case round =>
    obtain ⟨k, hk, rfl, rfl, hw⟩ := hrel
    subst hw
    by_cases hlt : k < L.length
    · have hlt' : (k : Int) < (L.length : Int) := by omega
      rcases HR.out with h | ⟨b0, o0, ha, hB0, ia⟩
      · rw [h] at hlt; simp at hlt
      have c0 := ia k hlt
      have HN : Hid (psum L (k + 1) = psum L k + L.getD k 0) := rfl
      obtain ⟨s1, s2⟩ := HS.out (k + 1) hlt
      rw [HN.out] at s1 s2
      have hw1 : IntKind.i64.wrap (psum L k + L.getD k 0) = psum L k + L.getD k 0 := wrap_id _ (by omega) (by omega)
      rw [ha]
      clear ia
      generalize L.getD k 0 = x at *
      generalize psum L k = s at *
      go_wp2
      exact ⟨⟨k + 1, by omega, by go_num, by rw [HN.out], trivial⟩, by simp [intOf]; omega⟩
    · obtain rfl : k = L.length := by omega
      go_wp2
      go_ret
      exact ⟨rfl, rfl⟩
theorem slN_at (cs : LL) (ss : List Int) (st : Int) : ∀ d i, i < d → (slN cs ss st d).getD i 0 = sdN cs ss st i
  | d + 1, i, hi => by
    rw [slN]
    by_cases e : i = d
    · subst e
      simp [List.getD_eq_getElem?_getD, slN_len]
    · rw [List.getD_eq_getElem?_getD, List.getElem?_append_left (by rw [slN_len]; omega), ← List.getD_eq_getElem?_getD]
      exact slN_at cs ss st d i (by omega)
theorem psum_sl (cs : LL) (ss : List Int) (st : Int) (d : Nat) : ∀ k, k ≤ d → psum (slN cs ss st d) k = st - lfN cs ss st k
  | 0, _ => by show (0 : Int) = st - st; omega
  | k + 1, hk => by
    rw [psum, psum_sl cs ss st d k (by omega), slN_at cs ss st d k (by omega)]
    show _ = st - (lfN cs ss st k - sdN cs ss st k)
    omega
/-- All that the law asks, as mathematics. -/
theorem mks_facts {price stock : Int} {ps : List Int} {cs : LL} {ss : List Int} (h : Drm price stock ps cs ss) :
    (mkF price stock ps cs = 0 ∧ mkF price (stock + 3) ps cs = 0 ∧ mkC price stock ps cs ss = 0 ∧ ss.length = cs.length) ∧ rvN (prL price ps) cs ss stock cs.length ≤ rvN (prL price ps) cs (bmT price stock ps cs) stock cs.length ∧ rvN (prL price ps) cs (bmT price stock ps cs) stock cs.length ≤ rvN (prL price ps) cs (bmT price (stock + 3) ps cs) (stock + 3) cs.length ∧
    (∀ tt, stB ps.length cs.length tt = true → (∀ k, k ≤ (slN cs tt stock cs.length).length → -1000 ≤ psum (slN cs tt stock cs.length) k ∧ psum (slN cs tt stock cs.length) k ≤ 1000) ∧ psum (slN cs tt stock cs.length) (slN cs tt stock cs.length).length + lfN cs tt stock cs.length = stock ∧ 0 ≤ lfN cs tt stock cs.length) := by
  have hst := h.st
  have hf := h.right (s2 := stock) (by omega) (by omega)
  have hf3 := h.right (s2 := stock + 3) (by omega) (by omega)
  have hok := mkF_zero hf
  have hok3 := mkF_zero hf3
  have hl : ss.length = cs.length := (stOK_of h.ss).1
  have hcl := h.cl
  refine ⟨⟨hf, hf3, ?_, hl⟩, ?_, ?_, fun tt htt => ?_⟩
  · unfold mkC
    rw [if_neg (by omega), if_pos hf, if_pos h.ss]
  · rw [show rvN (prL price ps) cs (bmT price stock ps cs) stock cs.length = (chz (prL price ps) cs ps.length cs.length 0 stock).2 from rv_best hok.mr hok.st.1 hok.st.2]
    exact rv_most hok.mr hok.st.1 hok.st.2 h.ss
  · rw [show rvN (prL price ps) cs (bmT price stock ps cs) stock cs.length = (chz (prL price ps) cs ps.length cs.length 0 stock).2 from rv_best hok.mr hok.st.1 hok.st.2, show rvN (prL price ps) cs (bmT price (stock + 3) ps cs) (stock + 3) cs.length = (chz (prL price ps) cs ps.length cs.length 0 (stock + 3)).2 from rv_best hok3.mr hok3.st.1 hok3.st.2]
    exact chz_mono hok.mr cs.length 0 stock (stock + 3) (Nat.le_refl _) hok.pl.1 hok.st.1 (by omega)
  · rw [slN_len]
    have hb := fun k hk => plan_bounds hok (stOK_of htt) k hk
    refine ⟨fun k hk => ?_, ?_, (hb cs.length (Nat.le_refl _)).1.1⟩
    · rw [psum_sl cs tt stock cs.length k hk]
      have := (hb k hk).1
      omega
    · rw [psum_sl cs tt stock cs.length cs.length (Nat.le_refl _)]
      omega
end Go.Proofs.Ytlcnhkhkhlpghaa
