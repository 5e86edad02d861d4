/-
  Contract of the program's nextOpen.
-/
import Derived.Test.YtbgjekhekjbcpaaDyA
namespace Go.Proofs.Ytbgjekhekjbcpaa
open Go.ChangeShapes Go.WideShapes Go.ChangeAt Go.RowKit Go.Joins Go.Deep
set_option linter.unusedVariables false

set_option maxHeartbeats 2000000 in
theorem nextOpen_any (wa ha : Option Addr) (wc hc : Nat) (wk : List Bool) (hs : List Int) (f : Int) (n : Nat) (h7 : wk.length = 7) (hl : hs.length ≤ 60) (hf : 0 ≤ f) (hn : f + n ≤ 200000) (w : World) (hrw : ReadsBl w.heap.size w wa wk) (hrh : Reads w.heap.size w ha hs) :
    Calls Try.prog 44 #[.agg #[.slice wa wk.length wc, .slice ha hs.length hc], .int .i64 f, .int .i64 (f + n)] w fun e w' => e = .returned (.int .i64 (nx (opB wk hs) f n)) ∧ Below w.heap.size w w' := by
  have HIW : Hid (∀ (d : Int) W, 0 ≤ d → Below w.heap.size w W → Calls Try.prog 57 #[.agg #[.slice wa wk.length wc, .slice ha hs.length hc], .int .i64 d] W fun e w' => e = .returned (.bool (wk.getD (d % 7).toNat false)) ∧ Below W.heap.size W w') := fun d W hd hW => inWeek_any wa ha wc hc wk hs d h7 hd W (hrw.later hW)
  have HNH : Hid (∀ (d : Int) W, Below w.heap.size w W → Calls Try.prog 58 #[.agg #[.slice wa wk.length wc, .slice ha hs.length hc], .int .i64 d] W fun e w' => e = .returned (.bool (!hasI hs d)) ∧ Below W.heap.size W w') := fun d W hW => noHoliday_any wa ha wc hc wk hs d (by omega) W (readsL hrh hW)
  have HOp : Hid (∀ d, opB wk hs d = (wk.getD (d % 7).toNat false && !hasI hs d)) := fun d => rfl
  clear hrw hrh h7 hl
  generalize wk.length = wl at *
  generalize hs.length = hl2 at *
  generalize opB wk hs = p at *
  have HB2 : Hid (Below w.heap.size w ((w.alloc (Obj.cells #[.slice wa wl wc, .slice ha hl2 hc] 71)).alloc (Obj.cells #[.func (.func 57) #[.agg #[.slice wa wl wc, .slice ha hl2 hc]] #[], .func (.func 58) #[.agg #[.slice wa wl wc, .slice ha hl2 hc]] #[]] 69))) := chain (below_alloc _ _) (below_alloc _ _)
  have HC2 : Hid (∀ W, Below ((w.alloc (Obj.cells #[.slice wa wl wc, .slice ha hl2 hc] 71)).alloc (Obj.cells #[.func (.func 57) #[.agg #[.slice wa wl wc, .slice ha hl2 hc]] #[], .func (.func 58) #[.agg #[.slice wa wl wc, .slice ha hl2 hc]] #[]] 69)).heap.size ((w.alloc (Obj.cells #[.slice wa wl wc, .slice ha hl2 hc] 71)).alloc (Obj.cells #[.func (.func 57) #[.agg #[.slice wa wl wc, .slice ha hl2 hc]] #[], .func (.func 58) #[.agg #[.slice wa wl wc, .slice ha hl2 hc]] #[]] 69)) W → W.cell? ⟨w.heap.size + 1, 0, none⟩ = some (.func (.func 57) #[.agg #[.slice wa wl wc, .slice ha hl2 hc]] #[]) ∧ W.cell? ⟨w.heap.size + 1, 1, none⟩ = some (.func (.func 58) #[.agg #[.slice wa wl wc, .slice ha hl2 hc]] #[])) := fun W hW => ⟨(hW.cell (p := ⟨w.heap.size + 1, 0, none⟩) (by simp)).trans (by simp), (hW.cell (p := ⟨w.heap.size + 1, 1, none⟩) (by simp)).trans (by simp)⟩
  go_enter Try.func44, Try.ntmps44
  go_wp2
  go_step3
  go_wp2
  generalize ((w.alloc (Obj.cells #[.slice wa wl wc, .slice ha hl2 hc] 71)).alloc (Obj.cells #[.func (.func 57) #[.agg #[.slice wa wl wc, .slice ha hl2 hc]] #[], .func (.func 58) #[.agg #[.slice wa wl wc, .slice ha hl2 hc]] #[]] 69)) = W2 at *
  generalize w.heap.size + 1 = fb at *
  go_step3
  go_wp2
  go_loopw [8, 10, 24] (fun dv _ _ wr => ∃ k : Nat, k ≤ n ∧ dv = .int .i64 (f + (k : Int)) ∧ nx p f n = nx p (f + (k : Int)) (n - k) ∧ Below W2.heap.size W2 wr) (fun dv _ _ _ => n - ((intOf dv) - f).toNat)
  case atStart => exact ⟨0, Nat.zero_le _, by simp, by simp, Below.refl _ _⟩
  case round =>
    obtain ⟨k, hk, rfl, hnx, hb⟩ := hrel
    have HNx : Hid (nx p f n = nx p (f + (k : Int)) (n - k)) := hnx
    have HB : Hid (Below W2.heap.size W2 wr) := hb
    clear hnx hb
    by_cases hlt : k < n
    · have hlt' : f + (k : Int) < f + (n : Int) := by omega
      have hiw := fun W hW => HIW.out (f + (k : Int)) W (by omega) hW
      have hnh := fun W hW => HNH.out (f + (k : Int)) W hW
      have hop := HOp.out (f + (k : Int))
      have HY : Hid (p (f + (k : Int)) = true → nx p f n = f + (k : Int)) := fun h => by rw [HNx.out, show n - k = (n - k - 1) + 1 by omega, nx_yes h]
      have HN : Hid (p (f + (k : Int)) = false → nx p f n = nx p (f + ((k + 1 : Nat) : Int)) (n - (k + 1))) := fun h => by rw [HNx.out, show n - k = (n - (k + 1)) + 1 by omega, nx_no h]; congr 1; omega
      rw [hop] at HY HN
      obtain ⟨d, hd⟩ : ∃ d, f + (k : Int) = d := ⟨_, rfl⟩
      have HD : Hid (f + (k : Int) = d) := hd
      rw [hd] at hiw hnh HY HN hlt' ⊢
      generalize wk.getD (d % 7).toNat false = b1 at *
      generalize (!hasI hs d) = b2 at *
      have HI : Hid (∀ W, Below w.heap.size w W → Calls Try.prog 57 #[.agg #[.slice wa wl wc, .slice ha hl2 hc], .int .i64 d] W fun e w' => e = .returned (.bool b1) ∧ Below W.heap.size W w') := hiw
      have HH : Hid (∀ W, Below w.heap.size w W → Calls Try.prog 58 #[.agg #[.slice wa wl wc, .slice ha hl2 hc], .int .i64 d] W fun e w' => e = .returned (.bool b2) ∧ Below W.heap.size W w') := hnh
      clear hiw hnh hop hd
      have hd0 : -1000000 ≤ d ∧ d ≤ 1000000 := by have := HD.out; omega
      obtain ⟨hd1, hd2⟩ := hd0
      go_wp2
      go_loopw [10, 24] (fun _ c wr => ∃ j : Nat, j ≤ 2 ∧ c = .int .i64 (j : Int) ∧ (1 ≤ j → b1 = true) ∧ (2 ≤ j → b2 = true) ∧ Below W2.heap.size W2 wr) (fun _ c _ => 2 - (intOf c).toNat)
      case atStart => exact ⟨0, by omega, rfl, fun h => by omega, fun h => by omega, HB.out⟩
      case round =>
        clear HB
        obtain ⟨j, hj, rfl, hj1, hj2, hb⟩ := hrel
        have HB : Hid (Below W2.heap.size W2 wr) := hb
        have HJ1 : Hid (1 ≤ j → b1 = true) := hj1
        have HJ2 : Hid (2 ≤ j → b2 = true) := hj2
        clear hb hj1 hj2
        obtain ⟨cA, cB⟩ := HC2.out wr HB.out
        rcases (by omega : j = 0 ∨ j = 1 ∨ j = 2) with rfl | rfl | rfl
        · clear cB
          cases b1
          · go_wp2_with (go_at_call 57; refine (HI.out _ (chain HB2.out HB.out)).mono ?_; rintro e w5 ⟨rfl, hb5⟩)
            exact ⟨⟨k + 1, by omega, by have := HD.out; rw [show d + 1 = f + ((k + 1 : Nat) : Int) by omega], HN.out (by simp), chain HB.out hb5⟩, by have := HD.out; simp [intOf]; omega⟩
          · go_wp2_with (go_at_call 57; refine (HI.out _ (chain HB2.out HB.out)).mono ?_; rintro e w5 ⟨rfl, hb5⟩)
            exact ⟨⟨1, by omega, rfl, fun _ => by trivial, fun h => by omega, chain HB.out hb5⟩, by simp [intOf]⟩
        · clear cA
          have hb1 := HJ1.out (Nat.le_refl _)
          subst hb1
          cases b2
          · go_wp2_with (go_at_call 58; refine (HH.out _ (chain HB2.out HB.out)).mono ?_; rintro e w5 ⟨rfl, hb5⟩)
            exact ⟨⟨k + 1, by omega, by have := HD.out; rw [show d + 1 = f + ((k + 1 : Nat) : Int) by omega], HN.out (by simp), chain HB.out hb5⟩, by have := HD.out; simp [intOf]; omega⟩
          · go_wp2_with (go_at_call 58; refine (HH.out _ (chain HB2.out HB.out)).mono ?_; rintro e w5 ⟨rfl, hb5⟩)
            exact ⟨⟨2, by omega, rfl, fun _ => by trivial, fun h => by trivial, chain HB.out hb5⟩, by simp [intOf]⟩
        · clear cA cB
          have hb1 := HJ1.out (by omega)
          subst hb1
          have hb2 := HJ2.out (by omega)
          subst hb2
          have HE : Hid (nx p f n = d) := HY.out (by simp)
          go_wp2
          (first | go_ret | (simp only [Exit.noGoto]; go_ret))
          exact ⟨by rw [HE.out]; rfl, chain HB2.out HB.out⟩
    · have hge : ¬ f + (k : Int) < f + (n : Int) := by omega
      obtain rfl : k = n := by omega
      have HE : Hid (nx p f k = f + (k : Int)) := by rw [HNx.out, Nat.sub_self]; rfl
      go_wp2
      (first | go_ret | (simp only [Exit.noGoto]; go_ret))
      exact ⟨by rw [HE.out]; rfl, chain HB2.out HB.out⟩
theorem stretch_any (f t : Int) (w : World) :
    Calls Try.prog 43 #[.int .i64 f, .int .i64 t] w fun e w' => e = .returned (.bool (stB f t)) ∧ w = w' := by
  unfold stB
  rcases (by omega : f < 0 ∨ (0 ≤ f ∧ t < f) ∨ (0 ≤ f ∧ f ≤ t ∧ 100000 < t) ∨ (0 ≤ f ∧ f ≤ t ∧ t ≤ 100000)) with h | ⟨h1, h2⟩ | ⟨h1, h2, h3⟩ | ⟨h1, h2, h3⟩
  all_goals
    go_enter Try.func43, Try.ntmps43
    go_wp2
    go_ret
    exact ⟨ret_bool (by first | (simp; done) | (simp; omega) | (rw [Bool.eq_iff_iff]; simp; omega)), rfl⟩
end Go.Proofs.Ytbgjekhekjbcpaa
