/-
  Contract of the library's slices.DeleteFunc over numbers, where one is to go; of the program's termsAt.
-/
import Derived.Test.YtfofdeenpcbglaaRwA
import Derived.Test.YtfofdeenpcbglaaRwB
namespace Go.Proofs.Ytfofdeenpcbglaa
open Go.ChangeShapes Go.WideShapes Go.ChangeAt Go.RowKit Go.Deep
set_option linter.unusedVariables false

/-- The numbers while those behind p move up: j - 1 of them are in their places. -/
def mvF (L : List Int) (p j q : Nat) : Int := if p ≤ q ∧ q + 1 < j then L.getD (q + 1) 0 else L.getD q 0
def MvAt (w : World) (b : Nat) (L : List Int) (p j : Nat) : Prop := ∀ q, q < L.length → w.cell? ⟨b, q, none⟩ = some (.int .i64 (mvF L p j q))
theorem MvAt.next {w : World} {b : Nat} {L : List Int} {p j : Nat} (h : MvAt w b L p j) (hp : p < j) (hj : j < L.length) : MvAt (w.setCell ⟨b, j - 1, none⟩ (.int .i64 (L.getD j 0))) b L p (j + 1) := fun q hq => by
  by_cases e : q = j - 1
  · subst e
    have h1 := h (j - 1) hq
    rw [World.cell?_setCell_same _ _ _ h1]
    unfold mvF
    rw [if_pos (by omega), show j - 1 + 1 = j by omega]
  · rw [World.cell?_setCell_other _ _ _ _ (fun k => e (by cases k; rfl)), h q hq]
    unfold mvF
    by_cases h2 : p ≤ q ∧ q + 1 < j
    · rw [if_pos h2, if_pos (by omega)]
    · rw [if_neg h2, if_neg (by omega)]
set_option maxHeartbeats 4000000 in
set_option maxRecDepth 4000 in
theorem nDelete_any (b cap : Nat) (L M : List Int) (hcap : L.length ≤ cap) (hl : L.length ≤ 100000000) (x : Int) (p : Nat) (hp : p < L.length) (hx : L.getD p 0 = x) (hne : ∀ i, i < L.length → i ≠ p → L.getD i 0 ≠ x) (hM : M.length + 1 = L.length) (hMq : ∀ q, q < M.length → M.getD q 0 = if q < p then L.getD q 0 else L.getD (q + 1) 0) (vb : Nat) (hvb : vb ≠ b) (w : World) (hc : w.cell? ⟨vb, 0, none⟩ = some (.int .i64 x)) (hr : IntsAt w b 0 L) (hf : FreeAt w b 0 L.length) :
    Calls Try.prog 32 #[.slice (some ⟨b, 0, none⟩) L.length cap, .func (.func 34) #[] #[.pointer (some ⟨vb, 0, none⟩)]] w fun e w' => e = .returned (.slice (some ⟨b, 0, none⟩) M.length cap) ∧ IntsAt w' b 0 M ∧ FreeAt w' b 0 M.length ∧ Others b w w' := by
  have hI := nIndex_any b cap L hl x p hp hx (fun i hi => hne i (by omega) (by omega)) vb w hc hr
  have H0 : Hid (MvAt w b L p (p + 1)) := fun q hq => by
    have := hr q hq
    rw [Nat.zero_add] at this
    unfold mvF
    rw [if_neg (by omega)]
    exact this
  have HC : Hid (w.cell? ⟨vb, 0, none⟩ = some (.int .i64 x)) := hc
  have HF : Hid (∀ q, q < L.length → w.frozen? ⟨b, q, none⟩ = false) := fun q hq => by have := hf q hq; rwa [Nat.zero_add] at this
  have HNe : Hid (∀ i, i < L.length → i ≠ p → L.getD i 0 ≠ x) := hne
  have HMq : Hid (∀ q, q < M.length → M.getD q 0 = if q < p then L.getD q 0 else L.getD (q + 1) 0) := hMq
  have hp1 : ((p : Int) == -1) = false := by simp
  clear hr hc hf hne hMq
  go_enter Try.func32, Try.ntmps32
  go_wp2_with (go_at_call 51; refine hI.mono ?_; rintro e w2 ⟨rfl, rfl⟩)
  go_loopw [5, 6, 7] (fun i c _ wr => ∃ j : Nat, (p < j ∧ j ≤ L.length) ∧ c = .int .i64 (j : Int) ∧ i = .int .i64 ((j - 1 : Nat) : Int) ∧ MvAt wr b L p j ∧ Others b w wr) (fun _ c _ _ => L.length - (intOf c).toNat)
  case atStart => exact ⟨p + 1, by omega, by go_num, by simp, H0.out, Others.refl _ _⟩
  case round =>
    clear H0
    obtain ⟨j, hj, rfl, rfl, hm, ho⟩ := hrel
    have HM : Hid (MvAt wr b L p j) := hm
    have HO : Hid (Others b w wr) := ho
    clear hm ho
    by_cases hlt : j < L.length
    · have hlt' : (j : Int) < (L.length : Int) := by omega
      have c0 := HM.out j hlt
      have hmv : mvF L p j j = L.getD j 0 := if_neg (by omega)
      rw [hmv] at c0
      have hm := never1_any x (L.getD j 0) vb wr ((HO.out.1 vb 0 hvb).trans HC.out)
      have hb : (L.getD j 0 == x) = false := by simpa using HNe.out j hlt (by omega)
      rw [hb] at hm
      have hw1 := HM.out (j - 1) (by omega)
      have hfz : wr.frozen? ⟨b, j - 1, none⟩ = false := (HO.out.2.1 b (j - 1)).trans (HF.out (j - 1) (by omega))
      have hj1 : ((j - 1 : Nat) : Int) < (L.length : Int) := by omega
      have HN : Hid (MvAt (wr.setCell ⟨b, j - 1, none⟩ (.int .i64 (L.getD j 0))) b L p (j + 1) ∧ Others b w (wr.setCell ⟨b, j - 1, none⟩ (.int .i64 (L.getD j 0)))) := ⟨HM.out.next hj.1 hlt, HO.out.set _ _⟩
      generalize mvF L p j (j - 1) = old at *
      generalize L.getD j 0 = y at *
      go_wp2_with (go_at_call 34; refine hm.mono ?_; rintro e w3 ⟨rfl, rfl⟩)
      go_roundw
      case rel => exact ⟨j + 1, by omega, by go_num, congrArg (Value.int .i64) (by omega), HN.out.1, HN.out.2⟩
      case measure => simp [intOf]; omega
    · have hle : (L.length : Int) ≤ (j : Int) := by omega
      obtain rfl : j = L.length := by omega
      have HE : Hid (∀ q, q < M.length → wr.cell? ⟨b, q, none⟩ = some (.int .i64 (M.getD q 0))) := fun q hq => by
        rw [HM.out q (by omega), HMq.out q hq]
        unfold mvF
        by_cases h2 : q < p
        · rw [if_neg (by omega), if_pos h2]
        · rw [if_pos (by omega), if_neg h2]
      have hz1 : (wr.cell? ⟨b, M.length, none⟩).isSome = true := by rw [HM.out M.length (by omega)]; rfl
      have hz2 : wr.frozen? ⟨b, M.length, none⟩ = false := (HO.out.2.1 b M.length).trans (HF.out _ (by omega))
      have hz3 : ∀ j, j < 1 → (wr.cell? ⟨b, M.length + j, none⟩).isSome = true := fun j hj => by
        obtain rfl : j = 0 := by omega
        exact hz1
      have hz4 : ∀ j, j < 1 → wr.frozen? ⟨b, M.length + j, none⟩ = false := fun j hj => by
        obtain rfl : j = 0 := by omega
        exact hz2
      have hcl : ∀ c, (Builtin.clear_ #[29] 0 #[.slice (some ⟨b, M.length, none⟩) 1 c]).run Try.prog wr = .ok (.tuple #[]) (wr.setCells b M.length (List.replicate 1 (.int .i64 0))) := fun c => Lib.run_clear_slice wr 29 3 0 (.int .i64 0) Try.underlying29 (fun w => by kernel_rfl) rfl rfl b M.length 1 c (by omega) hz3 hz4
      have hj1 : L.length - 1 = M.length := by omega
      have hLm : L.length = M.length + 1 := hM.symm
      rw [hj1]
      rw [hLm] at hcap
      rw [hLm]
      have hm1 : M.length ≤ cap := by omega
      have hmb : M.length ≤ 100000000 := by omega
      have HF2 : Hid (∀ q, q < M.length → w.frozen? ⟨b, q, none⟩ = false) := fun q hq => HF.out q (by omega)
      clear hj1 hM hz1 hz2 hz3 hz4 hI hle hlt hj hp hl hp1 hx
      generalize hLl : L.length = l at *
      clear hLm hLl
      generalize hMl : M.length = m at *
      have HMl : Hid (M.length = m) := hMl
      clear hMl
      go_wp2
      have hs : wr.setCells b m [Value.int .i64 0] = wr.setCell ⟨b, m, none⟩ (.int .i64 0) := by simp [World.setCells]
      rw [hs]
      go_ret
      refine ⟨by rw [HMl.out]; rfl, fun q hq => ?_, fun q hq => ?_, HO.out.set _ _⟩
      · rw [Nat.zero_add, World.cell?_setCell_other _ _ _ _ (fun k => by cases k; have := HMl.out; omega)]
        exact HE.out q (by have := HMl.out; omega)
      · rw [Nat.zero_add, World.frozen?_setCell]
        exact (HO.out.2.1 b q).trans (HF2.out q (by have := HMl.out; omega))
end Go.Proofs.Ytfofdeenpcbglaa
