/-
  The laws' own markText: for every number from 1 to a billion it answers some text, and turns nothing that was there.
-/
import Derived.Test.YtjnlghngneonhaaLists0
namespace Go.Proofs.Ytjnlghngneonhaa
open Go.ChangeShapes Go.WideShapes Go.ChangeAt Go.RowKit
set_option linter.unusedVariables false

theorem oneByte (v : Nat) (hv : v < 256) (w : World) (b : Nat) (h : w.cell? ⟨b, 0, none⟩ = some (.int .u8 (v : Int))) :
    (convert 22 9 (.slice (some ⟨b, 0, none⟩) 1 1)).run Try.prog w = .ok (.string ⟨#[UInt8.ofNat v]⟩) w := by
  have e : (UInt8.ofNat v).toNat = v := by simp; omega
  exact run_convert_bytes_back (P := Try.prog) w 22 9 5 ⟨b, 0, none⟩ 1 [UInt8.ofNat v] Try.underlying22 Try.underlying5 Try.underlying9 (by
    intro j hj
    have hj0 : j = 0 := by simp at hj; exact hj
    subst hj0
    show w.cell? _ = some (.int .u8 ((UInt8.ofNat v).toNat : Int))
    rw [e]; simpa [Addr.add] using h)

/-- The digits of u, ahead of s. -/
def mkRun : Nat → Nat → ByteArray → ByteArray
  | 0, _, s => s
  | f + 1, u, s => if u = 0 then s else mkRun f (u / 10) (⟨#[UInt8.ofNat (48 + u % 10)]⟩ ++ s)
def mkS (u : Nat) : ByteArray := ⟨#[109]⟩ ++ mkRun u u ⟨#[]⟩
theorem mkRun_zero : ∀ f s, mkRun f 0 s = s
  | 0, s => rfl
  | f + 1, s => by unfold mkRun; rw [if_pos rfl]

set_option maxHeartbeats 2000000 in
theorem markText_any (u0 : Nat) (h0 : 1 ≤ u0) (h1 : u0 ≤ 1000000000) (w : World) :
    Calls Try.prog 28 #[.int .i64 (u0 : Int)] w fun e w' => e = .returned (.string (mkS u0)) ∧ Below w.heap.size w w' := by
  have g0 : (1 : Int) ≤ (u0 : Int) := by omega
  have g1 : (u0 : Int) ≤ 1000000000 := by omega
  go_enter Try.func28, Try.ntmps28
  go_wp2
  go_loopw [0, 3] (fun k s wr => ∃ (f u : Nat) (t : ByteArray), k = .int .i64 (u : Int) ∧ s = .string t ∧ u ≤ f ∧ u ≤ 1000000000 ∧ t.size + u ≤ u0 ∧ mkRun u0 u0 ⟨#[]⟩ = mkRun f u t ∧ Below w.heap.size w wr) (fun k _ _ => (intOf k).toNat)
  case atStart => exact ⟨u0, u0, ⟨#[]⟩, rfl, rfl, Nat.le_refl _, h1, by show 0 + u0 ≤ u0; omega, rfl, Below.refl _ _⟩
  case round =>
    obtain ⟨f, u, t, rfl, rfl, huf, hu9, hts, hrun, hb⟩ := hrel
    have HRn : Hid (mkRun u0 u0 ⟨#[]⟩ = mkRun f u t) := hrun
    have HB : Hid (Below w.heap.size w wr) := hb
    clear hrun hb
    by_cases hz : u = 0
    · subst hz
      have HE : Hid (mkS u0 = ⟨#[109]⟩ ++ t) := by show _ = _; unfold mkS; rw [HRn.out, mkRun_zero]
      have hsz : t.size ≤ 1000000000 := by omega
      clear hts
      go_wp2
      go_ret
      exact ⟨by rw [HE.out]; rfl, HB.out⟩
    · have hpos : (1 : Int) ≤ (u : Int) := by omega
      obtain ⟨f', rfl⟩ : ∃ f', f = f' + 1 := ⟨f - 1, by omega⟩
      have HS : Hid (mkRun (f' + 1) u t = mkRun f' (u / 10) (⟨#[UInt8.ofNat (48 + u % 10)]⟩ ++ t)) := by show _ = _; rw [mkRun, if_neg hz]
      have e48 : (48 : Int) + (u : Int) % 10 = ((48 + u % 10 : Nat) : Int) := by omega
      have hcv : ∀ W b, W.cell? ⟨b, 0, none⟩ = some (.int .u8 (48 + (u : Int) % 10)) → (convert 22 9 (.slice (some ⟨b, 0, none⟩) 1 1)).run Try.prog W = .ok (.string ⟨#[UInt8.ofNat (48 + u % 10)]⟩) W := fun W b h => by
        rw [e48] at h
        exact oneByte (48 + u % 10) (by omega) W b h
      clear e48
      have tm : (u : Int).tmod 10 = (u : Int) % 10 := Int.tmod_eq_emod_of_nonneg (by omega)
      have tq : (u : Int).tdiv 10 = (u : Int) / 10 := Int.tdiv_eq_ediv_of_nonneg (by omega)
      have wb : IntKind.u8.wrap (48 + (u : Int) % 10) = 48 + (u : Int) % 10 := by simp [IntKind.wrap, IntKind.signed, IntKind.bits]; omega
      have hsz : t.size ≤ 1000000000 := by omega
      have hsz' : (1 : Nat) + t.size ≤ 1000000001 := by omega
      have HT : Hid (t.size + u ≤ u0) := hts
      clear hts
      go_wp2
      have eb : UInt8.ofNat (48 + u % 10) = 48 + UInt8.ofNat (u % 10) := by simp
      refine ⟨⟨f', u / 10, _, by congr 1, rfl, by omega, by omega, ?_, ?_, chain HB.out (below_alloc _ _)⟩, by simp [intOf]; omega⟩
      · rw [ByteArray.size_append]
        have := HT.out
        show 1 + t.size + u / 10 ≤ u0
        omega
      · rw [HRn.out, HS.out, eb]
end Go.Proofs.Ytjnlghngneonhaa
