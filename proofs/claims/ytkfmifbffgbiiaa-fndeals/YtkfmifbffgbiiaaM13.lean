/-
  Texts of this claim laid together: Dec, DrawDlM.
-/
import Derived.Test.YtkfmifbffgbiiaaM1
import Derived.Lib.ItoaNum
import Derived.Deep.RegionHeld3
import Derived.Deep.RegionWith
import Derived.WalkLawsBesides
import Derived.Laws.IdiomStrings
import Derived.Test.YtkfmifbffgbiiaaM12
import Derived.Test.YtkfmifbffgbiiaaM8
/-
  Contract of the specification's l00Digits: of a number that is not below 0 it tells the decimal digits.
-/
namespace Go.Proofs.Ytkfmifbffgbiiaa
open Go.ChangeShapes Go.WideShapes Go.ChangeAt Go.RowKit
set_option linter.unusedVariables false

theorem one_byte (v : Nat) (hv : v < 256) (w : World) (b : Nat) (h : w.cell? ⟨b, 0, none⟩ = some (.int .u8 (v : Int))) :
    (convert 22 9 (.slice (some ⟨b, 0, none⟩) 1 1)).run Try.prog w = .ok (.string ⟨#[UInt8.ofNat v]⟩) w := by
  have e : (UInt8.ofNat v).toNat = v := by simp; omega
  exact run_convert_bytes_back (P := Try.prog) w 22 9 5 ⟨b, 0, none⟩ 1 [UInt8.ofNat v] Try.underlying22 Try.underlying5 Try.underlying9 (by
    intro j hj
    have hj0 : j = 0 := by simp at hj; exact hj
    subst hj0
    show w.cell? _ = some (.int .u8 ((UInt8.ofNat v).toNat : Int))
    rw [e]; simpa [Addr.add] using h)

def decS (u : Nat) : ByteArray := ⟨(Lib.decDigits u).toArray⟩

theorem decS_size (u : Nat) : (decS u).size ≤ u + 1 := by
  have : (Lib.decDigits u).length ≤ u + 1 := by
    induction u using Nat.strongRecOn with
    | _ u ih =>
      rw [Lib.decDigits]
      split
      · simp
      · have := ih (u / 10) (by omega)
        simp; omega
  show (Lib.decDigits u).toArray.size ≤ u + 1
  simpa using this

theorem decS_step (u : Nat) (h : 10 ≤ u) : decS (u / 10) ++ ⟨#[48 + UInt8.ofNat (u % 10)]⟩ = decS u := by
  have e : Lib.decDigits u = Lib.decDigits (u / 10) ++ [UInt8.ofNat (48 + u % 10)] := by
    rw [Lib.decDigits, dif_neg (by omega)]
  unfold decS
  rw [e]
  apply ByteArray.ext
  simp [UInt8.ofNat_add]


theorem digits_one (u : Nat) (hu : u < 10) (w : World) :
    Calls Try.prog 24 #[.int .i64 (u : Int)] w fun e w' => e = .returned (.string (decS u)) ∧ Below w.heap.size w w' := by
  have h1 : ((u : Int) == -9223372036854775808) = false := by
    rw [beq_eq_false_iff_ne]; omega
  have h2 : (u : Int) < 10 := by omega
  have e48 : (48 : Int) + (u : Int) = ((48 + u : Nat) : Int) := by omega
  have hcv : ∀ W b, W.cell? ⟨b, 0, none⟩ = some (.int .u8 (48 + (u : Int))) → (convert 22 9 (.slice (some ⟨b, 0, none⟩) 1 1)).run Try.prog W = .ok (.string (decS u)) W := fun W b h => by
    rw [e48] at h
    rw [one_byte (48 + u) (by omega) W b h]
    unfold decS
    rw [Lib.decDigits_one hu]
  clear e48
  go_enter Try.func24, Try.ntmps24
  go_wp2
  go_ret
  exact ⟨rfl, below_alloc _ _⟩

set_option maxHeartbeats 2000000 in
theorem digits_more (u : Nat) (hu : 10 ≤ u) (hu' : u < 1000000000000000000) (ih : ∀ w, Calls Try.prog 24 #[.int .i64 ((u / 10 : Nat) : Int)] w fun e w' => e = .returned (.string (decS (u / 10))) ∧ Below w.heap.size w w') (w : World) :
    Calls Try.prog 24 #[.int .i64 (u : Int)] w fun e w' => e = .returned (.string (decS u)) ∧ Below w.heap.size w w' := by
  have h1 : ((u : Int) == -9223372036854775808) = false := by
    rw [beq_eq_false_iff_ne]; omega
  have h2 : (10 : Int) ≤ (u : Int) := by omega
  have e48 : (48 : Int) + (u : Int) % 10 = ((48 + u % 10 : Nat) : Int) := by omega
  have hcv : ∀ W b, W.cell? ⟨b, 0, none⟩ = some (.int .u8 (48 + (u : Int) % 10)) → (convert 22 9 (.slice (some ⟨b, 0, none⟩) 1 1)).run Try.prog W = .ok (.string ⟨#[UInt8.ofNat (48 + u % 10)]⟩) W := fun W b h => by
    rw [e48] at h
    exact one_byte (48 + u % 10) (by omega) W b h
  have e10 : ((u / 10 : Nat) : Int) = (u : Int) / 10 := by omega
  rw [e10] at ih
  clear e48 e10
  have tm : (u : Int).tmod 10 = (u : Int) % 10 := Int.tmod_eq_emod_of_nonneg (by omega)
  have wq : IntKind.i64.wrap ((u : Int) / 10) = (u : Int) / 10 := wrap_id _ (by omega) (by omega)
  have wr : IntKind.i64.wrap ((u : Int) % 10) = (u : Int) % 10 := wrap_id _ (by omega) (by omega)
  have ws : IntKind.i64.wrap (48 + (u : Int) % 10) = 48 + (u : Int) % 10 := wrap_id _ (by omega) (by omega)
  have wb : IntKind.u8.wrap (48 + (u : Int) % 10) = 48 + (u : Int) % 10 := by simp [IntKind.wrap, IntKind.signed, IntKind.bits]; omega
  go_enter Try.func24, Try.ntmps24
  go_wp2
  have hsz : (decS (u / 10)).size ≤ 1000000000000000000 := by have := decS_size (u / 10); omega
  go_region_with (go_at_call 24; refine (ih _).mono ?_; rintro e w1 ⟨rfl, hb1⟩; obtain ⟨hc1, hf1, hz1⟩ := bfacts hb1)
  all_goals
    go_wp2
    go_ret
    rw [decS_step u hu]
    exact ⟨rfl, by repeat (first | exact Below.refl _ _ | refine chain ?_ (by assumption) | refine chain ?_ (below_alloc _ _) | refine chain ?_ (below_drew _))⟩

theorem digits_any : ∀ (u : Nat), u < 1000000000000000000 → ∀ w, Calls Try.prog 24 #[.int .i64 (u : Int)] w fun e w' => e = .returned (.string (decS u)) ∧ Below w.heap.size w w' := by
  intro u
  induction u using Nat.strongRecOn with
  | _ u ih =>
    intro hu w
    by_cases h : u < 10
    · exact digits_one u h w
    · exact digits_more u (by omega) hu (fun w => ih (u / 10) (by omega) (by omega) w) w

end Go.Proofs.Ytkfmifbffgbiiaa

/-
  Drawn deals are right: their names, articles and terms.
-/
namespace Go.Proofs.Ytkfmifbffgbiiaa
set_option linter.unusedVariables false

/-- The name of the i-th drawn deal. -/
def dnm (i : Nat) : ByteArray := ⟨#[100, 101, 97, 108]⟩ ++ decS i
theorem dnm_all : diffB ((List.range 6).map dnm) = true := by kernel_rfl
theorem diffN_pre (ss : List ByteArray) (m : Nat) : ∀ k, k ≤ m → diffN (ss.take m) k = diffN ss k
  | 0, _ => rfl
  | k + 1, h => by
    unfold diffN
    rw [diffN_pre ss m k (by omega), show (ss.take m).getD k ByteArray.empty = ss.getD k ByteArray.empty by simp only [List.getD_eq_getElem?_getD]; rw [List.getElem?_take, if_pos (by omega)], List.take_take, show min k m = k by omega]
theorem dnm_diff (n : Nat) (h : n ≤ 6) : diffB ((List.range n).map dnm) = true := by
  have e : (List.range n).map dnm = ((List.range 6).map dnm).take n := by
    rw [← List.map_take, List.take_range, show min n 6 = n by omega]
  rw [e]
  have hA := dnm_all
  unfold diffB at hA ⊢
  rw [List.length_take, diffN_pre _ n _ (by omega)]
  cases q : diffN ((List.range 6).map dnm) (min n ((List.range 6).map dnm).length)
  · rw [diffN_le _ _ _ (by omega) q] at hA; cases hA
  · rfl
theorem dnm_size (i : Nat) (h : i < 6) : (dnm i).size ≤ 2000000 := by
  have h1 := decS_size i
  have h2 : (⟨#[100, 101, 97, 108]⟩ : ByteArray).size = 4 := rfl
  unfold dnm
  rw [ByteArray.size_append, h2]
  omega
theorem arts_one (j : Nat) (hj : j < 3) : diffB [arts.getD j ⟨#[]⟩] = true := by
  match j, hj with
  | 0, _ => show diffB [arts.getD 0 ⟨#[]⟩] = true; kernel_rfl
  | 1, _ => show diffB [arts.getD 1 ⟨#[]⟩] = true; kernel_rfl
  | 2, _ => show diffB [arts.getD 2 ⟨#[]⟩] = true; kernel_rfl
theorem arts_two (j k : Nat) (hj : j < 3) (hk : k < 3) (h : arts.getD k ⟨#[]⟩ ≠ arts.getD j ⟨#[]⟩) : diffB [arts.getD j ⟨#[]⟩, arts.getD k ⟨#[]⟩] = true := by
  match j, k, hj, hk, h with
  | 0, 0, _, _, h => exact absurd rfl h
  | 0, 1, _, _, _ => show diffB [arts.getD 0 ⟨#[]⟩, arts.getD 1 ⟨#[]⟩] = true; kernel_rfl
  | 0, 2, _, _, _ => show diffB [arts.getD 0 ⟨#[]⟩, arts.getD 2 ⟨#[]⟩] = true; kernel_rfl
  | 1, 0, _, _, _ => show diffB [arts.getD 1 ⟨#[]⟩, arts.getD 0 ⟨#[]⟩] = true; kernel_rfl
  | 1, 1, _, _, h => exact absurd rfl h
  | 1, 2, _, _, _ => show diffB [arts.getD 1 ⟨#[]⟩, arts.getD 2 ⟨#[]⟩] = true; kernel_rfl
  | 2, 0, _, _, _ => show diffB [arts.getD 2 ⟨#[]⟩, arts.getD 0 ⟨#[]⟩] = true; kernel_rfl
  | 2, 1, _, _, _ => show diffB [arts.getD 2 ⟨#[]⟩, arts.getD 1 ⟨#[]⟩] = true; kernel_rfl
  | 2, 2, _, _, h => exact absurd rfl h
/-- What the i-th drawn deal is like. -/
def DrD (i : Nat) (r : CDl) : Prop := r.nm = dnm i ∧ dlOne r = true ∧ DlOK r
/-- The articles that are drawn for one deal: one, or two that differ. -/
def DrA (l : List ByteArray) : Prop := (∃ j, j < 3 ∧ l = [arts.getD j ⟨#[]⟩]) ∨ ∃ j k, j < 3 ∧ k < 3 ∧ arts.getD k ⟨#[]⟩ ≠ arts.getD j ⟨#[]⟩ ∧ l = [arts.getD j ⟨#[]⟩, arts.getD k ⟨#[]⟩]
theorem DrA.facts {l : List ByteArray} (h : DrA l) : (1 ≤ l.length ∧ l.length ≤ 2) ∧ diffB l = true ∧ ∀ s ∈ l, s.size ≤ 6 := by
  rcases h with ⟨j, hj, rfl⟩ | ⟨j, k, hj, hk, hn, rfl⟩
  · refine ⟨⟨by simp, by simp⟩, arts_one j hj, fun s hs => ?_⟩
    rw [List.mem_singleton.1 hs]; exact (arts_ok j hj).2
  · refine ⟨⟨by simp, by simp⟩, arts_two j k hj hk hn, fun s hs => ?_⟩
    rcases List.mem_cons.1 hs with rfl | hs
    · exact (arts_ok j hj).2
    · rw [List.mem_singleton.1 hs]; exact (arts_ok k hk).2
theorem drD_of {i : Nat} (hi : i < 6) {kd nd vl : Int} {l : List ByteArray} {on : Bool} (hl : DrA l) (ht : (kd = 1 ∧ nd = 1 ∧ 0 ≤ vl ∧ vl ≤ 100) ∨ ((kd = 2 ∨ kd = 4) ∧ 2 ≤ nd ∧ nd ≤ 3 ∧ 0 ≤ vl ∧ vl ≤ 400) ∨ (kd = 3 ∧ 2 ≤ nd ∧ nd ≤ 3 ∧ vl = 0)) : DrD i ⟨dnm i, kd, l, nd, vl, on⟩ := by
  obtain ⟨⟨a1, a2⟩, a3, a4⟩ := hl.facts
  refine ⟨rfl, ?_, dnm_size i hi, by dsimp only; omega, fun s hs => Nat.le_trans (a4 s hs) (by omega)⟩
  unfold dlOne
  dsimp only
  rw [decide_eq_true (show 1 ≤ l.length ∧ l.length ≤ 6 by omega), a3, show termB kd nd vl = true from decide_eq_true (by omega)]
  rfl
theorem drD_all {ds : List CDl} (hl : ds.length ≤ 6) (h : ∀ i, i < ds.length → DrD i (ds.getD i zDl)) : dlAll ds = true ∧ ∀ r ∈ ds, DlOK r := by
  have hm : ∀ r ∈ ds, ∃ i, i < ds.length ∧ r = ds.getD i zDl := fun r hr => by
    obtain ⟨i, hi, rfl⟩ := List.getElem_of_mem hr
    exact ⟨i, hi, by simp [List.getD_eq_getElem?_getD, hi]⟩
  refine ⟨?_, fun r hr => ?_⟩
  · unfold dlAll
    rw [if_neg (by omega), Bool.and_eq_true]
    refine ⟨?_, List.all_eq_true.2 (fun r hr => ?_)⟩
    · have e : ds.map (·.nm) = (List.range ds.length).map dnm := List.ext_getElem (by simp) (fun i h1 h2 => by
        have hi : i < ds.length := by simpa using h1
        have := (h i hi).1
        rw [show ds.getD i zDl = ds[i] by simp [List.getD_eq_getElem?_getD, hi]] at this
        simp [this])
      rw [e]; exact dnm_diff _ hl
    · obtain ⟨i, hi, rfl⟩ := hm r hr
      exact (h i hi).2.1
  · obtain ⟨i, hi, rfl⟩ := hm r hr
    exact (h i hi).2.2
end Go.Proofs.Ytkfmifbffgbiiaa
