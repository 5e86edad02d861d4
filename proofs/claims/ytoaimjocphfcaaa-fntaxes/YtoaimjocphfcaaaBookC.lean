/-
  The classes of the lines in their order: what slices.Sorted makes of the keys of the map of the sums.
-/
import Derived.Test.YtoaimjocphfcaaaBookB
import Derived.Test.YtoaimjocphfcaaaShelfK
import Derived.Lib.SmallJoins
import Derived.LoopNIn
namespace Go.Proofs.Ytoaimjocphfcaaa
open Go.ChangeShapes Go.WideShapes Go.ChangeAt Go.RowKit Go.Maps Go.Sort Go.Shelf
set_option linter.unusedVariables false

/-- The classes of the lines, from the lowest. -/
def cls (ls : List TL) : List Int := ([1, 2, 3, 4, 5, 6, 7, 8, 9] : List Int).filter (hasCl ls)
theorem cls_len (ls : List TL) : (cls ls).length ≤ 9 := List.length_filter_le _ _
theorem cls_in (ls : List TL) : ∀ c ∈ cls ls, 1 ≤ c ∧ c ≤ 9 := fun c hc => by
  have h := (List.mem_filter.1 hc).1
  simp at h
  omega
theorem cls_nodup (ls : List TL) : (cls ls).Nodup := List.Pairwise.filter _ (by decide)
theorem cls_sorted (ls : List TL) : (cls ls).Pairwise (fun a b => leI a b = true) := List.Pairwise.filter _ (by decide)
theorem cls_mem (ls : List TL) (hok : ∀ l ∈ ls, tlOK l = true) (c : Int) : c ∈ cls ls ↔ hasCl ls c = true := by
  refine ⟨fun h => (List.mem_filter.1 h).2, fun h => List.mem_filter.2 ⟨?_, h⟩⟩
  obtain ⟨l, hl, he⟩ := List.any_eq_true.1 h
  have e : l.cl = c := by simpa using he
  have h1 := hok l hl
  unfold tlOK at h1
  simp only [Bool.and_eq_true] at h1
  have h2 : 1 ≤ l.cl ∧ l.cl ≤ 9 := by simpa [inB] using h1.1
  rw [e] at h2
  simp
  omega
theorem cls_perm {w : World} {b n : Nat} {D : DataW Unit} {ls : List TL} (hok : ∀ l ∈ ls, tlOK l = true) (h1 : w.ownsMap Try.prog 3 (plainElem Try.prog 3) b n D) (h4 : ∀ c, WfI c → Maps.has D (.int .i64 c) = hasCl ls c) : (cls ls).Perm (intKeys D) := by
  obtain ⟨es, hD, hpw, _⟩ := h1.entries intK
  obtain ⟨es', hD', hko⟩ := h1.keysOf
  obtain rfl : es = es' := by rw [hD] at hD'; simpa using hD'
  subst hD
  refine perm_intKeys hpw (fun p hp => by obtain ⟨v, hv⟩ := hko p hp; obtain ⟨x, _, hx, _⟩ := Maps.keyOf_i64 Try.underlying3 hv; exact ⟨x, hx⟩) (cls_nodup ls) (fun x => ?_)
  rw [cls_mem ls hok]
  by_cases hw : WfI x
  · rw [h4 x hw]
  · constructor
    · intro h
      obtain ⟨c1, c2⟩ := cls_in ls x ((cls_mem ls hok x).2 h)
      exact absurd (WalkArith.wf_i64 (by omega)) hw
    · intro h
      rw [has_eq, List.any_eq_true] at h
      obtain ⟨p, hp, hs⟩ := h
      obtain ⟨v, hv⟩ := hko p hp
      obtain ⟨y, _, hy, hl⟩ := Maps.keyOf_i64 Try.underlying3 hv
      rw [hy] at hs
      have e : y = x := by simpa [Lit.sameKey] using hs
      rw [e] at hl
      exact absurd hl hw
theorem cls_sort (ls : List TL) {ss : List Int} (h : ss.Perm (cls ls)) : ss.mergeSort leI = cls ls := by
  have tr : ∀ a b c : Int, leI a b = true → leI b c = true → leI a c = true := fun a b c h1 h2 => by simp only [leI, decide_eq_true_eq] at *; exact Int.le_trans h1 h2
  have to : ∀ a b : Int, (leI a b || leI b a) = true := fun a b => by simp only [leI, Bool.or_eq_true, decide_eq_true_eq]; exact Int.le_total a b
  refine List.Perm.eq_of_pairwise (le := fun a b => leI a b = true) (fun a b _ _ h1 h2 => ?_) (List.pairwise_mergeSort tr to ss) (cls_sorted ls) ((List.mergeSort_perm ss leI).trans h)
  simp only [leI, decide_eq_true_eq] at h1 h2
  exact Int.le_antisymm h1 h2

theorem sortsA (m : Nat) : AnyZI.SortsIn Try.prog Try.sortedA_ren Fence.wide m :=
  ⟨fun blk off cap ss W hH hblk hsz => callsIn_wide.2 (AnyM.slices_Sort_int Try.sortA blk off cap ss W hH hblk hsz),
   fun p cap W => callsIn_wide.2 (AnyM.slices_Sort_int_none Try.sortA p cap W)⟩
theorem keys_any (mb : Option Nat) (W : World) : Calls Try.prog 21 #[.map mb] W fun e w' => e = .returned (.func (.func 34) #[] #[.pointer (some ⟨W.heap.size, 0, none⟩)]) ∧ w' = W.alloc (.cells #[.map mb] 53) :=
  (callsIn_wide (n := 6)).1 (AnyZI.keys_in Try.keysA Fence.wide 6 trivial rfl mb W)
theorem sorted_any (b n : Nat) (ls : List TL) (hok : ∀ l ∈ ls, tlOK l = true) (hn : n ≤ 4096) (w : World) (hT : SumTab w b n ls) :
    Calls Try.prog 20 #[.func (.func 34) #[] #[.pointer (some ⟨w.heap.size, 0, none⟩)]] (w.alloc (.cells #[.map (some b)] 53)) fun e w' => ∃ v, e = .returned v ∧ w'.ownsRow w.heap.size 3 1 v (cls ls).length ((cls ls).map encZ) ∧ Below w.heap.size (w.alloc (.cells #[.map (some b)] 53)) w' := by
  obtain ⟨D, h1, h2, h3, h4⟩ := hT
  have hsz := h1.size_le
  have hbl := h1.lt
  have hseq : SeqGives Fence.wide 2 Try.prog 34 #[.pointer (some ⟨w.heap.size, 0, none⟩)] encZ (fun ss => ss.Perm (intKeys D)) (Maps.size D) (w.alloc (.cells #[.map (some b)] 53)) :=
    AnyZI.keys_gives (ρ := Try.keysA_ren) { Try.keysA with } Fence.wide _ trivial rfl (by omega) w.heap.size b n D _ (by simp) (by simp) (by
      obtain ⟨es, clock, hb, Ft, hs, hD⟩ := h1
      exact ⟨es, clock, (Below.heap_alloc _ _ b hbl).trans hb, Ft, hs, hD⟩)
  have cS := AnyZI.sorted_in Try.sortedA Fence.wide 5 trivial trivial trivial trivial rfl (by omega) (sortsA _) (enters_of Try.func33 (by kernel_rfl) rfl) 34 #[.pointer (some ⟨w.heap.size, 0, none⟩)] trivial (enters_of Try.func34 (by kernel_rfl) rfl) _ _ (by unfold maxLen; omega) (by omega) _ hseq
  change CallsIn _ _ Try.prog 20 _ _ _ at cS
  refine ((callsIn_wide (n := _)).1 cS).mono ?_
  rintro e w' ⟨v, ss, rfl, hS, hrow, hnil, hb⟩
  have hp : ss.Perm (cls ls) := hS.trans (cls_perm hok h1 h4).symm
  have e1 : ss.mergeSort (fun x y => decide (x ≤ y)) = cls ls := cls_sort ls hp
  rw [e1, hp.length_eq] at hrow
  refine ⟨v, rfl, ownsRow_base_a hrow (by simp), hb.mono (by simp)⟩
/-- What the walk keeps of the answer. -/
theorem own_of_row {B : Nat} {w : World} {v : Value} {xs : List Int} (h : w.ownsRow B 3 1 v xs.length (xs.map encZ)) : ∃ a cap, v = .slice a xs.length cap ∧ xs.length ≤ cap ∧ Reads w.heap.size w a xs := by
  obtain ⟨hx, h⟩ := h
  rcases h with ⟨rfl, h0⟩ | ⟨g, cap, cur, rfl, hg, hb, h1, h2, h3, h4⟩
  · have e : xs = [] := List.eq_nil_of_length_eq_zero h0
    subst e
    exact ⟨none, 0, rfl, Nat.le_refl _, .inl rfl⟩
  · refine ⟨some ⟨g, 0, none⟩, cap, rfl, h1, .inr ⟨g, 0, rfl, (Array.getElem?_eq_some_iff.1 hb).1, fun i hi => ?_⟩⟩
    rw [Nat.mul_one] at h4
    have := (holds_of_block_i hb h4 i (by simpa using hi)).1
    rw [this]
    simp [encZ, List.getD_eq_getElem?_getD, hi]
end Go.Proofs.Ytoaimjocphfcaaa
