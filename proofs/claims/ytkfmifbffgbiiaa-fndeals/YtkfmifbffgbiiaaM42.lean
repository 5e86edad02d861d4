/-
  Texts of this claim laid together: BeH.
-/
import Derived.Test.YtkfmifbffgbiiaaM41
/-
  The ways that are known: a way more.
-/
namespace Go.Proofs.Ytkfmifbffgbiiaa
open Go.ChangeShapes Go.WideShapes Go.ChangeAt Go.RowKit Go.Deep
set_option linter.unusedVariables false

theorem foldBits_test : ∀ (l : List Nat) (b x : Nat), (l.foldl (fun b x => b ||| 2 ^ x) b).testBit x = (b.testBit x || decide (x ∈ l))
  | [], b, x => by simp
  | y :: l, b, x => by
    rw [List.foldl_cons, foldBits_test l, Nat.testBit_or, Nat.testBit_two_pow, Bool.or_assoc]
    congr 1
    by_cases h : y = x
    · subst h; simp
    · have h' : ¬ x = y := fun e => h e.symm
      simp [h, h']
theorem bitsN_test (l : List Nat) (x : Nat) : (bitsN l).testBit x = decide (x ∈ l) := by
  unfold bitsN
  rw [foldBits_test, Nat.zero_testBit, Bool.false_or]
theorem sorted_ext : ∀ (a b : List Nat), a.Pairwise (· < ·) → b.Pairwise (· < ·) → (∀ x, x ∈ a ↔ x ∈ b) → a = b
  | [], [], _, _, _ => rfl
  | [], y :: b, _, _, h => absurd ((h y).2 List.mem_cons_self) (by simp)
  | x :: a, [], _, _, h => absurd ((h x).1 List.mem_cons_self) (by simp)
  | x :: a, y :: b, ha, hb, h => by
    obtain ⟨a1, a2⟩ := List.pairwise_cons.1 ha
    obtain ⟨b1, b2⟩ := List.pairwise_cons.1 hb
    have e : x = y := by
      rcases List.mem_cons.1 ((h x).1 List.mem_cons_self) with e | e
      · exact e
      · rcases List.mem_cons.1 ((h y).2 List.mem_cons_self) with e' | e'
        · exact e'.symm
        · have := b1 x e
          have := a1 y e'
          omega
    subst e
    rw [sorted_ext a b a2 b2 (fun z => ⟨fun hz => ?_, fun hz => ?_⟩)]
    · have := a1 z hz
      rcases List.mem_cons.1 ((h z).1 (List.mem_cons_of_mem _ hz)) with e | e
      · omega
      · exact e
    · have := b1 z hz
      rcases List.mem_cons.1 ((h z).2 (List.mem_cons_of_mem _ hz)) with e | e
      · omega
      · exact e
theorem bits_inj {n m : Nat} {a b : List Nat} (ha : Ris n a) (hb : Ris m b) (h : bitsN a = bitsN b) : a = b := sorted_ext a b ha.1 hb.1 (fun x => by
  have h1 := bitsN_test a x
  rw [h, bitsN_test b x] at h1
  simpa using h1.symm)
theorem lenS {H : Type} (l : List (Lit × DataW H)) : (l.foldr DataW.insert []).length = l.length := _root_.Go.length_sorted l
theorem own_exact {H : Type} {P : Program} {k : TypeId} {R : Value → Option (DataW H × List MemPlace)} {w : World} {b n m : Nat} {D : DataW H} (h : w.ownsMap P k R b n D) (hm : Maps.size D ≤ m) : w.ownsMap P k R b m D := by
  obtain ⟨es, clock, hb, F, hs, rfl⟩ := h
  refine ⟨es, clock, hb, F, ?_, rfl⟩
  simpa [Maps.size, lenS] using hm
theorem MapS.put_old {z : Value} {w : World} {b n : Nat} {f : Nat → Nat → Option Value} {t e : TypeId} (h : MapS z w b n f) (ht : Try.prog.underlying t = some (.map 76 e)) (hn : n < maxLen) {l s : Nat} (hl : WfU l) (hs : WfU s) (hf : (f l s).isSome = true) (v : Value) :
    ∃ w', (Instr.mapUpdate t (.map (some b)) (keyS l s) v).run Try.prog w = .ok () w' ∧ MapS z w' b n (fun l' s' => if l' = l ∧ s' = s then some v else f l' s') ∧ w.grownBy w' (some b) := by
  obtain ⟨D, h1, h2, h3, h4⟩ := h
  obtain ⟨w', hrun, hown, hg⟩ := h1.store stKeyed ht hn (keyS_mk hl hs) (show heldS v = some (.held v, []) from rfl)
  have hkl : WideAt.IsKeyLit (klS l s) := stKeyed.key (keyS_mk hl hs)
  have hne : ∀ l' s', WfU l' → WfU s' → ¬ (l' = l ∧ s' = s) → klS l' s' ≠ klS l s := fun l' s' a1 a2 h e => h (klS_inj a1 a2 hl hs e)
  have hsz : Maps.size (D.put (klS l s) (.held v)) ≤ n := by
    rw [Maps.size_put (h1.tidy stKeyed), h4 l s hl hs, if_pos hf]
    exact h1.size_le
  refine ⟨w', hrun, ⟨_, own_exact hown hsz, h2.put _ _, fun l' s' a1 a2 => ?_, fun l' s' a1 a2 => ?_⟩, hg.grown⟩
  · dsimp only
    by_cases e : l' = l ∧ s' = s
    · obtain ⟨rfl, rfl⟩ := e
      rw [if_pos ⟨rfl, rfl⟩]
      exact Maps.atKey_put_same h2 hkl _ _
    · rw [if_neg e, Maps.atKey_put_other (hne l' s' a1 a2 e)]
      exact h3 l' s' a1 a2
  · dsimp only
    by_cases e : l' = l ∧ s' = s
    · obtain ⟨rfl, rfl⟩ := e
      rw [Maps.has_put_same h2 hkl]; simp
    · rw [Maps.has_put_other (hne l' s' a1 a2 e), h4 l' s' a1 a2, if_neg e]
theorem grown_fr {w w' : World} {b : Nat} (h : w.grownBy w' (some b)) : Fr (fun q => q = b) w w' := (fr_grown h).mono (fun k e => (Option.some.inj e).symm)
/-- One way more that is known. -/
theorem Memo.put {us : List RUn} {ds : List CDl} {W : World} {kb : Nat} (h : Memo us ds W kb) (hus : us.length ≤ 8) {r : List Nat} (hr : Ris us.length r) {sp : Nat} (hsp : sp < 64) {v : Value} (hv : HoldsW W v (sr us ds r sp)) :
    ∃ w', (Instr.mapUpdate 69 (.map (some kb)) (keyS (bitsN r) sp) v).run Try.prog W = .ok () w' ∧ Memo us ds w' kb ∧ Fr (fun q => q = kb) W w' := by
  have ht := typ_map h.is
  obtain ⟨n, f, h1, h2, h3⟩ := h
  have hb : bitsN r < 256 := bitsN_lt (fun x hx => by have := hr.2 x hx; omega)
  have hwl : WfU (bitsN r) := wfU_of _ (by omega)
  have hws : WfU sp := wfU_of _ (by omega)
  have hle := cntF_le f
  have hlt : n < maxLen := by unfold maxLen; omega
  have hkeep : ∀ w', Fr (fun q => q = kb) W w' → ∀ l s v', (if l = bitsN r ∧ s = sp then some v else f l s) = some v' → ∀ left, Ris us.length left → bitsN left = l → HoldsW w' v' (sr us ds left s) := fun w' hf l s v' e left hrl hbl => by
    by_cases he : l = bitsN r ∧ s = sp
    · rw [if_pos he] at e
      rw [← Option.some.inj e, he.2, bits_inj hrl hr (hbl.trans he.1)]
      exact hv.fr ht hf
    · rw [if_neg he] at e
      exact (h3 l s v' e left hrl hbl).fr ht hf
  by_cases hs : (f (bitsN r) sp).isSome = true
  · obtain ⟨w', hrun, hm, hg⟩ := h1.put_old Try.underlying69 hlt hwl hws hs v
    refine ⟨w', hrun, ⟨n, _, hm, ?_, hkeep w' (grown_fr hg)⟩, grown_fr hg⟩
    refine Nat.le_trans h2 (Nat.le_of_eq ?_)
    unfold cntF
    refine congrArg List.length (List.filter_congr (fun c hc => ?_))
    dsimp only
    by_cases e : c % 256 = bitsN r ∧ c / 256 = sp
    · rw [if_pos e, e.1, e.2, hs]; rfl
    · rw [if_neg e]
  · obtain ⟨w', hrun, hm, hg⟩ := h1.put Try.underlying69 hlt hwl hws v
    have hc := cntF_put hb hsp (f := f) (by simpa using hs) v
    exact ⟨w', hrun, ⟨n + 1, _, hm, Nat.le_trans (Nat.succ_le_succ h2) (Nat.le_of_eq hc.symm), hkeep w' (grown_fr hg)⟩, grown_fr hg⟩
end Go.Proofs.Ytkfmifbffgbiiaa
