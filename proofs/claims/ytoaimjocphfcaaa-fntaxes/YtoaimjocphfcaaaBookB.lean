/-
  The program's sums by class: a map that the call makes, whose number at each key is the sum of the lines of that class.
-/
import Derived.Test.YtoaimjocphfcaaaBookA
import Derived.Maps.OwnOps
import Derived.Maps.Views
import Derived.Deep.RegionHeld3
namespace Go.Proofs.Ytoaimjocphfcaaa
open Go.ChangeShapes Go.WideShapes Go.ChangeAt Go.RowKit
set_option linter.unusedVariables false

theorem key2_any (c g : Int) (w : World) :
    Calls Try.prog 18 #[.agg #[.int .i64 c, .int .i64 g]] w fun e w' => e = .returned (.int .i64 c) ∧ Below w.heap.size w w' := by
  go_enter Try.func18, Try.ntmps18
  go_wp2
  go_ret
  exact ⟨rfl, below_alloc _ _⟩
theorem of3_any (c g : Int) (w : World) :
    Calls Try.prog 19 #[.agg #[.int .i64 c, .int .i64 g]] w fun e w' => e = .returned (.int .i64 g) ∧ Below w.heap.size w w' := by
  go_enter Try.func19, Try.ntmps19
  go_wp2
  go_ret
  exact ⟨rfl, below_alloc _ _⟩

/-- What the lines of a class come to. -/
def sumOf (ls : List TL) (c : Int) : Int := (ls.map fun l => if l.cl = c then l.gr else 0).sum
def hasCl (ls : List TL) (c : Int) : Bool := ls.any fun l => l.cl == c
theorem sumOf_next (ls : List TL) (k : Nat) (h : k < ls.length) (c : Int) : sumOf (ls.take (k + 1)) c = sumOf (ls.take k) c + if (ls.getD k tl0).cl = c then (ls.getD k tl0).gr else 0 := by
  have e : ls.getD k tl0 = ls[k] := by simp [List.getD_eq_getElem?_getD, h]
  unfold sumOf
  rw [e, List.take_succ_eq_append_getElem h, List.map_append, List.sum_append]; simp
theorem hasCl_next (ls : List TL) (k : Nat) (h : k < ls.length) (c : Int) : hasCl (ls.take (k + 1)) c = (hasCl (ls.take k) c || ((ls.getD k tl0).cl == c)) := anyL_next _ ls k h
theorem sumOf_bound (ls : List TL) (h : ∀ l ∈ ls, tlOK l = true) (c : Int) : -((ls.length : Int) * 1000000000) ≤ sumOf ls c ∧ sumOf ls c ≤ (ls.length : Int) * 1000000000 := by
  induction ls with
  | nil => simp [sumOf]
  | cons l ls ih =>
    obtain ⟨i1, i2⟩ := ih (fun x hx => h x (by simp [hx]))
    have hl := h l (by simp)
    unfold tlOK at hl
    simp only [Bool.and_eq_true] at hl
    obtain ⟨a1, a2⟩ := (amtB_iff _).mp hl.2
    have e : sumOf (l :: ls) c = (if l.cl = c then l.gr else 0) + sumOf ls c := by simp [sumOf]
    rw [e, List.length_cons]
    split <;> (constructor <;> (push_cast; omega))

def WfI (c : Int) : Prop := (Lit.int .i64 c).wf = true
theorem intK : Maps.Keyed Try.prog 3 := Maps.int_keyed Try.underlying3
/-- Block b is the map of the sums. -/
def SumTab (w : World) (b n : Nat) (ls : List TL) : Prop :=
  ∃ D : DataW Unit, w.ownsMap Try.prog 3 (plainElem Try.prog 3) b n D ∧ Maps.IsMap D ∧
    (∀ c, WfI c → D.atKey (.int .i64 c) (.lit (.int .i64 0)) = .lit (.int .i64 (sumOf ls c))) ∧ ∀ c, WfI c → Maps.has D (.int .i64 c) = hasCl ls c
theorem SumTab.made (w : World) : SumTab (w.alloc (.map #[] 0)) w.heap.size 0 [] :=
  ⟨.map [], World.ownsMap_made w _ _ _, Maps.isMap_empty, fun c _ => rfl, fun c _ => rfl⟩
theorem SumTab.block {w w' : World} {b n : Nat} {ls : List TL} (h : SumTab w b n ls) (e : w'.heap[b]? = w.heap[b]?) : SumTab w' b n ls := by
  obtain ⟨D, ⟨es, clock, hb, F, hs, hD⟩, h2, h3, h4⟩ := h
  exact ⟨D, ⟨es, clock, e.trans hb, F, hs, hD⟩, h2, h3, h4⟩
theorem SumTab.lt {w : World} {b n : Nat} {ls : List TL} (h : SumTab w b n ls) : b < w.heap.size := by obtain ⟨D, h1, _⟩ := h; exact h1.lt
theorem zeroInt (w : World) : (zeroValue 3).run Try.prog w = .ok (.int .i64 0) w := by kernel_rfl
theorem SumTab.look {w : World} {b n : Nat} {ls : List TL} (h : SumTab w b n ls) {c : Int} (hc : WfI c) : (Instr.lookup 53 (.map (some b)) (.int .i64 c) false).run Try.prog w = .ok (.int .i64 (sumOf ls c)) w := by
  obtain ⟨D, h1, h2, h3, h4⟩ := h
  obtain ⟨x, hrun, hat, _⟩ := h1.lookup_int intK Try.underlying53 Try.underlying3 (zeroInt w) (Maps.keyOf_int_mk Try.underlying3 hc)
  rw [h3 c hc] at hat
  simp at hat
  rw [hrun, hat]
theorem SumTab.put {w : World} {b n : Nat} {ls ls' : List TL} (h : SumTab w b n ls) (hn : n < maxLen) {c x : Int} (hc : WfI c) (hx : WfI x) (hs : ∀ c', sumOf ls' c' = if c' = c then x else sumOf ls c') (hh : ∀ c', hasCl ls' c' = (hasCl ls c' || (c == c'))) :
    ∃ w', (Instr.mapUpdate 53 (.map (some b)) (.int .i64 c) (.int .i64 x)).run Try.prog w = .ok () w' ∧ SumTab w' b (n + 1) ls' ∧ w.grownBy w' (some b) := by
  obtain ⟨D, h1, h2, h3, h4⟩ := h
  obtain ⟨w', hrun, hown, hg⟩ := h1.update intK Try.underlying53 hn (Maps.keyOf_int_mk Try.underlying3 hc) (plainElem_int Try.underlying3 hx)
  have hkl : WideAt.IsKeyLit (.int .i64 c) := intK.key (Maps.keyOf_int_mk Try.underlying3 hc)
  have hne : ∀ c', c' ≠ c → (Lit.int .i64 c') ≠ .int .i64 c := fun c' h e => by simp at e; exact h e
  refine ⟨w', hrun, ⟨_, hown, h2.put _ _, fun c' hc' => ?_, fun c' hc' => ?_⟩, hg⟩
  · rw [hs]
    by_cases e : c' = c
    · subst e
      rw [if_pos rfl]
      exact Maps.atKey_put_same h2 hkl _ _
    · rw [if_neg e, Maps.atKey_put_other (hne c' e)]
      exact h3 c' hc'
  · rw [hh]
    by_cases e : c' = c
    · subst e
      rw [Maps.has_put_same h2 hkl]; simp
    · rw [Maps.has_put_other (hne c' e), h4 c' hc']
      have : (c == c') = false := by simp; exact fun q => e q.symm
      rw [this]; simp
theorem keepL {W w1 : World} {b : Nat} {x y : Value} (hb : Below W.heap.size W w1) (h : (W.cell? ⟨b, 0, none⟩ = some x ∧ W.cell? ⟨b, 1, none⟩ = some y) ∧ b < W.heap.size) : (w1.cell? ⟨b, 0, none⟩ = some x ∧ w1.cell? ⟨b, 1, none⟩ = some y) ∧ b < w1.heap.size := by
  obtain ⟨hc, _, hz⟩ := bfacts hb
  exact ⟨⟨(hc _ _ h.2).trans h.1.1, (hc _ _ h.2).trans h.1.2⟩, hz _ h.2⟩
theorem keepU {W w1 : World} {b m : Nat} {x y : Value} (hg : W.grownBy w1 (some m)) (h : (W.cell? ⟨b, 0, none⟩ = some x ∧ W.cell? ⟨b, 1, none⟩ = some y) ∧ b < W.heap.size) (hne : b ≠ m) : (w1.cell? ⟨b, 0, none⟩ = some x ∧ w1.cell? ⟨b, 1, none⟩ = some y) ∧ b < w1.heap.size := by
  have e := hg.block b h.2 (fun q => hne (by simpa using q))
  exact ⟨⟨(World.cell?_of_block (w := W) (a := ⟨b, 0, none⟩) e).trans h.1.1, (World.cell?_of_block (w := W) (a := ⟨b, 1, none⟩) e).trans h.1.2⟩, Nat.lt_of_lt_of_le h.2 hg.size⟩

set_option maxHeartbeats 4000000 in
set_option maxRecDepth 4000 in
theorem sums_any (a : Option Addr) (cap : Nat) (ls : List TL) (hl : ls.length ≤ 4096) (hok : ∀ l ∈ ls, tlOK l = true) (w : World) (hr : ReadsL w.heap.size w a ls) :
    Calls Try.prog 17 #[.slice a ls.length cap, .func (.func 18) #[] #[], .func (.func 19) #[] #[]] w fun e w' => e = .returned (.map (some w.heap.size)) ∧ SumTab w' w.heap.size ls.length ls ∧ Below w.heap.size w w' := by
  have HR : Hid (ReadsL w.heap.size w a ls) := hr
  have HOK : Hid (∀ l ∈ ls, tlOK l = true) := hok
  clear hr hok
  have hmm := @run_makeMap Try.prog
  have HT0 : Hid (SumTab (w.alloc (.map #[] 0)) w.heap.size 0 (ls.take 0)) := SumTab.made w
  go_enter Try.func17, Try.ntmps17
  go_wp2
  clear hmm
  go_loopw [9, 13] (fun _ i wr => ∃ k : Nat, k ≤ ls.length ∧ i = .int .i64 (k : Int) ∧ SumTab wr w.heap.size k (ls.take k) ∧ Below w.heap.size w wr) (fun _ i _ => ls.length - (intOf i).toNat)
  case atStart => exact ⟨0, Nat.zero_le _, rfl, HT0.out, below_alloc w _⟩
  case round =>
    clear HT0
    obtain ⟨k, hk, rfl, hT, hb⟩ := hrel
    have HB : Hid (Below w.heap.size w wr) := hb
    have HT : Hid (SumTab wr w.heap.size k (ls.take k)) := hT
    have hBw : w.heap.size < wr.heap.size := hT.lt
    clear hb hT
    by_cases hlt : k < ls.length
    · have hlt' : (k : Int) < (ls.length : Int) := by omega
      rcases HR.out with h | ⟨b0, o0, ha, hB0, ia⟩
      · rw [h] at hlt; simp at hlt
      obtain ⟨c0, c1⟩ := (ia.below HB.out hB0) k hlt
      have hbd := sumOf_bound (ls.take k) (fun l hl => HOK.out l (List.mem_of_mem_take hl)) (ls.getD k tl0).cl
      rw [List.length_take, Nat.min_eq_left hk] at hbd
      have hqok : tlOK (ls.getD k tl0) = true := by
        have e : ls.getD k tl0 = ls[k] := by simp [List.getD_eq_getElem?_getD, hlt]
        rw [e]; exact HOK.out _ (List.getElem_mem _)
      have HSn : Hid (∀ c, sumOf (ls.take (k + 1)) c = sumOf (ls.take k) c + if (ls.getD k tl0).cl = c then (ls.getD k tl0).gr else 0) := fun c => sumOf_next ls k hlt c
      have HHn : Hid (∀ c, hasCl (ls.take (k + 1)) c = (hasCl (ls.take k) c || ((ls.getD k tl0).cl == c))) := fun c => hasCl_next ls k hlt c
      rw [ha]
      clear ia
      generalize ls.getD k tl0 = q at *
      obtain ⟨c, g⟩ := q
      dsimp only at c0 c1 HSn HHn hbd
      obtain ⟨⟨i1, i2⟩, g1, g2⟩ : (1 ≤ c ∧ c ≤ 9) ∧ -1000000000 ≤ g ∧ g ≤ 1000000000 := by
        have e : tlOK ⟨c, g⟩ = (inB c 1 9 && amtB g) := rfl
        rw [e] at hqok
        simp only [Bool.and_eq_true] at hqok
        exact ⟨by simpa [inB] using hqok.1, (amtB_iff g).mp hqok.2⟩
      have hwc : WfI c := WalkArith.wf_i64 (by omega)
      obtain ⟨b1, b2⟩ := hbd
      clear hqok
      have HW4 : Hid (SumTab (wr.alloc (Obj.cells #[.int .i64 c, .int .i64 g] 32)) w.heap.size k (ls.take k)) := HT.out.block (Below.heap_alloc _ _ _ hBw)
      have HB4 : Hid (Below w.heap.size w (wr.alloc (Obj.cells #[.int .i64 c, .int .i64 g] 32))) := chain HB.out (below_alloc _ _)
      have HS4 : Hid ((fun W => (W.cell? ⟨wr.heap.size, 0, none⟩ = some (.int .i64 c) ∧ W.cell? ⟨wr.heap.size, 1, none⟩ = some (.int .i64 g)) ∧ wr.heap.size < W.heap.size) (wr.alloc (Obj.cells #[.int .i64 c, .int .i64 g] 32)).drew) := by
        have e6 : (wr.alloc (Obj.cells #[.int .i64 c, .int .i64 g] 32)).heap[wr.heap.size]? = some (.cells #[.int .i64 c, .int .i64 g] 32 (0, 0)) := heapNew wr _
        refine ⟨⟨?_, ?_⟩, (Array.getElem?_eq_some_iff.1 e6).1⟩
        · show World.cell? (wr.alloc (Obj.cells #[.int .i64 c, .int .i64 g] 32)) _ = _; rw [cell_of_row _ _ _ _ _ _ e6]; rfl
        · show World.cell? (wr.alloc (Obj.cells #[.int .i64 c, .int .i64 g] 32)) _ = _; rw [cell_of_row _ _ _ _ _ _ e6]; rfl
      have HM : Hid (∀ W, SumTab W w.heap.size k (ls.take k) → (Instr.lookup 53 (.map (some w.heap.size)) (.int .i64 c) false).run Try.prog W = .ok (.int .i64 (sumOf (ls.take k) c)) W ∧ ∃ w', (Instr.mapUpdate 53 (.map (some w.heap.size)) (.int .i64 c) (.int .i64 (sumOf (ls.take k) c + g))).run Try.prog W = .ok () w' ∧ SumTab w' w.heap.size (k + 1) (ls.take (k + 1)) ∧ W.grownBy w' (some w.heap.size)) := fun W hW =>
        ⟨hW.look hwc, hW.put (by unfold maxLen; omega) hwc (WalkArith.wf_i64 (by omega)) (fun c' => by
          rw [HSn.out]
          by_cases e : c' = c
          · subst e; rw [if_pos rfl, if_pos rfl]
          · rw [if_neg e, if_neg (fun q => e q.symm)]; omega) (fun c' => HHn.out c')⟩
      have hwr : IntKind.i64.wrap (sumOf (ls.take k) c + g) = sumOf (ls.take k) c + g := wrap_id _ (by omega) (by omega)
      generalize sumOf (ls.take k) c = v at *
      have hBne : wr.heap.size ≠ w.heap.size := by omega
      clear HSn HHn
      go_wp2
      refine wp_region_held_drew (S := fun W => (W.cell? ⟨wr.heap.size, 0, none⟩ = some (.int .i64 c) ∧ W.cell? ⟨wr.heap.size, 1, none⟩ = some (.int .i64 g)) ∧ wr.heap.size < W.heap.size) (by kernel_rfl) HS4.out (fun hH => ?_)
      refine wpAnyH_take (i := 0) (v := .map (some w.heap.size)) rfl (by kernel_rfl) (by kernel_rfl) (by kernel_rfl) (fun _ _ _ h => h) (Or.inl ⟨by rfl, fun w hSw => by obtain ⟨⟨s0, s1⟩, l6⟩ := hSw; go_simp⟩) hH ?_
      refine wpAnyH_take (i := 1) (v := .func (.func 18) #[] #[]) rfl (by kernel_rfl) (by kernel_rfl) (by kernel_rfl) (fun _ _ _ h => h) (Or.inl ⟨by rfl, fun w hSw => by obtain ⟨⟨s0, s1⟩, l6⟩ := hSw; go_simp⟩) hH ?_
      refine wpAnyH_take (i := 2) (v := .agg #[.int .i64 c, .int .i64 g]) rfl (by kernel_rfl) (by kernel_rfl) (by kernel_rfl) (fun _ _ _ h => h) (Or.inl ⟨by rfl, fun w hSw => by obtain ⟨⟨s0, s1⟩, l6⟩ := hSw; go_simp⟩) hH ?_
      refine wpAnyH_take (i := 5) (v := .func (.func 19) #[] #[]) rfl (by kernel_rfl) (by kernel_rfl) (by kernel_rfl) (fun _ _ _ h => h) (Or.inl ⟨by rfl, fun w hSw => by obtain ⟨⟨s0, s1⟩, l6⟩ := hSw; go_simp⟩) hH ?_
      refine wpAnyH_take (i := 6) (v := .agg #[.int .i64 c, .int .i64 g]) rfl (by kernel_rfl) (by kernel_rfl) (by kernel_rfl) (fun _ _ _ h => h) (Or.inl ⟨by rfl, fun w hSw => by obtain ⟨⟨s0, s1⟩, l6⟩ := hSw; go_simp⟩) hH ?_
      refine wpAnyH_ready (rs := [3]) (by kernel_rfl) (by simp) ?_
      refine AllReadyH.cons rfl (fun K hK => ?_) AllReadyH.nil
      go_simp
      go_at_call 18
      refine (key2_any c g _).mono ?_
      rintro e w2 ⟨rfl, hb2⟩
      refine hK.out _ _ (keepL hb2 hH) (fun h2 => ?_)
      clear hK K
      have hb2' : w.heap.size < (wr.alloc (Obj.cells #[.int .i64 c, .int .i64 g] 32)).drew.heap.size := by show w.heap.size < (wr.alloc (Obj.cells #[.int .i64 c, .int .i64 g] 32)).heap.size; simp; omega
      have HT2 : Hid (SumTab w2 w.heap.size k (ls.take k)) := HW4.out.block (hb2.block _ hb2')
      have HB2 : Hid (Below w.heap.size w w2) := chain HB4.out.drew hb2
      have hlk := (HM.out w2 HT2.out).1
      clear hb2 hb2' HS4
      refine wpAnyH_ready (rs := [4, 7]) (by kernel_rfl) (by simp) ?_
      refine AllReadyH.cons rfl (fun K hK => ?_) (AllReadyH.cons rfl (fun K hK => ?_) AllReadyH.nil)
      · go_simp
        refine hK.out _ _ h2 (fun h2' => ?_)
        clear hK K
        refine wpAnyH_ready (rs := [7]) (by kernel_rfl) (by simp) ?_
        refine AllReadyH.cons rfl (fun K hK => ?_) AllReadyH.nil
        go_simp
        go_at_call 19
        refine (of3_any c g _).mono ?_
        rintro e w3 ⟨rfl, hb3⟩
        refine hK.out _ _ (keepL hb3 h2) (fun h3 => ?_)
        clear hK K
        have HT3 : Hid (SumTab w3 w.heap.size k (ls.take k)) := HT2.out.block (hb3.block _ HT2.out.lt)
        have HB3 : Hid (Below w.heap.size w w3) := chain HB2.out hb3
        refine wpAnyH_take (i := 8) (v := .int .i64 (v + g)) rfl (by kernel_rfl) (by kernel_rfl) (by kernel_rfl) (fun _ _ _ h => h) (Or.inl ⟨by rfl, fun w hSw => by obtain ⟨⟨s0, s1⟩, l6⟩ := hSw; go_simp⟩) h3 ?_
        obtain ⟨w5, hup, hT5, hg5⟩ := (HM.out w3 HT3.out).2
        have HT5 : Hid (SumTab w5 w.heap.size (k + 1) (ls.take (k + 1))) := hT5
        have HB5 : Hid (Below w.heap.size w w5) := HB3.out.grown hg5 HB3.out.size (fun q hq => by cases hq; exact Nat.le_refl _)
        refine wpAnyH_ready (rs := [9]) (by kernel_rfl) (by simp) ?_
        refine AllReadyH.cons rfl (fun K hK => ?_) AllReadyH.nil
        go_simp
        refine hK.out _ _ (keepU hg5 h3 hBne) (fun h5 => ?_)
        clear hK K hT5 hg5
        refine wpAnyH_done (by kernel_rfl) ?_ _
        try simp [Act.put]
        go_wp2
        exact ⟨⟨k + 1, by omega, by go_num, HT5.out, HB5.out⟩, by simp [intOf]; omega⟩
      · go_simp
        go_at_call 19
        refine (of3_any c g _).mono ?_
        rintro e w3 ⟨rfl, hb3⟩
        refine hK.out _ _ (keepL hb3 h2) (fun h3 => ?_)
        clear hK K hlk
        have HT3 : Hid (SumTab w3 w.heap.size k (ls.take k)) := HT2.out.block (hb3.block _ HT2.out.lt)
        have HB3 : Hid (Below w.heap.size w w3) := chain HB2.out hb3
        have hlk := (HM.out w3 HT3.out).1
        refine wpAnyH_ready (rs := [4]) (by kernel_rfl) (by simp) ?_
        refine AllReadyH.cons rfl (fun K hK => ?_) AllReadyH.nil
        go_simp
        refine hK.out _ _ h3 (fun h3' => ?_)
        clear hK K hlk
        refine wpAnyH_take (i := 8) (v := .int .i64 (v + g)) rfl (by kernel_rfl) (by kernel_rfl) (by kernel_rfl) (fun _ _ _ h => h) (Or.inl ⟨by rfl, fun w hSw => by obtain ⟨⟨s0, s1⟩, l6⟩ := hSw; go_simp⟩) h3 ?_
        obtain ⟨w5, hup, hT5, hg5⟩ := (HM.out w3 HT3.out).2
        have HT5 : Hid (SumTab w5 w.heap.size (k + 1) (ls.take (k + 1))) := hT5
        have HB5 : Hid (Below w.heap.size w w5) := HB3.out.grown hg5 HB3.out.size (fun q hq => by cases hq; exact Nat.le_refl _)
        refine wpAnyH_ready (rs := [9]) (by kernel_rfl) (by simp) ?_
        refine AllReadyH.cons rfl (fun K hK => ?_) AllReadyH.nil
        go_simp
        refine hK.out _ _ (keepU hg5 h3 hBne) (fun h5 => ?_)
        clear hK K hT5 hg5
        refine wpAnyH_done (by kernel_rfl) ?_ _
        try simp [Act.put]
        go_wp2
        exact ⟨⟨k + 1, by omega, by go_num, HT5.out, HB5.out⟩, by simp [intOf]; omega⟩
    · obtain rfl : k = ls.length := by omega
      have hle : (ls.length : Int) ≤ (ls.length : Int) := by omega
      have HTe : Hid (SumTab wr w.heap.size ls.length ls) := by have := HT.out; rwa [List.take_of_length_le (Nat.le_refl _)] at this
      go_wp2
      go_ret
      exact ⟨rfl, HTe.out, HB.out⟩
end Go.Proofs.Ytoaimjocphfcaaa
