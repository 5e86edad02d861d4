/-
  The sorter's lanes are emptied at their time.
-/
import Derived.Test.YthmhpgbkapjjkaaSrA
namespace Go.Proofs.Ythmhpgbkapjjkaa
open Go.ChangeShapes Go.WideShapes Go.ChangeAt Go.RowKit Go.Joins Go.Deep Go.Conc
set_option linter.unusedVariables false

set_option maxHeartbeats 4000000 in
theorem empty_any {B sb wb ob cb : Nat} {la : Option Addr} {lc : Nat} {ls : List RLa} {m wc oc : Nat} {buf : Array Value} {full out rej : List Int} {tk rc : Int} {rg : Option Addr} {rk : Nat} (hls : lnsB ls = true) (h9 : ls.length ≤ 9) (htk : 0 ≤ tk ∧ tk ≤ 400) (w : World) (h : SoI B sb wb ob cb la lc ls m wc oc buf full out rej tk rc rg rk w) :
    Calls Try.prog 71 #[.pointer (some ⟨sb, 0, none⟩)] w fun e w' => e = .returned (.tuple #[]) ∧ SoI B sb wb ob cb la lc ls m wc oc buf (emK ls tk full ls.length) out rej tk rc rg rk w' ∧ Below B w w' := by
  have HI : Hid (SoI B sb wb ob cb la lc ls m wc oc buf full out rej tk rc rg rk w) := h
  have HL : Hid (∀ k, k < ls.length → 1 ≤ (ls.getD k zLa).ev ∧ (ls.getD k zLa).ev ≤ 100) := fun k hk => (lnB_facts (lnsB_get hls hk)).2
  have HE0 : Hid (emK ls tk full 0 = full) := emK_zero h.fl
  clear h hls
  obtain ⟨⟨c0, _, _, _⟩, _, _⟩ := HI.out.cells
  go_enter Try.func71, Try.ntmps71
  go_wp2
  clear c0
  go_loopw [9] (fun v wr => ∃ k : Nat, k ≤ ls.length ∧ v = .int .i64 (k : Int) ∧ SoI B sb wb ob cb la lc ls m wc oc buf (emK ls tk full k) out rej tk rc rg rk wr ∧ Below B w wr) (fun v _ => ls.length - (intOf v).toNat)
  case atStart => exact ⟨0, Nat.zero_le _, rfl, by rw [HE0.out]; exact HI.out, Below.refl _ _⟩
  case round =>
    clear HE0
    obtain ⟨k, hk, rfl, hi, hb⟩ := hrel
    have H : Hid (SoI B sb wb ob cb la lc ls m wc oc buf (emK ls tk full k) out rej tk rc rg rk wr) := hi
    have HB : Hid (Below B w wr) := hb
    clear hi hb HI
    by_cases hlt : k < ls.length
    · have hlt' : (k : Int) < (ls.length : Int) := by omega
      obtain ⟨b, o, ha, d0, d1⟩ := H.out.lane hlt
      obtain ⟨he1, he2⟩ := HL.out k hlt
      have HY : Hid (tk % (ls.getD k zLa).ev = 0 → emK ls tk full (k + 1) = (emK ls tk full k).set k 0) := fun e => emK_yes hlt e
      have HN : Hid (¬ tk % (ls.getD k zLa).ev = 0 → emK ls tk full (k + 1) = emK ls tk full k) := fun e => emK_no hlt e
      subst ha
      generalize (ls.getD k zLa).rm = rm at *
      generalize (ls.getD k zLa).ev = ev at *
      obtain ⟨q, hq⟩ : ∃ q, tk % ev = q := ⟨_, rfl⟩
      have hq1 : Int.tmod tk ev = q := by rw [Int.tmod_eq_emod_of_nonneg htk.1]; exact hq
      have hq2 : 0 ≤ q ∧ q < ev := by rw [← hq]; exact ⟨Int.emod_nonneg _ (by omega), Int.emod_lt_of_pos _ (by omega)⟩
      rw [hq] at HY HN
      clear hq
      have hwq : IntKind.i64.wrap q = q := wrap_id _ (by omega) (by omega)
      have hne : ¬ ev = 0 := by omega
      go_upto_region 3 with fail
      clear d0 d1
      obtain ⟨V, hV⟩ : ∃ V, V = wr.alloc (Obj.cells #[.int .i64 rm, .int .i64 ev] 45) := ⟨_, rfl⟩
      obtain ⟨lb, hlb⟩ : ∃ lb, lb = wr.heap.size := ⟨_, rfl⟩
      have HV : Hid (V = wr.alloc (Obj.cells #[.int .i64 rm, .int .i64 ev] 45) ∧ lb = wr.heap.size) := ⟨hV, hlb⟩
      have hb : Below wr.heap.size wr V := by rw [hV]; exact below_alloc _ _
      have HI2 : Hid (SoI B sb wb ob cb (some ⟨b, o, none⟩) lc ls m wc oc buf (emK ls tk full k) out rej tk rc rg rk V) := H.out.later hb
      have HB2 : Hid (Below B w V) := HB.out.trans (hb.mono (by have := H.out.lt; have := H.out.ge; omega))
      have HL2 : Hid (V.heap[lb]? = some (.cells #[.int .i64 rm, .int .i64 ev] 45 (0, 0))) := by show _ = _; rw [hV, hlb]; exact heapNew _ _
      clear hV hlb hb H HB
      rw [← HV.out.1, ← HV.out.2]
      clear HV
      have HC : Hid (∀ X, Below V.heap.size V X → X.cell? ⟨sb, 3, none⟩ = some (.int .i64 tk) ∧ X.cell? ⟨lb, 1, none⟩ = some (.int .i64 ev)) := fun X hX => ⟨(HI2.out.later hX).cells.1.2.2.2, blkCell ((hX.block lb (blkLt HL2.out)).trans HL2.out) 1 _ rfl⟩
      obtain ⟨t0, ht0, htw⟩ : ∃ t0, t0 = decide (q = 0) ∧ (q == 0) = t0 := ⟨_, rfl, by by_cases h : q = 0 <;> simp [h]⟩
      refine wp_region_held_drew (S := fun W' => Below V.heap.size V W') (by kernel_rfl) (below_drew _) (fun hH => ?_)
      refine wpAnyH_take (i := 0) (v := .pointer (some ⟨sb, 0, none⟩)) rfl (by kernel_rfl) (by kernel_rfl) (by kernel_rfl) (fun _ _ _ h => h) (Or.inl ⟨by rfl, fun w hSw => by clear hSw; go_simp⟩) hH ?_
      refine wpAnyH_take (i := 1) (v := .pointer (some ⟨sb, 0, none⟩)) rfl (by kernel_rfl) (by kernel_rfl) (by kernel_rfl) (fun _ _ _ h => h) (Or.inl ⟨by rfl, fun w hSw => by clear hSw; go_simp⟩) hH ?_
      try simp only [Act.put, List.setIfInBounds_toArray, List.set_cons_zero, List.set_cons_succ, List.getElem_toArray, List.getElem_cons_succ, List.getElem_cons_zero]
      refine wpAnyH_take (i := 2) (v := .pointer (some ⟨sb, 3, none⟩)) rfl (by kernel_rfl) (by kernel_rfl) (by kernel_rfl) (fun _ _ _ h => h) (Or.inl ⟨by rfl, fun w hSw => by clear hSw; go_simp⟩) hH ?_
      try simp only [Act.put, List.setIfInBounds_toArray, List.set_cons_zero, List.set_cons_succ, List.getElem_toArray, List.getElem_cons_succ, List.getElem_cons_zero]
      refine wpAnyH_take (i := 3) (v := .pointer (some ⟨sb, 3, none⟩)) rfl (by kernel_rfl) (by kernel_rfl) (by kernel_rfl) (fun _ _ _ h => h) (Or.inl ⟨by rfl, fun w hSw => by clear hSw; go_simp⟩) hH ?_
      try simp only [Act.put, List.setIfInBounds_toArray, List.set_cons_zero, List.set_cons_succ, List.getElem_toArray, List.getElem_cons_succ, List.getElem_cons_zero]
      refine wpAnyH_take (i := 4) (v := .int .i64 tk) rfl (by kernel_rfl) (by kernel_rfl) (by kernel_rfl) (fun _ _ _ h => h) (Or.inl ⟨by rfl, fun w hSw => by obtain ⟨f0, f1⟩ := HC.out w hSw; clear hSw; go_simp⟩) hH ?_
      try simp only [Act.put, List.setIfInBounds_toArray, List.set_cons_zero, List.set_cons_succ, List.getElem_toArray, List.getElem_cons_succ, List.getElem_cons_zero]
      refine wpAnyH_take (i := 5) (v := .pointer (some ⟨lb, 1, none⟩)) rfl (by kernel_rfl) (by kernel_rfl) (by kernel_rfl) (fun _ _ _ h => h) (Or.inl ⟨by rfl, fun w hSw => by clear hSw; go_simp⟩) hH ?_
      try simp only [Act.put, List.setIfInBounds_toArray, List.set_cons_zero, List.set_cons_succ, List.getElem_toArray, List.getElem_cons_succ, List.getElem_cons_zero]
      refine wpAnyH_take (i := 6) (v := .int .i64 ev) rfl (by kernel_rfl) (by kernel_rfl) (by kernel_rfl) (fun _ _ _ h => h) (Or.inl ⟨by rfl, fun w hSw => by obtain ⟨f0, f1⟩ := HC.out w hSw; clear hSw; go_simp⟩) hH ?_
      try simp only [Act.put, List.setIfInBounds_toArray, List.set_cons_zero, List.set_cons_succ, List.getElem_toArray, List.getElem_cons_succ, List.getElem_cons_zero]
      refine wpAnyH_take (i := 7) (v := .int .i64 q) rfl (by kernel_rfl) (by kernel_rfl) (by kernel_rfl) (fun _ _ _ h => h) (Or.inl ⟨by rfl, fun w hSw => by clear hSw; go_simp⟩) hH ?_
      try simp only [Act.put, List.setIfInBounds_toArray, List.set_cons_zero, List.set_cons_succ, List.getElem_toArray, List.getElem_cons_succ, List.getElem_cons_zero]
      refine wpAnyH_take (i := 8) (v := .bool t0) rfl (by kernel_rfl) (by kernel_rfl) (by kernel_rfl) (fun _ _ _ h => h) (Or.inl ⟨by rfl, fun w hSw => by clear hSw; go_simp⟩) hH ?_
      try simp only [Act.put, List.setIfInBounds_toArray, List.set_cons_zero, List.set_cons_succ, List.getElem_toArray, List.getElem_cons_succ, List.getElem_cons_zero]
      refine wpAnyH_done (by kernel_rfl) ?_ _
      clear hH HC htw
      have HI3 : Hid (SoI B sb wb ob cb (some ⟨b, o, none⟩) lc ls m wc oc buf (emK ls tk full k) out rej tk rc rg rk V.drew) := HI2.out.later (below_drew _)
      have HB3 : Hid (Below B w V.drew) := HB2.out.drew
      clear HI2 HB2 HL2
      generalize V.drew = V2 at *
      by_cases hq0 : q = 0
      · have e : t0 = true := by rw [ht0]; exact decide_eq_true hq0
        clear ht0
        subst e
        have HS2 := HI3.out.setF (j := k) (by rw [emK_len]; exact hlt) 0
        rw [← HY.out hq0] at HS2
        have HS : Hid (SoI B sb wb ob cb (some ⟨b, o, none⟩) lc ls m wc oc buf (emK ls tk full (k + 1)) out rej tk rc rg rk (V2.setCell ⟨wb, k, none⟩ (.int .i64 0)) ∧ Below B V2 (V2.setCell ⟨wb, k, none⟩ (.int .i64 0))) := HS2
        clear HS2 HY HN hq1 hq2 hwq hq0
        obtain ⟨hwc, hwl⟩ := rowCell HI3.out.rowF (j := k) (by rw [emK_len]; exact hlt)
        obtain ⟨⟨_, f4, _, _⟩, _, _⟩ := HI3.out.cells
        go_wp2
        exact ⟨⟨k + 1, by omega, by go_num, HS.out.1, HB3.out.trans HS.out.2⟩, by simp [intOf]; omega⟩
      · have e : t0 = false := by rw [ht0]; exact decide_eq_false hq0
        clear ht0
        subst e
        have HS : Hid (SoI B sb wb ob cb (some ⟨b, o, none⟩) lc ls m wc oc buf (emK ls tk full (k + 1)) out rej tk rc rg rk V2) := by
          show SoI _ _ _ _ _ _ _ _ _ _ _ _ _ _ _ _ _ _ _ _
          rw [HN.out hq0]; exact HI3.out
        clear HY HN hq1 hq2 hwq hq0
        go_wp2
        exact ⟨⟨k + 1, by omega, by go_num, HS.out, HB3.out⟩, by simp [intOf]; omega⟩
    · have hk2 : k = ls.length := by omega
      subst hk2
      have hlt' : ¬ (ls.length : Int) < (ls.length : Int) := by omega
      go_wp2
      go_end0
      exact ⟨rfl, H.out, HB.out⟩
end Go.Proofs.Ythmhpgbkapjjkaa
