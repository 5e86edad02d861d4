/-
  The line of an article, what is to be said of it, as mathematics; contracts of the program's lineOf, dearerThan and code.
-/
import Derived.Test.YtfiajiodehhmhaaTwA
namespace Go.Proofs.Ytfiajiodehhmhaa
open Go.ChangeShapes Go.WideShapes Go.ChangeAt Go.RowKit Go.Joins Go.Deep
set_option linter.unusedVariables false

/-- The line of an article, or the line of noughts. -/
def lnO (rs : List RDc) (t : ByteArray) : RDc := (rs.find? fun r => r.ar.toList == t.toList).getD zDc
theorem ln_take {rs : List RDc} {t : ByteArray} {k : Nat} (h : k < rs.length) (h0 : ∀ r ∈ rs.take k, (r.ar.toList == t.toList) = false) (hp : ((rs.getD k zDc).ar.toList == t.toList) = true) : lnO rs t = rs.getD k zDc := by
  have e : rs.getD k zDc = rs[k] := by simp [List.getD_eq_getElem?_getD, h]
  have e1 : rs = rs.take k ++ rs[k] :: rs.drop (k + 1) := by rw [List.getElem_cons_drop, List.take_append_drop]
  rw [e] at hp ⊢
  unfold lnO
  have : (rs.find? fun r => r.ar.toList == t.toList) = some rs[k] := by
    conv => lhs; rw [e1]
    rw [List.find?_append, List.find?_eq_none.mpr (fun r hr => by simpa using h0 r hr)]
    simp only [Option.none_or]
    rw [List.find?_cons_of_pos (by simpa using hp)]
  rw [this]; rfl
theorem ln_none {rs : List RDc} {t : ByteArray} (h0 : ∀ r ∈ rs, (r.ar.toList == t.toList) = false) : lnO rs t = zDc := by
  unfold lnO
  rw [List.find?_eq_none.mpr (fun r hr => by simpa using h0 r hr)]; rfl
theorem ln_right {rs : List RDc} (h : rs.all dcB = true) (t : ByteArray) : lnO rs t = zDc ∨ dcB (lnO rs t) = true := by
  unfold lnO
  cases hf : rs.find? fun r => r.ar.toList == t.toList
  · exact .inl rfl
  · exact .inr ((List.all_eq_true.mp h) _ (List.mem_of_find?_eq_some hf))
/-- What is to be said of the lines of an article. -/
def cdV (o r v : RDc) : Int := if o.un = 0 then 8 else if v.un = 0 then 18 else if r.un < v.un then 19 else if o.un < v.un then 9 else if o.am * v.un < v.am * o.un then 11 else 0
set_option maxHeartbeats 2000000 in
theorem lineOf_any (a : Option Addr) (cap : Nat) (rs : List RDc) (t : ByteArray) (hl : rs.length ≤ 100000000) (w : World) (hr : ReadsDc w.heap.size w a rs) :
    Calls Try.prog 48 #[.slice a rs.length cap, .string t] w fun e w' => e = .returned (.agg #[.string (lnO rs t).ar, .int .i64 (lnO rs t).un, .int .i64 (lnO rs t).am]) ∧ Below w.heap.size w w' := by
  have HR : Hid (ReadsDc w.heap.size w a rs) := hr
  clear hr
  obtain ⟨R, hR⟩ : ∃ R, R = w.heap.size := ⟨_, rfl⟩
  have HB0 : Hid (Below w.heap.size w (w.alloc (Obj.cells #[.string ⟨#[]⟩, .int .i64 0, .int .i64 0] 80)) ∧ R < (w.alloc (Obj.cells #[.string ⟨#[]⟩, .int .i64 0, .int .i64 0] 80)).heap.size ∧ (∃ x y z, (w.alloc (Obj.cells #[.string ⟨#[]⟩, .int .i64 0, .int .i64 0] 80)).cell? ⟨R, 0, none⟩ = some x ∧ (w.alloc (Obj.cells #[.string ⟨#[]⟩, .int .i64 0, .int .i64 0] 80)).cell? ⟨R, 1, none⟩ = some y ∧ (w.alloc (Obj.cells #[.string ⟨#[]⟩, .int .i64 0, .int .i64 0] 80)).cell? ⟨R, 2, none⟩ = some z) ∧ ∀ i, (w.alloc (Obj.cells #[.string ⟨#[]⟩, .int .i64 0, .int .i64 0] 80)).frozen? ⟨R, i, none⟩ = false) := by
    rw [hR]
    exact ⟨below_alloc _ _, by simp, ⟨_, _, _, cellNew _ _ _ _ rfl rfl, cellNew _ _ _ _ rfl rfl, cellNew _ _ _ _ rfl rfl⟩, fun i => by simp⟩
  have HRw : Hid (w.heap.size ≤ R) := by show _ ≤ _; rw [hR]; exact Nat.le_refl _
  go_enter Try.func48, Try.ntmps48
  go_wp2
  rw [← hR]
  clear hR
  go_loopw [6, 9] (fun _ c wr => ∃ k : Nat, k ≤ rs.length ∧ c = .int .i64 (k : Int) ∧ (∀ r ∈ rs.take k, (r.ar.toList == t.toList) = false) ∧ Below w.heap.size w wr ∧ R < wr.heap.size ∧ (∃ x y z, wr.cell? ⟨R, 0, none⟩ = some x ∧ wr.cell? ⟨R, 1, none⟩ = some y ∧ wr.cell? ⟨R, 2, none⟩ = some z) ∧ ∀ i, wr.frozen? ⟨R, i, none⟩ = false) (fun _ c _ => rs.length - (intOf c).toNat)
  case atStart => exact ⟨0, Nat.zero_le _, rfl, by simp, HB0.out⟩
  case round =>
    clear HB0
    obtain ⟨k, hk, rfl, hno, hb, hRz, ⟨x, y, z, x0, x1, x2⟩, xf⟩ := hrel
    have HNo : Hid (∀ r ∈ rs.take k, (r.ar.toList == t.toList) = false) := hno
    have HB : Hid (Below w.heap.size w wr) := hb
    have xf0 := xf 0
    have xf1 := xf 1
    have xf2 := xf 2
    have XF : Hid (∀ i, wr.frozen? ⟨R, i, none⟩ = false) := xf
    clear hno hb xf
    have l9 : R ≠ wr.heap.size := by omega
    by_cases hlt : k < rs.length
    · have hlt' : (k : Int) < (rs.length : Int) := by omega
      rcases HR.out with h | ⟨b0, o0, ha, hB0, ia⟩
      · rw [h] at hlt; simp at hlt
      obtain ⟨c0, c1, c2⟩ := (ia.below HB.out hB0) k hlt
      have HY : Hid (((rs.getD k zDc).ar.toList == t.toList) = true → lnO rs t = rs.getD k zDc) := fun h => ln_take hlt HNo.out h
      have HN : Hid (((rs.getD k zDc).ar.toList == t.toList) = false → ∀ r ∈ rs.take (k + 1), (r.ar.toList == t.toList) = false) := fun h => take_nextDc (p := fun r => (r.ar.toList == t.toList) = false) hlt HNo.out h
      rw [ha]
      clear ia
      generalize rs.getD k zDc = r at *
      obtain ⟨p, q, s⟩ := r
      dsimp only at c0 c1 c2 HY HN
      cases hpt : (p.toList == t.toList)
      · have HN2 : Hid (∀ r ∈ rs.take (k + 1), (r.ar.toList == t.toList) = false) := HN.out hpt
        clear HY HN
        go_wp2
        go_roundw
        case rel => exact ⟨k + 1, by omega, by go_num, HN2.out, chain HB.out (below_alloc _ _), by simp; omega, ⟨x, y, z, (cellOld _ _ hRz).trans x0, (cellOld _ _ hRz).trans x1, (cellOld _ _ hRz).trans x2⟩, fun i => ((below_alloc wr _).frozen (p := ⟨R, i, none⟩) hRz).trans (XF.out i)⟩
        case measure => simp [intOf]; omega
      · have HE : Hid (lnO rs t = ⟨p, q, s⟩) := HY.out hpt
        clear HY HN
        go_wp2
        refine bodyPost_ret (v := .agg #[.string p, .int .i64 q, .int .i64 s]) (by simp [results, Try.results48, go_sem, x0, x1, x2, hRz]) rfl ⟨by rw [HE.out], ?_⟩
        first
        | (refine chain ?_ (below_alloc _ _); repeat refine Below.setCell ?_ (show w.heap.size ≤ R from HRw.out) _
           exact HB.out)
        | (repeat refine Below.setCell ?_ (show w.heap.size ≤ R from HRw.out) _
           exact chain HB.out (below_alloc _ _))
    · have hle : ¬ (k : Int) < (rs.length : Int) := by omega
      have HE : Hid (lnO rs t = zDc) := ln_none (by have := HNo.out; rwa [List.take_of_length_le (by omega)] at this)
      go_wp2
      refine bodyPost_ret (v := .agg #[.string ⟨#[]⟩, .int .i64 0, .int .i64 0]) (by simp [results, Try.results48, go_sem, x0, x1, x2]) rfl ⟨by rw [HE.out]; rfl, ?_⟩
      repeat refine Below.setCell ?_ (show w.heap.size ≤ R from HRw.out) _
      exact HB.out
theorem dearer_any (a b : ByteArray) (n d m e : Int) (h1 : 0 ≤ n ∧ n ≤ 100000) (h2 : 0 ≤ d ∧ d ≤ 1000000000) (h3 : 0 ≤ m ∧ m ≤ 100000) (h4 : 0 ≤ e ∧ e ≤ 1000000000) (w : World) :
    Calls Try.prog 96 #[.agg #[.string a, .int .i64 n, .int .i64 d], .agg #[.string b, .int .i64 m, .int .i64 e]] w fun e' w' => e' = .returned (.bool (decide (e * n < d * m))) ∧ Below w.heap.size w w' := by
  have p1 : 0 ≤ d * m ∧ d * m ≤ 1000000000 * 100000 := ⟨Int.mul_nonneg h2.1 h3.1, Int.mul_le_mul h2.2 h3.2 h3.1 (by omega)⟩
  have p2 : 0 ≤ e * n ∧ e * n ≤ 1000000000 * 100000 := ⟨Int.mul_nonneg h4.1 h1.1, Int.mul_le_mul h4.2 h1.2 h1.1 (by omega)⟩
  have w1 : IntKind.i64.wrap (d * m) = d * m := wrap_id _ (by omega) (by omega)
  have w2 : IntKind.i64.wrap (e * n) = e * n := wrap_id _ (by omega) (by omega)
  clear p1 p2 h1 h2 h3 h4
  have l1 : ∀ n : Nat, n < n + 1 + 1 := fun n => by omega
  have l2 : ∀ n : Nat, n < n + 2 := fun n => by omega
  go_enter Try.func96, Try.ntmps96
  go_wp2
  go_ret
  exact ⟨rfl, chain (below_alloc _ _) (below_alloc _ _)⟩
def dcZ (r : RDc) : Prop := (0 ≤ r.un ∧ r.un ≤ 100000) ∧ (0 ≤ r.am ∧ r.am ≤ 1000000000)
set_option maxHeartbeats 2000000 in
theorem code_any (o r v : RDc) (ho : dcZ o) (hv : dcZ v) (w : World) :
    Calls Try.prog 50 #[.agg #[.string o.ar, .int .i64 o.un, .int .i64 o.am, .string r.ar, .int .i64 r.un, .int .i64 r.am, .string v.ar, .int .i64 v.un, .int .i64 v.am]] w fun e' w' => e' = .returned (.int .i64 (cdV o r v)) ∧ Below w.heap.size w w' := by
  obtain ⟨o0, o1, o2⟩ := o
  obtain ⟨r0, r1, r2⟩ := r
  obtain ⟨v0, v1, v2⟩ := v
  have HD : Hid (∀ W, Calls Try.prog 96 #[.agg #[.string v0, .int .i64 v1, .int .i64 v2], .agg #[.string o0, .int .i64 o1, .int .i64 o2]] W fun e' w' => e' = .returned (.bool (decide (o2 * v1 < v2 * o1))) ∧ Below W.heap.size W w') := fun W => dearer_any v0 o0 v1 v2 o1 o2 hv.1 hv.2 ho.1 ho.2 W
  unfold cdV
  dsimp only
  clear ho hv
  by_cases h1 : o1 = 0
  · rw [if_pos h1]
    have b1 : (o1 == 0) = true := by simp [h1]
    go_enter Try.func50, Try.ntmps50
    go_wp2
    go_ret
    exact ⟨rfl, below_alloc _ _⟩
  rw [if_neg h1]
  have b1 : (o1 == 0) = false := by simp [h1]
  by_cases h2 : v1 = 0
  · rw [if_pos h2]
    have b2 : (v1 == 0) = true := by simp [h2]
    clear h1
    go_enter Try.func50, Try.ntmps50
    go_wp2
    go_ret
    exact ⟨rfl, below_alloc _ _⟩
  rw [if_neg h2]
  have b2 : (v1 == 0) = false := by simp [h2]
  clear h1 h2
  by_cases h3 : r1 < v1
  · rw [if_pos h3]
    go_enter Try.func50, Try.ntmps50
    go_wp2
    go_ret
    exact ⟨rfl, below_alloc _ _⟩
  rw [if_neg h3]
  by_cases h4 : o1 < v1
  · rw [if_pos h4]
    go_enter Try.func50, Try.ntmps50
    go_wp2
    go_ret
    exact ⟨rfl, below_alloc _ _⟩
  rw [if_neg h4]
  by_cases h5 : o2 * v1 < v2 * o1
  · rw [if_pos h5]
    rw [decide_eq_true h5] at HD
    clear h5
    go_enter Try.func50, Try.ntmps50
    go_wp2_with (go_at_call 96; refine (HD.out _).mono ?_; rintro e w2 ⟨rfl, hb2⟩)
    go_ret
    exact ⟨rfl, chain (below_alloc _ _) hb2⟩
  · rw [if_neg h5]
    rw [decide_eq_false h5] at HD
    clear h5
    go_enter Try.func50, Try.ntmps50
    go_wp2_with (go_at_call 96; refine (HD.out _).mono ?_; rintro e w2 ⟨rfl, hb2⟩)
    go_ret
    exact ⟨rfl, chain (below_alloc _ _) hb2⟩
end Go.Proofs.Ytfiajiodehhmhaa
