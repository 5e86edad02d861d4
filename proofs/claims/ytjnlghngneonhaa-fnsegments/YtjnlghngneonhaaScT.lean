/-
  The scanner's takeTag: three letters, or which of them is none.
-/
import Derived.Test.YtjnlghngneonhaaScP
import Derived.Test.YtjnlghngneonhaaShelf
namespace Go.Proofs.Ytjnlghngneonhaa
open Go.ChangeShapes Go.WideShapes Go.ChangeAt Go.RowKit Go.Joins Go.Deep
set_option linter.unusedVariables false

theorem stClone_any (s : ByteArray) (hs : s.size ≤ 2000000) (w : World) :
    Calls Try.prog 54 #[.string s] w fun e w' => e = .returned (.string s) ∧ Below w.heap.size w w' := by
  have hc := fun w => Try.stringslite_Clone s w (by omega)
  go_enter Try.func54, Try.ntmps54
  go_wp2_with (go_at_call 56; refine (hc _).mono ?_; rintro e w1 ⟨rfl, hb1⟩)
  go_ret
  exact ⟨rfl, hb1⟩
theorem run_slice_mid (s : ByteArray) (l k : Nat) (i j : Int) (hl : l ≤ k) (hk : k ≤ s.size) (hi : i = (l : Int)) (hj : j = (k : Int)) (w : World) : (Instr.slice 9 (.string s) (some (.int .i64 i)) (some (.int .i64 j)) none).run Try.prog w = .ok (.string (s.extract l k)) w := by
  subst hi hj
  have h2 : (k : Int) ≤ (s.size : Int) := by omega
  unfold Instr.slice
  simp [go_sem, h2]
  intro h
  exact absurd h (by omega)
theorem let_nx (t : ByteArray) (i : Nat) : letB (nxB t i) = letAt t i := by
  unfold nxB letAt
  by_cases h : i < t.size
  · rw [if_pos h, decide_eq_true h, Bool.true_and]
  · rw [if_neg h, decide_eq_false h, Bool.false_and]; rfl
section
variable {B sb pb : Nat} {fr : Bool} {t : ByteArray} {pl : Nat} {E : List SgE} {la : Option Addr} {lk : Nat} {tg : ByteArray} {ps : List ByteArray} {pa : Option Addr} {pk : Nat} {pt : List Int} {qa : Option Addr} {qk : Nat}
/-- What takeTag leaves. -/
def TgA (B sb pb : Nat) (fr : Bool) (t : ByteArray) (pl : Nat) (E : List SgE) (la : Option Addr) (lk : Nat) (tg : ByteArray) (ps : List ByteArray) (pa : Option Addr) (pk : Nat) (pt : List Int) (qa : Option Addr) (qk : Nat) (w : World) (e : Ending) (w' : World) : Prop :=
  (match tagF t pl with
  | some k => e = .returned (.bool false) ∧ RdI B sb pb fr t (pl + k) E la lk tg ps pa pk pt qa qk w'
  | none => e = .returned (.bool true) ∧ ∃ pb', RdI B sb pb' true t (pl + 3) E la lk (t.extract pl (pl + 3)) [] none 0 pt qa qk w') ∧ Below B w w'
theorem TgA.some' {w w' : World} {k : Nat} (h : tagF t pl = some k) (hr : RdI B sb pb fr t (pl + k) E la lk tg ps pa pk pt qa qk w') (hb : Below B w w') : TgA B sb pb fr t pl E la lk tg ps pa pk pt qa qk w (.returned (.bool false)) w' := by
  unfold TgA; rw [h]; exact ⟨⟨rfl, hr⟩, hb⟩
theorem TgA.none' {w w' : World} (h : tagF t pl = none) (hr : ∃ pb', RdI B sb pb' true t (pl + 3) E la lk (t.extract pl (pl + 3)) [] none 0 pt qa qk w') (hb : Below B w w') : TgA B sb pb fr t pl E la lk tg ps pa pk pt qa qk w (.returned (.bool true)) w' := by
  unfold TgA; rw [h]; exact ⟨⟨rfl, hr⟩, hb⟩
set_option maxHeartbeats 4000000 in
set_option maxRecDepth 4000 in
theorem takeTag_any (hz : t.size ≤ 65536) (hp : pl ≤ t.size) (w : World) (h : RdI B sb pb fr t pl E la lk tg ps pa pk pt qa qk w) :
    Calls Try.prog 40 #[.pointer (some ⟨sb, 0, none⟩)] w (TgA B sb pb fr t pl E la lk tg ps pa pk pt qa qk w) := by
  have HI : Hid (RdI B sb pb fr t pl E la lk tg ps pa pk pt qa qk w) := h
  have HN : Hid (∀ (p : Nat) (W : World), p ≤ t.size → RdI B sb pb fr t p E la lk tg ps pa pk pt qa qk W → Calls Try.prog 39 #[.pointer (some ⟨sb, 0, none⟩)] W fun e w' => e = .returned (.int .i64 (nxB t p)) ∧ RdI B sb pb fr t p E la lk tg ps pa pk pt qa qk w' ∧ Below W.heap.size W w') := fun p W h1 h2 => scNext_any hz h1 W h2
  have HBl : Hid (∀ (W W' : World), B ≤ W.heap.size → Below W.heap.size W W' → Below B W W') := fun W W' h1 h2 => h2.mono h1
  have HTF : Hid (tagF t pl = if letAt t pl = false then some 0 else if letAt t (pl + 1) = false then some 1 else if letAt t (pl + 2) = false then some 2 else none) := rfl
  clear h
  obtain ⟨⟨_, f1, _, _⟩, _, fz⟩ := HI.out.cells
  have z1 := fz 1
  clear fz
  go_enter Try.func40, Try.ntmps40
  go_wp2
  clear f1 z1
  refine wp_loop_rounds 4 ?_
  rw [rounds_succ]
  go_wp2_with fail
  (first | go_at_call 39 | skip)
  refine (HN.out pl _ hp HI.out).mono ?_
  rintro e W1 ⟨rfl, h1, hb1⟩
  have HI1 : Hid (RdI B sb pb fr t pl E la lk tg ps pa pk pt qa qk W1 ∧ Below B w W1) := ⟨h1, HBl.out _ _ (by have := HI.out.lt; have := HI.out.ge; omega) hb1⟩
  clear h1 hb1 HI
  go_wp2_with fail
  (first | go_at_call 53 | skip)
  refine (tagLetter_any _ _).mono ?_
  rintro e w2 ⟨rfl, rfl⟩
  rw [let_nx]
  cases hA : letAt t pl
  · have HE : Hid (tagF t pl = some 0) := by show _ = _; rw [HTF.out, hA]; rfl
    clear hA HTF
    go_wp2_with fail
    go_ret
    exact TgA.some' HE.out HI1.out.1 HI1.out.2
  have hp1 : pl + 1 ≤ t.size := letAt_lt hA
  rw [hA, if_neg (by simp)] at HTF
  clear hA
  obtain ⟨⟨_, f1, _, _⟩, _, fz⟩ := HI1.out.1.cells
  have z1 := fz 1
  clear fz
  have HI2 : Hid (RdI B sb pb fr t (pl + 1) E la lk tg ps pa pk pt qa qk (W1.setCell ⟨sb, 1, none⟩ (.int .i64 ((pl : Int) + 1))) ∧ Below B w (W1.setCell ⟨sb, 1, none⟩ (.int .i64 ((pl : Int) + 1)))) := by
    have k := HI1.out.1.setPl (pl + 1)
    rw [show ((pl + 1 : Nat) : Int) = (pl : Int) + 1 by omega] at k
    exact ⟨k.1, HI1.out.2.trans k.2⟩
  clear HI1
  go_wp2_with fail
  clear f1 z1
  generalize W1.setCell ⟨sb, 1, none⟩ (.int .i64 ((pl : Int) + 1)) = W2 at *
  rw [rounds_succ]
  go_wp2_with fail
  (first | go_at_call 39 | skip)
  refine (HN.out (pl + 1) _ hp1 HI2.out.1).mono ?_
  rintro e W3 ⟨rfl, h1, hb1⟩
  have HI3 : Hid (RdI B sb pb fr t (pl + 1) E la lk tg ps pa pk pt qa qk W3 ∧ Below B w W3) := ⟨h1, HI2.out.2.trans (HBl.out _ _ (by have := HI2.out.1.lt; have := HI2.out.1.ge; omega) hb1)⟩
  clear h1 hb1 HI2
  go_wp2_with fail
  (first | go_at_call 53 | skip)
  refine (tagLetter_any _ _).mono ?_
  rintro e w2 ⟨rfl, rfl⟩
  rw [let_nx]
  cases hA : letAt t (pl + 1)
  · have HE : Hid (tagF t pl = some 1) := by show _ = _; rw [HTF.out, hA]; rfl
    clear hA HTF
    go_wp2_with fail
    go_ret
    exact TgA.some' HE.out HI3.out.1 HI3.out.2
  have hp2 : pl + 2 ≤ t.size := letAt_lt hA
  rw [hA, if_neg (by simp)] at HTF
  clear hA
  obtain ⟨⟨_, f1, _, _⟩, _, fz⟩ := HI3.out.1.cells
  rw [show ((pl + 1 : Nat) : Int) = (pl : Int) + 1 by omega] at f1
  have z1 := fz 1
  clear fz
  have HI4 : Hid (RdI B sb pb fr t (pl + 2) E la lk tg ps pa pk pt qa qk (W3.setCell ⟨sb, 1, none⟩ (.int .i64 ((pl : Int) + 1 + 1))) ∧ Below B w (W3.setCell ⟨sb, 1, none⟩ (.int .i64 ((pl : Int) + 1 + 1)))) := by
    have k := HI3.out.1.setPl (pl + 2)
    rw [show ((pl + 2 : Nat) : Int) = (pl : Int) + 1 + 1 by omega] at k
    exact ⟨k.1, HI3.out.2.trans k.2⟩
  clear HI3
  go_wp2_with fail
  clear f1 z1
  generalize W3.setCell ⟨sb, 1, none⟩ (.int .i64 ((pl : Int) + 1 + 1)) = W4 at *
  rw [rounds_succ]
  go_wp2_with fail
  (first | go_at_call 39 | skip)
  refine (HN.out (pl + 2) _ hp2 HI4.out.1).mono ?_
  rintro e W5 ⟨rfl, h1, hb1⟩
  have HI5 : Hid (RdI B sb pb fr t (pl + 2) E la lk tg ps pa pk pt qa qk W5 ∧ Below B w W5) := ⟨h1, HI4.out.2.trans (HBl.out _ _ (by have := HI4.out.1.lt; have := HI4.out.1.ge; omega) hb1)⟩
  clear h1 hb1 HI4
  go_wp2_with fail
  (first | go_at_call 53 | skip)
  refine (tagLetter_any _ _).mono ?_
  rintro e w2 ⟨rfl, rfl⟩
  rw [let_nx]
  cases hA : letAt t (pl + 2)
  · have HE : Hid (tagF t pl = some 2) := by show _ = _; rw [HTF.out, hA]; rfl
    clear hA HTF
    go_wp2_with fail
    go_ret
    exact TgA.some' HE.out HI5.out.1 HI5.out.2
  have hp3 : pl + 3 ≤ t.size := letAt_lt hA
  have HE : Hid (tagF t pl = none) := by show _ = _; rw [HTF.out, hA]; rfl
  clear hA HTF
  obtain ⟨⟨_, f1, _, _⟩, _, fz⟩ := HI5.out.1.cells
  rw [show ((pl + 2 : Nat) : Int) = (pl : Int) + 1 + 1 by omega] at f1
  have z1 := fz 1
  clear fz
  have HI6 : Hid (RdI B sb pb fr t (pl + 3) E la lk tg ps pa pk pt qa qk (W5.setCell ⟨sb, 1, none⟩ (.int .i64 ((pl : Int) + 1 + 1 + 1))) ∧ Below B w (W5.setCell ⟨sb, 1, none⟩ (.int .i64 ((pl : Int) + 1 + 1 + 1)))) := by
    have k := HI5.out.1.setPl (pl + 3)
    rw [show ((pl + 3 : Nat) : Int) = (pl : Int) + 1 + 1 + 1 by omega] at k
    exact ⟨k.1, HI5.out.2.trans k.2⟩
  clear HI5
  go_wp2_with fail
  clear f1 z1
  generalize W5.setCell ⟨sb, 1, none⟩ (.int .i64 ((pl : Int) + 1 + 1 + 1)) = W6 at *
  rw [rounds_succ]
  go_wp2_with fail
  go_upto_region 8 with fail
  obtain ⟨V, hV⟩ : ∃ V, V = W6.drew := ⟨_, rfl⟩
  have HV : Hid (RdI B sb pb fr t (pl + 3) E la lk tg ps pa pk pt qa qk V ∧ Below B w V) := by
    show _ ∧ _
    rw [hV]; exact ⟨HI6.out.1.later (below_drew _), HI6.out.2.trans (HBl.out _ _ (by have := HI6.out.1.lt; have := HI6.out.1.ge; omega) (below_drew _))⟩
  have HC : Hid (∀ X, Below V.heap.size V X → X.cell? ⟨sb, 0, none⟩ = some (.string t) ∧ X.cell? ⟨sb, 1, none⟩ = some (.int .i64 ((pl : Int) + 1 + 1 + 1))) := fun X hX => by
    have k := (HV.out.1.later hX).cells.1
    rw [show ((pl + 3 : Nat) : Int) = (pl : Int) + 1 + 1 + 1 by omega] at k
    exact ⟨k.1, k.2.1⟩
  have hsl : ∀ w, (Instr.slice 9 (.string t) (some (.int .i64 (pl : Int))) (some (.int .i64 ((pl : Int) + 1 + 1 + 1))) none).run Try.prog w = .ok (.string (t.extract pl (pl + 3))) w := fun w => run_slice_mid t pl (pl + 3) _ _ (by omega) hp3 rfl (by omega) w
  have hcl : (t.extract pl (pl + 3)).size ≤ 2000000 := by rw [ByteArray.size_extract]; omega
  obtain ⟨tg', htg⟩ : ∃ tg', tg' = t.extract pl (pl + 3) := ⟨_, rfl⟩
  rw [← htg] at hsl hcl
  have HTG : Hid (tg' = t.extract pl (pl + 3)) := htg
  clear htg
  refine wp_region_z (S := fun W' => Below V.heap.size V W') 15 (by kernel_rfl) (by rw [← hV]; exact Below.refl _ _) (fun hH => ?_)
  rw [← hV] at hH ⊢
  clear hV HI6
  refine wpAnyZ_take (i := 0) (v := .pointer (some ⟨sb, 0, none⟩)) rfl (by kernel_rfl) (by kernel_rfl) (by kernel_rfl) (by kernel_rfl) (fun _ _ _ h => h) (Or.inl ⟨by rfl, fun w hSw => by clear hSw; go_simp⟩) hH ?_
  refine wpAnyZ_take (i := 1) (v := .pointer (some ⟨sb, 0, none⟩)) rfl (by kernel_rfl) (by kernel_rfl) (by kernel_rfl) (by kernel_rfl) (fun _ _ _ h => h) (Or.inl ⟨by rfl, fun w hSw => by clear hSw; go_simp⟩) hH ?_
  try simp only [Act.put, List.setIfInBounds_toArray, List.set_cons_zero, List.set_cons_succ, List.getElem_toArray, List.getElem_cons_succ, List.getElem_cons_zero]
  refine wpAnyZ_take (i := 2) (v := .pointer (some ⟨sb, 0, none⟩)) rfl (by kernel_rfl) (by kernel_rfl) (by kernel_rfl) (by kernel_rfl) (fun _ _ _ h => h) (Or.inl ⟨by rfl, fun w hSw => by clear hSw; go_simp⟩) hH ?_
  try simp only [Act.put, List.setIfInBounds_toArray, List.set_cons_zero, List.set_cons_succ, List.getElem_toArray, List.getElem_cons_succ, List.getElem_cons_zero]
  refine wpAnyZ_take (i := 3) (v := .pointer (some ⟨sb, 0, none⟩)) rfl (by kernel_rfl) (by kernel_rfl) (by kernel_rfl) (by kernel_rfl) (fun _ _ _ h => h) (Or.inl ⟨by rfl, fun w hSw => by clear hSw; go_simp⟩) hH ?_
  try simp only [Act.put, List.setIfInBounds_toArray, List.set_cons_zero, List.set_cons_succ, List.getElem_toArray, List.getElem_cons_succ, List.getElem_cons_zero]
  refine wpAnyZ_take (i := 4) (v := .string t) rfl (by kernel_rfl) (by kernel_rfl) (by kernel_rfl) (by kernel_rfl) (fun _ _ _ h => h) (Or.inl ⟨by rfl, fun w hSw => by have f0 := (HC.out w hSw).1; clear hSw; go_simp⟩) hH ?_
  try simp only [Act.put, List.setIfInBounds_toArray, List.set_cons_zero, List.set_cons_succ, List.getElem_toArray, List.getElem_cons_succ, List.getElem_cons_zero]
  refine wpAnyZ_take (i := 5) (v := .int .i64 (pl : Int)) rfl (by kernel_rfl) (by kernel_rfl) (by kernel_rfl) (by kernel_rfl) (fun _ _ _ h => h) (Or.inl ⟨by rfl, fun w hSw => by clear hSw; go_simp⟩) hH ?_
  try simp only [Act.put, List.setIfInBounds_toArray, List.set_cons_zero, List.set_cons_succ, List.getElem_toArray, List.getElem_cons_succ, List.getElem_cons_zero]
  refine wpAnyZ_take (i := 6) (v := .pointer (some ⟨sb, 0, none⟩)) rfl (by kernel_rfl) (by kernel_rfl) (by kernel_rfl) (by kernel_rfl) (fun _ _ _ h => h) (Or.inl ⟨by rfl, fun w hSw => by clear hSw; go_simp⟩) hH ?_
  try simp only [Act.put, List.setIfInBounds_toArray, List.set_cons_zero, List.set_cons_succ, List.getElem_toArray, List.getElem_cons_succ, List.getElem_cons_zero]
  refine wpAnyZ_take (i := 7) (v := .pointer (some ⟨sb, 0, none⟩)) rfl (by kernel_rfl) (by kernel_rfl) (by kernel_rfl) (by kernel_rfl) (fun _ _ _ h => h) (Or.inl ⟨by rfl, fun w hSw => by clear hSw; go_simp⟩) hH ?_
  try simp only [Act.put, List.setIfInBounds_toArray, List.set_cons_zero, List.set_cons_succ, List.getElem_toArray, List.getElem_cons_succ, List.getElem_cons_zero]
  refine wpAnyZ_take (i := 8) (v := .pointer (some ⟨sb, 1, none⟩)) rfl (by kernel_rfl) (by kernel_rfl) (by kernel_rfl) (by kernel_rfl) (fun _ _ _ h => h) (Or.inl ⟨by rfl, fun w hSw => by clear hSw; go_simp⟩) hH ?_
  try simp only [Act.put, List.setIfInBounds_toArray, List.set_cons_zero, List.set_cons_succ, List.getElem_toArray, List.getElem_cons_succ, List.getElem_cons_zero]
  refine wpAnyZ_take (i := 9) (v := .int .i64 ((pl : Int) + 1 + 1 + 1)) rfl (by kernel_rfl) (by kernel_rfl) (by kernel_rfl) (by kernel_rfl) (fun _ _ _ h => h) (Or.inl ⟨by rfl, fun w hSw => by have f0 := (HC.out w hSw).2; clear hSw; go_simp⟩) hH ?_
  try simp only [Act.put, List.setIfInBounds_toArray, List.set_cons_zero, List.set_cons_succ, List.getElem_toArray, List.getElem_cons_succ, List.getElem_cons_zero]
  refine wpAnyZ_take (i := 10) (v := .string tg') rfl (by kernel_rfl) (by kernel_rfl) (by kernel_rfl) (by kernel_rfl) (fun _ _ _ h => h) (Or.inl ⟨by rfl, fun w hSw => by clear hSw; go_simp⟩) hH ?_
  try simp only [Act.put, List.setIfInBounds_toArray, List.set_cons_zero, List.set_cons_succ, List.getElem_toArray, List.getElem_cons_succ, List.getElem_cons_zero]
  refine wpAnyZ_ready (rs := [11]) (by kernel_rfl) (by simp) ?_
  refine AllReadyZ.cons rfl (fun K hK => ?_) AllReadyZ.nil
  go_simp
  go_at_call 54
  refine (stClone_any tg' hcl _).mono ?_
  rintro e W7 ⟨rfl, hb7⟩
  have h2 := chain hH hb7
  clear hb7 hH
  refine hK.out _ _ (Or.inr h2) (fun _ => ?_)
  clear hK K
  try simp only [Act.put, List.setIfInBounds_toArray, List.set_cons_zero, List.set_cons_succ, List.getElem_toArray, List.getElem_cons_succ, List.getElem_cons_zero]
  refine wpAnyZ_take (i := 12) (v := .agg #[.string tg', .slice none 0 0]) rfl (by kernel_rfl) (by kernel_rfl) (by kernel_rfl) (by kernel_rfl) (fun _ _ _ h => h) (Or.inl ⟨by rfl, fun w hSw => by clear hSw; go_simp⟩) h2 ?_
  try simp only [Act.put, List.setIfInBounds_toArray, List.set_cons_zero, List.set_cons_succ, List.getElem_toArray, List.getElem_cons_succ, List.getElem_cons_zero]
  refine wpAnyZ_take (i := 13) (v := .pointer (some ⟨sb, 0, none⟩)) rfl (by kernel_rfl) (by kernel_rfl) (by kernel_rfl) (by kernel_rfl) (fun _ _ _ h => h) (Or.inl ⟨by rfl, fun w hSw => by clear hSw; go_simp⟩) h2 ?_
  try simp only [Act.put, List.setIfInBounds_toArray, List.set_cons_zero, List.set_cons_succ, List.getElem_toArray, List.getElem_cons_succ, List.getElem_cons_zero]
  refine wpAnyZ_take (i := 14) (v := .pointer (some ⟨sb, 3, none⟩)) rfl (by kernel_rfl) (by kernel_rfl) (by kernel_rfl) (by kernel_rfl) (fun _ _ _ h => h) (Or.inl ⟨by rfl, fun w hSw => by clear hSw; go_simp⟩) h2 ?_
  try simp only [Act.put, List.setIfInBounds_toArray, List.set_cons_zero, List.set_cons_succ, List.getElem_toArray, List.getElem_cons_succ, List.getElem_cons_zero]
  have HV7 : Hid (RdI B sb pb fr t (pl + 3) E la lk tg ps pa pk pt qa qk W7 ∧ Below B w W7) := ⟨HV.out.1.later h2, HV.out.2.trans (HBl.out _ _ (by have := HV.out.1.lt; have := HV.out.1.ge; omega) h2)⟩
  clear h2 HV HC
  obtain ⟨⟨_, _, _, f3⟩, ⟨f4, _⟩, fz⟩ := HV7.out.1.cells
  have z3 := fz 3
  have z4 := fz 4
  clear fz
  refine wpAnyZ_ready (rs := [15]) (by kernel_rfl) (by simp) ?_
  refine AllReadyZ.cons rfl (fun K hK => ?_) AllReadyZ.nil
  go_simp
  refine hK.out _ _ (Or.inl rfl) (fun _ => ?_)
  clear hK K
  try simp only [Act.put, List.setIfInBounds_toArray, List.set_cons_zero, List.set_cons_succ, List.getElem_toArray, List.getElem_cons_succ, List.getElem_cons_zero]
  refine wpAnyZ_done (by kernel_rfl) ?_ _
  clear f3 f4 z3 z4
  have HEnd : Hid ((∃ pb', RdI B sb pb' true t (pl + 3) E la lk (t.extract pl (pl + 3)) [] none 0 pt qa qk ((W7.setCell ⟨sb, 3, none⟩ (.string tg')).setCell ⟨sb, 4, none⟩ (.slice none 0 0))) ∧ Below B w ((W7.setCell ⟨sb, 3, none⟩ (.string tg')).setCell ⟨sb, 4, none⟩ (.slice none 0 0))) := by
    have k := HV7.out.1.setTag tg'
    rw [HTG.out] at k ⊢
    exact ⟨⟨_, k.1⟩, HV7.out.2.trans k.2⟩
  clear HV7
  go_wp2
  go_ret
  exact TgA.none' HE.out HEnd.out.1 HEnd.out.2
end
end Go.Proofs.Ytjnlghngneonhaa
