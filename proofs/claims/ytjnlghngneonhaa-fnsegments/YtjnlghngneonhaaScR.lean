/-
  The program's ReadSegments, for every text.
-/
import Derived.Test.YtjnlghngneonhaaScS
namespace Go.Proofs.Ytjnlghngneonhaa
open Go.ChangeShapes Go.WideShapes Go.ChangeAt Go.RowKit Go.Joins Go.Deep
set_option linter.unusedVariables false

/-- What ReadSegments tells: a code, a place, a list of its own whose parts are its own. -/
def AnsRd (w : World) (r : Int × Nat × List CSg) (e : Ending) (w' : World) : Prop :=
  ∃ (E : List SgE) (la : Option Addr) (lk : Nat), e = .returned (.tuple #[.slice la E.length lk, .int .i64 r.1, .int .i64 (r.2.1 : Int)]) ∧ r.2.2 = E.map (·.c) ∧ w'.ownsRow w.heap.size 43 2 (.slice la E.length lk) E.length (sgV E) ∧ (∀ e ∈ E, w'.ownsRow w.heap.size 9 1 e.row e.c.ps.length (strV e.c.ps)) ∧ (E.Pairwise fun e e' => ∀ q, e.row.ownBlock = some q → e'.row.ownBlock ≠ some q) ∧ Below w.heap.size w w'
theorem AnsRd.none' {w w' : World} {c : Int} {p : Nat} {x : Int} (hx : x = (p : Int)) (hb : Below w.heap.size w w') : AnsRd w (c, p, []) (.returned (.tuple #[.slice none 0 0, .int .i64 c, .int .i64 x])) w' :=
  ⟨[], none, 0, by rw [hx]; rfl, rfl, row_nil _ _ _ _, fun e he => (by cases he), List.Pairwise.nil, hb⟩
/-- Where a run ends well it tells no place. -/
theorem run_ok (t : ByteArray) : ∀ (n : Nat) (s : RdS), (rdRun t n s).1 = 0 → (rdRun t n s).2.1 = 0 := by
  intro n
  induction n with
  | zero => intro s _; rfl
  | succ n ih =>
    intro s
    unfold rdRun
    cases hs : rdStep t s with
    | inr s' => exact ih s'
    | inl r =>
      intro h0
      dsimp only at h0 ⊢
      unfold rdStep at hs
      dsimp only at hs
      repeat' split at hs
      all_goals first
        | (simp at hs; done)
        | (injection hs with hs; subst hs; first | rfl | (simp at h0))
theorem sz_ways (t : ByteArray) : (65536 < t.size ∧ rsgR t = (2, 0, [])) ∨ (t.size ≤ 65536 ∧ rsgR t = rdEnd t ⟨0, 0, [], ByteArray.empty, [], []⟩) := by
  unfold rsgR
  by_cases h : 65536 < t.size
  · exact .inl ⟨h, if_pos h⟩
  · exact .inr ⟨by omega, if_neg h⟩
set_option maxHeartbeats 4000000 in
theorem implRead_any (t : ByteArray) (ht : t.size ≤ 100000000) (w : World) :
    Calls Try.prog 9 #[.string t] w (AnsRd w (rsgR t)) := by
  rcases sz_ways t with ⟨h, e⟩ | ⟨h, e⟩
  · rw [e]
    have l1 : (65536 : Int) < (t.size : Int) := by omega
    go_enter Try.func9, Try.ntmps9
    go_wp2
    go_ret3
    exact AnsRd.none' rfl (Below.refl _ _)
  · have l1 : ¬ (65536 : Int) < (t.size : Int) := by omega
    obtain ⟨fin, hfin⟩ : ∃ fin, rdEnd t ⟨0, 0, [], ByteArray.empty, [], []⟩ = fin := ⟨_, rfl⟩
    have HOK : Hid (fin.1 = 0 → fin.2.1 = 0) := by
      show _ → _
      rw [← hfin]; exact run_ok t _ _
    rw [e, hfin]
    clear e
    obtain ⟨V, hV⟩ : ∃ V, V = w.alloc (Obj.cells #[.string t, .int .i64 0, .slice none 0 0, .string ⟨#[]⟩, .slice none 0 0, .slice none 0 0] 47) := ⟨_, rfl⟩
    obtain ⟨sb, hsb⟩ : ∃ sb, sb = w.heap.size := ⟨_, rfl⟩
    have HJ : Hid (∃ m0, RdJ w.heap.size sb t fin V 0 m0 V) := by
      refine ⟨_, V.heap.size, false, 0, [], none, 0, ByteArray.empty, [], none, 0, [], none, 0, ⟨Nat.zero_le _, by simp, fun _ => by simp, by simp, fun _ => by simp, by simp, fun _ => rfl⟩, fun e => absurd rfl e, rfl, hfin, ⟨?_, row_nil _ _ _ _, row_nil _ _ _ _, row_nil _ _ _ _, fun e he => (by cases he), fun e => (by cases e), List.Pairwise.nil, ?_⟩, Below.refl _ _⟩
      · rw [hV, hsb]; exact heapNew w _
      · rw [hV, hsb]; refine ⟨Nat.le_refl _, by simp, Nat.le_refl _⟩
    have HV : Hid (V = w.alloc (Obj.cells #[.string t, .int .i64 0, .slice none 0 0, .string ⟨#[]⟩, .slice none 0 0, .slice none 0 0] 47) ∧ sb = w.heap.size) := ⟨hV, hsb⟩
    have HVb : Hid (Below w.heap.size w V) := by show Below _ _ _; rw [hV]; exact below_alloc _ _
    clear hV hsb hfin
    go_enter Try.func9, Try.ntmps9
    go_wp2_with fail
    (first | go_at_call 23 | skip)
    rw [← HV.out.1, ← HV.out.2]
    obtain ⟨m0, hJ⟩ := HJ.out
    refine (scan_any h V m0 hJ).mono ?_
    rintro e W1 ⟨rfl, hb1, pb, fr, pl, E, la, lk, tg, ps, pa, pk, pt, qa, qk, hr, hpl, hE, hg, hbad⟩
    clear hJ HJ
    have HR : Hid (RdI w.heap.size sb pb fr t pl E la lk tg ps pa pk pt qa qk W1 ∧ Below w.heap.size w W1) := ⟨hr, HVb.out.trans hb1⟩
    clear hr hb1 HV HVb
    obtain ⟨c, p, L⟩ := fin
    dsimp only at *
    by_cases hc : c = 0
    · subst hc
      obtain rfl := HOK.out rfl
      have hL := hg rfl
      clear hg hbad HOK
      obtain ⟨⟨_, _, f2, _⟩, _, _⟩ := HR.out.1.cells
      go_wp2_with fail
      go_ret3
      exact ⟨E, la, lk, rfl, hL, HR.out.1.rowL, HR.out.1.old, HR.out.1.dst, HR.out.2⟩
    · obtain ⟨rfl, rfl⟩ := hbad hc
      have hcb : (c != 0) = true := by simp [hc]
      clear hg hbad HOK
      obtain ⟨⟨_, f1, _, _⟩, _, _⟩ := HR.out.1.cells
      go_upto_region 6 with fail
      have hH : Below W1.heap.size W1 W1.drew := below_drew _
      have HC : Hid (∀ X, Below W1.heap.size W1 X → X.cell? ⟨sb, 1, none⟩ = some (.int .i64 (p : Int))) := fun X hX => (HR.out.1.later hX).cells.1.2.1
      clear f1
      refine wp_region_held_drew (S := fun W' => Below W1.heap.size W1 W') (by kernel_rfl) hH (fun hH => ?_)
      refine wpAnyH_take (i := 0) (v := .int .i64 c) rfl (by kernel_rfl) (by kernel_rfl) (by kernel_rfl) (fun _ _ _ h => h) (Or.inl ⟨by rfl, fun w hSw => by clear hSw; go_simp⟩) hH ?_
      refine wpAnyH_take (i := 1) (v := .pointer (some ⟨sb, 1, none⟩)) rfl (by kernel_rfl) (by kernel_rfl) (by kernel_rfl) (fun _ _ _ h => h) (Or.inl ⟨by rfl, fun w hSw => by clear hSw; go_simp⟩) hH ?_
      try simp only [Act.put, List.setIfInBounds_toArray, List.set_cons_zero, List.set_cons_succ, List.getElem_toArray, List.getElem_cons_succ, List.getElem_cons_zero]
      refine wpAnyH_take (i := 2) (v := .int .i64 (p : Int)) rfl (by kernel_rfl) (by kernel_rfl) (by kernel_rfl) (fun _ _ _ h => h) (Or.inl ⟨by rfl, fun w hSw => by have f0 := HC.out w hSw; clear hSw; go_simp⟩) hH ?_
      try simp only [Act.put, List.setIfInBounds_toArray, List.set_cons_zero, List.set_cons_succ, List.getElem_toArray, List.getElem_cons_succ, List.getElem_cons_zero]
      refine wpAnyH_take (i := 3) (v := .slice none 0 0) rfl (by kernel_rfl) (by kernel_rfl) (by kernel_rfl) (fun _ _ _ h => h) (Or.inl ⟨by rfl, fun w hSw => by clear hSw; go_simp⟩) hH ?_
      try simp only [Act.put, List.setIfInBounds_toArray, List.set_cons_zero, List.set_cons_succ, List.getElem_toArray, List.getElem_cons_succ, List.getElem_cons_zero]
      refine wpAnyH_take (i := 4) (v := .int .i64 c) rfl (by kernel_rfl) (by kernel_rfl) (by kernel_rfl) (fun _ _ _ h => h) (Or.inl ⟨by rfl, fun w hSw => by clear hSw; go_simp⟩) hH ?_
      try simp only [Act.put, List.setIfInBounds_toArray, List.set_cons_zero, List.set_cons_succ, List.getElem_toArray, List.getElem_cons_succ, List.getElem_cons_zero]
      refine wpAnyH_take (i := 5) (v := .int .i64 (p : Int)) rfl (by kernel_rfl) (by kernel_rfl) (by kernel_rfl) (fun _ _ _ h => h) (Or.inl ⟨by rfl, fun w hSw => by clear hSw; go_simp⟩) hH ?_
      try simp only [Act.put, List.setIfInBounds_toArray, List.set_cons_zero, List.set_cons_succ, List.getElem_toArray, List.getElem_cons_succ, List.getElem_cons_zero]
      refine wpAnyH_done (by kernel_rfl) ?_ _
      go_wp2
      go_ret3
      exact AnsRd.none' rfl (HR.out.2.trans (hH.mono (by have := HR.out.1.lt; have := HR.out.1.ge; omega)))
end Go.Proofs.Ytjnlghngneonhaa
