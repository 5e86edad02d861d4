/-
  The scanner's small methods: the next byte, a byte taken, a part at its end, a segment at its end.
-/
import Derived.Test.YtjnlghngneonhaaScW
import Derived.Test.YtjnlghngneonhaaSbC
import Derived.Test.YtjnlghngneonhaaRegZ
import Derived.Deep.AppendLies
namespace Go.Proofs.Ytjnlghngneonhaa
open Go.ChangeShapes Go.WideShapes Go.ChangeAt Go.RowKit Go.Joins Go.Deep
set_option linter.unusedVariables false

theorem segInfo : (Try.prog.info? 43).map (fun i => (i.zero, i.size, i.bytes)) = some (some (.agg #[.string ⟨#[]⟩, .slice none 0 0]), 2, 40) := by kernel_rfl
/-- What the next byte is, -1 at the end. -/
def nxB (t : ByteArray) (pl : Nat) : Int := if pl < t.size then (byL t).getD pl 0 else -1
section
variable {B sb pb : Nat} {fr : Bool} {t : ByteArray} {pl : Nat} {E : List SgE} {la : Option Addr} {lk : Nat} {tg : ByteArray} {ps : List ByteArray} {pa : Option Addr} {pk : Nat} {pt : List Int} {qa : Option Addr} {qk : Nat}
set_option maxHeartbeats 2000000 in
theorem scNext_any (hz : t.size ≤ 65536) (hp : pl ≤ t.size) (w : World) (h : RdI B sb (pb) fr t (pl) (E) (la) (lk) (tg) (ps) (pa) (pk) (pt) (qa) (qk) w) :
    Calls Try.prog 39 #[.pointer (some ⟨sb, 0, none⟩)] w fun e w' => e = .returned (.int .i64 (nxB t pl)) ∧ RdI B sb (pb) fr t (pl) (E) (la) (lk) (tg) (ps) (pa) (pk) (pt) (qa) (qk) w' ∧ Below w.heap.size w w' := by
  have HI : Hid (RdI B sb (pb) fr t (pl) (E) (la) (lk) (tg) (ps) (pa) (pk) (pt) (qa) (qk) w) := h
  have HC : Hid (∀ X, Below w.heap.size w X → X.cell? ⟨sb, 0, none⟩ = some (.string t) ∧ X.cell? ⟨sb, 1, none⟩ = some (.int .i64 (pl : Int))) := fun X hX => ⟨(HI.out.later hX).cells.1.1, (HI.out.later hX).cells.1.2.1⟩
  clear h
  unfold nxB
  by_cases he : pl < t.size
  · rw [if_pos he]
    have e1 : ((pl : Int) == (t.size : Int)) = false := by simp; omega
    have hidx : ∀ w, (Instr.index 9 (.string t) (.int .i64 (pl : Int))).run Try.prog w = .ok (.int .u8 ((byL t).getD pl 0)) w := fun w => idx_any t pl he w
    obtain ⟨c0, c1⟩ := byL_range t pl
    generalize (byL t).getD pl 0 = c at *
    have hwc : IntKind.i64.wrap c = c := wrap_id _ (by omega) (by omega)
    obtain ⟨f0, f1⟩ := HC.out _ (Below.refl _ _)
    clear f0 f1
    go_enter Try.func39, Try.ntmps39
    go_upto_region 1 with fail
    refine wp_region_held_drew (S := fun W' => Below w.heap.size w W') (by kernel_rfl) (below_drew _) (fun hH => ?_)
    refine wpAnyH_take (i := 0) (v := .pointer (some ⟨sb, 0, none⟩)) rfl (by kernel_rfl) (by kernel_rfl) (by kernel_rfl) (fun _ _ _ h => h) (Or.inl ⟨by rfl, fun w hSw => by clear hSw; go_simp⟩) hH ?_
    refine wpAnyH_take (i := 1) (v := .pointer (some ⟨sb, 0, none⟩)) rfl (by kernel_rfl) (by kernel_rfl) (by kernel_rfl) (fun _ _ _ h => h) (Or.inl ⟨by rfl, fun w hSw => by clear hSw; go_simp⟩) hH ?_
    try simp only [Act.put, List.setIfInBounds_toArray, List.set_cons_zero, List.set_cons_succ, List.getElem_toArray, List.getElem_cons_succ, List.getElem_cons_zero]
    refine wpAnyH_take (i := 2) (v := .pointer (some ⟨sb, 1, none⟩)) rfl (by kernel_rfl) (by kernel_rfl) (by kernel_rfl) (fun _ _ _ h => h) (Or.inl ⟨by rfl, fun w hSw => by clear hSw; go_simp⟩) hH ?_
    try simp only [Act.put, List.setIfInBounds_toArray, List.set_cons_zero, List.set_cons_succ, List.getElem_toArray, List.getElem_cons_succ, List.getElem_cons_zero]
    refine wpAnyH_take (i := 3) (v := .int .i64 (pl : Int)) rfl (by kernel_rfl) (by kernel_rfl) (by kernel_rfl) (fun _ _ _ h => h) (Or.inl ⟨by rfl, fun w hSw => by have f0 := (HC.out w hSw).2; clear hSw; go_simp⟩) hH ?_
    try simp only [Act.put, List.setIfInBounds_toArray, List.set_cons_zero, List.set_cons_succ, List.getElem_toArray, List.getElem_cons_succ, List.getElem_cons_zero]
    refine wpAnyH_take (i := 4) (v := .pointer (some ⟨sb, 0, none⟩)) rfl (by kernel_rfl) (by kernel_rfl) (by kernel_rfl) (fun _ _ _ h => h) (Or.inl ⟨by rfl, fun w hSw => by clear hSw; go_simp⟩) hH ?_
    try simp only [Act.put, List.setIfInBounds_toArray, List.set_cons_zero, List.set_cons_succ, List.getElem_toArray, List.getElem_cons_succ, List.getElem_cons_zero]
    refine wpAnyH_take (i := 5) (v := .pointer (some ⟨sb, 0, none⟩)) rfl (by kernel_rfl) (by kernel_rfl) (by kernel_rfl) (fun _ _ _ h => h) (Or.inl ⟨by rfl, fun w hSw => by clear hSw; go_simp⟩) hH ?_
    try simp only [Act.put, List.setIfInBounds_toArray, List.set_cons_zero, List.set_cons_succ, List.getElem_toArray, List.getElem_cons_succ, List.getElem_cons_zero]
    refine wpAnyH_take (i := 6) (v := .pointer (some ⟨sb, 0, none⟩)) rfl (by kernel_rfl) (by kernel_rfl) (by kernel_rfl) (fun _ _ _ h => h) (Or.inl ⟨by rfl, fun w hSw => by clear hSw; go_simp⟩) hH ?_
    try simp only [Act.put, List.setIfInBounds_toArray, List.set_cons_zero, List.set_cons_succ, List.getElem_toArray, List.getElem_cons_succ, List.getElem_cons_zero]
    refine wpAnyH_take (i := 7) (v := .string t) rfl (by kernel_rfl) (by kernel_rfl) (by kernel_rfl) (fun _ _ _ h => h) (Or.inl ⟨by rfl, fun w hSw => by have f0 := (HC.out w hSw).1; clear hSw; go_simp⟩) hH ?_
    try simp only [Act.put, List.setIfInBounds_toArray, List.set_cons_zero, List.set_cons_succ, List.getElem_toArray, List.getElem_cons_succ, List.getElem_cons_zero]
    refine wpAnyH_take (i := 8) (v := .int .i64 (t.size : Int)) rfl (by kernel_rfl) (by kernel_rfl) (by kernel_rfl) (fun _ _ _ h => h) (Or.inl ⟨by rfl, fun w hSw => by clear hSw; go_simp⟩) hH ?_
    try simp only [Act.put, List.setIfInBounds_toArray, List.set_cons_zero, List.set_cons_succ, List.getElem_toArray, List.getElem_cons_succ, List.getElem_cons_zero]
    refine wpAnyH_take (i := 9) (v := .bool false) rfl (by kernel_rfl) (by kernel_rfl) (by kernel_rfl) (fun _ _ _ h => h) (Or.inl ⟨by rfl, fun w hSw => by clear hSw; go_simp⟩) hH ?_
    try simp only [Act.put, List.setIfInBounds_toArray, List.set_cons_zero, List.set_cons_succ, List.getElem_toArray, List.getElem_cons_succ, List.getElem_cons_zero]
    refine wpAnyH_done (by kernel_rfl) ?_ _
    clear hH
    go_upto_region 3 with fail
    refine wp_region_held_drew (S := fun W' => Below w.heap.size w W') (by kernel_rfl) (chain (below_drew _) (below_drew _)) (fun hH => ?_)
    refine wpAnyH_take (i := 0) (v := .pointer (some ⟨sb, 0, none⟩)) rfl (by kernel_rfl) (by kernel_rfl) (by kernel_rfl) (fun _ _ _ h => h) (Or.inl ⟨by rfl, fun w hSw => by clear hSw; go_simp⟩) hH ?_
    refine wpAnyH_take (i := 1) (v := .pointer (some ⟨sb, 0, none⟩)) rfl (by kernel_rfl) (by kernel_rfl) (by kernel_rfl) (fun _ _ _ h => h) (Or.inl ⟨by rfl, fun w hSw => by clear hSw; go_simp⟩) hH ?_
    try simp only [Act.put, List.setIfInBounds_toArray, List.set_cons_zero, List.set_cons_succ, List.getElem_toArray, List.getElem_cons_succ, List.getElem_cons_zero]
    refine wpAnyH_take (i := 2) (v := .pointer (some ⟨sb, 0, none⟩)) rfl (by kernel_rfl) (by kernel_rfl) (by kernel_rfl) (fun _ _ _ h => h) (Or.inl ⟨by rfl, fun w hSw => by clear hSw; go_simp⟩) hH ?_
    try simp only [Act.put, List.setIfInBounds_toArray, List.set_cons_zero, List.set_cons_succ, List.getElem_toArray, List.getElem_cons_succ, List.getElem_cons_zero]
    refine wpAnyH_take (i := 3) (v := .string t) rfl (by kernel_rfl) (by kernel_rfl) (by kernel_rfl) (fun _ _ _ h => h) (Or.inl ⟨by rfl, fun w hSw => by have f0 := (HC.out w hSw).1; clear hSw; go_simp⟩) hH ?_
    try simp only [Act.put, List.setIfInBounds_toArray, List.set_cons_zero, List.set_cons_succ, List.getElem_toArray, List.getElem_cons_succ, List.getElem_cons_zero]
    refine wpAnyH_take (i := 4) (v := .pointer (some ⟨sb, 0, none⟩)) rfl (by kernel_rfl) (by kernel_rfl) (by kernel_rfl) (fun _ _ _ h => h) (Or.inl ⟨by rfl, fun w hSw => by clear hSw; go_simp⟩) hH ?_
    try simp only [Act.put, List.setIfInBounds_toArray, List.set_cons_zero, List.set_cons_succ, List.getElem_toArray, List.getElem_cons_succ, List.getElem_cons_zero]
    refine wpAnyH_take (i := 5) (v := .pointer (some ⟨sb, 0, none⟩)) rfl (by kernel_rfl) (by kernel_rfl) (by kernel_rfl) (fun _ _ _ h => h) (Or.inl ⟨by rfl, fun w hSw => by clear hSw; go_simp⟩) hH ?_
    try simp only [Act.put, List.setIfInBounds_toArray, List.set_cons_zero, List.set_cons_succ, List.getElem_toArray, List.getElem_cons_succ, List.getElem_cons_zero]
    refine wpAnyH_take (i := 6) (v := .pointer (some ⟨sb, 1, none⟩)) rfl (by kernel_rfl) (by kernel_rfl) (by kernel_rfl) (fun _ _ _ h => h) (Or.inl ⟨by rfl, fun w hSw => by clear hSw; go_simp⟩) hH ?_
    try simp only [Act.put, List.setIfInBounds_toArray, List.set_cons_zero, List.set_cons_succ, List.getElem_toArray, List.getElem_cons_succ, List.getElem_cons_zero]
    refine wpAnyH_take (i := 7) (v := .int .i64 (pl : Int)) rfl (by kernel_rfl) (by kernel_rfl) (by kernel_rfl) (fun _ _ _ h => h) (Or.inl ⟨by rfl, fun w hSw => by have f0 := (HC.out w hSw).2; clear hSw; go_simp⟩) hH ?_
    try simp only [Act.put, List.setIfInBounds_toArray, List.set_cons_zero, List.set_cons_succ, List.getElem_toArray, List.getElem_cons_succ, List.getElem_cons_zero]
    refine wpAnyH_take (i := 8) (v := .int .u8 c) rfl (by kernel_rfl) (by kernel_rfl) (by kernel_rfl) (fun _ _ _ h => h) (Or.inl ⟨by rfl, fun w hSw => by clear hSw; go_simp⟩) hH ?_
    try simp only [Act.put, List.setIfInBounds_toArray, List.set_cons_zero, List.set_cons_succ, List.getElem_toArray, List.getElem_cons_succ, List.getElem_cons_zero]
    refine wpAnyH_take (i := 9) (v := .int .i64 c) rfl (by kernel_rfl) (by kernel_rfl) (by kernel_rfl) (fun _ _ _ h => h) (Or.inl ⟨by rfl, fun w hSw => by clear hSw; go_simp⟩) hH ?_
    try simp only [Act.put, List.setIfInBounds_toArray, List.set_cons_zero, List.set_cons_succ, List.getElem_toArray, List.getElem_cons_succ, List.getElem_cons_zero]
    refine wpAnyH_take (i := 10) (v := .int .i64 c) rfl (by kernel_rfl) (by kernel_rfl) (by kernel_rfl) (fun _ _ _ h => h) (Or.inl ⟨by rfl, fun w hSw => by clear hSw; go_simp⟩) hH ?_
    try simp only [Act.put, List.setIfInBounds_toArray, List.set_cons_zero, List.set_cons_succ, List.getElem_toArray, List.getElem_cons_succ, List.getElem_cons_zero]
    refine wpAnyH_done (by kernel_rfl) ?_ _
    go_wp2
    go_ret
    exact ⟨rfl, HI.out.later hH, hH⟩
  · rw [if_neg he]
    have e1 : ((pl : Int) == (t.size : Int)) = true := by simp; omega
    go_enter Try.func39, Try.ntmps39
    go_upto_region 1 with fail
    refine wp_region_held_drew (S := fun W' => Below w.heap.size w W') (by kernel_rfl) (below_drew _) (fun hH => ?_)
    refine wpAnyH_take (i := 0) (v := .pointer (some ⟨sb, 0, none⟩)) rfl (by kernel_rfl) (by kernel_rfl) (by kernel_rfl) (fun _ _ _ h => h) (Or.inl ⟨by rfl, fun w hSw => by clear hSw; go_simp⟩) hH ?_
    refine wpAnyH_take (i := 1) (v := .pointer (some ⟨sb, 0, none⟩)) rfl (by kernel_rfl) (by kernel_rfl) (by kernel_rfl) (fun _ _ _ h => h) (Or.inl ⟨by rfl, fun w hSw => by clear hSw; go_simp⟩) hH ?_
    try simp only [Act.put, List.setIfInBounds_toArray, List.set_cons_zero, List.set_cons_succ, List.getElem_toArray, List.getElem_cons_succ, List.getElem_cons_zero]
    refine wpAnyH_take (i := 2) (v := .pointer (some ⟨sb, 1, none⟩)) rfl (by kernel_rfl) (by kernel_rfl) (by kernel_rfl) (fun _ _ _ h => h) (Or.inl ⟨by rfl, fun w hSw => by clear hSw; go_simp⟩) hH ?_
    try simp only [Act.put, List.setIfInBounds_toArray, List.set_cons_zero, List.set_cons_succ, List.getElem_toArray, List.getElem_cons_succ, List.getElem_cons_zero]
    refine wpAnyH_take (i := 3) (v := .int .i64 (pl : Int)) rfl (by kernel_rfl) (by kernel_rfl) (by kernel_rfl) (fun _ _ _ h => h) (Or.inl ⟨by rfl, fun w hSw => by have f0 := (HC.out w hSw).2; clear hSw; go_simp⟩) hH ?_
    try simp only [Act.put, List.setIfInBounds_toArray, List.set_cons_zero, List.set_cons_succ, List.getElem_toArray, List.getElem_cons_succ, List.getElem_cons_zero]
    refine wpAnyH_take (i := 4) (v := .pointer (some ⟨sb, 0, none⟩)) rfl (by kernel_rfl) (by kernel_rfl) (by kernel_rfl) (fun _ _ _ h => h) (Or.inl ⟨by rfl, fun w hSw => by clear hSw; go_simp⟩) hH ?_
    try simp only [Act.put, List.setIfInBounds_toArray, List.set_cons_zero, List.set_cons_succ, List.getElem_toArray, List.getElem_cons_succ, List.getElem_cons_zero]
    refine wpAnyH_take (i := 5) (v := .pointer (some ⟨sb, 0, none⟩)) rfl (by kernel_rfl) (by kernel_rfl) (by kernel_rfl) (fun _ _ _ h => h) (Or.inl ⟨by rfl, fun w hSw => by clear hSw; go_simp⟩) hH ?_
    try simp only [Act.put, List.setIfInBounds_toArray, List.set_cons_zero, List.set_cons_succ, List.getElem_toArray, List.getElem_cons_succ, List.getElem_cons_zero]
    refine wpAnyH_take (i := 6) (v := .pointer (some ⟨sb, 0, none⟩)) rfl (by kernel_rfl) (by kernel_rfl) (by kernel_rfl) (fun _ _ _ h => h) (Or.inl ⟨by rfl, fun w hSw => by clear hSw; go_simp⟩) hH ?_
    try simp only [Act.put, List.setIfInBounds_toArray, List.set_cons_zero, List.set_cons_succ, List.getElem_toArray, List.getElem_cons_succ, List.getElem_cons_zero]
    refine wpAnyH_take (i := 7) (v := .string t) rfl (by kernel_rfl) (by kernel_rfl) (by kernel_rfl) (fun _ _ _ h => h) (Or.inl ⟨by rfl, fun w hSw => by have f0 := (HC.out w hSw).1; clear hSw; go_simp⟩) hH ?_
    try simp only [Act.put, List.setIfInBounds_toArray, List.set_cons_zero, List.set_cons_succ, List.getElem_toArray, List.getElem_cons_succ, List.getElem_cons_zero]
    refine wpAnyH_take (i := 8) (v := .int .i64 (t.size : Int)) rfl (by kernel_rfl) (by kernel_rfl) (by kernel_rfl) (fun _ _ _ h => h) (Or.inl ⟨by rfl, fun w hSw => by clear hSw; go_simp⟩) hH ?_
    try simp only [Act.put, List.setIfInBounds_toArray, List.set_cons_zero, List.set_cons_succ, List.getElem_toArray, List.getElem_cons_succ, List.getElem_cons_zero]
    refine wpAnyH_take (i := 9) (v := .bool true) rfl (by kernel_rfl) (by kernel_rfl) (by kernel_rfl) (fun _ _ _ h => h) (Or.inl ⟨by rfl, fun w hSw => by clear hSw; go_simp⟩) hH ?_
    try simp only [Act.put, List.setIfInBounds_toArray, List.set_cons_zero, List.set_cons_succ, List.getElem_toArray, List.getElem_cons_succ, List.getElem_cons_zero]
    refine wpAnyH_done (by kernel_rfl) ?_ _
    go_wp2
    go_ret
    exact ⟨rfl, HI.out.later hH, hH⟩
set_option maxHeartbeats 4000000 in
set_option maxRecDepth 4000 in
theorem takeByte_any (hz : t.size ≤ 65536) (hp : pl < t.size) (hq : pt.length ≤ 79) (w : World) (h : RdI B sb (pb) fr t (pl) (E) (la) (lk) (tg) (ps) (pa) (pk) (pt) (qa) (qk) w) :
    Calls Try.prog 44 #[.pointer (some ⟨sb, 0, none⟩)] w fun e w' => e = .returned (.tuple #[]) ∧ (∃ qa' qk', RdI B sb (pb) fr t (pl + 1) (E) (la) (lk) (tg) (ps) (pa) (pk) (pt ++ [(byL t).getD pl 0]) (qa') (qk') w') ∧ Below B w w' := by
  have HI : Hid (RdI B sb (pb) fr t (pl) (E) (la) (lk) (tg) (ps) (pa) (pk) (pt) (qa) (qk) w) := h
  clear h
  have hidx : ∀ w, (Instr.index 9 (.string t) (.int .i64 (pl : Int))).run Try.prog w = .ok (.int .u8 ((byL t).getD pl 0)) w := fun w => idx_any t pl hp w
  obtain ⟨c0, c1⟩ := byL_range t pl
  generalize (byL t).getD pl 0 = c at *
  obtain ⟨i0, hi, hzz⟩ := Option.map_eq_some_iff.1 u8Info
  simp only [Prod.mk.injEq] at hzz
  obtain ⟨hi0, hi1, hi2⟩ := hzz
  go_enter Try.func44, Try.ntmps44
  go_upto_region 0 with fail
  obtain ⟨V, hV⟩ : ∃ V, V = w.drew := ⟨_, rfl⟩
  have HV : Hid (RdI B sb (pb) fr t (pl) (E) (la) (lk) (tg) (ps) (pa) (pk) (pt) (qa) (qk) V ∧ Below B w V) := by
    show _ ∧ _
    rw [hV]; exact ⟨HI.out.later (below_drew _), (below_drew w).mono (by have := HI.out.lt; have := HI.out.ge; omega)⟩
  refine wp_region_z (S := fun W' => W'.cell? ⟨sb, 0, none⟩ = some (.string t) ∧ W'.cell? ⟨sb, 1, none⟩ = some (.int .i64 (pl : Int)) ∧ W'.cell? ⟨sb, 5, none⟩ = some (.slice qa pt.length qk)) 18 (by kernel_rfl) (by rw [← hV]; exact ⟨HV.out.1.cells.1.1, HV.out.1.cells.1.2.1, HV.out.1.cells.2.1.2⟩) (fun hH => ?_)
  rw [← hV] at hH ⊢
  clear hV HI
  refine wpAnyZ_take (i := 0) (v := .pointer (some ⟨sb, 0, none⟩)) rfl (by kernel_rfl) (by kernel_rfl) (by kernel_rfl) (by kernel_rfl) (fun _ _ _ h => h) (Or.inl ⟨by rfl, fun w hSw => by clear hSw; go_simp⟩) hH ?_
  refine wpAnyZ_take (i := 1) (v := .pointer (some ⟨sb, 0, none⟩)) rfl (by kernel_rfl) (by kernel_rfl) (by kernel_rfl) (by kernel_rfl) (fun _ _ _ h => h) (Or.inl ⟨by rfl, fun w hSw => by clear hSw; go_simp⟩) hH ?_
  try simp only [Act.put, List.setIfInBounds_toArray, List.set_cons_zero, List.set_cons_succ, List.getElem_toArray, List.getElem_cons_succ, List.getElem_cons_zero]
  refine wpAnyZ_take (i := 2) (v := .pointer (some ⟨sb, 0, none⟩)) rfl (by kernel_rfl) (by kernel_rfl) (by kernel_rfl) (by kernel_rfl) (fun _ _ _ h => h) (Or.inl ⟨by rfl, fun w hSw => by clear hSw; go_simp⟩) hH ?_
  try simp only [Act.put, List.setIfInBounds_toArray, List.set_cons_zero, List.set_cons_succ, List.getElem_toArray, List.getElem_cons_succ, List.getElem_cons_zero]
  refine wpAnyZ_take (i := 3) (v := .pointer (some ⟨sb, 5, none⟩)) rfl (by kernel_rfl) (by kernel_rfl) (by kernel_rfl) (by kernel_rfl) (fun _ _ _ h => h) (Or.inl ⟨by rfl, fun w hSw => by clear hSw; go_simp⟩) hH ?_
  try simp only [Act.put, List.setIfInBounds_toArray, List.set_cons_zero, List.set_cons_succ, List.getElem_toArray, List.getElem_cons_succ, List.getElem_cons_zero]
  refine wpAnyZ_take (i := 4) (v := .slice qa pt.length qk) rfl (by kernel_rfl) (by kernel_rfl) (by kernel_rfl) (by kernel_rfl) (fun _ _ _ h => h) (Or.inl ⟨by rfl, fun w hSw => by have f0 := hSw.2.2; clear hSw; go_simp⟩) hH ?_
  try simp only [Act.put, List.setIfInBounds_toArray, List.set_cons_zero, List.set_cons_succ, List.getElem_toArray, List.getElem_cons_succ, List.getElem_cons_zero]
  refine wpAnyZ_take (i := 5) (v := .pointer (some ⟨sb, 0, none⟩)) rfl (by kernel_rfl) (by kernel_rfl) (by kernel_rfl) (by kernel_rfl) (fun _ _ _ h => h) (Or.inl ⟨by rfl, fun w hSw => by clear hSw; go_simp⟩) hH ?_
  try simp only [Act.put, List.setIfInBounds_toArray, List.set_cons_zero, List.set_cons_succ, List.getElem_toArray, List.getElem_cons_succ, List.getElem_cons_zero]
  refine wpAnyZ_take (i := 6) (v := .pointer (some ⟨sb, 0, none⟩)) rfl (by kernel_rfl) (by kernel_rfl) (by kernel_rfl) (by kernel_rfl) (fun _ _ _ h => h) (Or.inl ⟨by rfl, fun w hSw => by clear hSw; go_simp⟩) hH ?_
  try simp only [Act.put, List.setIfInBounds_toArray, List.set_cons_zero, List.set_cons_succ, List.getElem_toArray, List.getElem_cons_succ, List.getElem_cons_zero]
  refine wpAnyZ_take (i := 7) (v := .pointer (some ⟨sb, 0, none⟩)) rfl (by kernel_rfl) (by kernel_rfl) (by kernel_rfl) (by kernel_rfl) (fun _ _ _ h => h) (Or.inl ⟨by rfl, fun w hSw => by clear hSw; go_simp⟩) hH ?_
  try simp only [Act.put, List.setIfInBounds_toArray, List.set_cons_zero, List.set_cons_succ, List.getElem_toArray, List.getElem_cons_succ, List.getElem_cons_zero]
  refine wpAnyZ_take (i := 8) (v := .string t) rfl (by kernel_rfl) (by kernel_rfl) (by kernel_rfl) (by kernel_rfl) (fun _ _ _ h => h) (Or.inl ⟨by rfl, fun w hSw => by have f0 := hSw.1; clear hSw; go_simp⟩) hH ?_
  try simp only [Act.put, List.setIfInBounds_toArray, List.set_cons_zero, List.set_cons_succ, List.getElem_toArray, List.getElem_cons_succ, List.getElem_cons_zero]
  refine wpAnyZ_take (i := 9) (v := .pointer (some ⟨sb, 0, none⟩)) rfl (by kernel_rfl) (by kernel_rfl) (by kernel_rfl) (by kernel_rfl) (fun _ _ _ h => h) (Or.inl ⟨by rfl, fun w hSw => by clear hSw; go_simp⟩) hH ?_
  try simp only [Act.put, List.setIfInBounds_toArray, List.set_cons_zero, List.set_cons_succ, List.getElem_toArray, List.getElem_cons_succ, List.getElem_cons_zero]
  refine wpAnyZ_take (i := 10) (v := .pointer (some ⟨sb, 0, none⟩)) rfl (by kernel_rfl) (by kernel_rfl) (by kernel_rfl) (by kernel_rfl) (fun _ _ _ h => h) (Or.inl ⟨by rfl, fun w hSw => by clear hSw; go_simp⟩) hH ?_
  try simp only [Act.put, List.setIfInBounds_toArray, List.set_cons_zero, List.set_cons_succ, List.getElem_toArray, List.getElem_cons_succ, List.getElem_cons_zero]
  refine wpAnyZ_take (i := 11) (v := .pointer (some ⟨sb, 1, none⟩)) rfl (by kernel_rfl) (by kernel_rfl) (by kernel_rfl) (by kernel_rfl) (fun _ _ _ h => h) (Or.inl ⟨by rfl, fun w hSw => by clear hSw; go_simp⟩) hH ?_
  try simp only [Act.put, List.setIfInBounds_toArray, List.set_cons_zero, List.set_cons_succ, List.getElem_toArray, List.getElem_cons_succ, List.getElem_cons_zero]
  refine wpAnyZ_take (i := 12) (v := .int .i64 (pl : Int)) rfl (by kernel_rfl) (by kernel_rfl) (by kernel_rfl) (by kernel_rfl) (fun _ _ _ h => h) (Or.inl ⟨by rfl, fun w hSw => by have f0 := hSw.2.1; clear hSw; go_simp⟩) hH ?_
  try simp only [Act.put, List.setIfInBounds_toArray, List.set_cons_zero, List.set_cons_succ, List.getElem_toArray, List.getElem_cons_succ, List.getElem_cons_zero]
  refine wpAnyZ_take (i := 13) (v := .int .u8 c) rfl (by kernel_rfl) (by kernel_rfl) (by kernel_rfl) (by kernel_rfl) (fun _ _ _ h => h) (Or.inl ⟨by rfl, fun w hSw => by clear hSw; go_simp⟩) hH ?_
  try simp only [Act.put, List.setIfInBounds_toArray, List.set_cons_zero, List.set_cons_succ, List.getElem_toArray, List.getElem_cons_succ, List.getElem_cons_zero]
  refine wpAnyZ_ready (rs := [14]) (by kernel_rfl) (by simp) ?_
  refine AllReadyZ.cons rfl (fun K hK => ?_) AllReadyZ.nil
  go_simp
  obtain ⟨V5, hV5⟩ : ∃ V5, V5 = V.alloc (Obj.cells #[.int .u8 c] 5) := ⟨_, rfl⟩
  obtain ⟨n5, hn5⟩ : ∃ n5, n5 = V.heap.size := ⟨_, rfl⟩
  rw [← hV5, ← hn5]
  have HI5 : Hid (RdI B sb (pb) fr t (pl) (E) (la) (lk) (tg) (ps) (pa) (pk) (pt) (qa) (qk) V5 ∧ V5.heap[n5]? = some (.cells #[.int .u8 c] 5 (0, 0)) ∧ Below B w V5) := by
    show _ ∧ _ ∧ _
    rw [hV5, hn5]; exact ⟨HV.out.1.later (below_alloc _ _), heapNew _ _, HV.out.2.trans ((below_alloc _ _).mono (by have := HV.out.1.lt; have := HV.out.1.ge; omega))⟩
  clear hV5 hn5 HV hH
  have hH5 : V5.cell? ⟨sb, 0, none⟩ = some (.string t) ∧ V5.cell? ⟨sb, 1, none⟩ = some (.int .i64 (pl : Int)) ∧ V5.cell? ⟨sb, 5, none⟩ = some (.slice qa pt.length qk) := ⟨HI5.out.1.cells.1.1, HI5.out.1.cells.1.2.1, HI5.out.1.cells.2.1.2⟩
  refine hK.out _ _ (Or.inr hH5) (fun _ => ?_)
  clear hK K
  try simp only [Act.put, List.setIfInBounds_toArray, List.set_cons_zero, List.set_cons_succ, List.getElem_toArray, List.getElem_cons_succ, List.getElem_cons_zero]
  refine wpAnyZ_ready (rs := [15]) (by kernel_rfl) (by simp) ?_
  refine AllReadyZ.cons rfl (fun K hK => ?_) AllReadyZ.nil
  refine step_append_lies _ rfl _ _ 22 rfl B 5 i0 (.int .u8 0) 1 1 Try.underlying22 hi hi0 hi1 hi2 rfl (by decide) (.slice qa pt.length qk) _ _ rfl HI5.out.1.rowQ ⟨n5, 0, none⟩ 1 1 [.int .u8 c] rfl rfl (World.news_of_block HI5.out.2.1) (by simp [Value.oneCell']) (by omega) (by unfold maxLen; omega) (by omega) (by have := HI5.out.1.lt; have := HI5.out.1.ge; omega) _ rfl ?_
  intro g1 c1' V6 hr1 hg _ _
  have HP : Hid (RdI B sb (pb) fr t (pl) (E) (la) (lk) (tg) (ps) (pa) (pk) (pt ++ [c]) (some ⟨g1, 0, none⟩) (c1') (V6.setCell ⟨sb, 5, none⟩ (.slice (some ⟨g1, 0, none⟩) (pt.length + 1) c1')) ∧ Below B V5 (V6.setCell ⟨sb, 5, none⟩ (.slice (some ⟨g1, 0, none⟩) (pt.length + 1) c1'))) := HI5.out.1.pushQ hr1 hg
  have hb6 : V6.heap[sb]? = V5.heap[sb]? := hg.block sb HI5.out.1.lt (fun e => HI5.out.1.off.2.2.1 sb e.symm rfl)
  have hH6 : V6.cell? ⟨sb, 0, none⟩ = some (.string t) ∧ V6.cell? ⟨sb, 1, none⟩ = some (.int .i64 (pl : Int)) ∧ V6.cell? ⟨sb, 5, none⟩ = some (.slice qa pt.length qk) := ⟨(World.cell?_of_block (w := V5) (a := ⟨sb, 0, none⟩) hb6).trans hH5.1, (World.cell?_of_block (w := V5) (a := ⟨sb, 1, none⟩) hb6).trans hH5.2.1, (World.cell?_of_block (w := V5) (a := ⟨sb, 5, none⟩) hb6).trans hH5.2.2⟩
  have hz6 := blkFree (hb6.trans HI5.out.1.box) 5
  have HLow : Hid (Below B w V5) := HI5.out.2.2
  clear hr1 hg hb6 HI5 hH5
  refine hK.out _ _ (Or.inr hH6) (fun _ => ?_)
  clear hK K
  try simp only [Act.put, List.setIfInBounds_toArray, List.set_cons_zero, List.set_cons_succ, List.getElem_toArray, List.getElem_cons_succ, List.getElem_cons_zero]
  refine wpAnyZ_take (i := 16) (v := .pointer (some ⟨sb, 0, none⟩)) rfl (by kernel_rfl) (by kernel_rfl) (by kernel_rfl) (by kernel_rfl) (fun _ _ _ h => h) (Or.inl ⟨by rfl, fun w hSw => by clear hSw; go_simp⟩) hH6 ?_
  try simp only [Act.put, List.setIfInBounds_toArray, List.set_cons_zero, List.set_cons_succ, List.getElem_toArray, List.getElem_cons_succ, List.getElem_cons_zero]
  refine wpAnyZ_take (i := 17) (v := .pointer (some ⟨sb, 5, none⟩)) rfl (by kernel_rfl) (by kernel_rfl) (by kernel_rfl) (by kernel_rfl) (fun _ _ _ h => h) (Or.inl ⟨by rfl, fun w hSw => by clear hSw; go_simp⟩) hH6 ?_
  try simp only [Act.put, List.setIfInBounds_toArray, List.set_cons_zero, List.set_cons_succ, List.getElem_toArray, List.getElem_cons_succ, List.getElem_cons_zero]
  have v1 := hH6.2.2
  refine wpAnyZ_ready (rs := [18]) (by kernel_rfl) (by simp) ?_
  refine AllReadyZ.cons rfl (fun K hK => ?_) AllReadyZ.nil
  go_simp
  refine hK.out _ _ (Or.inl rfl) (fun _ => ?_)
  clear hK K
  try simp only [Act.put, List.setIfInBounds_toArray, List.set_cons_zero, List.set_cons_succ, List.getElem_toArray, List.getElem_cons_succ, List.getElem_cons_zero]
  refine wpAnyZ_done (by kernel_rfl) ?_ _
  clear hH6 hz6 v1
  generalize V6.setCell ⟨sb, 5, none⟩ (.slice (some ⟨g1, 0, none⟩) (pt.length + 1) c1') = V7 at *
  obtain ⟨⟨_, f1, _, _⟩, _, fz⟩ := HP.out.1.cells
  have z1 := fz 1
  clear fz
  have HEnd : Hid ((∃ qa' qk', RdI B sb (pb) fr t (pl + 1) (E) (la) (lk) (tg) (ps) (pa) (pk) (pt ++ [c]) (qa') (qk') (V7.setCell ⟨sb, 1, none⟩ (.int .i64 ((pl : Int) + 1)))) ∧ Below B w (V7.setCell ⟨sb, 1, none⟩ (.int .i64 ((pl : Int) + 1)))) := by
    have k := HP.out.1.setPl (pl + 1)
    rw [show ((pl + 1 : Nat) : Int) = (pl : Int) + 1 by omega] at k
    exact ⟨⟨_, _, k.1⟩, (HLow.out.trans HP.out.2).trans k.2⟩
  clear HP HLow
  go_wp2
  go_end0
  exact ⟨rfl, HEnd.out⟩
set_option maxHeartbeats 4000000 in
set_option maxRecDepth 4000 in
theorem endPart_any (hq : ps.length ≤ 20) (w : World) (h : RdI B sb (pb) true t (pl) (E) (la) (lk) (tg) (ps) (pa) (pk) (pt) (qa) (qk) w) :
    Calls Try.prog 42 #[.pointer (some ⟨sb, 0, none⟩)] w fun e w' => e = .returned (.tuple #[]) ∧ (∃ pa' pk', RdI B sb (pb) true t (pl) (E) (la) (lk) (tg) (ps ++ [txL pt]) (pa') (pk') ([]) (none) (0) w') ∧ Below B w w' := by
  have HI : Hid (RdI B sb (pb) true t (pl) (E) (la) (lk) (tg) (ps) (pa) (pk) (pt) (qa) (qk) w) := h
  clear h
  obtain ⟨i0, hi, hzz⟩ := Option.map_eq_some_iff.1 strInfo
  simp only [Prod.mk.injEq] at hzz
  obtain ⟨hi0, hi1, hi2⟩ := hzz
  go_enter Try.func42, Try.ntmps42
  go_upto_region 0 with fail
  obtain ⟨V, hV⟩ : ∃ V, V = w.drew := ⟨_, rfl⟩
  have HV : Hid (RdI B sb (pb) true t (pl) (E) (la) (lk) (tg) (ps) (pa) (pk) (pt) (qa) (qk) V ∧ Below B w V) := by
    show _ ∧ _
    rw [hV]; exact ⟨HI.out.later (below_drew _), (below_drew w).mono (by have := HI.out.lt; have := HI.out.ge; omega)⟩
  refine wp_region_z (S := fun W' => W'.cell? ⟨sb, 4, none⟩ = some (.slice pa ps.length pk) ∧ W'.cell? ⟨sb, 5, none⟩ = some (.slice qa pt.length qk) ∧ W'.ownsRow B 5 1 (.slice qa pt.length qk) pt.length (bytV pt)) 16 (by kernel_rfl) (by rw [← hV]; exact ⟨HV.out.1.cells.2.1.1, HV.out.1.cells.2.1.2, HV.out.1.rowQ⟩) (fun hH => ?_)
  rw [← hV] at hH ⊢
  clear hV HI
  refine wpAnyZ_take (i := 0) (v := .pointer (some ⟨sb, 0, none⟩)) rfl (by kernel_rfl) (by kernel_rfl) (by kernel_rfl) (by kernel_rfl) (fun _ _ _ h => h) (Or.inl ⟨by rfl, fun w hSw => by clear hSw; go_simp⟩) hH ?_
  refine wpAnyZ_take (i := 1) (v := .pointer (some ⟨sb, 0, none⟩)) rfl (by kernel_rfl) (by kernel_rfl) (by kernel_rfl) (by kernel_rfl) (fun _ _ _ h => h) (Or.inl ⟨by rfl, fun w hSw => by clear hSw; go_simp⟩) hH ?_
  try simp only [Act.put, List.setIfInBounds_toArray, List.set_cons_zero, List.set_cons_succ, List.getElem_toArray, List.getElem_cons_succ, List.getElem_cons_zero]
  refine wpAnyZ_take (i := 2) (v := .pointer (some ⟨sb, 0, none⟩)) rfl (by kernel_rfl) (by kernel_rfl) (by kernel_rfl) (by kernel_rfl) (fun _ _ _ h => h) (Or.inl ⟨by rfl, fun w hSw => by clear hSw; go_simp⟩) hH ?_
  try simp only [Act.put, List.setIfInBounds_toArray, List.set_cons_zero, List.set_cons_succ, List.getElem_toArray, List.getElem_cons_succ, List.getElem_cons_zero]
  refine wpAnyZ_take (i := 3) (v := .pointer (some ⟨sb, 3, none⟩)) rfl (by kernel_rfl) (by kernel_rfl) (by kernel_rfl) (by kernel_rfl) (fun _ _ _ h => h) (Or.inl ⟨by rfl, fun w hSw => by clear hSw; go_simp⟩) hH ?_
  try simp only [Act.put, List.setIfInBounds_toArray, List.set_cons_zero, List.set_cons_succ, List.getElem_toArray, List.getElem_cons_succ, List.getElem_cons_zero]
  refine wpAnyZ_take (i := 4) (v := .pointer (some ⟨sb, 4, none⟩)) rfl (by kernel_rfl) (by kernel_rfl) (by kernel_rfl) (by kernel_rfl) (fun _ _ _ h => h) (Or.inl ⟨by rfl, fun w hSw => by clear hSw; go_simp⟩) hH ?_
  try simp only [Act.put, List.setIfInBounds_toArray, List.set_cons_zero, List.set_cons_succ, List.getElem_toArray, List.getElem_cons_succ, List.getElem_cons_zero]
  refine wpAnyZ_take (i := 5) (v := .slice pa ps.length pk) rfl (by kernel_rfl) (by kernel_rfl) (by kernel_rfl) (by kernel_rfl) (fun _ _ _ h => h) (Or.inl ⟨by rfl, fun w hSw => by have f0 := hSw.1; clear hSw; go_simp⟩) hH ?_
  try simp only [Act.put, List.setIfInBounds_toArray, List.set_cons_zero, List.set_cons_succ, List.getElem_toArray, List.getElem_cons_succ, List.getElem_cons_zero]
  refine wpAnyZ_take (i := 6) (v := .pointer (some ⟨sb, 0, none⟩)) rfl (by kernel_rfl) (by kernel_rfl) (by kernel_rfl) (by kernel_rfl) (fun _ _ _ h => h) (Or.inl ⟨by rfl, fun w hSw => by clear hSw; go_simp⟩) hH ?_
  try simp only [Act.put, List.setIfInBounds_toArray, List.set_cons_zero, List.set_cons_succ, List.getElem_toArray, List.getElem_cons_succ, List.getElem_cons_zero]
  refine wpAnyZ_take (i := 7) (v := .pointer (some ⟨sb, 0, none⟩)) rfl (by kernel_rfl) (by kernel_rfl) (by kernel_rfl) (by kernel_rfl) (fun _ _ _ h => h) (Or.inl ⟨by rfl, fun w hSw => by clear hSw; go_simp⟩) hH ?_
  try simp only [Act.put, List.setIfInBounds_toArray, List.set_cons_zero, List.set_cons_succ, List.getElem_toArray, List.getElem_cons_succ, List.getElem_cons_zero]
  refine wpAnyZ_take (i := 8) (v := .pointer (some ⟨sb, 5, none⟩)) rfl (by kernel_rfl) (by kernel_rfl) (by kernel_rfl) (by kernel_rfl) (fun _ _ _ h => h) (Or.inl ⟨by rfl, fun w hSw => by clear hSw; go_simp⟩) hH ?_
  try simp only [Act.put, List.setIfInBounds_toArray, List.set_cons_zero, List.set_cons_succ, List.getElem_toArray, List.getElem_cons_succ, List.getElem_cons_zero]
  refine wpAnyZ_take (i := 9) (v := .slice qa pt.length qk) rfl (by kernel_rfl) (by kernel_rfl) (by kernel_rfl) (by kernel_rfl) (fun _ _ _ h => h) (Or.inl ⟨by rfl, fun w hSw => by have f0 := hSw.2.1; clear hSw; go_simp⟩) hH ?_
  try simp only [Act.put, List.setIfInBounds_toArray, List.set_cons_zero, List.set_cons_succ, List.getElem_toArray, List.getElem_cons_succ, List.getElem_cons_zero]
  refine wpAnyZ_take (i := 10) (v := .string (txL pt)) rfl (by kernel_rfl) (by kernel_rfl) (by kernel_rfl) (by kernel_rfl) (fun _ _ _ h => h) (Or.inl ⟨by rfl, fun w hSw => by have f0 := str_of (w := w) (B := 0) ⟨row_base hSw.2.2 (Nat.zero_le _), Nat.zero_le _, Below.refl _ _⟩ rfl; clear hSw; go_simp⟩) hH ?_
  try simp only [Act.put, List.setIfInBounds_toArray, List.set_cons_zero, List.set_cons_succ, List.getElem_toArray, List.getElem_cons_succ, List.getElem_cons_zero]
  refine wpAnyZ_ready (rs := [11]) (by kernel_rfl) (by simp) ?_
  refine AllReadyZ.cons rfl (fun K hK => ?_) AllReadyZ.nil
  obtain ⟨x, hx⟩ : ∃ x, x = txL pt := ⟨_, rfl⟩
  rw [← hx]
  have HX : Hid (x = txL pt) := hx
  clear hx
  go_simp
  obtain ⟨V5, hV5⟩ : ∃ V5, V5 = V.alloc (Obj.cells #[.string x] 9) := ⟨_, rfl⟩
  obtain ⟨n5, hn5⟩ : ∃ n5, n5 = V.heap.size := ⟨_, rfl⟩
  rw [← hV5, ← hn5]
  have HI5 : Hid (RdI B sb (pb) true t (pl) (E) (la) (lk) (tg) (ps) (pa) (pk) (pt) (qa) (qk) V5 ∧ V5.heap[n5]? = some (.cells #[.string x] 9 (0, 0)) ∧ Below B w V5) := by
    show _ ∧ _ ∧ _
    rw [hV5, hn5]; exact ⟨HV.out.1.later (below_alloc _ _), heapNew _ _, HV.out.2.trans ((below_alloc _ _).mono (by have := HV.out.1.lt; have := HV.out.1.ge; omega))⟩
  clear hV5 hn5 HV hH
  have hH5 : V5.cell? ⟨sb, 4, none⟩ = some (.slice pa ps.length pk) ∧ V5.cell? ⟨sb, 5, none⟩ = some (.slice qa pt.length qk) ∧ V5.ownsRow B 5 1 (.slice qa pt.length qk) pt.length (bytV pt) := ⟨HI5.out.1.cells.2.1.1, HI5.out.1.cells.2.1.2, HI5.out.1.rowQ⟩
  refine hK.out _ _ (Or.inr hH5) (fun _ => ?_)
  clear hK K
  try simp only [Act.put, List.setIfInBounds_toArray, List.set_cons_zero, List.set_cons_succ, List.getElem_toArray, List.getElem_cons_succ, List.getElem_cons_zero]
  refine wpAnyZ_ready (rs := [12]) (by kernel_rfl) (by simp) ?_
  refine AllReadyZ.cons rfl (fun K hK => ?_) AllReadyZ.nil
  refine step_append_lies _ rfl _ _ 41 rfl pb 9 i0 (.string ⟨#[]⟩) 1 16 Try.underlying41 hi hi0 hi1 hi2 rfl (by decide) (.slice pa ps.length pk) _ _ rfl HI5.out.1.rowP ⟨n5, 0, none⟩ 1 1 [.string x] rfl rfl (World.news_of_block HI5.out.2.1) (by simp [Value.oneCell']) (by omega) (by unfold maxLen; omega) (by omega) (by have := HI5.out.1.pbLe; omega) _ rfl ?_
  intro g1 c1' V6 hr1 hg _ _
  have HP : Hid (RdI B sb (pb) true t (pl) (E) (la) (lk) (tg) (ps ++ [x]) (some ⟨g1, 0, none⟩) (c1') (pt) (qa) (qk) (V6.setCell ⟨sb, 4, none⟩ (.slice (some ⟨g1, 0, none⟩) (ps.length + 1) c1')) ∧ Below B V5 (V6.setCell ⟨sb, 4, none⟩ (.slice (some ⟨g1, 0, none⟩) (ps.length + 1) c1'))) := HI5.out.1.pushP hr1 hg
  have hb6 : V6.heap[sb]? = V5.heap[sb]? := hg.block sb HI5.out.1.lt (fun e => HI5.out.1.off.2.1 sb e.symm rfl)
  have hH6 : V6.cell? ⟨sb, 4, none⟩ = some (.slice pa ps.length pk) ∧ V6.cell? ⟨sb, 5, none⟩ = some (.slice qa pt.length qk) ∧ V6.ownsRow B 5 1 (.slice qa pt.length qk) pt.length (bytV pt) := ⟨(World.cell?_of_block (w := V5) (a := ⟨sb, 4, none⟩) hb6).trans hH5.1, (World.cell?_of_block (w := V5) (a := ⟨sb, 5, none⟩) hb6).trans hH5.2.1, grownOff hg HI5.out.1.rowQ (fun q hq e => offRow HI5.out.1.rowQ HI5.out.1.rowP (by decide) hq e rfl)⟩
  have hz6 := blkFree (hb6.trans HI5.out.1.box) 4
  have HLow : Hid (Below B w V5) := HI5.out.2.2
  clear hr1 hg hb6 HI5 hH5
  refine hK.out _ _ (Or.inr hH6) (fun _ => ?_)
  clear hK K
  try simp only [Act.put, List.setIfInBounds_toArray, List.set_cons_zero, List.set_cons_succ, List.getElem_toArray, List.getElem_cons_succ, List.getElem_cons_zero]
  refine wpAnyZ_take (i := 13) (v := .pointer (some ⟨sb, 0, none⟩)) rfl (by kernel_rfl) (by kernel_rfl) (by kernel_rfl) (by kernel_rfl) (fun _ _ _ h => h) (Or.inl ⟨by rfl, fun w hSw => by clear hSw; go_simp⟩) hH6 ?_
  try simp only [Act.put, List.setIfInBounds_toArray, List.set_cons_zero, List.set_cons_succ, List.getElem_toArray, List.getElem_cons_succ, List.getElem_cons_zero]
  refine wpAnyZ_take (i := 14) (v := .pointer (some ⟨sb, 3, none⟩)) rfl (by kernel_rfl) (by kernel_rfl) (by kernel_rfl) (by kernel_rfl) (fun _ _ _ h => h) (Or.inl ⟨by rfl, fun w hSw => by clear hSw; go_simp⟩) hH6 ?_
  try simp only [Act.put, List.setIfInBounds_toArray, List.set_cons_zero, List.set_cons_succ, List.getElem_toArray, List.getElem_cons_succ, List.getElem_cons_zero]
  refine wpAnyZ_take (i := 15) (v := .pointer (some ⟨sb, 4, none⟩)) rfl (by kernel_rfl) (by kernel_rfl) (by kernel_rfl) (by kernel_rfl) (fun _ _ _ h => h) (Or.inl ⟨by rfl, fun w hSw => by clear hSw; go_simp⟩) hH6 ?_
  try simp only [Act.put, List.setIfInBounds_toArray, List.set_cons_zero, List.set_cons_succ, List.getElem_toArray, List.getElem_cons_succ, List.getElem_cons_zero]
  have v1 := hH6.1
  refine wpAnyZ_ready (rs := [16]) (by kernel_rfl) (by simp) ?_
  refine AllReadyZ.cons rfl (fun K hK => ?_) AllReadyZ.nil
  go_simp
  refine hK.out _ _ (Or.inl rfl) (fun _ => ?_)
  clear hK K
  try simp only [Act.put, List.setIfInBounds_toArray, List.set_cons_zero, List.set_cons_succ, List.getElem_toArray, List.getElem_cons_succ, List.getElem_cons_zero]
  refine wpAnyZ_done (by kernel_rfl) ?_ _
  clear hH6 hz6 v1
  generalize V6.setCell ⟨sb, 4, none⟩ (.slice (some ⟨g1, 0, none⟩) (ps.length + 1) c1') = V7 at *
  obtain ⟨_, ⟨_, f1⟩, fz⟩ := HP.out.1.cells
  have z1 := fz 5
  clear fz
  have HEnd : Hid ((∃ pa' pk', RdI B sb (pb) true t (pl) (E) (la) (lk) (tg) (ps ++ [x]) (pa') (pk') ([]) (none) (0) (V7.setCell ⟨sb, 5, none⟩ (.slice none 0 0))) ∧ Below B w (V7.setCell ⟨sb, 5, none⟩ (.slice none 0 0))) := by
    have k := HP.out.1.clearQ
    exact ⟨⟨_, _, k.1⟩, (HLow.out.trans HP.out.2).trans k.2⟩
  clear HP HLow
  go_wp2
  go_end0
  exact ⟨rfl, by rw [← HX.out]; exact HEnd.out⟩
set_option maxHeartbeats 4000000 in
set_option maxRecDepth 4000 in
theorem endSegment_any (hz : t.size ≤ 65536) (hp : pl ≤ t.size) (hq : E.length ≤ 200) (w : World) (h : RdI B sb (pb) true t (pl) (E) (la) (lk) (tg) (ps) (pa) (pk) (pt) (qa) (qk) w) :
    Calls Try.prog 41 #[.pointer (some ⟨sb, 0, none⟩)] w fun e w' => e = .returned (.tuple #[]) ∧ (∃ la' lk', RdI B sb (pb) false t (pl + 1) (E ++ [⟨⟨tg, ps⟩, pa, pk⟩]) (la') (lk') (tg) (ps) (pa) (pk) (pt) (qa) (qk) w') ∧ Below B w w' := by
  have HI : Hid (RdI B sb (pb) true t (pl) (E) (la) (lk) (tg) (ps) (pa) (pk) (pt) (qa) (qk) w) := h
  clear h
  obtain ⟨i0, hi, hzz⟩ := Option.map_eq_some_iff.1 segInfo
  simp only [Prod.mk.injEq] at hzz
  obtain ⟨hi0, hi1, hi2⟩ := hzz
  go_enter Try.func41, Try.ntmps41
  go_upto_region 0 with fail
  obtain ⟨V, hV⟩ : ∃ V, V = w.drew := ⟨_, rfl⟩
  have HV : Hid (RdI B sb (pb) true t (pl) (E) (la) (lk) (tg) (ps) (pa) (pk) (pt) (qa) (qk) V ∧ Below B w V) := by
    show _ ∧ _
    rw [hV]; exact ⟨HI.out.later (below_drew _), (below_drew w).mono (by have := HI.out.lt; have := HI.out.ge; omega)⟩
  refine wp_region_z (S := fun W' => W'.cell? ⟨sb, 2, none⟩ = some (.slice la E.length lk) ∧ W'.cell? ⟨sb, 3, none⟩ = some (.string tg) ∧ W'.cell? ⟨sb, 4, none⟩ = some (.slice pa ps.length pk)) 13 (by kernel_rfl) (by rw [← hV]; exact ⟨HV.out.1.cells.1.2.2.1, HV.out.1.cells.1.2.2.2, HV.out.1.cells.2.1.1⟩) (fun hH => ?_)
  rw [← hV] at hH ⊢
  clear hV HI
  refine wpAnyZ_take (i := 0) (v := .pointer (some ⟨sb, 0, none⟩)) rfl (by kernel_rfl) (by kernel_rfl) (by kernel_rfl) (by kernel_rfl) (fun _ _ _ h => h) (Or.inl ⟨by rfl, fun w hSw => by clear hSw; go_simp⟩) hH ?_
  refine wpAnyZ_take (i := 1) (v := .pointer (some ⟨sb, 0, none⟩)) rfl (by kernel_rfl) (by kernel_rfl) (by kernel_rfl) (by kernel_rfl) (fun _ _ _ h => h) (Or.inl ⟨by rfl, fun w hSw => by clear hSw; go_simp⟩) hH ?_
  try simp only [Act.put, List.setIfInBounds_toArray, List.set_cons_zero, List.set_cons_succ, List.getElem_toArray, List.getElem_cons_succ, List.getElem_cons_zero]
  refine wpAnyZ_take (i := 2) (v := .pointer (some ⟨sb, 0, none⟩)) rfl (by kernel_rfl) (by kernel_rfl) (by kernel_rfl) (by kernel_rfl) (fun _ _ _ h => h) (Or.inl ⟨by rfl, fun w hSw => by clear hSw; go_simp⟩) hH ?_
  try simp only [Act.put, List.setIfInBounds_toArray, List.set_cons_zero, List.set_cons_succ, List.getElem_toArray, List.getElem_cons_succ, List.getElem_cons_zero]
  refine wpAnyZ_take (i := 3) (v := .pointer (some ⟨sb, 2, none⟩)) rfl (by kernel_rfl) (by kernel_rfl) (by kernel_rfl) (by kernel_rfl) (fun _ _ _ h => h) (Or.inl ⟨by rfl, fun w hSw => by clear hSw; go_simp⟩) hH ?_
  try simp only [Act.put, List.setIfInBounds_toArray, List.set_cons_zero, List.set_cons_succ, List.getElem_toArray, List.getElem_cons_succ, List.getElem_cons_zero]
  refine wpAnyZ_take (i := 4) (v := .slice la E.length lk) rfl (by kernel_rfl) (by kernel_rfl) (by kernel_rfl) (by kernel_rfl) (fun _ _ _ h => h) (Or.inl ⟨by rfl, fun w hSw => by have f0 := hSw.1; clear hSw; go_simp⟩) hH ?_
  try simp only [Act.put, List.setIfInBounds_toArray, List.set_cons_zero, List.set_cons_succ, List.getElem_toArray, List.getElem_cons_succ, List.getElem_cons_zero]
  refine wpAnyZ_take (i := 5) (v := .pointer (some ⟨sb, 0, none⟩)) rfl (by kernel_rfl) (by kernel_rfl) (by kernel_rfl) (by kernel_rfl) (fun _ _ _ h => h) (Or.inl ⟨by rfl, fun w hSw => by clear hSw; go_simp⟩) hH ?_
  try simp only [Act.put, List.setIfInBounds_toArray, List.set_cons_zero, List.set_cons_succ, List.getElem_toArray, List.getElem_cons_succ, List.getElem_cons_zero]
  refine wpAnyZ_take (i := 6) (v := .pointer (some ⟨sb, 0, none⟩)) rfl (by kernel_rfl) (by kernel_rfl) (by kernel_rfl) (by kernel_rfl) (fun _ _ _ h => h) (Or.inl ⟨by rfl, fun w hSw => by clear hSw; go_simp⟩) hH ?_
  try simp only [Act.put, List.setIfInBounds_toArray, List.set_cons_zero, List.set_cons_succ, List.getElem_toArray, List.getElem_cons_succ, List.getElem_cons_zero]
  refine wpAnyZ_take (i := 7) (v := .pointer (some ⟨sb, 3, none⟩)) rfl (by kernel_rfl) (by kernel_rfl) (by kernel_rfl) (by kernel_rfl) (fun _ _ _ h => h) (Or.inl ⟨by rfl, fun w hSw => by clear hSw; go_simp⟩) hH ?_
  try simp only [Act.put, List.setIfInBounds_toArray, List.set_cons_zero, List.set_cons_succ, List.getElem_toArray, List.getElem_cons_succ, List.getElem_cons_zero]
  refine wpAnyZ_take (i := 8) (v := .agg #[.string tg, .slice pa ps.length pk]) rfl (by kernel_rfl) (by kernel_rfl) (by kernel_rfl) (by kernel_rfl) (fun _ _ _ h => h) (Or.inl ⟨by rfl, fun w hSw => by have f0 := hSw.2.1; have f1 := hSw.2.2; clear hSw; go_simp⟩) hH ?_
  try simp only [Act.put, List.setIfInBounds_toArray, List.set_cons_zero, List.set_cons_succ, List.getElem_toArray, List.getElem_cons_succ, List.getElem_cons_zero]
  refine wpAnyZ_ready (rs := [9]) (by kernel_rfl) (by simp) ?_
  refine AllReadyZ.cons rfl (fun K hK => ?_) AllReadyZ.nil
  go_simp
  obtain ⟨V5, hV5⟩ : ∃ V5, V5 = V.alloc (Obj.cells #[.string tg, .slice pa ps.length pk] 43) := ⟨_, rfl⟩
  obtain ⟨n5, hn5⟩ : ∃ n5, n5 = V.heap.size := ⟨_, rfl⟩
  rw [← hV5, ← hn5]
  have HI5 : Hid (RdI B sb (pb) true t (pl) (E) (la) (lk) (tg) (ps) (pa) (pk) (pt) (qa) (qk) V5 ∧ V5.heap[n5]? = some (.cells #[.string tg, .slice pa ps.length pk] 43 (0, 0)) ∧ Below B w V5) := by
    show _ ∧ _ ∧ _
    rw [hV5, hn5]; exact ⟨HV.out.1.later (below_alloc _ _), heapNew _ _, HV.out.2.trans ((below_alloc _ _).mono (by have := HV.out.1.lt; have := HV.out.1.ge; omega))⟩
  clear hV5 hn5 HV hH
  have hH5 : V5.cell? ⟨sb, 2, none⟩ = some (.slice la E.length lk) ∧ V5.cell? ⟨sb, 3, none⟩ = some (.string tg) ∧ V5.cell? ⟨sb, 4, none⟩ = some (.slice pa ps.length pk) := ⟨HI5.out.1.cells.1.2.2.1, HI5.out.1.cells.1.2.2.2, HI5.out.1.cells.2.1.1⟩
  refine hK.out _ _ (Or.inr hH5) (fun _ => ?_)
  clear hK K
  try simp only [Act.put, List.setIfInBounds_toArray, List.set_cons_zero, List.set_cons_succ, List.getElem_toArray, List.getElem_cons_succ, List.getElem_cons_zero]
  refine wpAnyZ_ready (rs := [10]) (by kernel_rfl) (by simp) ?_
  refine AllReadyZ.cons rfl (fun K hK => ?_) AllReadyZ.nil
  refine step_append_lies _ rfl _ _ 23 rfl B 43 i0 (.agg #[.string ⟨#[]⟩, .slice none 0 0]) 2 40 Try.underlying23 hi hi0 hi1 hi2 rfl (by decide) (.slice la E.length lk) _ _ rfl HI5.out.1.rowL ⟨n5, 0, none⟩ 1 1 [.string tg, .slice pa ps.length pk] rfl rfl (World.news_of_block HI5.out.2.1) (by simp [Value.oneCell']) (by omega) (by unfold maxLen; omega) (by omega) (by have := HI5.out.1.lt; have := HI5.out.1.ge; omega) _ rfl ?_
  intro g1 c1' V6 hr1 hg _ _
  have HP : Hid (RdI B sb (pb) false t (pl) (E ++ [⟨⟨tg, ps⟩, pa, pk⟩]) (some ⟨g1, 0, none⟩) (c1') (tg) (ps) (pa) (pk) (pt) (qa) (qk) (V6.setCell ⟨sb, 2, none⟩ (.slice (some ⟨g1, 0, none⟩) (E.length + 1) c1')) ∧ Below B V5 (V6.setCell ⟨sb, 2, none⟩ (.slice (some ⟨g1, 0, none⟩) (E.length + 1) c1'))) := HI5.out.1.pushL hr1 hg
  have hb6 : V6.heap[sb]? = V5.heap[sb]? := hg.block sb HI5.out.1.lt (fun e => HI5.out.1.off.1 sb e.symm rfl)
  have hH6 : V6.cell? ⟨sb, 2, none⟩ = some (.slice la E.length lk) ∧ V6.cell? ⟨sb, 3, none⟩ = some (.string tg) ∧ V6.cell? ⟨sb, 4, none⟩ = some (.slice pa ps.length pk) := ⟨(World.cell?_of_block (w := V5) (a := ⟨sb, 2, none⟩) hb6).trans hH5.1, (World.cell?_of_block (w := V5) (a := ⟨sb, 3, none⟩) hb6).trans hH5.2.1, (World.cell?_of_block (w := V5) (a := ⟨sb, 4, none⟩) hb6).trans hH5.2.2⟩
  have hz6 := blkFree (hb6.trans HI5.out.1.box) 2
  have HLow : Hid (Below B w V5) := HI5.out.2.2
  clear hr1 hg hb6 HI5 hH5
  refine hK.out _ _ (Or.inr hH6) (fun _ => ?_)
  clear hK K
  try simp only [Act.put, List.setIfInBounds_toArray, List.set_cons_zero, List.set_cons_succ, List.getElem_toArray, List.getElem_cons_succ, List.getElem_cons_zero]
  refine wpAnyZ_take (i := 11) (v := .pointer (some ⟨sb, 0, none⟩)) rfl (by kernel_rfl) (by kernel_rfl) (by kernel_rfl) (by kernel_rfl) (fun _ _ _ h => h) (Or.inl ⟨by rfl, fun w hSw => by clear hSw; go_simp⟩) hH6 ?_
  try simp only [Act.put, List.setIfInBounds_toArray, List.set_cons_zero, List.set_cons_succ, List.getElem_toArray, List.getElem_cons_succ, List.getElem_cons_zero]
  refine wpAnyZ_take (i := 12) (v := .pointer (some ⟨sb, 2, none⟩)) rfl (by kernel_rfl) (by kernel_rfl) (by kernel_rfl) (by kernel_rfl) (fun _ _ _ h => h) (Or.inl ⟨by rfl, fun w hSw => by clear hSw; go_simp⟩) hH6 ?_
  try simp only [Act.put, List.setIfInBounds_toArray, List.set_cons_zero, List.set_cons_succ, List.getElem_toArray, List.getElem_cons_succ, List.getElem_cons_zero]
  have v1 := hH6.1
  refine wpAnyZ_ready (rs := [13]) (by kernel_rfl) (by simp) ?_
  refine AllReadyZ.cons rfl (fun K hK => ?_) AllReadyZ.nil
  go_simp
  refine hK.out _ _ (Or.inl rfl) (fun _ => ?_)
  clear hK K
  try simp only [Act.put, List.setIfInBounds_toArray, List.set_cons_zero, List.set_cons_succ, List.getElem_toArray, List.getElem_cons_succ, List.getElem_cons_zero]
  refine wpAnyZ_done (by kernel_rfl) ?_ _
  clear hH6 hz6 v1
  generalize V6.setCell ⟨sb, 2, none⟩ (.slice (some ⟨g1, 0, none⟩) (E.length + 1) c1') = V7 at *
  obtain ⟨⟨_, f1, _, _⟩, _, fz⟩ := HP.out.1.cells
  have z1 := fz 1
  clear fz
  have HEnd : Hid ((∃ la' lk', RdI B sb (pb) false t (pl + 1) (E ++ [⟨⟨tg, ps⟩, pa, pk⟩]) (la') (lk') (tg) (ps) (pa) (pk) (pt) (qa) (qk) (V7.setCell ⟨sb, 1, none⟩ (.int .i64 ((pl : Int) + 1)))) ∧ Below B w (V7.setCell ⟨sb, 1, none⟩ (.int .i64 ((pl : Int) + 1)))) := by
    have k := HP.out.1.setPl (pl + 1)
    rw [show ((pl + 1 : Nat) : Int) = (pl : Int) + 1 by omega] at k
    exact ⟨⟨_, _, k.1⟩, (HLow.out.trans HP.out.2).trans k.2⟩
  clear HP HLow
  go_wp2
  go_end0
  exact ⟨rfl, HEnd.out⟩
end
end Go.Proofs.Ytjnlghngneonhaa
