/-
  A parcel leaves the belt: into its lane, rejected, or behind all others.
-/
import Derived.Test.YthmhpgbkapjjkaaSrA
import Derived.Test.YthmhpgbkapjjkaaRegZ
namespace Go.Proofs.Ythmhpgbkapjjkaa
open Go.ChangeShapes Go.WideShapes Go.ChangeAt Go.RowKit Go.Joins Go.Deep Go.Conc
set_option linter.unusedVariables false

/-- In the midst of leave: the sorter, and the parcel's box. -/
structure LvI (B sb wb ob cb : Nat) (la : Option Addr) (lc : Nat) (ls : List RLa) (m wc oc : Nat) (buf : Array Value) (full out rej : List Int) (tk rc : Int) (rg : Option Addr) (rk : Nat) (pb i l r : Nat) (w W : World) : Prop where
  so : SoI B sb wb ob cb la lc ls m wc oc (buf) (full) (out) (rej) (tk) (rc) (rg) (rk) W
  bx : W.heap[pb]? = some (.cells #[.int .i64 (i : Int), .int .i64 (l : Int), .int .i64 (r : Int)] 92 (0, 0))
  low : Below B w W
section
variable {B sb wb ob cb : Nat} {la : Option Addr} {lc : Nat} {ls : List RLa} {m wc oc : Nat} {buf : Array Value} {full out rej : List Int} {tk rc : Int} {rg : Option Addr} {rk : Nat} {pb i l r : Nat} {w W W' : World}
theorem LvI.later (h : LvI B sb wb ob cb la lc ls m wc oc buf full out rej tk rc rg rk pb i l r w W) (hb : Below W.heap.size W W') : LvI B sb wb ob cb la lc ls m wc oc buf full out rej tk rc rg rk pb i l r w W' :=
  ⟨h.so.later hb, (hb.block pb (blkLt h.bx)).trans h.bx, h.low.trans (hb.mono (by have := h.so.lt; have := h.so.ge; omega))⟩
theorem LvI.cl (h : LvI B sb wb ob cb la lc ls m wc oc buf full out rej tk rc rg rk pb i l r w W) : (W.cell? ⟨sb, 0, none⟩ = some (.slice la ls.length lc) ∧ W.cell? ⟨sb, 1, none⟩ = some (.slice (some ⟨wb, 0, none⟩) ls.length wc) ∧ W.cell? ⟨sb, 2, none⟩ = some (.chan (some cb)) ∧ W.cell? ⟨sb, 3, none⟩ = some (.int .i64 tk)) ∧ (W.cell? ⟨sb, 4, none⟩ = some (.int .i64 rc) ∧ W.cell? ⟨sb, 5, none⟩ = some (.slice (some ⟨ob, 0, none⟩) m oc) ∧ W.cell? ⟨sb, 6, none⟩ = some (.slice rg rej.length rk)) ∧ ∀ j, W.frozen? ⟨sb, j, none⟩ = false := h.so.cells
theorem LvI.pk (h : LvI B sb wb ob cb la lc ls m wc oc buf full out rej tk rc rg rk pb i l r w W) : W.cell? ⟨pb, 0, none⟩ = some (.int .i64 (i : Int)) ∧ W.cell? ⟨pb, 1, none⟩ = some (.int .i64 (l : Int)) ∧ W.cell? ⟨pb, 2, none⟩ = some (.int .i64 (r : Int)) :=
  ⟨blkCell h.bx 0 _ rfl, blkCell h.bx 1 _ rfl, blkCell h.bx 2 _ rfl⟩
theorem LvI.apart (h : LvI B sb wb ob cb la lc ls m wc oc buf full out rej tk rc rg rk pb i l r w W) : pb ≠ sb ∧ pb ≠ wb ∧ pb ≠ ob ∧ pb ≠ cb ∧ ∀ q, (Value.slice rg rej.length rk).ownBlock = some q → pb ≠ q := by
  have hb := h.bx
  obtain ⟨s, t, hc⟩ := h.so.chan
  obtain ⟨c1, h1⟩ := row_type h.so.rowF (q := wb) rfl
  obtain ⟨c2, h2⟩ := row_type h.so.rowO (q := ob) rfl
  have hs := h.so.box
  refine ⟨fun e => ?_, fun e => ?_, fun e => ?_, fun e => ?_, fun q hq e => ?_⟩
  · rw [e, hs] at hb; simp at hb
  · rw [e, h1] at hb; simp at hb
  · rw [e, h2] at hb; simp at hb
  · rw [e, hc] at hb; cases hb
  · obtain ⟨c3, h3⟩ := row_type h.so.rowR hq
    rw [e, h3] at hb; simp at hb
theorem LvI.setF (h : LvI B sb wb ob cb la lc ls m wc oc buf full out rej tk rc rg rk pb i l r w W) {j : Nat} (hj : j < full.length) (x : Int) : LvI B sb wb ob cb la lc ls m wc oc buf (full.set j x) out rej tk rc rg rk pb i l r w (W.setCell ⟨wb, j, none⟩ (.int .i64 x)) :=
  have k := h.so.setF hj x
  ⟨k.1, (Below.heap_setCell W ⟨wb, j, none⟩ _ pb h.apart.2.1).trans h.bx, h.low.trans k.2⟩
theorem LvI.setO (h : LvI B sb wb ob cb la lc ls m wc oc buf full out rej tk rc rg rk pb i l r w W) {j : Nat} (hj : j < out.length) (x : Int) : LvI B sb wb ob cb la lc ls m wc oc buf full (out.set j x) rej tk rc rg rk pb i l r w (W.setCell ⟨ob, j, none⟩ (.int .i64 x)) :=
  have k := h.so.setO hj x
  ⟨k.1, (Below.heap_setCell W ⟨ob, j, none⟩ _ pb h.apart.2.2.1).trans h.bx, h.low.trans k.2⟩
theorem LvI.setRc (h : LvI B sb wb ob cb la lc ls m wc oc buf full out rej tk rc rg rk pb i l r w W) (x : Int) : LvI B sb wb ob cb la lc ls m wc oc buf full out rej tk x rg rk pb i l r w (W.setCell ⟨sb, 4, none⟩ (.int .i64 x)) :=
  have k := h.so.setRc x
  ⟨k.1, (Below.heap_setCell W ⟨sb, 4, none⟩ _ pb h.apart.1).trans h.bx, h.low.trans k.2⟩
/-- One round more. -/
theorem LvI.setR (h : LvI B sb wb ob cb la lc ls m wc oc buf full out rej tk rc rg rk pb i l r w W) (hB : B ≤ pb) (r2 : Nat) : LvI B sb wb ob cb la lc ls m wc oc buf full out rej tk rc rg rk pb i l r2 w (W.setCell ⟨pb, 2, none⟩ (.int .i64 (r2 : Int))) := by
  obtain ⟨n1, n2, n3, n4, n5⟩ := h.apart
  obtain ⟨s, t, hc⟩ := h.so.chan
  have hk : ∀ k, k ≠ pb → (W.setCell ⟨pb, 2, none⟩ (.int .i64 (r2 : Int))).heap[k]? = W.heap[k]? := fun k hk => Below.heap_setCell W ⟨pb, 2, none⟩ _ k hk
  have hbl : Below B W (W.setCell ⟨pb, 2, none⟩ (.int .i64 (r2 : Int))) := (Below.refl _ _).setCell (p := ⟨pb, 2, none⟩) hB _
  have so := h.so
  exact ⟨⟨(hk sb (Ne.symm n1)).trans so.box, row_of so.rowF (fun q hq => by cases hq; exact hk _ (Ne.symm n2)), row_of so.rowO (fun q hq => by cases hq; exact hk _ (Ne.symm n3)), row_of so.rowR (fun q hq => hk q (Ne.symm (n5 q hq))), ⟨s, t, (hk cb (Ne.symm n4)).trans hc⟩, so.fl, so.ol, so.wo, so.rr, so.ge, so.lanes.below hbl⟩, heap_setCell_same W pb 2 _ _ _ h.bx, h.low.trans hbl⟩
end
/-- The belt as values. -/
def bfV (ps : List Int) (bl : List (Nat × Nat)) : Array Value := (bl.map fun p => Value.agg #[.int .i64 (p.1 : Int), .int .i64 (ps.getD p.1 0), .int .i64 (p.2 : Int)]).toArray
theorem bfV_push (ps : List Int) (bl : List (Nat × Nat)) (i r : Nat) : (bfV ps bl).push (.agg #[.int .i64 (i : Int), .int .i64 (ps.getD i 0), .int .i64 (r : Int)]) = bfV ps (bl ++ [(i, r)]) := by unfold bfV; simp
theorem bfV_size (ps : List Int) (bl : List (Nat × Nat)) : (bfV ps bl).size = bl.length := by unfold bfV; simp
/-- The sorter has come that far. -/
def SoS (B sb wb ob cb : Nat) (la : Option Addr) (lc : Nat) (ls : List RLa) (m wc oc : Nat) (ps : List Int) (σ : SrS) (W : World) : Prop := ∃ rg rk, SoI B sb wb ob cb la lc ls m wc oc (bfV ps σ.belt) σ.full σ.out σ.rej σ.tk σ.rc rg rk W
set_option maxHeartbeats 8000000 in
set_option maxRecDepth 4000 in
theorem leave_in {B sb wb ob cb : Nat} {la : Option Addr} {lc : Nat} {ls : List RLa} {m wc oc : Nat} (ps : List Int) (σ : SrS) (i r : Nat) (hi0 : i < m) (hlv : 0 ≤ ps.getD i 0 ∧ ps.getD i 0 < (ls.length : Int)) (hfb : ∀ k, k < ls.length → 0 ≤ σ.full.getD k 0 ∧ σ.full.getD k 0 ≤ 100) (hr : r ≤ 3) (htk : 0 ≤ σ.tk ∧ σ.tk ≤ 400) (hrc : 0 ≤ σ.rc ∧ σ.rc ≤ 400) (hrl : σ.rej.length ≤ 100) (hbm : σ.belt.length < m) (w : World) (h : SoS B sb wb ob cb la lc ls m wc oc ps σ w) (hc : σ.full.getD (ps.getD i 0).toNat 0 < (ls.getD (ps.getD i 0).toNat zLa).rm) :
    Calls Try.prog 72 #[.pointer (some ⟨sb, 0, none⟩), .agg #[.int .i64 (i : Int), .int .i64 (ps.getD i 0), .int .i64 (r : Int)]] w fun e w' => e = .returned (.tuple #[]) ∧ SoS B sb wb ob cb la lc ls m wc oc ps (srLeave ls ps i r σ) w' ∧ Below B w w' := by
  have hi : i < m := hi0
  obtain ⟨l, hl⟩ : ∃ l : Nat, ps.getD i 0 = (l : Int) := ⟨(ps.getD i 0).toNat, by omega⟩
  have hll : l < ls.length := by omega
  obtain ⟨rg, rk, hso⟩ := h
  obtain ⟨b, o, ha, _, _⟩ := hso.lane hll
  subst ha
  have htl : (ps.getD i 0).toNat = l := by rw [hl, Int.toNat_natCast]
  obtain ⟨fl, hfl⟩ : ∃ fl, σ.full.getD l 0 = fl := ⟨_, rfl⟩
  obtain ⟨rm, hrm⟩ : ∃ rm, (ls.getD l zLa).rm = rm := ⟨_, rfl⟩
  have hfb2 : 0 ≤ fl ∧ fl ≤ 100 := by rw [← hfl]; exact hfb l hll
  obtain ⟨tk, htk2⟩ : ∃ tk, σ.tk = tk := ⟨_, rfl⟩
  obtain ⟨rc, hrc2⟩ : ∃ rc, σ.rc = rc := ⟨_, rfl⟩
  rw [htk2] at htk
  rw [hrc2] at hrc
  rw [htk2, hrc2] at hso
  obtain ⟨V, hV⟩ : ∃ V, V = w.alloc (Obj.cells #[.int .i64 (i : Int), .int .i64 (l : Int), .int .i64 (r : Int)] 92) := ⟨_, rfl⟩
  obtain ⟨pb, hpb⟩ : ∃ pb, pb = w.heap.size := ⟨_, rfl⟩
  have HV : Hid (V = w.alloc (Obj.cells #[.int .i64 (i : Int), .int .i64 (l : Int), .int .i64 (r : Int)] 92) ∧ pb = w.heap.size) := ⟨hV, hpb⟩
  have HI : Hid (LvI B sb wb ob cb (some ⟨b, o, none⟩) lc ls m wc oc (bfV ps σ.belt) (σ.full) (σ.out) σ.rej tk (rc) rg rk pb i l r w V) := by
    have hb : Below w.heap.size w V := by rw [hV]; exact below_alloc _ _
    exact ⟨hso.later hb, by rw [hV, hpb]; exact heapNew _ _, hb.mono (by have := hso.lt; have := hso.ge; omega)⟩
  have HPB : Hid (B ≤ pb) := by show B ≤ pb; rw [hpb]; have := hso.lt; have := hso.ge; omega
  have HC : Hid (∀ X, Below V.heap.size V X → LvI B sb wb ob cb (some ⟨b, o, none⟩) lc ls m wc oc (bfV ps σ.belt) (σ.full) (σ.out) σ.rej tk (rc) rg rk pb i l r w X) := fun X hX => HI.out.later hX
  have HLc : Hid (∀ X, Below V.heap.size V X → X.cell? ⟨b, o + l * 2, none⟩ = some (.int .i64 rm) ∧ X.cell? ⟨b, o + l * 2 + 1, none⟩ = some (.int .i64 (ls.getD l zLa).ev)) := fun X hX => by
    obtain ⟨b', o', ha, d0, d1⟩ := (HC.out X hX).so.lane hll
    cases ha
    rw [hrm] at d0
    exact ⟨d0, d1⟩
  have HFc : Hid (∀ X, Below V.heap.size V X → X.cell? ⟨wb, l, none⟩ = some (.int .i64 fl)) := fun X hX => by
    have := (rowCell (HC.out X hX).so.rowF (j := l) (by rw [hso.fl]; exact hll)).1
    rw [hfl] at this
    exact this
  have hlz : (l : Int) < (ls.length : Int) := by omega
  have him : (i : Int) < (m : Int) := by omega
  have HFl : Hid (σ.full.length = ls.length ∧ σ.out.length = m) := ⟨hso.fl, hso.ol⟩
  rw [hl]
  clear hV hpb hso
  have HE : Hid (srLeave ls ps i r σ = { σ with full := σ.full.set l (fl + 1), out := σ.out.set i tk }) := by
    show _ = _
    unfold srLeave
    dsimp only
    rw [if_pos hc, htl, hfl, htk2]
  rw [htl, hfl, hrm] at hc
  clear htl hl hfl hrm hfb
  have ht0 : decide (fl < rm) = true := decide_eq_true hc
  have hwf : IntKind.i64.wrap (fl + 1) = fl + 1 := wrap_id _ (by omega) (by omega)
  go_enter Try.func72, Try.ntmps72
  go_upto_region 4 with fail
  rw [← HV.out.1, ← HV.out.2]
  clear HV
  refine wp_region_held_drew (S := fun W' => Below V.heap.size V W') (by kernel_rfl) (below_drew _) (fun hH => ?_)
  refine wpAnyH_take (i := 0) (v := .pointer (some ⟨sb, 0, none⟩)) rfl (by kernel_rfl) (by kernel_rfl) (by kernel_rfl) (fun _ _ _ h => h) (Or.inl ⟨by rfl, fun w hSw => by clear hSw; go_simp⟩) hH ?_
  refine wpAnyH_take (i := 1) (v := .pointer (some ⟨sb, 0, none⟩)) rfl (by kernel_rfl) (by kernel_rfl) (by kernel_rfl) (fun _ _ _ h => h) (Or.inl ⟨by rfl, fun w hSw => by clear hSw; go_simp⟩) hH ?_
  try simp only [Act.put, List.setIfInBounds_toArray, List.set_cons_zero, List.set_cons_succ, List.getElem_toArray, List.getElem_cons_succ, List.getElem_cons_zero]
  refine wpAnyH_take (i := 2) (v := .pointer (some ⟨sb, 1, none⟩)) rfl (by kernel_rfl) (by kernel_rfl) (by kernel_rfl) (fun _ _ _ h => h) (Or.inl ⟨by rfl, fun w hSw => by clear hSw; go_simp⟩) hH ?_
  try simp only [Act.put, List.setIfInBounds_toArray, List.set_cons_zero, List.set_cons_succ, List.getElem_toArray, List.getElem_cons_succ, List.getElem_cons_zero]
  refine wpAnyH_take (i := 3) (v := .slice (some ⟨wb, 0, none⟩) ls.length wc) rfl (by kernel_rfl) (by kernel_rfl) (by kernel_rfl) (fun _ _ _ h => h) (Or.inl ⟨by rfl, fun w hSw => by obtain ⟨⟨f0, f1, f2, f3⟩, ⟨f4, f5, f6⟩, _⟩ := (HC.out w hSw).cl; clear hSw; go_simp⟩) hH ?_
  try simp only [Act.put, List.setIfInBounds_toArray, List.set_cons_zero, List.set_cons_succ, List.getElem_toArray, List.getElem_cons_succ, List.getElem_cons_zero]
  refine wpAnyH_take (i := 4) (v := .pointer (some ⟨pb, 1, none⟩)) rfl (by kernel_rfl) (by kernel_rfl) (by kernel_rfl) (fun _ _ _ h => h) (Or.inl ⟨by rfl, fun w hSw => by clear hSw; go_simp⟩) hH ?_
  try simp only [Act.put, List.setIfInBounds_toArray, List.set_cons_zero, List.set_cons_succ, List.getElem_toArray, List.getElem_cons_succ, List.getElem_cons_zero]
  refine wpAnyH_take (i := 5) (v := .int .i64 (l : Int)) rfl (by kernel_rfl) (by kernel_rfl) (by kernel_rfl) (fun _ _ _ h => h) (Or.inl ⟨by rfl, fun w hSw => by obtain ⟨f0, f1, f2⟩ := (HC.out w hSw).pk; clear hSw; go_simp⟩) hH ?_
  try simp only [Act.put, List.setIfInBounds_toArray, List.set_cons_zero, List.set_cons_succ, List.getElem_toArray, List.getElem_cons_succ, List.getElem_cons_zero]
  refine wpAnyH_take (i := 6) (v := .pointer (some ⟨wb, l, none⟩)) rfl (by kernel_rfl) (by kernel_rfl) (by kernel_rfl) (fun _ _ _ h => h) (Or.inl ⟨by rfl, fun w hSw => by clear hSw; go_simp⟩) hH ?_
  try simp only [Act.put, List.setIfInBounds_toArray, List.set_cons_zero, List.set_cons_succ, List.getElem_toArray, List.getElem_cons_succ, List.getElem_cons_zero]
  refine wpAnyH_take (i := 7) (v := .int .i64 fl) rfl (by kernel_rfl) (by kernel_rfl) (by kernel_rfl) (fun _ _ _ h => h) (Or.inl ⟨by rfl, fun w hSw => by have f0 := HFc.out w hSw; clear hSw; go_simp⟩) hH ?_
  try simp only [Act.put, List.setIfInBounds_toArray, List.set_cons_zero, List.set_cons_succ, List.getElem_toArray, List.getElem_cons_succ, List.getElem_cons_zero]
  refine wpAnyH_take (i := 8) (v := .pointer (some ⟨sb, 0, none⟩)) rfl (by kernel_rfl) (by kernel_rfl) (by kernel_rfl) (fun _ _ _ h => h) (Or.inl ⟨by rfl, fun w hSw => by clear hSw; go_simp⟩) hH ?_
  try simp only [Act.put, List.setIfInBounds_toArray, List.set_cons_zero, List.set_cons_succ, List.getElem_toArray, List.getElem_cons_succ, List.getElem_cons_zero]
  refine wpAnyH_take (i := 9) (v := .pointer (some ⟨sb, 0, none⟩)) rfl (by kernel_rfl) (by kernel_rfl) (by kernel_rfl) (fun _ _ _ h => h) (Or.inl ⟨by rfl, fun w hSw => by clear hSw; go_simp⟩) hH ?_
  try simp only [Act.put, List.setIfInBounds_toArray, List.set_cons_zero, List.set_cons_succ, List.getElem_toArray, List.getElem_cons_succ, List.getElem_cons_zero]
  refine wpAnyH_take (i := 10) (v := .pointer (some ⟨sb, 0, none⟩)) rfl (by kernel_rfl) (by kernel_rfl) (by kernel_rfl) (fun _ _ _ h => h) (Or.inl ⟨by rfl, fun w hSw => by clear hSw; go_simp⟩) hH ?_
  try simp only [Act.put, List.setIfInBounds_toArray, List.set_cons_zero, List.set_cons_succ, List.getElem_toArray, List.getElem_cons_succ, List.getElem_cons_zero]
  refine wpAnyH_take (i := 11) (v := .slice (some ⟨b, o, none⟩) ls.length lc) rfl (by kernel_rfl) (by kernel_rfl) (by kernel_rfl) (fun _ _ _ h => h) (Or.inl ⟨by rfl, fun w hSw => by obtain ⟨⟨f0, f1, f2, f3⟩, ⟨f4, f5, f6⟩, _⟩ := (HC.out w hSw).cl; clear hSw; go_simp⟩) hH ?_
  try simp only [Act.put, List.setIfInBounds_toArray, List.set_cons_zero, List.set_cons_succ, List.getElem_toArray, List.getElem_cons_succ, List.getElem_cons_zero]
  refine wpAnyH_take (i := 12) (v := .pointer (some ⟨pb, 1, none⟩)) rfl (by kernel_rfl) (by kernel_rfl) (by kernel_rfl) (fun _ _ _ h => h) (Or.inl ⟨by rfl, fun w hSw => by clear hSw; go_simp⟩) hH ?_
  try simp only [Act.put, List.setIfInBounds_toArray, List.set_cons_zero, List.set_cons_succ, List.getElem_toArray, List.getElem_cons_succ, List.getElem_cons_zero]
  refine wpAnyH_take (i := 13) (v := .int .i64 (l : Int)) rfl (by kernel_rfl) (by kernel_rfl) (by kernel_rfl) (fun _ _ _ h => h) (Or.inl ⟨by rfl, fun w hSw => by obtain ⟨f0, f1, f2⟩ := (HC.out w hSw).pk; clear hSw; go_simp⟩) hH ?_
  try simp only [Act.put, List.setIfInBounds_toArray, List.set_cons_zero, List.set_cons_succ, List.getElem_toArray, List.getElem_cons_succ, List.getElem_cons_zero]
  refine wpAnyH_take (i := 14) (v := .pointer (some ⟨b, o + l * 2, none⟩)) rfl (by kernel_rfl) (by kernel_rfl) (by kernel_rfl) (fun _ _ _ h => h) (Or.inl ⟨by rfl, fun w hSw => by clear hSw; go_simp⟩) hH ?_
  try simp only [Act.put, List.setIfInBounds_toArray, List.set_cons_zero, List.set_cons_succ, List.getElem_toArray, List.getElem_cons_succ, List.getElem_cons_zero]
  refine wpAnyH_take (i := 15) (v := .pointer (some ⟨b, o + l * 2, none⟩)) rfl (by kernel_rfl) (by kernel_rfl) (by kernel_rfl) (fun _ _ _ h => h) (Or.inl ⟨by rfl, fun w hSw => by clear hSw; go_simp⟩) hH ?_
  try simp only [Act.put, List.setIfInBounds_toArray, List.set_cons_zero, List.set_cons_succ, List.getElem_toArray, List.getElem_cons_succ, List.getElem_cons_zero]
  refine wpAnyH_take (i := 16) (v := .int .i64 rm) rfl (by kernel_rfl) (by kernel_rfl) (by kernel_rfl) (fun _ _ _ h => h) (Or.inl ⟨by rfl, fun w hSw => by obtain ⟨f0, f1⟩ := HLc.out w hSw; clear hSw; go_simp⟩) hH ?_
  try simp only [Act.put, List.setIfInBounds_toArray, List.set_cons_zero, List.set_cons_succ, List.getElem_toArray, List.getElem_cons_succ, List.getElem_cons_zero]
  refine wpAnyH_take (i := 17) (v := .bool true) rfl (by kernel_rfl) (by kernel_rfl) (by kernel_rfl) (fun _ _ _ h => h) (Or.inl ⟨by rfl, fun w hSw => by clear hSw; go_simp⟩) hH ?_
  try simp only [Act.put, List.setIfInBounds_toArray, List.set_cons_zero, List.set_cons_succ, List.getElem_toArray, List.getElem_cons_succ, List.getElem_cons_zero]
  refine wpAnyH_take (i := 18) (v := .bool true) rfl (by kernel_rfl) (by kernel_rfl) (by kernel_rfl) (fun _ _ _ h => h) (Or.inl ⟨by rfl, fun w hSw => by clear hSw; go_simp⟩) hH ?_
  try simp only [Act.put, List.setIfInBounds_toArray, List.set_cons_zero, List.set_cons_succ, List.getElem_toArray, List.getElem_cons_succ, List.getElem_cons_zero]
  refine wpAnyH_done (by kernel_rfl) ?_ _
  clear hH
  have HI2 : Hid (LvI B sb wb ob cb (some ⟨b, o, none⟩) lc ls m wc oc (bfV ps σ.belt) (σ.full) (σ.out) σ.rej tk (rc) rg rk pb i l r w V.drew) := HI.out.later (below_drew _)
  have HC2 := fun X (hX : Below V.drew.heap.size V.drew X) => chain (below_drew V) hX
  have HF2 : Hid (∀ X, Below V.drew.heap.size V.drew X → X.cell? ⟨wb, l, none⟩ = some (.int .i64 fl)) := fun X hX => HFc.out X (HC2 X hX)
  clear HI HC HLc HFc HC2
  generalize V.drew = V2 at *
  have HC : Hid (∀ X, Below V2.heap.size V2 X → LvI B sb wb ob cb (some ⟨b, o, none⟩) lc ls m wc oc (bfV ps σ.belt) (σ.full) (σ.out) σ.rej tk (rc) rg rk pb i l r w X) := fun X hX => HI2.out.later hX
  clear HPB
  go_upto_region 5 with fail
  refine wp_region_z (S := fun W' => Below V2.heap.size V2 W') 10 (by kernel_rfl) (below_drew _) (fun hH => ?_)
  refine wpAnyZ_take (i := 0) (v := .pointer (some ⟨sb, 0, none⟩)) rfl (by kernel_rfl) (by kernel_rfl) (by kernel_rfl) (by kernel_rfl) (fun _ _ _ h => h) (Or.inl ⟨by rfl, fun w hSw => by clear hSw; go_simp⟩) hH ?_
  refine wpAnyZ_take (i := 1) (v := .pointer (some ⟨sb, 0, none⟩)) rfl (by kernel_rfl) (by kernel_rfl) (by kernel_rfl) (by kernel_rfl) (fun _ _ _ h => h) (Or.inl ⟨by rfl, fun w hSw => by clear hSw; go_simp⟩) hH ?_
  try simp only [Act.put, List.setIfInBounds_toArray, List.set_cons_zero, List.set_cons_succ, List.getElem_toArray, List.getElem_cons_succ, List.getElem_cons_zero]
  refine wpAnyZ_take (i := 2) (v := .pointer (some ⟨sb, 1, none⟩)) rfl (by kernel_rfl) (by kernel_rfl) (by kernel_rfl) (by kernel_rfl) (fun _ _ _ h => h) (Or.inl ⟨by rfl, fun w hSw => by clear hSw; go_simp⟩) hH ?_
  try simp only [Act.put, List.setIfInBounds_toArray, List.set_cons_zero, List.set_cons_succ, List.getElem_toArray, List.getElem_cons_succ, List.getElem_cons_zero]
  refine wpAnyZ_take (i := 3) (v := .slice (some ⟨wb, 0, none⟩) ls.length wc) rfl (by kernel_rfl) (by kernel_rfl) (by kernel_rfl) (by kernel_rfl) (fun _ _ _ h => h) (Or.inl ⟨by rfl, fun w hSw => by obtain ⟨⟨f0, f1, f2, f3⟩, ⟨f4, f5, f6⟩, _⟩ := (HC.out w hSw).cl; clear hSw; go_simp⟩) hH ?_
  try simp only [Act.put, List.setIfInBounds_toArray, List.set_cons_zero, List.set_cons_succ, List.getElem_toArray, List.getElem_cons_succ, List.getElem_cons_zero]
  refine wpAnyZ_take (i := 4) (v := .pointer (some ⟨pb, 1, none⟩)) rfl (by kernel_rfl) (by kernel_rfl) (by kernel_rfl) (by kernel_rfl) (fun _ _ _ h => h) (Or.inl ⟨by rfl, fun w hSw => by clear hSw; go_simp⟩) hH ?_
  try simp only [Act.put, List.setIfInBounds_toArray, List.set_cons_zero, List.set_cons_succ, List.getElem_toArray, List.getElem_cons_succ, List.getElem_cons_zero]
  refine wpAnyZ_take (i := 5) (v := .int .i64 (l : Int)) rfl (by kernel_rfl) (by kernel_rfl) (by kernel_rfl) (by kernel_rfl) (fun _ _ _ h => h) (Or.inl ⟨by rfl, fun w hSw => by obtain ⟨f0, f1, f2⟩ := (HC.out w hSw).pk; clear hSw; go_simp⟩) hH ?_
  try simp only [Act.put, List.setIfInBounds_toArray, List.set_cons_zero, List.set_cons_succ, List.getElem_toArray, List.getElem_cons_succ, List.getElem_cons_zero]
  refine wpAnyZ_take (i := 6) (v := .pointer (some ⟨wb, l, none⟩)) rfl (by kernel_rfl) (by kernel_rfl) (by kernel_rfl) (by kernel_rfl) (fun _ _ _ h => h) (Or.inl ⟨by rfl, fun w hSw => by clear hSw; go_simp⟩) hH ?_
  try simp only [Act.put, List.setIfInBounds_toArray, List.set_cons_zero, List.set_cons_succ, List.getElem_toArray, List.getElem_cons_succ, List.getElem_cons_zero]
  refine wpAnyZ_take (i := 7) (v := .int .i64 fl) rfl (by kernel_rfl) (by kernel_rfl) (by kernel_rfl) (by kernel_rfl) (fun _ _ _ h => h) (Or.inl ⟨by rfl, fun w hSw => by have f0 := HF2.out w hSw; clear hSw; go_simp⟩) hH ?_
  try simp only [Act.put, List.setIfInBounds_toArray, List.set_cons_zero, List.set_cons_succ, List.getElem_toArray, List.getElem_cons_succ, List.getElem_cons_zero]
  refine wpAnyZ_take (i := 8) (v := .int .i64 (fl + 1)) rfl (by kernel_rfl) (by kernel_rfl) (by kernel_rfl) (by kernel_rfl) (fun _ _ _ h => h) (Or.inl ⟨by rfl, fun w hSw => by clear hSw; go_simp⟩) hH ?_
  try simp only [Act.put, List.setIfInBounds_toArray, List.set_cons_zero, List.set_cons_succ, List.getElem_toArray, List.getElem_cons_succ, List.getElem_cons_zero]
  refine wpAnyZ_take (i := 9) (v := .pointer (some ⟨wb, l, none⟩)) rfl (by kernel_rfl) (by kernel_rfl) (by kernel_rfl) (by kernel_rfl) (fun _ _ _ h => h) (Or.inl ⟨by rfl, fun w hSw => by clear hSw; go_simp⟩) hH ?_
  try simp only [Act.put, List.setIfInBounds_toArray, List.set_cons_zero, List.set_cons_succ, List.getElem_toArray, List.getElem_cons_succ, List.getElem_cons_zero]
  refine wpAnyZ_ready (rs := [10]) (by kernel_rfl) (by simp) ?_
  refine AllReadyZ.cons rfl (fun K hK => ?_) AllReadyZ.nil
  obtain ⟨v1, v2⟩ := rowCell (HC.out _ (below_drew _)).so.rowF (j := l) (by rw [HFl.out.1]; exact hll)
  go_simp
  refine hK.out _ _ (Or.inl rfl) (fun _ => ?_)
  clear hK K
  try simp only [Act.put, List.setIfInBounds_toArray, List.set_cons_zero, List.set_cons_succ, List.getElem_toArray, List.getElem_cons_succ, List.getElem_cons_zero]
  refine wpAnyZ_done (by kernel_rfl) ?_ _
  clear v1 v2 hH
  have HI3 : Hid (LvI B sb wb ob cb (some ⟨b, o, none⟩) lc ls m wc oc (bfV ps σ.belt) (σ.full.set l (fl + 1)) (σ.out) σ.rej tk (rc) rg rk pb i l r w (V2.setCell ⟨wb, l, none⟩ (.int .i64 (fl + 1))).drew) := by
    show LvI _ _ _ _ _ _ _ _ _ _ _ _ _ _ _ _ _ _ _ _ _ _ _ _ _
    exact (HI2.out.later (below_drew _)).setF (by rw [HFl.out.1]; exact hll) _
  clear HI2 HC HF2
  generalize (V2.setCell ⟨wb, l, none⟩ (.int .i64 (fl + 1))).drew = V3 at *
  have HC : Hid (∀ X, Below V3.heap.size V3 X → LvI B sb wb ob cb (some ⟨b, o, none⟩) lc ls m wc oc (bfV ps σ.belt) (σ.full.set l (fl + 1)) (σ.out) σ.rej tk (rc) rg rk pb i l r w X) := fun X hX => HI3.out.later hX
  go_upto_region 6 with fail
  refine wp_region_z (S := fun W' => Below V3.heap.size V3 W') 13 (by kernel_rfl) (below_drew _) (fun hH => ?_)
  refine wpAnyZ_take (i := 0) (v := .pointer (some ⟨sb, 0, none⟩)) rfl (by kernel_rfl) (by kernel_rfl) (by kernel_rfl) (by kernel_rfl) (fun _ _ _ h => h) (Or.inl ⟨by rfl, fun w hSw => by clear hSw; go_simp⟩) hH ?_
  refine wpAnyZ_take (i := 1) (v := .pointer (some ⟨sb, 0, none⟩)) rfl (by kernel_rfl) (by kernel_rfl) (by kernel_rfl) (by kernel_rfl) (fun _ _ _ h => h) (Or.inl ⟨by rfl, fun w hSw => by clear hSw; go_simp⟩) hH ?_
  try simp only [Act.put, List.setIfInBounds_toArray, List.set_cons_zero, List.set_cons_succ, List.getElem_toArray, List.getElem_cons_succ, List.getElem_cons_zero]
  refine wpAnyZ_take (i := 2) (v := .pointer (some ⟨sb, 3, none⟩)) rfl (by kernel_rfl) (by kernel_rfl) (by kernel_rfl) (by kernel_rfl) (fun _ _ _ h => h) (Or.inl ⟨by rfl, fun w hSw => by clear hSw; go_simp⟩) hH ?_
  try simp only [Act.put, List.setIfInBounds_toArray, List.set_cons_zero, List.set_cons_succ, List.getElem_toArray, List.getElem_cons_succ, List.getElem_cons_zero]
  refine wpAnyZ_take (i := 3) (v := .pointer (some ⟨sb, 5, none⟩)) rfl (by kernel_rfl) (by kernel_rfl) (by kernel_rfl) (by kernel_rfl) (fun _ _ _ h => h) (Or.inl ⟨by rfl, fun w hSw => by clear hSw; go_simp⟩) hH ?_
  try simp only [Act.put, List.setIfInBounds_toArray, List.set_cons_zero, List.set_cons_succ, List.getElem_toArray, List.getElem_cons_succ, List.getElem_cons_zero]
  refine wpAnyZ_take (i := 4) (v := .slice (some ⟨ob, 0, none⟩) m oc) rfl (by kernel_rfl) (by kernel_rfl) (by kernel_rfl) (by kernel_rfl) (fun _ _ _ h => h) (Or.inl ⟨by rfl, fun w hSw => by obtain ⟨⟨f0, f1, f2, f3⟩, ⟨f4, f5, f6⟩, _⟩ := (HC.out w hSw).cl; clear hSw; go_simp⟩) hH ?_
  try simp only [Act.put, List.setIfInBounds_toArray, List.set_cons_zero, List.set_cons_succ, List.getElem_toArray, List.getElem_cons_succ, List.getElem_cons_zero]
  refine wpAnyZ_take (i := 5) (v := .pointer (some ⟨pb, 0, none⟩)) rfl (by kernel_rfl) (by kernel_rfl) (by kernel_rfl) (by kernel_rfl) (fun _ _ _ h => h) (Or.inl ⟨by rfl, fun w hSw => by clear hSw; go_simp⟩) hH ?_
  try simp only [Act.put, List.setIfInBounds_toArray, List.set_cons_zero, List.set_cons_succ, List.getElem_toArray, List.getElem_cons_succ, List.getElem_cons_zero]
  refine wpAnyZ_take (i := 6) (v := .int .i64 (i : Int)) rfl (by kernel_rfl) (by kernel_rfl) (by kernel_rfl) (by kernel_rfl) (fun _ _ _ h => h) (Or.inl ⟨by rfl, fun w hSw => by obtain ⟨f0, f1, f2⟩ := (HC.out w hSw).pk; clear hSw; go_simp⟩) hH ?_
  try simp only [Act.put, List.setIfInBounds_toArray, List.set_cons_zero, List.set_cons_succ, List.getElem_toArray, List.getElem_cons_succ, List.getElem_cons_zero]
  refine wpAnyZ_take (i := 7) (v := .pointer (some ⟨sb, 0, none⟩)) rfl (by kernel_rfl) (by kernel_rfl) (by kernel_rfl) (by kernel_rfl) (fun _ _ _ h => h) (Or.inl ⟨by rfl, fun w hSw => by clear hSw; go_simp⟩) hH ?_
  try simp only [Act.put, List.setIfInBounds_toArray, List.set_cons_zero, List.set_cons_succ, List.getElem_toArray, List.getElem_cons_succ, List.getElem_cons_zero]
  refine wpAnyZ_take (i := 8) (v := .pointer (some ⟨sb, 0, none⟩)) rfl (by kernel_rfl) (by kernel_rfl) (by kernel_rfl) (by kernel_rfl) (fun _ _ _ h => h) (Or.inl ⟨by rfl, fun w hSw => by clear hSw; go_simp⟩) hH ?_
  try simp only [Act.put, List.setIfInBounds_toArray, List.set_cons_zero, List.set_cons_succ, List.getElem_toArray, List.getElem_cons_succ, List.getElem_cons_zero]
  refine wpAnyZ_take (i := 9) (v := .pointer (some ⟨sb, 3, none⟩)) rfl (by kernel_rfl) (by kernel_rfl) (by kernel_rfl) (by kernel_rfl) (fun _ _ _ h => h) (Or.inl ⟨by rfl, fun w hSw => by clear hSw; go_simp⟩) hH ?_
  try simp only [Act.put, List.setIfInBounds_toArray, List.set_cons_zero, List.set_cons_succ, List.getElem_toArray, List.getElem_cons_succ, List.getElem_cons_zero]
  refine wpAnyZ_take (i := 10) (v := .pointer (some ⟨sb, 3, none⟩)) rfl (by kernel_rfl) (by kernel_rfl) (by kernel_rfl) (by kernel_rfl) (fun _ _ _ h => h) (Or.inl ⟨by rfl, fun w hSw => by clear hSw; go_simp⟩) hH ?_
  try simp only [Act.put, List.setIfInBounds_toArray, List.set_cons_zero, List.set_cons_succ, List.getElem_toArray, List.getElem_cons_succ, List.getElem_cons_zero]
  refine wpAnyZ_take (i := 11) (v := .int .i64 tk) rfl (by kernel_rfl) (by kernel_rfl) (by kernel_rfl) (by kernel_rfl) (fun _ _ _ h => h) (Or.inl ⟨by rfl, fun w hSw => by obtain ⟨⟨f0, f1, f2, f3⟩, ⟨f4, f5, f6⟩, _⟩ := (HC.out w hSw).cl; clear hSw; go_simp⟩) hH ?_
  try simp only [Act.put, List.setIfInBounds_toArray, List.set_cons_zero, List.set_cons_succ, List.getElem_toArray, List.getElem_cons_succ, List.getElem_cons_zero]
  refine wpAnyZ_take (i := 12) (v := .pointer (some ⟨ob, i, none⟩)) rfl (by kernel_rfl) (by kernel_rfl) (by kernel_rfl) (by kernel_rfl) (fun _ _ _ h => h) (Or.inl ⟨by rfl, fun w hSw => by clear hSw; go_simp⟩) hH ?_
  try simp only [Act.put, List.setIfInBounds_toArray, List.set_cons_zero, List.set_cons_succ, List.getElem_toArray, List.getElem_cons_succ, List.getElem_cons_zero]
  refine wpAnyZ_ready (rs := [13]) (by kernel_rfl) (by simp) ?_
  refine AllReadyZ.cons rfl (fun K hK => ?_) AllReadyZ.nil
  obtain ⟨v1, v2⟩ := rowCell (HC.out _ (below_drew _)).so.rowO (j := i) (by rw [HFl.out.2]; exact hi)
  go_simp
  refine hK.out _ _ (Or.inl rfl) (fun _ => ?_)
  clear hK K
  try simp only [Act.put, List.setIfInBounds_toArray, List.set_cons_zero, List.set_cons_succ, List.getElem_toArray, List.getElem_cons_succ, List.getElem_cons_zero]
  refine wpAnyZ_done (by kernel_rfl) ?_ _
  clear v1 v2 hH
  have HI4 : Hid (LvI B sb wb ob cb (some ⟨b, o, none⟩) lc ls m wc oc (bfV ps σ.belt) (σ.full.set l (fl + 1)) (σ.out.set i tk) σ.rej tk (rc) rg rk pb i l r w (V3.setCell ⟨ob, i, none⟩ (.int .i64 tk)).drew) := by
    show LvI _ _ _ _ _ _ _ _ _ _ _ _ _ _ _ _ _ _ _ _ _ _ _ _ _
    exact (HI3.out.later (below_drew _)).setO (by rw [HFl.out.2]; exact hi) _
  clear HI3 HC
  generalize (V3.setCell ⟨ob, i, none⟩ (.int .i64 tk)).drew = V4 at *
  have HEnd : Hid (SoS B sb wb ob cb (some ⟨b, o, none⟩) lc ls m wc oc ps (srLeave ls ps i r σ) V4 ∧ Below B w V4) := by
    rw [HE.out]
    refine ⟨⟨rg, rk, ?_⟩, HI4.out.low⟩
    have := HI4.out.so
    rw [← htk2, ← hrc2] at this
    rw [← htk2]
    exact this
  go_wp2
  go_end0
  exact ⟨rfl, HEnd.out⟩
set_option maxHeartbeats 8000000 in
set_option maxRecDepth 4000 in
theorem leave_out {B sb wb ob cb : Nat} {la : Option Addr} {lc : Nat} {ls : List RLa} {m wc oc : Nat} (ps : List Int) (σ : SrS) (i r : Nat) (hi0 : i < m) (hlv : 0 ≤ ps.getD i 0 ∧ ps.getD i 0 < (ls.length : Int)) (hfb : ∀ k, k < ls.length → 0 ≤ σ.full.getD k 0 ∧ σ.full.getD k 0 ≤ 100) (hr : r ≤ 3) (htk : 0 ≤ σ.tk ∧ σ.tk ≤ 400) (hrc : 0 ≤ σ.rc ∧ σ.rc ≤ 400) (hrl : σ.rej.length ≤ 100) (hbm : σ.belt.length < m) (w : World) (h : SoS B sb wb ob cb la lc ls m wc oc ps σ w) (hc : ¬ σ.full.getD (ps.getD i 0).toNat 0 < (ls.getD (ps.getD i 0).toNat zLa).rm) (h3 : r = 3) :
    Calls Try.prog 72 #[.pointer (some ⟨sb, 0, none⟩), .agg #[.int .i64 (i : Int), .int .i64 (ps.getD i 0), .int .i64 (r : Int)]] w fun e w' => e = .returned (.tuple #[]) ∧ SoS B sb wb ob cb la lc ls m wc oc ps (srLeave ls ps i r σ) w' ∧ Below B w w' := by
  have hi : i < m := hi0
  obtain ⟨l, hl⟩ : ∃ l : Nat, ps.getD i 0 = (l : Int) := ⟨(ps.getD i 0).toNat, by omega⟩
  have hll : l < ls.length := by omega
  obtain ⟨rg, rk, hso⟩ := h
  obtain ⟨b, o, ha, _, _⟩ := hso.lane hll
  subst ha
  have htl : (ps.getD i 0).toNat = l := by rw [hl, Int.toNat_natCast]
  obtain ⟨fl, hfl⟩ : ∃ fl, σ.full.getD l 0 = fl := ⟨_, rfl⟩
  obtain ⟨rm, hrm⟩ : ∃ rm, (ls.getD l zLa).rm = rm := ⟨_, rfl⟩
  have hfb2 : 0 ≤ fl ∧ fl ≤ 100 := by rw [← hfl]; exact hfb l hll
  obtain ⟨tk, htk2⟩ : ∃ tk, σ.tk = tk := ⟨_, rfl⟩
  obtain ⟨rc, hrc2⟩ : ∃ rc, σ.rc = rc := ⟨_, rfl⟩
  rw [htk2] at htk
  rw [hrc2] at hrc
  rw [htk2, hrc2] at hso
  obtain ⟨V, hV⟩ : ∃ V, V = w.alloc (Obj.cells #[.int .i64 (i : Int), .int .i64 (l : Int), .int .i64 (r : Int)] 92) := ⟨_, rfl⟩
  obtain ⟨pb, hpb⟩ : ∃ pb, pb = w.heap.size := ⟨_, rfl⟩
  have HV : Hid (V = w.alloc (Obj.cells #[.int .i64 (i : Int), .int .i64 (l : Int), .int .i64 (r : Int)] 92) ∧ pb = w.heap.size) := ⟨hV, hpb⟩
  have HI : Hid (LvI B sb wb ob cb (some ⟨b, o, none⟩) lc ls m wc oc (bfV ps σ.belt) (σ.full) (σ.out) σ.rej tk (rc) rg rk pb i l r w V) := by
    have hb : Below w.heap.size w V := by rw [hV]; exact below_alloc _ _
    exact ⟨hso.later hb, by rw [hV, hpb]; exact heapNew _ _, hb.mono (by have := hso.lt; have := hso.ge; omega)⟩
  have HPB : Hid (B ≤ pb) := by show B ≤ pb; rw [hpb]; have := hso.lt; have := hso.ge; omega
  have HC : Hid (∀ X, Below V.heap.size V X → LvI B sb wb ob cb (some ⟨b, o, none⟩) lc ls m wc oc (bfV ps σ.belt) (σ.full) (σ.out) σ.rej tk (rc) rg rk pb i l r w X) := fun X hX => HI.out.later hX
  have HLc : Hid (∀ X, Below V.heap.size V X → X.cell? ⟨b, o + l * 2, none⟩ = some (.int .i64 rm) ∧ X.cell? ⟨b, o + l * 2 + 1, none⟩ = some (.int .i64 (ls.getD l zLa).ev)) := fun X hX => by
    obtain ⟨b', o', ha, d0, d1⟩ := (HC.out X hX).so.lane hll
    cases ha
    rw [hrm] at d0
    exact ⟨d0, d1⟩
  have HFc : Hid (∀ X, Below V.heap.size V X → X.cell? ⟨wb, l, none⟩ = some (.int .i64 fl)) := fun X hX => by
    have := (rowCell (HC.out X hX).so.rowF (j := l) (by rw [hso.fl]; exact hll)).1
    rw [hfl] at this
    exact this
  have hlz : (l : Int) < (ls.length : Int) := by omega
  have him : (i : Int) < (m : Int) := by omega
  have HFl : Hid (σ.full.length = ls.length ∧ σ.out.length = m) := ⟨hso.fl, hso.ol⟩
  rw [hl]
  clear hV hpb hso
  have HE : Hid (srLeave ls ps i r σ = { σ with out := σ.out.set i (-1), rej := σ.rej ++ [(i : Int)] }) := by
    show _ = _
    unfold srLeave
    dsimp only
    rw [if_neg hc, if_pos h3]
  rw [htl, hfl, hrm] at hc
  clear htl hl hfl hrm hfb
  have ht0 : decide (fl < rm) = false := decide_eq_false hc
  have hr3 : ((r : Int) == 3) = true := by simp; omega
  clear h3
  go_enter Try.func72, Try.ntmps72
  go_upto_region 4 with fail
  rw [← HV.out.1, ← HV.out.2]
  clear HV
  refine wp_region_held_drew (S := fun W' => Below V.heap.size V W') (by kernel_rfl) (below_drew _) (fun hH => ?_)
  refine wpAnyH_take (i := 0) (v := .pointer (some ⟨sb, 0, none⟩)) rfl (by kernel_rfl) (by kernel_rfl) (by kernel_rfl) (fun _ _ _ h => h) (Or.inl ⟨by rfl, fun w hSw => by clear hSw; go_simp⟩) hH ?_
  refine wpAnyH_take (i := 1) (v := .pointer (some ⟨sb, 0, none⟩)) rfl (by kernel_rfl) (by kernel_rfl) (by kernel_rfl) (fun _ _ _ h => h) (Or.inl ⟨by rfl, fun w hSw => by clear hSw; go_simp⟩) hH ?_
  try simp only [Act.put, List.setIfInBounds_toArray, List.set_cons_zero, List.set_cons_succ, List.getElem_toArray, List.getElem_cons_succ, List.getElem_cons_zero]
  refine wpAnyH_take (i := 2) (v := .pointer (some ⟨sb, 1, none⟩)) rfl (by kernel_rfl) (by kernel_rfl) (by kernel_rfl) (fun _ _ _ h => h) (Or.inl ⟨by rfl, fun w hSw => by clear hSw; go_simp⟩) hH ?_
  try simp only [Act.put, List.setIfInBounds_toArray, List.set_cons_zero, List.set_cons_succ, List.getElem_toArray, List.getElem_cons_succ, List.getElem_cons_zero]
  refine wpAnyH_take (i := 3) (v := .slice (some ⟨wb, 0, none⟩) ls.length wc) rfl (by kernel_rfl) (by kernel_rfl) (by kernel_rfl) (fun _ _ _ h => h) (Or.inl ⟨by rfl, fun w hSw => by obtain ⟨⟨f0, f1, f2, f3⟩, ⟨f4, f5, f6⟩, _⟩ := (HC.out w hSw).cl; clear hSw; go_simp⟩) hH ?_
  try simp only [Act.put, List.setIfInBounds_toArray, List.set_cons_zero, List.set_cons_succ, List.getElem_toArray, List.getElem_cons_succ, List.getElem_cons_zero]
  refine wpAnyH_take (i := 4) (v := .pointer (some ⟨pb, 1, none⟩)) rfl (by kernel_rfl) (by kernel_rfl) (by kernel_rfl) (fun _ _ _ h => h) (Or.inl ⟨by rfl, fun w hSw => by clear hSw; go_simp⟩) hH ?_
  try simp only [Act.put, List.setIfInBounds_toArray, List.set_cons_zero, List.set_cons_succ, List.getElem_toArray, List.getElem_cons_succ, List.getElem_cons_zero]
  refine wpAnyH_take (i := 5) (v := .int .i64 (l : Int)) rfl (by kernel_rfl) (by kernel_rfl) (by kernel_rfl) (fun _ _ _ h => h) (Or.inl ⟨by rfl, fun w hSw => by obtain ⟨f0, f1, f2⟩ := (HC.out w hSw).pk; clear hSw; go_simp⟩) hH ?_
  try simp only [Act.put, List.setIfInBounds_toArray, List.set_cons_zero, List.set_cons_succ, List.getElem_toArray, List.getElem_cons_succ, List.getElem_cons_zero]
  refine wpAnyH_take (i := 6) (v := .pointer (some ⟨wb, l, none⟩)) rfl (by kernel_rfl) (by kernel_rfl) (by kernel_rfl) (fun _ _ _ h => h) (Or.inl ⟨by rfl, fun w hSw => by clear hSw; go_simp⟩) hH ?_
  try simp only [Act.put, List.setIfInBounds_toArray, List.set_cons_zero, List.set_cons_succ, List.getElem_toArray, List.getElem_cons_succ, List.getElem_cons_zero]
  refine wpAnyH_take (i := 7) (v := .int .i64 fl) rfl (by kernel_rfl) (by kernel_rfl) (by kernel_rfl) (fun _ _ _ h => h) (Or.inl ⟨by rfl, fun w hSw => by have f0 := HFc.out w hSw; clear hSw; go_simp⟩) hH ?_
  try simp only [Act.put, List.setIfInBounds_toArray, List.set_cons_zero, List.set_cons_succ, List.getElem_toArray, List.getElem_cons_succ, List.getElem_cons_zero]
  refine wpAnyH_take (i := 8) (v := .pointer (some ⟨sb, 0, none⟩)) rfl (by kernel_rfl) (by kernel_rfl) (by kernel_rfl) (fun _ _ _ h => h) (Or.inl ⟨by rfl, fun w hSw => by clear hSw; go_simp⟩) hH ?_
  try simp only [Act.put, List.setIfInBounds_toArray, List.set_cons_zero, List.set_cons_succ, List.getElem_toArray, List.getElem_cons_succ, List.getElem_cons_zero]
  refine wpAnyH_take (i := 9) (v := .pointer (some ⟨sb, 0, none⟩)) rfl (by kernel_rfl) (by kernel_rfl) (by kernel_rfl) (fun _ _ _ h => h) (Or.inl ⟨by rfl, fun w hSw => by clear hSw; go_simp⟩) hH ?_
  try simp only [Act.put, List.setIfInBounds_toArray, List.set_cons_zero, List.set_cons_succ, List.getElem_toArray, List.getElem_cons_succ, List.getElem_cons_zero]
  refine wpAnyH_take (i := 10) (v := .pointer (some ⟨sb, 0, none⟩)) rfl (by kernel_rfl) (by kernel_rfl) (by kernel_rfl) (fun _ _ _ h => h) (Or.inl ⟨by rfl, fun w hSw => by clear hSw; go_simp⟩) hH ?_
  try simp only [Act.put, List.setIfInBounds_toArray, List.set_cons_zero, List.set_cons_succ, List.getElem_toArray, List.getElem_cons_succ, List.getElem_cons_zero]
  refine wpAnyH_take (i := 11) (v := .slice (some ⟨b, o, none⟩) ls.length lc) rfl (by kernel_rfl) (by kernel_rfl) (by kernel_rfl) (fun _ _ _ h => h) (Or.inl ⟨by rfl, fun w hSw => by obtain ⟨⟨f0, f1, f2, f3⟩, ⟨f4, f5, f6⟩, _⟩ := (HC.out w hSw).cl; clear hSw; go_simp⟩) hH ?_
  try simp only [Act.put, List.setIfInBounds_toArray, List.set_cons_zero, List.set_cons_succ, List.getElem_toArray, List.getElem_cons_succ, List.getElem_cons_zero]
  refine wpAnyH_take (i := 12) (v := .pointer (some ⟨pb, 1, none⟩)) rfl (by kernel_rfl) (by kernel_rfl) (by kernel_rfl) (fun _ _ _ h => h) (Or.inl ⟨by rfl, fun w hSw => by clear hSw; go_simp⟩) hH ?_
  try simp only [Act.put, List.setIfInBounds_toArray, List.set_cons_zero, List.set_cons_succ, List.getElem_toArray, List.getElem_cons_succ, List.getElem_cons_zero]
  refine wpAnyH_take (i := 13) (v := .int .i64 (l : Int)) rfl (by kernel_rfl) (by kernel_rfl) (by kernel_rfl) (fun _ _ _ h => h) (Or.inl ⟨by rfl, fun w hSw => by obtain ⟨f0, f1, f2⟩ := (HC.out w hSw).pk; clear hSw; go_simp⟩) hH ?_
  try simp only [Act.put, List.setIfInBounds_toArray, List.set_cons_zero, List.set_cons_succ, List.getElem_toArray, List.getElem_cons_succ, List.getElem_cons_zero]
  refine wpAnyH_take (i := 14) (v := .pointer (some ⟨b, o + l * 2, none⟩)) rfl (by kernel_rfl) (by kernel_rfl) (by kernel_rfl) (fun _ _ _ h => h) (Or.inl ⟨by rfl, fun w hSw => by clear hSw; go_simp⟩) hH ?_
  try simp only [Act.put, List.setIfInBounds_toArray, List.set_cons_zero, List.set_cons_succ, List.getElem_toArray, List.getElem_cons_succ, List.getElem_cons_zero]
  refine wpAnyH_take (i := 15) (v := .pointer (some ⟨b, o + l * 2, none⟩)) rfl (by kernel_rfl) (by kernel_rfl) (by kernel_rfl) (fun _ _ _ h => h) (Or.inl ⟨by rfl, fun w hSw => by clear hSw; go_simp⟩) hH ?_
  try simp only [Act.put, List.setIfInBounds_toArray, List.set_cons_zero, List.set_cons_succ, List.getElem_toArray, List.getElem_cons_succ, List.getElem_cons_zero]
  refine wpAnyH_take (i := 16) (v := .int .i64 rm) rfl (by kernel_rfl) (by kernel_rfl) (by kernel_rfl) (fun _ _ _ h => h) (Or.inl ⟨by rfl, fun w hSw => by obtain ⟨f0, f1⟩ := HLc.out w hSw; clear hSw; go_simp⟩) hH ?_
  try simp only [Act.put, List.setIfInBounds_toArray, List.set_cons_zero, List.set_cons_succ, List.getElem_toArray, List.getElem_cons_succ, List.getElem_cons_zero]
  refine wpAnyH_take (i := 17) (v := .bool false) rfl (by kernel_rfl) (by kernel_rfl) (by kernel_rfl) (fun _ _ _ h => h) (Or.inl ⟨by rfl, fun w hSw => by clear hSw; go_simp⟩) hH ?_
  try simp only [Act.put, List.setIfInBounds_toArray, List.set_cons_zero, List.set_cons_succ, List.getElem_toArray, List.getElem_cons_succ, List.getElem_cons_zero]
  refine wpAnyH_take (i := 18) (v := .bool false) rfl (by kernel_rfl) (by kernel_rfl) (by kernel_rfl) (fun _ _ _ h => h) (Or.inl ⟨by rfl, fun w hSw => by clear hSw; go_simp⟩) hH ?_
  try simp only [Act.put, List.setIfInBounds_toArray, List.set_cons_zero, List.set_cons_succ, List.getElem_toArray, List.getElem_cons_succ, List.getElem_cons_zero]
  refine wpAnyH_done (by kernel_rfl) ?_ _
  clear hH
  have HI2 : Hid (LvI B sb wb ob cb (some ⟨b, o, none⟩) lc ls m wc oc (bfV ps σ.belt) (σ.full) (σ.out) σ.rej tk (rc) rg rk pb i l r w V.drew) := HI.out.later (below_drew _)
  have HC2 := fun X (hX : Below V.drew.heap.size V.drew X) => chain (below_drew V) hX
  have HF2 : Hid (∀ X, Below V.drew.heap.size V.drew X → X.cell? ⟨wb, l, none⟩ = some (.int .i64 fl)) := fun X hX => HFc.out X (HC2 X hX)
  clear HI HC HLc HFc HC2
  generalize V.drew = V2 at *
  have HC : Hid (∀ X, Below V2.heap.size V2 X → LvI B sb wb ob cb (some ⟨b, o, none⟩) lc ls m wc oc (bfV ps σ.belt) (σ.full) (σ.out) σ.rej tk (rc) rg rk pb i l r w X) := fun X hX => HI2.out.later hX
  clear HPB HF2
  obtain ⟨p0, p1, p2⟩ := HI2.out.pk
  go_upto_region 8 with fail
  clear p0 p1 p2
  refine wp_region_z (S := fun W' => Below V2.heap.size V2 W') 8 (by kernel_rfl) (below_drew _) (fun hH => ?_)
  refine wpAnyZ_take (i := 0) (v := .pointer (some ⟨sb, 0, none⟩)) rfl (by kernel_rfl) (by kernel_rfl) (by kernel_rfl) (by kernel_rfl) (fun _ _ _ h => h) (Or.inl ⟨by rfl, fun w hSw => by clear hSw; go_simp⟩) hH ?_
  refine wpAnyZ_take (i := 1) (v := .pointer (some ⟨sb, 0, none⟩)) rfl (by kernel_rfl) (by kernel_rfl) (by kernel_rfl) (by kernel_rfl) (fun _ _ _ h => h) (Or.inl ⟨by rfl, fun w hSw => by clear hSw; go_simp⟩) hH ?_
  try simp only [Act.put, List.setIfInBounds_toArray, List.set_cons_zero, List.set_cons_succ, List.getElem_toArray, List.getElem_cons_succ, List.getElem_cons_zero]
  refine wpAnyZ_take (i := 2) (v := .pointer (some ⟨sb, 3, none⟩)) rfl (by kernel_rfl) (by kernel_rfl) (by kernel_rfl) (by kernel_rfl) (fun _ _ _ h => h) (Or.inl ⟨by rfl, fun w hSw => by clear hSw; go_simp⟩) hH ?_
  try simp only [Act.put, List.setIfInBounds_toArray, List.set_cons_zero, List.set_cons_succ, List.getElem_toArray, List.getElem_cons_succ, List.getElem_cons_zero]
  refine wpAnyZ_take (i := 3) (v := .pointer (some ⟨sb, 5, none⟩)) rfl (by kernel_rfl) (by kernel_rfl) (by kernel_rfl) (by kernel_rfl) (fun _ _ _ h => h) (Or.inl ⟨by rfl, fun w hSw => by clear hSw; go_simp⟩) hH ?_
  try simp only [Act.put, List.setIfInBounds_toArray, List.set_cons_zero, List.set_cons_succ, List.getElem_toArray, List.getElem_cons_succ, List.getElem_cons_zero]
  refine wpAnyZ_take (i := 4) (v := .slice (some ⟨ob, 0, none⟩) m oc) rfl (by kernel_rfl) (by kernel_rfl) (by kernel_rfl) (by kernel_rfl) (fun _ _ _ h => h) (Or.inl ⟨by rfl, fun w hSw => by obtain ⟨⟨f0, f1, f2, f3⟩, ⟨f4, f5, f6⟩, _⟩ := (HC.out w hSw).cl; clear hSw; go_simp⟩) hH ?_
  try simp only [Act.put, List.setIfInBounds_toArray, List.set_cons_zero, List.set_cons_succ, List.getElem_toArray, List.getElem_cons_succ, List.getElem_cons_zero]
  refine wpAnyZ_take (i := 5) (v := .pointer (some ⟨pb, 0, none⟩)) rfl (by kernel_rfl) (by kernel_rfl) (by kernel_rfl) (by kernel_rfl) (fun _ _ _ h => h) (Or.inl ⟨by rfl, fun w hSw => by clear hSw; go_simp⟩) hH ?_
  try simp only [Act.put, List.setIfInBounds_toArray, List.set_cons_zero, List.set_cons_succ, List.getElem_toArray, List.getElem_cons_succ, List.getElem_cons_zero]
  refine wpAnyZ_take (i := 6) (v := .int .i64 (i : Int)) rfl (by kernel_rfl) (by kernel_rfl) (by kernel_rfl) (by kernel_rfl) (fun _ _ _ h => h) (Or.inl ⟨by rfl, fun w hSw => by obtain ⟨f0, f1, f2⟩ := (HC.out w hSw).pk; clear hSw; go_simp⟩) hH ?_
  try simp only [Act.put, List.setIfInBounds_toArray, List.set_cons_zero, List.set_cons_succ, List.getElem_toArray, List.getElem_cons_succ, List.getElem_cons_zero]
  refine wpAnyZ_take (i := 7) (v := .pointer (some ⟨ob, i, none⟩)) rfl (by kernel_rfl) (by kernel_rfl) (by kernel_rfl) (by kernel_rfl) (fun _ _ _ h => h) (Or.inl ⟨by rfl, fun w hSw => by clear hSw; go_simp⟩) hH ?_
  try simp only [Act.put, List.setIfInBounds_toArray, List.set_cons_zero, List.set_cons_succ, List.getElem_toArray, List.getElem_cons_succ, List.getElem_cons_zero]
  refine wpAnyZ_ready (rs := [8]) (by kernel_rfl) (by simp) ?_
  refine AllReadyZ.cons rfl (fun K hK => ?_) AllReadyZ.nil
  obtain ⟨v1, v2⟩ := rowCell (HC.out _ (below_drew _)).so.rowO (j := i) (by rw [HFl.out.2]; exact hi)
  go_simp
  refine hK.out _ _ (Or.inl rfl) (fun _ => ?_)
  clear hK K
  try simp only [Act.put, List.setIfInBounds_toArray, List.set_cons_zero, List.set_cons_succ, List.getElem_toArray, List.getElem_cons_succ, List.getElem_cons_zero]
  refine wpAnyZ_done (by kernel_rfl) ?_ _
  clear v1 v2 hH
  have HI3 : Hid (LvI B sb wb ob cb (some ⟨b, o, none⟩) lc ls m wc oc (bfV ps σ.belt) (σ.full) (σ.out.set i (-1)) σ.rej tk (rc) rg rk pb i l r w (V2.setCell ⟨ob, i, none⟩ (.int .i64 (-1))).drew) := by
    show LvI _ _ _ _ _ _ _ _ _ _ _ _ _ _ _ _ _ _ _ _ _ _ _ _ _
    exact (HI2.out.later (below_drew _)).setO (by rw [HFl.out.2]; exact hi) _
  clear HI2 HC
  generalize (V2.setCell ⟨ob, i, none⟩ (.int .i64 (-1))).drew = V3 at *
  go_upto_region 9 with fail
  obtain ⟨V4, hV4⟩ : ∃ V4, V4 = V3.drew := ⟨_, rfl⟩
  have HI4 : Hid (LvI B sb wb ob cb (some ⟨b, o, none⟩) lc ls m wc oc (bfV ps σ.belt) (σ.full) (σ.out.set i (-1)) σ.rej tk (rc) rg rk pb i l r w V4) := by
    show LvI _ _ _ _ _ _ _ _ _ _ _ _ _ _ _ _ _ _ _ _ _ _ _ _ _
    rw [hV4]; exact HI3.out.later (below_drew _)
  refine wp_region_z (S := fun W' => W'.cell? ⟨sb, 6, none⟩ = some (.slice rg σ.rej.length rk) ∧ W'.cell? ⟨pb, 0, none⟩ = some (.int .i64 (i : Int))) 13 (by kernel_rfl) (by rw [← hV4]; exact ⟨HI4.out.cl.2.1.2.2, HI4.out.pk.1⟩) (fun hH => ?_)
  rw [← hV4] at hH ⊢
  clear hV4 HI3
  refine wpAnyZ_take (i := 0) (v := .pointer (some ⟨sb, 0, none⟩)) rfl (by kernel_rfl) (by kernel_rfl) (by kernel_rfl) (by kernel_rfl) (fun _ _ _ h => h) (Or.inl ⟨by rfl, fun w hSw => by clear hSw; go_simp⟩) hH ?_
  refine wpAnyZ_take (i := 1) (v := .pointer (some ⟨sb, 0, none⟩)) rfl (by kernel_rfl) (by kernel_rfl) (by kernel_rfl) (by kernel_rfl) (fun _ _ _ h => h) (Or.inl ⟨by rfl, fun w hSw => by clear hSw; go_simp⟩) hH ?_
  try simp only [Act.put, List.setIfInBounds_toArray, List.set_cons_zero, List.set_cons_succ, List.getElem_toArray, List.getElem_cons_succ, List.getElem_cons_zero]
  refine wpAnyZ_take (i := 2) (v := .pointer (some ⟨sb, 0, none⟩)) rfl (by kernel_rfl) (by kernel_rfl) (by kernel_rfl) (by kernel_rfl) (fun _ _ _ h => h) (Or.inl ⟨by rfl, fun w hSw => by clear hSw; go_simp⟩) hH ?_
  try simp only [Act.put, List.setIfInBounds_toArray, List.set_cons_zero, List.set_cons_succ, List.getElem_toArray, List.getElem_cons_succ, List.getElem_cons_zero]
  refine wpAnyZ_take (i := 3) (v := .pointer (some ⟨sb, 3, none⟩)) rfl (by kernel_rfl) (by kernel_rfl) (by kernel_rfl) (by kernel_rfl) (fun _ _ _ h => h) (Or.inl ⟨by rfl, fun w hSw => by clear hSw; go_simp⟩) hH ?_
  try simp only [Act.put, List.setIfInBounds_toArray, List.set_cons_zero, List.set_cons_succ, List.getElem_toArray, List.getElem_cons_succ, List.getElem_cons_zero]
  refine wpAnyZ_take (i := 4) (v := .pointer (some ⟨sb, 6, none⟩)) rfl (by kernel_rfl) (by kernel_rfl) (by kernel_rfl) (by kernel_rfl) (fun _ _ _ h => h) (Or.inl ⟨by rfl, fun w hSw => by clear hSw; go_simp⟩) hH ?_
  try simp only [Act.put, List.setIfInBounds_toArray, List.set_cons_zero, List.set_cons_succ, List.getElem_toArray, List.getElem_cons_succ, List.getElem_cons_zero]
  refine wpAnyZ_take (i := 5) (v := .slice rg σ.rej.length rk) rfl (by kernel_rfl) (by kernel_rfl) (by kernel_rfl) (by kernel_rfl) (fun _ _ _ h => h) (Or.inl ⟨by rfl, fun w hSw => by have f0 := hSw.1; clear hSw; go_simp⟩) hH ?_
  try simp only [Act.put, List.setIfInBounds_toArray, List.set_cons_zero, List.set_cons_succ, List.getElem_toArray, List.getElem_cons_succ, List.getElem_cons_zero]
  refine wpAnyZ_take (i := 6) (v := .pointer (some ⟨pb, 0, none⟩)) rfl (by kernel_rfl) (by kernel_rfl) (by kernel_rfl) (by kernel_rfl) (fun _ _ _ h => h) (Or.inl ⟨by rfl, fun w hSw => by clear hSw; go_simp⟩) hH ?_
  try simp only [Act.put, List.setIfInBounds_toArray, List.set_cons_zero, List.set_cons_succ, List.getElem_toArray, List.getElem_cons_succ, List.getElem_cons_zero]
  refine wpAnyZ_take (i := 7) (v := .int .i64 (i : Int)) rfl (by kernel_rfl) (by kernel_rfl) (by kernel_rfl) (by kernel_rfl) (fun _ _ _ h => h) (Or.inl ⟨by rfl, fun w hSw => by have f0 := hSw.2; clear hSw; go_simp⟩) hH ?_
  try simp only [Act.put, List.setIfInBounds_toArray, List.set_cons_zero, List.set_cons_succ, List.getElem_toArray, List.getElem_cons_succ, List.getElem_cons_zero]
  refine wpAnyZ_ready (rs := [8]) (by kernel_rfl) (by simp) ?_
  refine AllReadyZ.cons rfl (fun K hK => ?_) AllReadyZ.nil
  go_simp
  obtain ⟨V5, hV5⟩ : ∃ V5, V5 = V4.alloc (Obj.cells #[.int .i64 (i : Int)] 3) := ⟨_, rfl⟩
  obtain ⟨n5, hn5⟩ : ∃ n5, n5 = V4.heap.size := ⟨_, rfl⟩
  rw [← hV5, ← hn5]
  have HI5 : Hid (LvI B sb wb ob cb (some ⟨b, o, none⟩) lc ls m wc oc (bfV ps σ.belt) (σ.full) (σ.out.set i (-1)) σ.rej tk (rc) rg rk pb i l r w V5 ∧ V5.cell? ⟨n5, 0, none⟩ = some (.int .i64 (i : Int))) := by
    rw [hV5, hn5]; exact ⟨HI4.out.later (below_alloc _ _), blkCell (heapNew _ _) 0 _ rfl⟩
  clear hV5 hn5 HI4 hH
  have hH5 : V5.cell? ⟨sb, 6, none⟩ = some (.slice rg σ.rej.length rk) ∧ V5.cell? ⟨pb, 0, none⟩ = some (.int .i64 (i : Int)) := ⟨HI5.out.1.cl.2.1.2.2, HI5.out.1.pk.1⟩
  refine hK.out _ _ (Or.inr hH5) (fun _ => ?_)
  clear hK K
  try simp only [Act.put, List.setIfInBounds_toArray, List.set_cons_zero, List.set_cons_succ, List.getElem_toArray, List.getElem_cons_succ, List.getElem_cons_zero]
  refine wpAnyZ_ready (rs := [9]) (by kernel_rfl) (by simp) ?_
  refine AllReadyZ.cons rfl (fun K hK => ?_) AllReadyZ.nil
  refine step_int1 rfl _ _ rfl B rg rk σ.rej (i : Int) V5 rfl HI5.out.1.so.rowR n5 rfl HI5.out.2 (by omega) (by have := HI5.out.1.so.lt; have := HI5.out.1.so.ge; omega) ?_
  intro g1 c1 V6 hr1 hr2 hg hg1
  have HP : Hid (SoI B sb wb ob cb (some ⟨b, o, none⟩) lc ls m wc oc (bfV ps σ.belt) σ.full (σ.out.set i (-1)) (σ.rej ++ [(i : Int)]) tk rc (some ⟨g1, 0, none⟩) c1 (V6.setCell ⟨sb, 6, none⟩ (.slice (some ⟨g1, 0, none⟩) (σ.rej.length + 1) c1)) ∧ Below B V5 (V6.setCell ⟨sb, 6, none⟩ (.slice (some ⟨g1, 0, none⟩) (σ.rej.length + 1) c1))) := HI5.out.1.so.push (x := 0) hr1 hg hg1
  have hb6 : V6.heap[sb]? = V5.heap[sb]? := hg.block sb HI5.out.1.so.lt.1 (fun e => (HI5.out.1.so.ne.2.2 sb e.symm).1 rfl)
  have hp6 : V6.heap[pb]? = V5.heap[pb]? := hg.block pb (blkLt HI5.out.1.bx) (fun e => HI5.out.1.apart.2.2.2.2 pb e.symm rfl)
  have hH6 : V6.cell? ⟨sb, 6, none⟩ = some (.slice rg σ.rej.length rk) ∧ V6.cell? ⟨pb, 0, none⟩ = some (.int .i64 (i : Int)) := ⟨(World.cell?_of_block (w := V5) (a := ⟨sb, 6, none⟩) hb6).trans hH5.1, (World.cell?_of_block (w := V5) (a := ⟨pb, 0, none⟩) hp6).trans hH5.2⟩
  have hz6 := blkFree (hb6.trans HI5.out.1.so.box) 6
  have HLow : Hid (Below B w V5) := HI5.out.1.low
  clear hr1 hr2 hg hg1 hb6 hp6 HI5 hH5
  refine hK.out _ _ (Or.inr hH6) (fun _ => ?_)
  clear hK K
  try simp only [Act.put, List.setIfInBounds_toArray, List.set_cons_zero, List.set_cons_succ, List.getElem_toArray, List.getElem_cons_succ, List.getElem_cons_zero]
  refine wpAnyZ_take (i := 10) (v := .pointer (some ⟨sb, 0, none⟩)) rfl (by kernel_rfl) (by kernel_rfl) (by kernel_rfl) (by kernel_rfl) (fun _ _ _ h => h) (Or.inl ⟨by rfl, fun w hSw => by clear hSw; go_simp⟩) hH6 ?_
  try simp only [Act.put, List.setIfInBounds_toArray, List.set_cons_zero, List.set_cons_succ, List.getElem_toArray, List.getElem_cons_succ, List.getElem_cons_zero]
  refine wpAnyZ_take (i := 11) (v := .pointer (some ⟨sb, 3, none⟩)) rfl (by kernel_rfl) (by kernel_rfl) (by kernel_rfl) (by kernel_rfl) (fun _ _ _ h => h) (Or.inl ⟨by rfl, fun w hSw => by clear hSw; go_simp⟩) hH6 ?_
  try simp only [Act.put, List.setIfInBounds_toArray, List.set_cons_zero, List.set_cons_succ, List.getElem_toArray, List.getElem_cons_succ, List.getElem_cons_zero]
  refine wpAnyZ_take (i := 12) (v := .pointer (some ⟨sb, 6, none⟩)) rfl (by kernel_rfl) (by kernel_rfl) (by kernel_rfl) (by kernel_rfl) (fun _ _ _ h => h) (Or.inl ⟨by rfl, fun w hSw => by clear hSw; go_simp⟩) hH6 ?_
  try simp only [Act.put, List.setIfInBounds_toArray, List.set_cons_zero, List.set_cons_succ, List.getElem_toArray, List.getElem_cons_succ, List.getElem_cons_zero]
  have v1 := hH6.1
  refine wpAnyZ_ready (rs := [13]) (by kernel_rfl) (by simp) ?_
  refine AllReadyZ.cons rfl (fun K hK => ?_) AllReadyZ.nil
  go_simp
  refine hK.out _ _ (Or.inl rfl) (fun _ => ?_)
  clear hK K
  try simp only [Act.put, List.setIfInBounds_toArray, List.set_cons_zero, List.set_cons_succ, List.getElem_toArray, List.getElem_cons_succ, List.getElem_cons_zero]
  refine wpAnyZ_done (by kernel_rfl) ?_ _
  clear hH6 hz6 v1
  have HEnd : Hid (SoS B sb wb ob cb (some ⟨b, o, none⟩) lc ls m wc oc ps (srLeave ls ps i r σ) (V6.setCell ⟨sb, 6, none⟩ (.slice (some ⟨g1, 0, none⟩) (σ.rej.length + 1) c1)) ∧ Below B w (V6.setCell ⟨sb, 6, none⟩ (.slice (some ⟨g1, 0, none⟩) (σ.rej.length + 1) c1))) := by
    rw [HE.out]
    refine ⟨⟨some ⟨g1, 0, none⟩, c1, ?_⟩, HLow.out.trans HP.out.2⟩
    have := HP.out.1
    rw [← htk2, ← hrc2] at this
    exact this
  clear HP HLow
  go_wp2
  go_end0
  exact ⟨rfl, HEnd.out⟩
set_option maxHeartbeats 8000000 in
set_option maxRecDepth 4000 in
theorem leave_round {B sb wb ob cb : Nat} {la : Option Addr} {lc : Nat} {ls : List RLa} {m wc oc : Nat} (ps : List Int) (σ : SrS) (i r : Nat) (hi0 : i < m) (hlv : 0 ≤ ps.getD i 0 ∧ ps.getD i 0 < (ls.length : Int)) (hfb : ∀ k, k < ls.length → 0 ≤ σ.full.getD k 0 ∧ σ.full.getD k 0 ≤ 100) (hr : r ≤ 3) (htk : 0 ≤ σ.tk ∧ σ.tk ≤ 400) (hrc : 0 ≤ σ.rc ∧ σ.rc ≤ 400) (hrl : σ.rej.length ≤ 100) (hbm : σ.belt.length < m) (w : World) (h : SoS B sb wb ob cb la lc ls m wc oc ps σ w) (hc : ¬ σ.full.getD (ps.getD i 0).toNat 0 < (ls.getD (ps.getD i 0).toNat zLa).rm) (h3 : r ≠ 3) :
    Calls Try.prog 72 #[.pointer (some ⟨sb, 0, none⟩), .agg #[.int .i64 (i : Int), .int .i64 (ps.getD i 0), .int .i64 (r : Int)]] w fun e w' => e = .returned (.tuple #[]) ∧ SoS B sb wb ob cb la lc ls m wc oc ps (srLeave ls ps i r σ) w' ∧ Below B w w' := by
  have hi : i < m := hi0
  obtain ⟨l, hl⟩ : ∃ l : Nat, ps.getD i 0 = (l : Int) := ⟨(ps.getD i 0).toNat, by omega⟩
  have hll : l < ls.length := by omega
  obtain ⟨rg, rk, hso⟩ := h
  obtain ⟨b, o, ha, _, _⟩ := hso.lane hll
  subst ha
  have htl : (ps.getD i 0).toNat = l := by rw [hl, Int.toNat_natCast]
  obtain ⟨fl, hfl⟩ : ∃ fl, σ.full.getD l 0 = fl := ⟨_, rfl⟩
  obtain ⟨rm, hrm⟩ : ∃ rm, (ls.getD l zLa).rm = rm := ⟨_, rfl⟩
  have hfb2 : 0 ≤ fl ∧ fl ≤ 100 := by rw [← hfl]; exact hfb l hll
  obtain ⟨tk, htk2⟩ : ∃ tk, σ.tk = tk := ⟨_, rfl⟩
  obtain ⟨rc, hrc2⟩ : ∃ rc, σ.rc = rc := ⟨_, rfl⟩
  rw [htk2] at htk
  rw [hrc2] at hrc
  rw [htk2, hrc2] at hso
  obtain ⟨V, hV⟩ : ∃ V, V = w.alloc (Obj.cells #[.int .i64 (i : Int), .int .i64 (l : Int), .int .i64 (r : Int)] 92) := ⟨_, rfl⟩
  obtain ⟨pb, hpb⟩ : ∃ pb, pb = w.heap.size := ⟨_, rfl⟩
  have HV : Hid (V = w.alloc (Obj.cells #[.int .i64 (i : Int), .int .i64 (l : Int), .int .i64 (r : Int)] 92) ∧ pb = w.heap.size) := ⟨hV, hpb⟩
  have HI : Hid (LvI B sb wb ob cb (some ⟨b, o, none⟩) lc ls m wc oc (bfV ps σ.belt) (σ.full) (σ.out) σ.rej tk (rc) rg rk pb i l r w V) := by
    have hb : Below w.heap.size w V := by rw [hV]; exact below_alloc _ _
    exact ⟨hso.later hb, by rw [hV, hpb]; exact heapNew _ _, hb.mono (by have := hso.lt; have := hso.ge; omega)⟩
  have HPB : Hid (B ≤ pb) := by show B ≤ pb; rw [hpb]; have := hso.lt; have := hso.ge; omega
  have HC : Hid (∀ X, Below V.heap.size V X → LvI B sb wb ob cb (some ⟨b, o, none⟩) lc ls m wc oc (bfV ps σ.belt) (σ.full) (σ.out) σ.rej tk (rc) rg rk pb i l r w X) := fun X hX => HI.out.later hX
  have HLc : Hid (∀ X, Below V.heap.size V X → X.cell? ⟨b, o + l * 2, none⟩ = some (.int .i64 rm) ∧ X.cell? ⟨b, o + l * 2 + 1, none⟩ = some (.int .i64 (ls.getD l zLa).ev)) := fun X hX => by
    obtain ⟨b', o', ha, d0, d1⟩ := (HC.out X hX).so.lane hll
    cases ha
    rw [hrm] at d0
    exact ⟨d0, d1⟩
  have HFc : Hid (∀ X, Below V.heap.size V X → X.cell? ⟨wb, l, none⟩ = some (.int .i64 fl)) := fun X hX => by
    have := (rowCell (HC.out X hX).so.rowF (j := l) (by rw [hso.fl]; exact hll)).1
    rw [hfl] at this
    exact this
  have hlz : (l : Int) < (ls.length : Int) := by omega
  have him : (i : Int) < (m : Int) := by omega
  have HFl : Hid (σ.full.length = ls.length ∧ σ.out.length = m) := ⟨hso.fl, hso.ol⟩
  rw [hl]
  clear hV hpb hso
  have HE : Hid (srLeave ls ps i r σ = { σ with belt := σ.belt ++ [(i, r + 1)], rc := rc + 1 } ∧ (bfV ps σ.belt).push (.agg #[.int .i64 (i : Int), .int .i64 (l : Int), .int .i64 ((r + 1 : Nat) : Int)]) = bfV ps (σ.belt ++ [(i, r + 1)])) := by
    refine ⟨?_, ?_⟩
    · unfold srLeave
      dsimp only
      rw [if_neg hc, if_neg h3, hrc2]
    · rw [← hl]; exact bfV_push ps σ.belt i (r + 1)
  rw [htl, hfl, hrm] at hc
  clear htl hl hfl hrm hfb
  have ht0 : decide (fl < rm) = false := decide_eq_false hc
  have hr3 : ((r : Int) == 3) = false := by simp; omega
  have hwr : IntKind.i64.wrap ((r : Int) + 1) = (r : Int) + 1 := wrap_id _ (by omega) (by omega)
  have hwc : IntKind.i64.wrap (rc + 1) = rc + 1 := wrap_id _ (by omega) (by omega)
  refine calls_of_wpN Try.func72 rfl ?_
  simp only [Try.ntmps72, List.size_toArray, List.length_cons, List.length_nil, Nat.reduceAdd, Nat.reduceSub, Array.replicate_succ, Array.replicate_zero, List.push_toArray, List.append_toArray, List.nil_append, List.cons_append]
  refine wpN_seq_of ?_
  go_wp2
  rw [← HV.out.1, ← HV.out.2]
  clear HV
  refine wpN_block (wpN_seq_of ?_)
  refine wp_region_held_drew (S := fun W' => Below V.heap.size V W') (by kernel_rfl) (below_drew _) (fun hH => ?_)
  refine wpAnyH_take (i := 0) (v := .pointer (some ⟨sb, 0, none⟩)) rfl (by kernel_rfl) (by kernel_rfl) (by kernel_rfl) (fun _ _ _ h => h) (Or.inl ⟨by rfl, fun w hSw => by clear hSw; go_simp⟩) hH ?_
  refine wpAnyH_take (i := 1) (v := .pointer (some ⟨sb, 0, none⟩)) rfl (by kernel_rfl) (by kernel_rfl) (by kernel_rfl) (fun _ _ _ h => h) (Or.inl ⟨by rfl, fun w hSw => by clear hSw; go_simp⟩) hH ?_
  try simp only [Act.put, List.setIfInBounds_toArray, List.set_cons_zero, List.set_cons_succ, List.getElem_toArray, List.getElem_cons_succ, List.getElem_cons_zero]
  refine wpAnyH_take (i := 2) (v := .pointer (some ⟨sb, 1, none⟩)) rfl (by kernel_rfl) (by kernel_rfl) (by kernel_rfl) (fun _ _ _ h => h) (Or.inl ⟨by rfl, fun w hSw => by clear hSw; go_simp⟩) hH ?_
  try simp only [Act.put, List.setIfInBounds_toArray, List.set_cons_zero, List.set_cons_succ, List.getElem_toArray, List.getElem_cons_succ, List.getElem_cons_zero]
  refine wpAnyH_take (i := 3) (v := .slice (some ⟨wb, 0, none⟩) ls.length wc) rfl (by kernel_rfl) (by kernel_rfl) (by kernel_rfl) (fun _ _ _ h => h) (Or.inl ⟨by rfl, fun w hSw => by obtain ⟨⟨f0, f1, f2, f3⟩, ⟨f4, f5, f6⟩, _⟩ := (HC.out w hSw).cl; clear hSw; go_simp⟩) hH ?_
  try simp only [Act.put, List.setIfInBounds_toArray, List.set_cons_zero, List.set_cons_succ, List.getElem_toArray, List.getElem_cons_succ, List.getElem_cons_zero]
  refine wpAnyH_take (i := 4) (v := .pointer (some ⟨pb, 1, none⟩)) rfl (by kernel_rfl) (by kernel_rfl) (by kernel_rfl) (fun _ _ _ h => h) (Or.inl ⟨by rfl, fun w hSw => by clear hSw; go_simp⟩) hH ?_
  try simp only [Act.put, List.setIfInBounds_toArray, List.set_cons_zero, List.set_cons_succ, List.getElem_toArray, List.getElem_cons_succ, List.getElem_cons_zero]
  refine wpAnyH_take (i := 5) (v := .int .i64 (l : Int)) rfl (by kernel_rfl) (by kernel_rfl) (by kernel_rfl) (fun _ _ _ h => h) (Or.inl ⟨by rfl, fun w hSw => by obtain ⟨f0, f1, f2⟩ := (HC.out w hSw).pk; clear hSw; go_simp⟩) hH ?_
  try simp only [Act.put, List.setIfInBounds_toArray, List.set_cons_zero, List.set_cons_succ, List.getElem_toArray, List.getElem_cons_succ, List.getElem_cons_zero]
  refine wpAnyH_take (i := 6) (v := .pointer (some ⟨wb, l, none⟩)) rfl (by kernel_rfl) (by kernel_rfl) (by kernel_rfl) (fun _ _ _ h => h) (Or.inl ⟨by rfl, fun w hSw => by clear hSw; go_simp⟩) hH ?_
  try simp only [Act.put, List.setIfInBounds_toArray, List.set_cons_zero, List.set_cons_succ, List.getElem_toArray, List.getElem_cons_succ, List.getElem_cons_zero]
  refine wpAnyH_take (i := 7) (v := .int .i64 fl) rfl (by kernel_rfl) (by kernel_rfl) (by kernel_rfl) (fun _ _ _ h => h) (Or.inl ⟨by rfl, fun w hSw => by have f0 := HFc.out w hSw; clear hSw; go_simp⟩) hH ?_
  try simp only [Act.put, List.setIfInBounds_toArray, List.set_cons_zero, List.set_cons_succ, List.getElem_toArray, List.getElem_cons_succ, List.getElem_cons_zero]
  refine wpAnyH_take (i := 8) (v := .pointer (some ⟨sb, 0, none⟩)) rfl (by kernel_rfl) (by kernel_rfl) (by kernel_rfl) (fun _ _ _ h => h) (Or.inl ⟨by rfl, fun w hSw => by clear hSw; go_simp⟩) hH ?_
  try simp only [Act.put, List.setIfInBounds_toArray, List.set_cons_zero, List.set_cons_succ, List.getElem_toArray, List.getElem_cons_succ, List.getElem_cons_zero]
  refine wpAnyH_take (i := 9) (v := .pointer (some ⟨sb, 0, none⟩)) rfl (by kernel_rfl) (by kernel_rfl) (by kernel_rfl) (fun _ _ _ h => h) (Or.inl ⟨by rfl, fun w hSw => by clear hSw; go_simp⟩) hH ?_
  try simp only [Act.put, List.setIfInBounds_toArray, List.set_cons_zero, List.set_cons_succ, List.getElem_toArray, List.getElem_cons_succ, List.getElem_cons_zero]
  refine wpAnyH_take (i := 10) (v := .pointer (some ⟨sb, 0, none⟩)) rfl (by kernel_rfl) (by kernel_rfl) (by kernel_rfl) (fun _ _ _ h => h) (Or.inl ⟨by rfl, fun w hSw => by clear hSw; go_simp⟩) hH ?_
  try simp only [Act.put, List.setIfInBounds_toArray, List.set_cons_zero, List.set_cons_succ, List.getElem_toArray, List.getElem_cons_succ, List.getElem_cons_zero]
  refine wpAnyH_take (i := 11) (v := .slice (some ⟨b, o, none⟩) ls.length lc) rfl (by kernel_rfl) (by kernel_rfl) (by kernel_rfl) (fun _ _ _ h => h) (Or.inl ⟨by rfl, fun w hSw => by obtain ⟨⟨f0, f1, f2, f3⟩, ⟨f4, f5, f6⟩, _⟩ := (HC.out w hSw).cl; clear hSw; go_simp⟩) hH ?_
  try simp only [Act.put, List.setIfInBounds_toArray, List.set_cons_zero, List.set_cons_succ, List.getElem_toArray, List.getElem_cons_succ, List.getElem_cons_zero]
  refine wpAnyH_take (i := 12) (v := .pointer (some ⟨pb, 1, none⟩)) rfl (by kernel_rfl) (by kernel_rfl) (by kernel_rfl) (fun _ _ _ h => h) (Or.inl ⟨by rfl, fun w hSw => by clear hSw; go_simp⟩) hH ?_
  try simp only [Act.put, List.setIfInBounds_toArray, List.set_cons_zero, List.set_cons_succ, List.getElem_toArray, List.getElem_cons_succ, List.getElem_cons_zero]
  refine wpAnyH_take (i := 13) (v := .int .i64 (l : Int)) rfl (by kernel_rfl) (by kernel_rfl) (by kernel_rfl) (fun _ _ _ h => h) (Or.inl ⟨by rfl, fun w hSw => by obtain ⟨f0, f1, f2⟩ := (HC.out w hSw).pk; clear hSw; go_simp⟩) hH ?_
  try simp only [Act.put, List.setIfInBounds_toArray, List.set_cons_zero, List.set_cons_succ, List.getElem_toArray, List.getElem_cons_succ, List.getElem_cons_zero]
  refine wpAnyH_take (i := 14) (v := .pointer (some ⟨b, o + l * 2, none⟩)) rfl (by kernel_rfl) (by kernel_rfl) (by kernel_rfl) (fun _ _ _ h => h) (Or.inl ⟨by rfl, fun w hSw => by clear hSw; go_simp⟩) hH ?_
  try simp only [Act.put, List.setIfInBounds_toArray, List.set_cons_zero, List.set_cons_succ, List.getElem_toArray, List.getElem_cons_succ, List.getElem_cons_zero]
  refine wpAnyH_take (i := 15) (v := .pointer (some ⟨b, o + l * 2, none⟩)) rfl (by kernel_rfl) (by kernel_rfl) (by kernel_rfl) (fun _ _ _ h => h) (Or.inl ⟨by rfl, fun w hSw => by clear hSw; go_simp⟩) hH ?_
  try simp only [Act.put, List.setIfInBounds_toArray, List.set_cons_zero, List.set_cons_succ, List.getElem_toArray, List.getElem_cons_succ, List.getElem_cons_zero]
  refine wpAnyH_take (i := 16) (v := .int .i64 rm) rfl (by kernel_rfl) (by kernel_rfl) (by kernel_rfl) (fun _ _ _ h => h) (Or.inl ⟨by rfl, fun w hSw => by obtain ⟨f0, f1⟩ := HLc.out w hSw; clear hSw; go_simp⟩) hH ?_
  try simp only [Act.put, List.setIfInBounds_toArray, List.set_cons_zero, List.set_cons_succ, List.getElem_toArray, List.getElem_cons_succ, List.getElem_cons_zero]
  refine wpAnyH_take (i := 17) (v := .bool false) rfl (by kernel_rfl) (by kernel_rfl) (by kernel_rfl) (fun _ _ _ h => h) (Or.inl ⟨by rfl, fun w hSw => by clear hSw; go_simp⟩) hH ?_
  try simp only [Act.put, List.setIfInBounds_toArray, List.set_cons_zero, List.set_cons_succ, List.getElem_toArray, List.getElem_cons_succ, List.getElem_cons_zero]
  refine wpAnyH_take (i := 18) (v := .bool false) rfl (by kernel_rfl) (by kernel_rfl) (by kernel_rfl) (fun _ _ _ h => h) (Or.inl ⟨by rfl, fun w hSw => by clear hSw; go_simp⟩) hH ?_
  try simp only [Act.put, List.setIfInBounds_toArray, List.set_cons_zero, List.set_cons_succ, List.getElem_toArray, List.getElem_cons_succ, List.getElem_cons_zero]
  refine wpAnyH_done (by kernel_rfl) ?_ _
  clear hH
  have HI2 : Hid (LvI B sb wb ob cb (some ⟨b, o, none⟩) lc ls m wc oc (bfV ps σ.belt) (σ.full) (σ.out) σ.rej tk (rc) rg rk pb i l r w V.drew) := HI.out.later (below_drew _)
  have HC2 := fun X (hX : Below V.drew.heap.size V.drew X) => chain (below_drew V) hX
  have HF2 : Hid (∀ X, Below V.drew.heap.size V.drew X → X.cell? ⟨wb, l, none⟩ = some (.int .i64 fl)) := fun X hX => HFc.out X (HC2 X hX)
  clear HI HC HLc HFc HC2
  generalize V.drew = V2 at *
  have HC : Hid (∀ X, Below V2.heap.size V2 X → LvI B sb wb ob cb (some ⟨b, o, none⟩) lc ls m wc oc (bfV ps σ.belt) (σ.full) (σ.out) σ.rej tk (rc) rg rk pb i l r w X) := fun X hX => HI2.out.later hX
  clear HF2
  refine wpN_cond (t := false) rfl (wpN_seq_of ?_)
  obtain ⟨p0, p1, p2⟩ := HI2.out.pk
  go_wp2
  clear p0 p1 p2
  refine wpN_cond (t := false) rfl (wpN_seq_of ?_)
  obtain ⟨p0, p1, p2⟩ := HI2.out.pk
  have pz := blkFree HI2.out.bx 2
  go_wp2
  clear p0 p1 p2 pz
  have HI3 : Hid (LvI B sb wb ob cb (some ⟨b, o, none⟩) lc ls m wc oc (bfV ps σ.belt) σ.full σ.out σ.rej tk rc rg rk pb i l (r + 1) w (V2.setCell ⟨pb, 2, none⟩ (.int .i64 ((r : Int) + 1)))) := by
    have := HI2.out.setR HPB.out (r + 1)
    exact this
  clear HI2 HC HPB
  generalize V2.setCell ⟨pb, 2, none⟩ (.int .i64 ((r : Int) + 1)) = V3 at *
  refine wpN_seq_of ?_
  obtain ⟨⟨f0, f1, f2, f3⟩, ⟨f4, f5, f6⟩, fz⟩ := HI3.out.cl
  have fz4 := fz 4
  clear fz
  go_wp2
  clear f0 f1 f2 f3 f4 f5 f6 fz4
  have HI4 : Hid (LvI B sb wb ob cb (some ⟨b, o, none⟩) lc ls m wc oc (bfV ps σ.belt) σ.full σ.out σ.rej tk (rc + 1) rg rk pb i l (r + 1) w (V3.setCell ⟨sb, 4, none⟩ (.int .i64 (rc + 1)))) := HI3.out.setRc (rc + 1)
  clear HI3
  generalize V3.setCell ⟨sb, 4, none⟩ (.int .i64 (rc + 1)) = V4 at *
  refine wpN_region_draw (by kernel_rfl) ?_
  have HI5 : Hid (LvI B sb wb ob cb (some ⟨b, o, none⟩) lc ls m wc oc (bfV ps σ.belt) σ.full σ.out σ.rej tk (rc + 1) rg rk pb i l (r + 1) w V4.drew) := HI4.out.later (below_drew _)
  clear HI4
  generalize V4.drew = V5 at *
  have HEnd : Hid (∀ s t, SoS B sb wb ob cb (some ⟨b, o, none⟩) lc ls m wc oc ps (srLeave ls ps i r σ) (V5.setChan cb m (bfV ps (σ.belt ++ [(i, r + 1)])) false s t false) ∧ Below B w (V5.setChan cb m (bfV ps (σ.belt ++ [(i, r + 1)])) false s t false)) := fun s t => by
    have := HI5.out.so.send (bfV ps (σ.belt ++ [(i, r + 1)])) s t
    rw [HE.out.1]
    refine ⟨⟨rg, rk, ?_⟩, HI5.out.low.trans this.2⟩
    have h2 := this.1
    rw [← htk2] at h2
    exact h2
  have HPu : Hid ((bfV ps σ.belt).push (.agg #[.int .i64 (i : Int), .int .i64 (l : Int), .int .i64 ((r : Int) + 1)]) = bfV ps (σ.belt ++ [(i, r + 1)])) := HE.out.2
  have hbs : (bfV ps σ.belt).size < m := by rw [bfV_size]; exact hbm
  obtain ⟨s0, t0, hch⟩ := HI5.out.so.chan
  have HCh : Hid (V5.heap[cb]? = some (.chan m (bfV ps σ.belt) false s0 t0 false)) := hch
  obtain ⟨⟨_, _, f2, _⟩, _, _⟩ := HI5.out.cl
  obtain ⟨p0, p1, p2⟩ := HI5.out.pk
  have p2 : V5.cell? ⟨pb, 2, none⟩ = some (.int .i64 ((r : Int) + 1)) := p2
  clear HI5 hch HE hc ht0 hr3 hwr hwc
  change RunA _ _ _ 6 (Array.replicate 6 false) _ _
  refine RunA.next (rs := [0, 4]) (by kernel_rfl) (by simp) (fun n hn => ?_)
  rw [List.mem_cons, List.mem_singleton] at hn
  rcases hn with rfl | rfl
  · refine ⟨_, _, OneTo.val (w' := V5) (v := .pointer (some ⟨sb, 0, none⟩)) rfl (by kernel_rfl) (by go_simp), ?_⟩
    try simp only [Act.put, List.setIfInBounds_toArray, List.set_cons_zero, List.set_cons_succ, List.getElem_toArray, List.getElem_cons_zero]
    refine RunA.next (rs := [1, 4]) (by kernel_rfl) (by simp) (fun n hn => ?_)
    rw [List.mem_cons, List.mem_singleton] at hn
    rcases hn with rfl | rfl
    · refine ⟨_, _, OneTo.val (w' := V5) (v := .pointer (some ⟨sb, 0, none⟩)) rfl (by kernel_rfl) (by go_simp), ?_⟩
      try simp only [Act.put, List.setIfInBounds_toArray, List.set_cons_zero, List.set_cons_succ, List.getElem_toArray, List.getElem_cons_succ, List.getElem_cons_zero]
      refine RunA.next (rs := [2, 4]) (by kernel_rfl) (by simp) (fun n hn => ?_)
      rw [List.mem_cons, List.mem_singleton] at hn
      rcases hn with rfl | rfl
      · refine ⟨_, _, OneTo.val (w' := V5) (v := .pointer (some ⟨sb, 2, none⟩)) rfl (by kernel_rfl) (by go_simp), ?_⟩
        try simp only [Act.put, List.setIfInBounds_toArray, List.set_cons_zero, List.set_cons_succ, List.getElem_toArray, List.getElem_cons_succ, List.getElem_cons_zero]
        refine RunA.next (rs := [3, 4]) (by kernel_rfl) (by simp) (fun n hn => ?_)
        rw [List.mem_cons, List.mem_singleton] at hn
        rcases hn with rfl | rfl
        · refine ⟨_, _, OneTo.val (w' := V5) (v := .chan (some cb)) rfl (by kernel_rfl) (by go_simp), ?_⟩
          try simp only [Act.put, List.setIfInBounds_toArray, List.set_cons_zero, List.set_cons_succ, List.getElem_toArray, List.getElem_cons_succ, List.getElem_cons_zero]
          refine RunA.next (rs := [4]) (by kernel_rfl) (by simp) (fun n hn => ?_)
          rw [List.mem_singleton] at hn
          subst hn
          refine ⟨_, _, OneTo.val (w' := V5) (v := .agg #[.int .i64 (i : Int), .int .i64 (l : Int), .int .i64 ((r : Int) + 1)]) rfl (by kernel_rfl) (by go_simp), ?_⟩
          try simp only [Act.put, List.setIfInBounds_toArray, List.set_cons_zero, List.set_cons_succ, List.getElem_toArray, List.getElem_cons_succ, List.getElem_cons_zero]
          refine RunA.next (rs := [5]) (by kernel_rfl) (by simp) (fun n hn => ?_)
          rw [List.mem_singleton] at hn
          subst hn
          refine ⟨_, _, OneTo.send (c := cb) (v := .agg #[.int .i64 (i : Int), .int .i64 (l : Int), .int .i64 ((r : Int) + 1)]) (z' := .tuple #[]) rfl (by kernel_rfl) (by simp [execOp, scase, Act.eval]) HCh.out hbs, ?_⟩
          try simp only [Act.put, List.getElem_toArray, List.getElem_cons_succ, List.getElem_cons_zero]
          refine RunA.done (by kernel_rfl) ?_ _
          rw [HPu.out]
          go_end0
          exact ⟨rfl, HEnd.out _ _⟩
        · refine ⟨_, _, OneTo.val (w' := V5) (v := .agg #[.int .i64 (i : Int), .int .i64 (l : Int), .int .i64 ((r : Int) + 1)]) rfl (by kernel_rfl) (by go_simp), ?_⟩
          try simp only [Act.put, List.setIfInBounds_toArray, List.set_cons_zero, List.set_cons_succ, List.getElem_toArray, List.getElem_cons_succ, List.getElem_cons_zero]
          refine RunA.next (rs := [3]) (by kernel_rfl) (by simp) (fun n hn => ?_)
          rw [List.mem_singleton] at hn
          subst hn
          refine ⟨_, _, OneTo.val (w' := V5) (v := .chan (some cb)) rfl (by kernel_rfl) (by go_simp), ?_⟩
          try simp only [Act.put, List.setIfInBounds_toArray, List.set_cons_zero, List.set_cons_succ, List.getElem_toArray, List.getElem_cons_succ, List.getElem_cons_zero]
          refine RunA.next (rs := [5]) (by kernel_rfl) (by simp) (fun n hn => ?_)
          rw [List.mem_singleton] at hn
          subst hn
          refine ⟨_, _, OneTo.send (c := cb) (v := .agg #[.int .i64 (i : Int), .int .i64 (l : Int), .int .i64 ((r : Int) + 1)]) (z' := .tuple #[]) rfl (by kernel_rfl) (by simp [execOp, scase, Act.eval]) HCh.out hbs, ?_⟩
          try simp only [Act.put, List.getElem_toArray, List.getElem_cons_succ, List.getElem_cons_zero]
          refine RunA.done (by kernel_rfl) ?_ _
          rw [HPu.out]
          go_end0
          exact ⟨rfl, HEnd.out _ _⟩
      · refine ⟨_, _, OneTo.val (w' := V5) (v := .agg #[.int .i64 (i : Int), .int .i64 (l : Int), .int .i64 ((r : Int) + 1)]) rfl (by kernel_rfl) (by go_simp), ?_⟩
        try simp only [Act.put, List.setIfInBounds_toArray, List.set_cons_zero, List.set_cons_succ, List.getElem_toArray, List.getElem_cons_succ, List.getElem_cons_zero]
        refine RunA.next (rs := [2]) (by kernel_rfl) (by simp) (fun n hn => ?_)
        rw [List.mem_singleton] at hn
        subst hn
        refine ⟨_, _, OneTo.val (w' := V5) (v := .pointer (some ⟨sb, 2, none⟩)) rfl (by kernel_rfl) (by go_simp), ?_⟩
        try simp only [Act.put, List.setIfInBounds_toArray, List.set_cons_zero, List.set_cons_succ, List.getElem_toArray, List.getElem_cons_succ, List.getElem_cons_zero]
        refine RunA.next (rs := [3]) (by kernel_rfl) (by simp) (fun n hn => ?_)
        rw [List.mem_singleton] at hn
        subst hn
        refine ⟨_, _, OneTo.val (w' := V5) (v := .chan (some cb)) rfl (by kernel_rfl) (by go_simp), ?_⟩
        try simp only [Act.put, List.setIfInBounds_toArray, List.set_cons_zero, List.set_cons_succ, List.getElem_toArray, List.getElem_cons_succ, List.getElem_cons_zero]
        refine RunA.next (rs := [5]) (by kernel_rfl) (by simp) (fun n hn => ?_)
        rw [List.mem_singleton] at hn
        subst hn
        refine ⟨_, _, OneTo.send (c := cb) (v := .agg #[.int .i64 (i : Int), .int .i64 (l : Int), .int .i64 ((r : Int) + 1)]) (z' := .tuple #[]) rfl (by kernel_rfl) (by simp [execOp, scase, Act.eval]) HCh.out hbs, ?_⟩
        try simp only [Act.put, List.getElem_toArray, List.getElem_cons_succ, List.getElem_cons_zero]
        refine RunA.done (by kernel_rfl) ?_ _
        rw [HPu.out]
        go_end0
        exact ⟨rfl, HEnd.out _ _⟩
    · refine ⟨_, _, OneTo.val (w' := V5) (v := .agg #[.int .i64 (i : Int), .int .i64 (l : Int), .int .i64 ((r : Int) + 1)]) rfl (by kernel_rfl) (by go_simp), ?_⟩
      try simp only [Act.put, List.setIfInBounds_toArray, List.set_cons_zero, List.set_cons_succ, List.getElem_toArray, List.getElem_cons_succ, List.getElem_cons_zero]
      refine RunA.next (rs := [1]) (by kernel_rfl) (by simp) (fun n hn => ?_)
      rw [List.mem_singleton] at hn
      subst hn
      refine ⟨_, _, OneTo.val (w' := V5) (v := .pointer (some ⟨sb, 0, none⟩)) rfl (by kernel_rfl) (by go_simp), ?_⟩
      try simp only [Act.put, List.setIfInBounds_toArray, List.set_cons_zero, List.set_cons_succ, List.getElem_toArray, List.getElem_cons_succ, List.getElem_cons_zero]
      refine RunA.next (rs := [2]) (by kernel_rfl) (by simp) (fun n hn => ?_)
      rw [List.mem_singleton] at hn
      subst hn
      refine ⟨_, _, OneTo.val (w' := V5) (v := .pointer (some ⟨sb, 2, none⟩)) rfl (by kernel_rfl) (by go_simp), ?_⟩
      try simp only [Act.put, List.setIfInBounds_toArray, List.set_cons_zero, List.set_cons_succ, List.getElem_toArray, List.getElem_cons_succ, List.getElem_cons_zero]
      refine RunA.next (rs := [3]) (by kernel_rfl) (by simp) (fun n hn => ?_)
      rw [List.mem_singleton] at hn
      subst hn
      refine ⟨_, _, OneTo.val (w' := V5) (v := .chan (some cb)) rfl (by kernel_rfl) (by go_simp), ?_⟩
      try simp only [Act.put, List.setIfInBounds_toArray, List.set_cons_zero, List.set_cons_succ, List.getElem_toArray, List.getElem_cons_succ, List.getElem_cons_zero]
      refine RunA.next (rs := [5]) (by kernel_rfl) (by simp) (fun n hn => ?_)
      rw [List.mem_singleton] at hn
      subst hn
      refine ⟨_, _, OneTo.send (c := cb) (v := .agg #[.int .i64 (i : Int), .int .i64 (l : Int), .int .i64 ((r : Int) + 1)]) (z' := .tuple #[]) rfl (by kernel_rfl) (by simp [execOp, scase, Act.eval]) HCh.out hbs, ?_⟩
      try simp only [Act.put, List.getElem_toArray, List.getElem_cons_succ, List.getElem_cons_zero]
      refine RunA.done (by kernel_rfl) ?_ _
      rw [HPu.out]
      go_end0
      exact ⟨rfl, HEnd.out _ _⟩
  · refine ⟨_, _, OneTo.val (w' := V5) (v := .agg #[.int .i64 (i : Int), .int .i64 (l : Int), .int .i64 ((r : Int) + 1)]) rfl (by kernel_rfl) (by go_simp), ?_⟩
    try simp only [Act.put, List.setIfInBounds_toArray, List.set_cons_zero, List.set_cons_succ, List.getElem_toArray, List.getElem_cons_succ, List.getElem_cons_zero]
    refine RunA.next (rs := [0]) (by kernel_rfl) (by simp) (fun n hn => ?_)
    rw [List.mem_singleton] at hn
    subst hn
    refine ⟨_, _, OneTo.val (w' := V5) (v := .pointer (some ⟨sb, 0, none⟩)) rfl (by kernel_rfl) (by go_simp), ?_⟩
    try simp only [Act.put, List.setIfInBounds_toArray, List.set_cons_zero, List.set_cons_succ, List.getElem_toArray, List.getElem_cons_zero]
    refine RunA.next (rs := [1]) (by kernel_rfl) (by simp) (fun n hn => ?_)
    rw [List.mem_singleton] at hn
    subst hn
    refine ⟨_, _, OneTo.val (w' := V5) (v := .pointer (some ⟨sb, 0, none⟩)) rfl (by kernel_rfl) (by go_simp), ?_⟩
    try simp only [Act.put, List.setIfInBounds_toArray, List.set_cons_zero, List.set_cons_succ, List.getElem_toArray, List.getElem_cons_succ, List.getElem_cons_zero]
    refine RunA.next (rs := [2]) (by kernel_rfl) (by simp) (fun n hn => ?_)
    rw [List.mem_singleton] at hn
    subst hn
    refine ⟨_, _, OneTo.val (w' := V5) (v := .pointer (some ⟨sb, 2, none⟩)) rfl (by kernel_rfl) (by go_simp), ?_⟩
    try simp only [Act.put, List.setIfInBounds_toArray, List.set_cons_zero, List.set_cons_succ, List.getElem_toArray, List.getElem_cons_succ, List.getElem_cons_zero]
    refine RunA.next (rs := [3]) (by kernel_rfl) (by simp) (fun n hn => ?_)
    rw [List.mem_singleton] at hn
    subst hn
    refine ⟨_, _, OneTo.val (w' := V5) (v := .chan (some cb)) rfl (by kernel_rfl) (by go_simp), ?_⟩
    try simp only [Act.put, List.setIfInBounds_toArray, List.set_cons_zero, List.set_cons_succ, List.getElem_toArray, List.getElem_cons_succ, List.getElem_cons_zero]
    refine RunA.next (rs := [5]) (by kernel_rfl) (by simp) (fun n hn => ?_)
    rw [List.mem_singleton] at hn
    subst hn
    refine ⟨_, _, OneTo.send (c := cb) (v := .agg #[.int .i64 (i : Int), .int .i64 (l : Int), .int .i64 ((r : Int) + 1)]) (z' := .tuple #[]) rfl (by kernel_rfl) (by simp [execOp, scase, Act.eval]) HCh.out hbs, ?_⟩
    try simp only [Act.put, List.getElem_toArray, List.getElem_cons_succ, List.getElem_cons_zero]
    refine RunA.done (by kernel_rfl) ?_ _
    rw [HPu.out]
    go_end0
    exact ⟨rfl, HEnd.out _ _⟩
end Go.Proofs.Ythmhpgbkapjjkaa
