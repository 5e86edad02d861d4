/-
  Contracts of the program's wholeRoom and roomOf.
-/
import Derived.Test.YtfofdeenpcbglaaRoA
namespace Go.Proofs.Ytfofdeenpcbglaa
open Go.ChangeShapes Go.WideShapes Go.ChangeAt Go.RowKit Go.Deep
set_option linter.unusedVariables false

theorem belowRow {B g : Nat} {w0 w : World} (hb : Below B w0 w) (hBg : B ≤ g) (cs : Array Value) : Below B w0 (w.setRow g cs) :=
  hb.trans ⟨rfl, rfl, rfl, by simp [World.setRow], fun k hk => setRow_other _ _ _ _ (by omega)⟩
def zr : List Int := [0, 0, 0, 0, 0, 0, 0, 0, 0, 0, 0, 0]
def wl (k : Nat) : List Int := (List.range 12).map fun i => if i < 2 * k then (rm []).getD i 0 else 0
theorem wl_zero : wl 0 = zr := by decide
theorem wl_six : wl 6 = rm [] := by decide
theorem wl_step (k : Nat) (h : k < 6) : ((wl k).set (k * 2) (loF (k : Int))).set (k * 2 + 1) (hiF (k : Int)) = wl (k + 1) := by
  rcases (by omega : k = 0 ∨ k = 1 ∨ k = 2 ∨ k = 3 ∨ k = 4 ∨ k = 5) with rfl | rfl | rfl | rfl | rfl | rfl <;> decide
theorem wl_length (k : Nat) : (wl k).length = 12 := by simp [wl]
theorem fieldsV_row (k : Nat) (h : k < 6) : ∃ s, fieldsV[k * 3]? = some (.string s) ∧ fieldsV[k * 3 + 1]? = some (.int .i64 (loF (k : Int))) ∧ fieldsV[k * 3 + 2]? = some (.int .i64 (hiF (k : Int))) := by
  rcases (by omega : k = 0 ∨ k = 1 ∨ k = 2 ∨ k = 3 ∨ k = 4 ∨ k = 5) with rfl | rfl | rfl | rfl | rfl | rfl <;> exact ⟨_, rfl, rfl, rfl⟩
def WhInv (w : World) (k : Nat) (wr : World) : Prop := RoomAt wr w.heap.size zr ∧ RoomAt wr (w.heap.size + 1) (wl k) ∧ wr.heap[w.heap.size + 2]? = some (.cells fieldsV 78 (0, 0)) ∧ Below w.heap.size w wr
theorem whInv_next {w wr : World} {k : Nat} (h : WhInv w k wr) (hk : k < 6) (o : Obj) : WhInv w (k + 1) (((wr.setCell ⟨w.heap.size + 1, k * 2, none⟩ (.int .i64 (loF (k : Int)))).setCell ⟨w.heap.size + 1, k * 2 + 1, none⟩ (.int .i64 (hiF (k : Int)))).alloc o) := by
  obtain ⟨h1, h2, h3, h4⟩ := h
  have a1 := (h1.other (c := w.heap.size + 1) (by omega) (k * 2) (.int .i64 (loF (k : Int)))).other (c := w.heap.size + 1) (by omega) (k * 2 + 1) (.int .i64 (hiF (k : Int)))
  have a2 := (h2.set (k * 2) (loF (k : Int))).set (k * 2 + 1) (hiF (k : Int))
  have a3 : ((wr.setCell ⟨w.heap.size + 1, k * 2, none⟩ (.int .i64 (loF (k : Int)))).setCell ⟨w.heap.size + 1, k * 2 + 1, none⟩ (.int .i64 (hiF (k : Int)))).heap[w.heap.size + 2]? = some (.cells fieldsV 78 (0, 0)) := by
    rw [heap_setCell_other _ _ _ _ (by simp), heap_setCell_other _ _ _ _ (by simp)]; exact h3
  refine ⟨a1.later (below_alloc _ _), ?_, ((below_alloc _ _).block _ ?_).trans a3, chain ((h4.setCell (by dsimp only; omega) _).setCell (by dsimp only; omega) _) (below_alloc _ _)⟩
  · rw [← wl_step k hk]; exact a2.later (below_alloc _ _)
  · rcases Nat.lt_or_ge (w.heap.size + 2) ((wr.setCell ⟨w.heap.size + 1, k * 2, none⟩ (.int .i64 (loF (k : Int)))).setCell ⟨w.heap.size + 1, k * 2 + 1, none⟩ (.int .i64 (hiF (k : Int)))).heap.size with q | q
    · exact q
    · rw [Array.getElem?_eq_none q] at a3; cases a3
set_option maxHeartbeats 4000000 in
set_option maxRecDepth 4000 in
theorem wholeRoom_any (w : World) :
    Calls Try.prog 17 #[] w fun e w' => e = .returned (.agg (rowI (rm []))) ∧ Below w.heap.size w w' := by
  go_enter Try.func17, Try.ntmps17
  go_wp2_with fail
  go_at_call 37
  refine (fieldsM_at _).mono ?_
  rintro e w1 ⟨rfl, hw1⟩
  have H0 : Hid (WhInv w 0 w1) := by
    rw [hw1]
    refine ⟨((RoomAt.new w zr).later (below_alloc _ _)).later (below_alloc _ _), ?_, ?_, chain (chain (below_alloc _ _) (below_alloc _ _)) (below_alloc _ _)⟩
    · rw [wl_zero]
      have := RoomAt.new (w.alloc (.cells (rowI zr) 48)) zr
      rw [World.size_alloc] at this
      exact this.later (below_alloc _ _)
    · have := heapNew ((w.alloc (.cells (rowI zr) 48)).alloc (.cells (rowI zr) 48)) (.cells fieldsV 78)
      rw [World.size_alloc, World.size_alloc] at this
      exact this
  clear hw1
  simp only [World.size_alloc]
  go_wp2
  go_loopw [2, 3, 6] (fun _ _ c wr => ∃ k : Nat, k ≤ 6 ∧ c = .int .i64 (k : Int) ∧ WhInv w k wr) (fun _ _ c _ => 6 - (intOf c).toNat)
  case atStart => exact ⟨0, by omega, rfl, H0.out⟩
  case round =>
    obtain ⟨k, hk, rfl, hi⟩ := hrel
    have HI : Hid (WhInv w k wr) := hi
    clear hi
    by_cases hlt : k < 6
    · have hlt' : (k : Int) < 6 := by omega
      obtain ⟨s, f0, f1, f2⟩ := fieldsV_row k hlt
      have c0 : wr.cell? ⟨w.heap.size + 1 + 1, k * 3, none⟩ = some (.string s) := by rw [cell_of_row _ _ _ _ _ _ HI.out.2.2.1]; exact f0
      have c1 : wr.cell? ⟨w.heap.size + 1 + 1, k * 3 + 1, none⟩ = some (.int .i64 (loF (k : Int))) := by rw [cell_of_row _ _ _ _ _ _ HI.out.2.2.1]; exact f1
      have c2 : wr.cell? ⟨w.heap.size + 1 + 1, k * 3 + 2, none⟩ = some (.int .i64 (hiF (k : Int))) := by rw [cell_of_row _ _ _ _ _ _ HI.out.2.2.1]; exact f2
      have hlt1 : w.heap.size + 1 < wr.heap.size := HI.out.2.1.lt
      have d0 := HI.out.2.1.cell (k * 2) (by rw [wl_length]; omega)
      have d1 := HI.out.2.1.cell (k * 2 + 1) (by rw [wl_length]; omega)
      have e0 := HI.out.2.1.frozen (k * 2)
      have e1 := HI.out.2.1.frozen (k * 2 + 1)
      have HN : Hid _ := whInv_next HI.out hlt (.cells #[.string s, .int .i64 (loF (k : Int)), .int .i64 (hiF (k : Int))] 78)
      clear f0 f1 f2
      generalize loF (k : Int) = lo at *
      generalize hiF (k : Int) = hi at *
      generalize (wl k).getD (k * 2) 0 = x0 at *
      generalize (wl k).getD (k * 2 + 1) 0 = x1 at *
      go_wp2
      go_roundw
      case rel => exact ⟨k + 1, by omega, by go_num, HN.out⟩
      case measure => simp [intOf]; omega
    · obtain rfl : k = 6 := by omega
      obtain ⟨g0, g1, _, g3⟩ := HI.out
      rw [wl_six] at g1
      unfold RoomAt at g0 g1
      have HB : Hid (Below w.heap.size w wr) := g3
      have hall := rowI_one (rm [])
      have hsz : (Try.prog.info? 48).map (·.size) = some (rowI (rm [])).size := infoRm
      have hsz2 : (rowI zr).size = (rowI (rm [])).size := rfl
      clear g3 HI
      generalize hV : rowI (rm []) = V at *
      generalize rowI zr = Z at *
      go_wp2_with (first | (refine wpList_load_row rfl 48 (.tmp 1) rfl (w.heap.size + 1) rfl 48 _ (0, 0) _ g1 Try.underlying48 rfl hsz ?_) | (refine wpList_store_row rfl 48 (.tmp 0) (.tmp 16) rfl w.heap.size _ rfl rfl 48 Z g0 hsz hsz2 hall ?_))
      refine bodyPost_ret (results_cell_row rfl _ _ w.heap.size 48 _ (0, 0) _ rfl (setRow_heap _ _ Z _ _ _ g0) Try.underlying48 rfl hsz) rfl ?_
      exact ⟨by rw [hV], belowRow HB.out (Nat.le_refl _) _⟩

/-- What roomOf holds when the first k terms are in. -/
def RfInv (w : World) (ts : List RTm) (k r h : Nat) (wr : World) : Prop := (r < h ∧ w.heap.size ≤ r) ∧ RoomAt wr r zr ∧ RoomAt wr h (rm (ts.take k)) ∧ Below w.heap.size w wr
set_option maxHeartbeats 8000000 in
set_option maxRecDepth 4000 in
theorem roomOf_any (a : Option Addr) (cap : Nat) (ts : List RTm) (hok : ts.all tmB = true) (hl : ts.length ≤ 100000000) (w : World) (hr : ReadsTm w.heap.size w a ts) :
    Calls Try.prog 12 #[.slice a ts.length cap] w fun e w' => e = .returned (.agg (rowI (rm ts))) ∧ Below w.heap.size w w' := by
  have HR : Hid (ReadsTm w.heap.size w a ts) := hr
  have HOK : Hid (∀ t ∈ ts, tmB t = true) := List.all_eq_true.mp hok
  clear hr hok
  have hWR := fun W => wholeRoom_any W
  have hall := rowI_one (rm [])
  have hsz : (Try.prog.info? 48).map (·.size) = some (rowI (rm [])).size := infoRm
  have h12 : Hid (12 = (rowI (rm [])).size) := rfl
  have HV : Hid (∀ w1, Below (w.alloc (.cells (rowI zr) 48)).heap.size (w.alloc (.cells (rowI zr) 48)) w1 → RfInv w ts 0 w.heap.size w1.heap.size (w1.alloc (.cells (rowI (rm [])) 48))) := fun w1 hb1 => by
    have g0 : RoomAt w1 w.heap.size zr := (RoomAt.new w zr).later hb1
    exact ⟨⟨g0.lt, Nat.le_refl _⟩, g0.later (below_alloc _ _), RoomAt.new _ _, chain (chain (below_alloc _ _) hb1) (below_alloc _ _)⟩
  generalize rowI (rm []) = V0 at *
  go_enter Try.func12, Try.ntmps12
  go_wp2_with (first | (go_at_call 17; refine (hWR _).mono ?_; rintro e w1 ⟨rfl, hb1⟩; have H0 : Hid _ := HV.out w1 hb1; clear hb1) | (refine wpList_store_row rfl 48 (.tmp 3) (.tmp 6) rfl w1.heap.size V0 rfl rfl 48 _ (heap_alloc_new _ _) hsz h12.out hall ?_; rw [World.setRow_alloc_new]))
  clear hall hsz h12
  generalize w1.alloc (Obj.cells V0 48) = W0 at *
  generalize w1.heap.size = h at *
  go_loopw [5, 9] (fun _ c wr => ∃ k : Nat, k ≤ ts.length ∧ c = .int .i64 (k : Int) ∧ RfInv w ts k w.heap.size h wr) (fun _ c _ => ts.length - (intOf c).toNat)
  case atStart => exact ⟨0, Nat.zero_le _, rfl, H0.out⟩
  case round =>
    obtain ⟨k, hk, rfl, hi⟩ := hrel
    have HI : Hid (RfInv w ts k w.heap.size h wr) := hi
    clear hi
    by_cases hlt : k < ts.length
    · have hlt' : (k : Int) < (ts.length : Int) := by omega
      rcases HR.out with h0 | ⟨b0, o0, ha, hB0, ia⟩
      · rw [h0] at hlt; simp at hlt
      subst ha
      obtain ⟨c0, c1, c2⟩ := (ia.below HI.out.2.2.2 hB0) k hlt
      have hq : tmB (ts.getD k zTm) = true := by
        have e : ts.getD k zTm = ts[k] := by simp [List.getD_eq_getElem?_getD, hlt]
        rw [e]; exact HOK.out _ (List.getElem_mem _)
      have hf := (tmB_iff.mp hq).1
      have HS := fun W => spanOf_any (ts.getD k zTm) hf W
      have HN0 : rm (ts.take (k + 1)) = ((rm (ts.take k)).set (2 * (ts.getD k zTm).fd.toNat) (max ((rm (ts.take k)).getD (2 * (ts.getD k zTm).fd.toNat) 0) (spL (ts.getD k zTm)))).set (2 * (ts.getD k zTm).fd.toNat + 1) (min ((rm (ts.take k)).getD (2 * (ts.getD k zTm).fd.toNat + 1) 0) (spH (ts.getD k zTm))) := by
        have e : ts.getD k zTm = ts[k] := by simp [List.getD_eq_getElem?_getD, hlt]
        rw [List.take_succ_eq_append_getElem hlt, ← e]; exact rm_step _ _ hf
      have HN : Hid _ := HN0
      clear HN0 hq ia
      generalize ts.getD k zTm = r at *
      generalize spL r = sl at *
      generalize spH r = sh at *
      obtain ⟨f, o, n⟩ := r
      dsimp only at *
      obtain ⟨m, rfl⟩ : ∃ m : Nat, f = (m : Int) := ⟨f.toNat, by omega⟩
      have hm : 1 ≤ m ∧ m ≤ 5 := by omega
      have hm6 : (m : Int) < 6 := by omega
      rw [show 2 * (m : Int).toNat = m * 2 by omega] at HN
      obtain ⟨⟨i1, i2⟩, i3, i4, i5⟩ := HI.out
      have hRL : (rm (ts.take k)).length = 12 := rfl
      have I4 : Hid (RoomAt wr h (rm (ts.take k))) := i4
      have I3 : Hid (RoomAt wr w.heap.size zr) := i3
      have I5 : Hid (Below w.heap.size w wr) := i5
      have hhlt : h < wr.heap.size := i4.lt
      clear i3 i4 i5 HI
      generalize rm (ts.take k) = R at *
      have HC : Hid (∀ W, Below (wr.alloc (Obj.cells #[.int .i64 (m : Int), .int .i64 o, .int .i64 n] 37)).heap.size (wr.alloc (Obj.cells #[.int .i64 (m : Int), .int .i64 o, .int .i64 n] 37)) W → (W.cell? ⟨wr.heap.size, 0, none⟩ = some (.int .i64 (m : Int)) ∧ W.cell? ⟨wr.heap.size, 1, none⟩ = some (.int .i64 o) ∧ W.cell? ⟨wr.heap.size, 2, none⟩ = some (.int .i64 n)) ∧ RoomAt W h R) := fun W hW => ⟨(tmNew wr (m : Int) o n).below hW (by simp), (I4.out.later (below_alloc _ _)).below hW (by simp; omega)⟩
      have HCc : Hid (∀ W, Below (wr.alloc (Obj.cells #[.int .i64 (m : Int), .int .i64 o, .int .i64 n] 37)).heap.size (wr.alloc (Obj.cells #[.int .i64 (m : Int), .int .i64 o, .int .i64 n] 37)) W → W.cell? ⟨h, m * 2, none⟩ = some (.int .i64 (R.getD (m * 2) 0)) ∧ W.cell? ⟨h, m * 2 + 1, none⟩ = some (.int .i64 (R.getD (m * 2 + 1) 0)) ∧ W.frozen? ⟨h, m * 2, none⟩ = false ∧ W.frozen? ⟨h, m * 2 + 1, none⟩ = false) := fun W hW => ⟨(HC.out W hW).2.cell _ (by omega), (HC.out W hW).2.cell _ (by omega), (HC.out W hW).2.frozen _, (HC.out W hW).2.frozen _⟩
      have HX : Hid (∀ W, Below (wr.alloc (Obj.cells #[.int .i64 (m : Int), .int .i64 o, .int .i64 n] 37)).heap.size (wr.alloc (Obj.cells #[.int .i64 (m : Int), .int .i64 o, .int .i64 n] 37)) W → RfInv w ts (k + 1) w.heap.size h ((W.setCell ⟨h, m * 2, none⟩ (.int .i64 (max (R.getD (m * 2) 0) sl))).setCell ⟨h, m * 2 + 1, none⟩ (.int .i64 (min (R.getD (m * 2 + 1) 0) sh)))) := fun W hW => by
        refine ⟨⟨i1, i2⟩, ?_, ?_, ?_⟩
        · exact (((I3.out.later (below_alloc _ _)).below hW (by simp; omega)).other (by omega) _ _).other (by omega) _ _
        · rw [HN.out]; exact ((HC.out W hW).2.set _ _).set _ _
        · exact ((chain I5.out (chain (below_alloc _ _) hW)).setCell (by dsimp only; omega) _).setCell (by dsimp only; omega) _
      clear I3 I4 HN
      generalize R.getD (m * 2) 0 = x0 at *
      generalize R.getD (m * 2 + 1) 0 = x1 at *
      go_wp2
      refine wp_region_held_drew (S := fun W => (W.cell? ⟨wr.heap.size, 0, none⟩ = some (.int .i64 (m : Int)) ∧ W.cell? ⟨wr.heap.size, 1, none⟩ = some (.int .i64 o) ∧ W.cell? ⟨wr.heap.size, 2, none⟩ = some (.int .i64 n))) (by kernel_rfl) (HC.out _ (below_drew _)).1 (fun hH0 => ?_)
      have hH : Below (wr.alloc (Obj.cells #[.int .i64 (m : Int), .int .i64 o, .int .i64 n] 37)).heap.size (wr.alloc (Obj.cells #[.int .i64 (m : Int), .int .i64 o, .int .i64 n] 37)) (wr.alloc (Obj.cells #[.int .i64 (m : Int), .int .i64 o, .int .i64 n] 37)).drew := below_drew _
      refine wpAnyH_take (i := 0) (v := .pointer (some ⟨wr.heap.size, 0, none⟩)) rfl (by kernel_rfl) (by kernel_rfl) (by kernel_rfl) (fun _ _ _ h => h) (Or.inl ⟨by rfl, fun w hSw => by go_simp⟩) hH0 ?_
      refine wpAnyH_take (i := 1) (v := .int .i64 (m : Int)) rfl (by kernel_rfl) (by kernel_rfl) (by kernel_rfl) (fun _ _ _ h => h) (Or.inl ⟨by rfl, fun w hSw => by obtain ⟨s0, s1, s2⟩ := hSw; go_simp⟩) hH0 ?_
      try simp only [Act.put, List.setIfInBounds_toArray, List.set_cons_zero, List.set_cons_succ, List.getElem_toArray, List.getElem_cons_succ, List.getElem_cons_zero]
      refine wpAnyH_take (i := 2) (v := .pointer (some ⟨wr.heap.size, 0, none⟩)) rfl (by kernel_rfl) (by kernel_rfl) (by kernel_rfl) (fun _ _ _ h => h) (Or.inl ⟨by rfl, fun w hSw => by go_simp⟩) hH0 ?_
      try simp only [Act.put, List.setIfInBounds_toArray, List.set_cons_zero, List.set_cons_succ, List.getElem_toArray, List.getElem_cons_succ, List.getElem_cons_zero]
      refine wpAnyH_take (i := 3) (v := .int .i64 (m : Int)) rfl (by kernel_rfl) (by kernel_rfl) (by kernel_rfl) (fun _ _ _ h => h) (Or.inl ⟨by rfl, fun w hSw => by obtain ⟨s0, s1, s2⟩ := hSw; go_simp⟩) hH0 ?_
      try simp only [Act.put, List.setIfInBounds_toArray, List.set_cons_zero, List.set_cons_succ, List.getElem_toArray, List.getElem_cons_succ, List.getElem_cons_zero]
      refine wpAnyH_take (i := 4) (v := .pointer (some ⟨h, m * 2, none⟩)) rfl (by kernel_rfl) (by kernel_rfl) (by kernel_rfl) (fun _ _ _ h => h) (Or.inl ⟨by rfl, fun w hSw => by go_simp⟩) hH0 ?_
      try simp only [Act.put, List.setIfInBounds_toArray, List.set_cons_zero, List.set_cons_succ, List.getElem_toArray, List.getElem_cons_succ, List.getElem_cons_zero]
      refine wpAnyH_take (i := 6) (v := .agg #[.int .i64 (m : Int), .int .i64 o, .int .i64 n]) rfl (by kernel_rfl) (by kernel_rfl) (by kernel_rfl) (fun _ _ _ h => h) (Or.inl ⟨by rfl, fun w hSw => by obtain ⟨s0, s1, s2⟩ := hSw; go_simp⟩) hH0 ?_
      try simp only [Act.put, List.setIfInBounds_toArray, List.set_cons_zero, List.set_cons_succ, List.getElem_toArray, List.getElem_cons_succ, List.getElem_cons_zero]
      refine wpAnyH_ready (rs := [5, 7]) (by kernel_rfl) (by simp) ?_
      refine AllReadyH.cons rfl (fun K hK => ?_) (AllReadyH.cons rfl (fun K hK => ?_) AllReadyH.nil)
      · skip
        obtain ⟨u0, u1, _, _⟩ := HCc.out _ hH
        go_simp
        clear u0 u1
        refine hK.out _ _ (HC.out _ hH).1 (fun _ => ?_)
        clear hK K
        try simp only [Act.put, List.setIfInBounds_toArray, List.set_cons_zero, List.set_cons_succ, List.getElem_toArray, List.getElem_cons_succ, List.getElem_cons_zero]
        refine wpAnyH_ready (rs := [7]) (by kernel_rfl) (by simp) ?_
        refine AllReadyH.cons rfl (fun K hK => ?_) AllReadyH.nil
        go_simp
        go_at_call 28
        refine (HS _).mono ?_
        rintro e w2 ⟨rfl, hb2⟩
        have hw2 := chain hH hb2
        refine hK.out _ _ (HC.out _ hw2).1 (fun _ => ?_)
        clear hK K
        try simp only [Act.put, List.setIfInBounds_toArray, List.set_cons_zero, List.set_cons_succ, List.getElem_toArray, List.getElem_cons_succ, List.getElem_cons_zero]
        refine wpAnyH_ready (rs := [8]) (by kernel_rfl) (by simp) ?_
        refine AllReadyH.cons rfl (fun K hK => ?_) AllReadyH.nil
        go_simp
        go_at_call 27
        refine (spanBoth_any _ _ _ _ _).mono ?_
        rintro e w3 ⟨rfl, hb3⟩
        have hw3 := chain hw2 hb3
        refine hK.out _ _ (HC.out _ hw3).1 (fun _ => ?_)
        clear hK K
        try simp only [Act.put, List.setIfInBounds_toArray, List.set_cons_zero, List.set_cons_succ, List.getElem_toArray, List.getElem_cons_succ, List.getElem_cons_zero]
        refine wpAnyH_take (i := 9) (v := .pointer (some ⟨h, m * 2, none⟩)) rfl (by kernel_rfl) (by kernel_rfl) (by kernel_rfl) (fun _ _ _ h => h) (Or.inl ⟨by rfl, fun w hSw => by go_simp⟩) (HC.out _ hw3).1 ?_
        try simp only [Act.put, List.setIfInBounds_toArray, List.set_cons_zero, List.set_cons_succ, List.getElem_toArray, List.getElem_cons_succ, List.getElem_cons_zero]
        refine wpAnyH_ready (rs := [10]) (by kernel_rfl) (by simp) ?_
        refine AllReadyH.cons rfl (fun K hK => ?_) AllReadyH.nil
        obtain ⟨s0, s1, s2, s3⟩ := HCc.out w3 hw3
        have HX3 : Hid _ := HX.out w3 hw3
        obtain ⟨⟨y0, y1, y2⟩, _⟩ := HC.out w3 hw3
        go_simp
        have hS4 : (fun W => (W.cell? ⟨wr.heap.size, 0, none⟩ = some (.int .i64 (m : Int)) ∧ W.cell? ⟨wr.heap.size, 1, none⟩ = some (.int .i64 o) ∧ W.cell? ⟨wr.heap.size, 2, none⟩ = some (.int .i64 n))) ((w3.setCell ⟨h, m * 2, none⟩ (.int .i64 (max x0 sl))).setCell ⟨h, m * 2 + 1, none⟩ (.int .i64 (min x1 sh))) := by
          have far : ∀ j, ((w3.setCell ⟨h, m * 2, none⟩ (.int .i64 (max x0 sl))).setCell ⟨h, m * 2 + 1, none⟩ (.int .i64 (min x1 sh))).cell? ⟨wr.heap.size, j, none⟩ = w3.cell? ⟨wr.heap.size, j, none⟩ := fun j => (World.cell?_setCell_far _ _ _ _ (by dsimp only; omega)).trans (World.cell?_setCell_far _ _ _ _ (by dsimp only; omega))
          exact ⟨(far _).trans y0, (far _).trans y1, (far _).trans y2⟩
        refine hK.out _ _ hS4 (fun _ => ?_)
        clear hK K
        try simp only [Act.put, List.setIfInBounds_toArray, List.set_cons_zero, List.set_cons_succ, List.getElem_toArray, List.getElem_cons_succ, List.getElem_cons_zero]
        refine wpAnyH_done (by kernel_rfl) ?_ _
        try simp
        clear hS4 s0 s1 s2 s3 y0 y1 y2 hw3 hw2 hH hb2 hb3
        go_wp2
        go_roundw
        case rel => exact ⟨k + 1, by omega, by go_num, HX3.out⟩
        case measure => simp [intOf]; omega
      · skip
        go_simp
        go_at_call 28
        refine (HS _).mono ?_
        rintro e w2 ⟨rfl, hb2⟩
        have hw2 := chain hH hb2
        refine hK.out _ _ (HC.out _ hw2).1 (fun _ => ?_)
        clear hK K
        try simp only [Act.put, List.setIfInBounds_toArray, List.set_cons_zero, List.set_cons_succ, List.getElem_toArray, List.getElem_cons_succ, List.getElem_cons_zero]
        refine wpAnyH_ready (rs := [5]) (by kernel_rfl) (by simp) ?_
        refine AllReadyH.cons rfl (fun K hK => ?_) AllReadyH.nil
        obtain ⟨u0, u1, _, _⟩ := HCc.out w2 hw2
        go_simp
        clear u0 u1
        refine hK.out _ _ (HC.out _ hw2).1 (fun _ => ?_)
        clear hK K
        try simp only [Act.put, List.setIfInBounds_toArray, List.set_cons_zero, List.set_cons_succ, List.getElem_toArray, List.getElem_cons_succ, List.getElem_cons_zero]
        refine wpAnyH_ready (rs := [8]) (by kernel_rfl) (by simp) ?_
        refine AllReadyH.cons rfl (fun K hK => ?_) AllReadyH.nil
        go_simp
        go_at_call 27
        refine (spanBoth_any _ _ _ _ _).mono ?_
        rintro e w3 ⟨rfl, hb3⟩
        have hw3 := chain hw2 hb3
        refine hK.out _ _ (HC.out _ hw3).1 (fun _ => ?_)
        clear hK K
        try simp only [Act.put, List.setIfInBounds_toArray, List.set_cons_zero, List.set_cons_succ, List.getElem_toArray, List.getElem_cons_succ, List.getElem_cons_zero]
        refine wpAnyH_take (i := 9) (v := .pointer (some ⟨h, m * 2, none⟩)) rfl (by kernel_rfl) (by kernel_rfl) (by kernel_rfl) (fun _ _ _ h => h) (Or.inl ⟨by rfl, fun w hSw => by go_simp⟩) (HC.out _ hw3).1 ?_
        try simp only [Act.put, List.setIfInBounds_toArray, List.set_cons_zero, List.set_cons_succ, List.getElem_toArray, List.getElem_cons_succ, List.getElem_cons_zero]
        refine wpAnyH_ready (rs := [10]) (by kernel_rfl) (by simp) ?_
        refine AllReadyH.cons rfl (fun K hK => ?_) AllReadyH.nil
        obtain ⟨s0, s1, s2, s3⟩ := HCc.out w3 hw3
        have HX3 : Hid _ := HX.out w3 hw3
        obtain ⟨⟨y0, y1, y2⟩, _⟩ := HC.out w3 hw3
        go_simp
        have hS4 : (fun W => (W.cell? ⟨wr.heap.size, 0, none⟩ = some (.int .i64 (m : Int)) ∧ W.cell? ⟨wr.heap.size, 1, none⟩ = some (.int .i64 o) ∧ W.cell? ⟨wr.heap.size, 2, none⟩ = some (.int .i64 n))) ((w3.setCell ⟨h, m * 2, none⟩ (.int .i64 (max x0 sl))).setCell ⟨h, m * 2 + 1, none⟩ (.int .i64 (min x1 sh))) := by
          have far : ∀ j, ((w3.setCell ⟨h, m * 2, none⟩ (.int .i64 (max x0 sl))).setCell ⟨h, m * 2 + 1, none⟩ (.int .i64 (min x1 sh))).cell? ⟨wr.heap.size, j, none⟩ = w3.cell? ⟨wr.heap.size, j, none⟩ := fun j => (World.cell?_setCell_far _ _ _ _ (by dsimp only; omega)).trans (World.cell?_setCell_far _ _ _ _ (by dsimp only; omega))
          exact ⟨(far _).trans y0, (far _).trans y1, (far _).trans y2⟩
        refine hK.out _ _ hS4 (fun _ => ?_)
        clear hK K
        try simp only [Act.put, List.setIfInBounds_toArray, List.set_cons_zero, List.set_cons_succ, List.getElem_toArray, List.getElem_cons_succ, List.getElem_cons_zero]
        refine wpAnyH_done (by kernel_rfl) ?_ _
        try simp
        clear hS4 s0 s1 s2 s3 y0 y1 y2 hw3 hw2 hH hb2 hb3
        go_wp2
        go_roundw
        case rel => exact ⟨k + 1, by omega, by go_num, HX3.out⟩
        case measure => simp [intOf]; omega
    · obtain rfl : k = ts.length := by omega
      obtain ⟨⟨i1, i2⟩, g0, g1, g3⟩ := HI.out
      rw [List.take_length] at g1
      unfold RoomAt at g0 g1
      have HB : Hid (Below w.heap.size w wr) := g3
      have hall := rowI_one (rm ts)
      have hsz : (Try.prog.info? 48).map (·.size) = some (rowI (rm ts)).size := infoRm
      have hsz2 : (rowI zr).size = (rowI (rm ts)).size := rfl
      clear g3 HI
      generalize hV : rowI (rm ts) = V at *
      generalize rowI zr = Z at *
      go_wp2_with (first | (refine wpList_load_row rfl 48 (.tmp 3) rfl h rfl 48 _ (0, 0) _ g1 Try.underlying48 rfl hsz ?_) | (refine wpList_store_row rfl 48 (.tmp 2) (.tmp 24) rfl w.heap.size _ rfl rfl 48 Z g0 hsz hsz2 hall ?_))
      refine bodyPost_ret (results_cell_row rfl _ _ w.heap.size 48 _ (0, 0) _ rfl (setRow_heap _ _ Z _ _ _ g0) Try.underlying48 rfl hsz) rfl ?_
      exact ⟨by rw [hV], belowRow HB.out (Nat.le_refl _) _⟩
end Go.Proofs.Ytfofdeenpcbglaa
