/-
  Texts of this claim laid together: BeG.
-/
import Derived.Test.YtkfmifbffgbiiaaM40
import Derived.Laws.EntriesVeiled
/-
  Each taking of a deal is handed on.
-/
namespace Go.Proofs.Ytkfmifbffgbiiaa
open Go.ChangeShapes Go.WideShapes Go.ChangeAt Go.RowKit Go.Deep
set_option linter.unusedVariables false

theorem take_any (C : Cx) (hC : CxOK C) (N : Nat) (HS : SrP C N) (K : Kx) (hk : K.k < C.ds.length) (hsp : K.sp < 64) (hnd : K.nd ≤ 8) (left : List Nat) (hleft : Ris C.us.length left) (hN : left.length ≤ N) : ∀ kk, TkP C K left kk
  | 0 => take_zero C hC N HS K hk hsp left hleft hN
  | kk + 1 => take_succ C hC K hk left kk hnd (take_any C hC N HS K hk hsp hnd left hleft hN kk)
theorem alloc_size (w : World) (o : Obj) : (w.alloc o).heap.size = w.heap.size + 1 := by simp
theorem alloc_old {w : World} {o o' : Obj} {q : Nat} (h : w.heap[q]? = some o') : (w.alloc o).heap[q]? = some o' := ((below_alloc w o).block q (blkLt h)).trans h
theorem set_old {w : World} {b j q : Nat} {v : Value} {o' : Obj} (hq : q ≠ b) (h : w.heap[q]? = some o') : (w.setCell ⟨b, j, none⟩ v).heap[q]? = some o' := (Below.heap_setCell _ _ _ _ hq).trans h
theorem one_set {W : World} {b : Nat} {v0 : Value} {t : TypeId} (h : W.heap[b]? = some (.cells #[v0] t (0, 0))) (v : Value) : (W.setCell ⟨b, 0, none⟩ v).heap[b]? = some (.cells #[v] t (0, 0)) := by
  have e := heap_setCell_same _ _ 0 _ _ v h
  simp only [List.setIfInBounds_toArray, List.set_cons_zero] at e
  exact e
theorem box4 (W : World) (o1 o2 o3 o4 : Obj) (W4 : World) (e : W4 = (((W.alloc o1).alloc o2).alloc o3).alloc o4) :
    Below W.heap.size W W4 ∧ W4.heap[W.heap.size]? = some o1 ∧ W4.heap[W.heap.size + 1]? = some o2 ∧ W4.heap[W.heap.size + 1 + 1]? = some o3 ∧ W4.heap[W.heap.size + 1 + 1 + 1]? = some o4 := by
  have a1 := heapNew W o1
  have a2 := heapNew (W.alloc o1) o2
  have a3 := heapNew ((W.alloc o1).alloc o2) o3
  have a4 := heapNew (((W.alloc o1).alloc o2).alloc o3) o4
  rw [alloc_size] at a2
  rw [alloc_size, alloc_size] at a3
  rw [alloc_size, alloc_size, alloc_size] at a4
  rw [e]
  exact ⟨chain (chain (chain (below_alloc _ _) (below_alloc _ _)) (below_alloc _ _)) (below_alloc _ _), alloc_old (alloc_old (alloc_old a1)), alloc_old (alloc_old a2), alloc_old a3, a4⟩
set_option maxHeartbeats 8000000 in
theorem each_any (C : Cx) (hC : CxOK C) (N : Nat) (HS : SrP C N) (k sp bb spb cpb dlb nmb : Nat) (hk : k < C.ds.length) (hsp : sp < 64) (x : Nat) (l : List Nat) (hleft : Ris C.us.length (x :: l)) (hN : l.length + 1 ≤ N) (b : Wy) (a : Option Addr) (c : Nat) (hc : l.length + 1 ≤ c) (nd : Nat) (hnd : (C.ds.getD k zDl).nd = (nd : Int)) (W : World) (hS : StB C k sp bb spb cpb dlb nmb b W) (hr : RI W a (x :: l)) :
    Calls Try.prog 41 #[.slice a (l.length + 1) c, .int .i64 (nd : Int), .func (.func 39) #[] #[.pointer (some ⟨dlb, 0, none⟩), .pointer (some ⟨C.ub, 0, none⟩)], .func (.func 42) #[] #[.pointer (some ⟨C.sb, 0, none⟩), .pointer (some ⟨spb, 0, none⟩), .pointer (some ⟨cpb, 0, none⟩), .pointer (some ⟨dlb, 0, none⟩), .pointer (some ⟨C.ub, 0, none⟩), .pointer (some ⟨bb, 0, none⟩), .pointer (some ⟨nmb, 0, none⟩)]] W fun e w' => e = .returned (.tuple #[]) ∧ StB C k sp bb spb cpb dlb nmb ((takes C.us (C.ds.getD k zDl) (x :: l)).foldl (stT (svU C.us (C.ds.getD k zDl)) (fun r => sr C.us C.ds r (spD (C.ds.getD k zDl) sp k)) k) b) w' ∧ Fr (XB C bb) W w' := by
  have hl8 : l.length + 1 ≤ 8 := by have := hleft.le; have := (unAll_yes hC.hu).1; simp at *; omega
  have hnd4 : 1 ≤ nd ∧ nd ≤ 4 := by
    have := (dlAll_yes hC.hd).2 (C.ds.getD k zDl) (by rw [show C.ds.getD k zDl = C.ds[k] by simp [List.getD_eq_getElem?_getD, hk]]; exact List.getElem_mem _)
    omega
  obtain ⟨ab, ao, rfl, hcell⟩ := hr.at 0 (by simp)
  have hcx : W.cell? ⟨ab, ao, none⟩ = some (.int .i64 (x : Int)) := hcell
  obtain ⟨W4, hW4⟩ : ∃ W4, W4 = (((W.alloc (Obj.cells #[.int .i64 (nd : Int)] 3)).alloc (Obj.cells #[.func (.func 39) #[] #[.pointer (some ⟨dlb, 0, none⟩), .pointer (some ⟨C.ub, 0, none⟩)]] 59)).alloc (Obj.cells #[.func (.func 42) #[] #[.pointer (some ⟨C.sb, 0, none⟩), .pointer (some ⟨spb, 0, none⟩), .pointer (some ⟨cpb, 0, none⟩), .pointer (some ⟨dlb, 0, none⟩), .pointer (some ⟨C.ub, 0, none⟩), .pointer (some ⟨bb, 0, none⟩), .pointer (some ⟨nmb, 0, none⟩)]] 81)).alloc (Obj.cells #[.func (.func 57) #[] #[.pointer (some ⟨W.heap.size, 0, none⟩), .pointer (some ⟨W.heap.size + 1 + 1, 0, none⟩), .pointer (some ⟨W.heap.size + 1, 0, none⟩), .pointer (some ⟨W.heap.size + 1 + 1 + 1, 0, none⟩)]] 94) := ⟨_, rfl⟩
  obtain ⟨b1, b2, b3, b4, b5⟩ := box4 W _ _ _ _ W4 hW4
  obtain ⟨κ, hκ⟩ : ∃ κ : Kx, κ = ⟨k, sp, bb, spb, cpb, dlb, nmb, W.heap.size, W.heap.size + 1 + 1, W.heap.size + 1, W.heap.size + 1 + 1 + 1, nd⟩ := ⟨_, rfl⟩
  have HC : Hid (CxOK C) := hC
  have HIH : Hid (∀ kk, TkP C κ (x :: l) kk) := take_any C hC N HS κ (by rw [hκ]; exact hk) (by rw [hκ]; exact hsp) (by rw [hκ]; show nd ≤ 8; omega) (x :: l) hleft (by simpa using hN)
  have HQ : Hid (∀ W', Below W4.heap.size W4 W' → StB C k sp bb spb cpb dlb nmb b W' ∧ TkB C κ W' ∧ Below W.heap.size W W' ∧ RI W' (some ⟨ab, ao, none⟩) (x :: l)) := fun W' hW => by
    have h0 := chain b1 hW
    refine ⟨hS.later hC h0, ?_, h0, hr.later h0⟩
    rw [hκ]
    exact TkB.later (C := C) (K := ⟨k, sp, bb, spb, cpb, dlb, nmb, W.heap.size, W.heap.size + 1 + 1, W.heap.size + 1, W.heap.size + 1 + 1 + 1, nd⟩) ⟨b2, b4, b3, b5⟩ hW
  have HX : Hid (∀ y ∈ x :: l, y < C.us.length) := hleft.2
  have HNd : Hid ((C.ds.getD k zDl).nd = (nd : Int)) := hnd
  have Hk : Hid (k < C.ds.length) := hk
  have HKe : Hid (κ = ⟨k, sp, bb, spb, cpb, dlb, nmb, W.heap.size, W.heap.size + 1 + 1, W.heap.size + 1, W.heap.size + 1 + 1 + 1, nd⟩) := hκ
  clear b1 b2 b3 b4 b5 hS hr hC hκ hk HS hnd hcell hcx hleft
  have HW4 : Hid (W4 = (((W.alloc (Obj.cells #[.int .i64 (nd : Int)] 3)).alloc (Obj.cells #[.func (.func 39) #[] #[.pointer (some ⟨dlb, 0, none⟩), .pointer (some ⟨C.ub, 0, none⟩)]] 59)).alloc (Obj.cells #[.func (.func 42) #[] #[.pointer (some ⟨C.sb, 0, none⟩), .pointer (some ⟨spb, 0, none⟩), .pointer (some ⟨cpb, 0, none⟩), .pointer (some ⟨dlb, 0, none⟩), .pointer (some ⟨C.ub, 0, none⟩), .pointer (some ⟨bb, 0, none⟩), .pointer (some ⟨nmb, 0, none⟩)]] 81)).alloc (Obj.cells #[.func (.func 57) #[] #[.pointer (some ⟨W.heap.size, 0, none⟩), .pointer (some ⟨W.heap.size + 1 + 1, 0, none⟩), .pointer (some ⟨W.heap.size + 1, 0, none⟩), .pointer (some ⟨W.heap.size + 1 + 1 + 1, 0, none⟩)]] 94)) := hW4
  clear hW4
  go_enter Try.func41, Try.ntmps41
  go_wp2_with fail
  rw [← HW4.out]
  clear HW4
  have HFt : Hid (∀ W', Below W4.heap.size W4 W' → Calls Try.prog 39 #[.int .i64 (x : Int), .pointer (some ⟨dlb, 0, none⟩), .pointer (some ⟨C.ub, 0, none⟩)] W' fun e w' => e = .returned (.bool (fitU C.us (C.ds.getD k zDl) x)) ∧ Below W'.heap.size W' w') := fun W' hW => fits_any C HC.out k dlb x Hk.out (HX.out x List.mem_cons_self) W' (HQ.out W' hW).1.env (HQ.out W' hW).1.dlx
  have HC2 : Hid (∀ W', Below W4.heap.size W4 W' → W'.cell? ⟨W.heap.size + 1, 0, none⟩ = some (.func (.func 39) #[] #[.pointer (some ⟨dlb, 0, none⟩), .pointer (some ⟨C.ub, 0, none⟩)]) ∧ W'.cell? ⟨ab, ao, none⟩ = some (.int .i64 (x : Int)) ∧ W'.cell? ⟨W.heap.size + 1 + 1 + 1, 0, none⟩ = some (.func (.func 57) #[] #[.pointer (some ⟨W.heap.size, 0, none⟩), .pointer (some ⟨W.heap.size + 1 + 1, 0, none⟩), .pointer (some ⟨W.heap.size + 1, 0, none⟩), .pointer (some ⟨W.heap.size + 1 + 1 + 1, 0, none⟩)])) := fun W' hW => by
    have hT := (HQ.out W' hW).2.1
    rw [HKe.out] at hT
    obtain ⟨b2, o2, e2, hc2⟩ := (HQ.out W' hW).2.2.2.at 0 (by simp)
    simp only [Option.some.injEq, Addr.mk.injEq] at e2
    obtain ⟨rfl, rfl, _⟩ := e2
    exact ⟨blkCell hT.ftx 0 _ rfl, hc2, blkCell hT.tkx 0 _ rfl⟩
  refine wp_region_held_drew (S := fun W' => Below W4.heap.size W4 W') (by kernel_rfl) (below_drew _) (fun hH => ?_)
  refine wpAnyH_take (i := 0) (v := .func (.func 39) #[] #[.pointer (some ⟨dlb, 0, none⟩), .pointer (some ⟨C.ub, 0, none⟩)]) rfl (by kernel_rfl) (by kernel_rfl) (by kernel_rfl) (fun _ _ _ h => h) (Or.inl ⟨by rfl, fun w hSw => by have f0 := (HC2.out w hSw).1; go_simp⟩) hH ?_
  refine wpAnyH_take (i := 1) (v := .slice (some ⟨ab, ao, none⟩) (l.length + 1) c) rfl (by kernel_rfl) (by kernel_rfl) (by kernel_rfl) (fun _ _ _ h => h) (Or.inl ⟨by rfl, fun w hSw => by go_simp⟩) hH ?_
  try simp only [Act.put, List.setIfInBounds_toArray, List.set_cons_zero, List.set_cons_succ, List.getElem_toArray, List.getElem_cons_succ, List.getElem_cons_zero]
  refine wpAnyH_take (i := 2) (v := .pointer (some ⟨ab, ao, none⟩)) rfl (by kernel_rfl) (by kernel_rfl) (by kernel_rfl) (fun _ _ _ h => h) (Or.inl ⟨by rfl, fun w hSw => by go_simp⟩) hH ?_
  try simp only [Act.put, List.setIfInBounds_toArray, List.set_cons_zero, List.set_cons_succ, List.getElem_toArray, List.getElem_cons_succ, List.getElem_cons_zero]
  refine wpAnyH_take (i := 3) (v := .int .i64 (x : Int)) rfl (by kernel_rfl) (by kernel_rfl) (by kernel_rfl) (fun _ _ _ h => h) (Or.inl ⟨by rfl, fun w hSw => by have f0 := (HC2.out w hSw).2.1; go_simp⟩) hH ?_
  try simp only [Act.put, List.setIfInBounds_toArray, List.set_cons_zero, List.set_cons_succ, List.getElem_toArray, List.getElem_cons_succ, List.getElem_cons_zero]
  refine wpAnyH_ready (rs := [4]) (by kernel_rfl) (by simp) ?_
  refine AllReadyH.cons rfl (fun K hK => ?_) AllReadyH.nil
  go_simp
  go_at_call 39
  refine (HFt.out _ hH).mono ?_
  rintro e w2 ⟨rfl, hb2⟩
  have hw2 : Below W4.heap.size W4 w2 := chain hH hb2
  clear hb2
  refine hK.out _ _ hw2 (fun _ => ?_)
  clear hK K
  try simp only [Act.put, List.setIfInBounds_toArray, List.set_cons_zero, List.set_cons_succ, List.getElem_toArray, List.getElem_cons_succ, List.getElem_cons_zero]
  refine wpAnyH_done (by kernel_rfl) ?_ _
  have H2 : Hid (Below W4.heap.size W4 w2) := hw2
  clear hw2 hH HFt
  by_cases hfit : fitU C.us (C.ds.getD k zDl) x = true
  · rw [hfit]
    have HTk : Hid (takes C.us (C.ds.getD k zDl) (x :: l) = tkR (fitU C.us (C.ds.getD k zDl)) l (nd - 1) [x] []) := by
      show (if fitU C.us (C.ds.getD k zDl) x = true then _ else _) = _
      rw [if_pos hfit, HNd.out, Int.toNat_natCast]
    clear hfit
    obtain ⟨o8, ho8⟩ : ∃ o8 : Nat, o8 = if c = 1 then ao else ao + 1 := ⟨_, rfl⟩
    have hof : (if c = 1 then (some (⟨ab, ao, none⟩ : Addr)) else some ⟨ab, ao + 1, none⟩) = some ⟨ab, o8, none⟩ := by rw [ho8]; split <;> rfl
    have HDr : Hid (0 < l.length → o8 = ao + 1) := fun h => by rw [ho8, if_neg (by omega)]
    clear ho8
    have hlt1 : ¬ ((l.length : Int) + 1 < 1) := by omega
    go_wp2_with fail
    refine wp_region_z (S := fun W' => Below w2.heap.size w2 W') 7 (by kernel_rfl) (below_drew _) (fun hH => ?_)
    refine wpAnyZ_take (i := 0) (v := .func (.func 57) #[] #[.pointer (some ⟨W.heap.size, 0, none⟩), .pointer (some ⟨W.heap.size + 1 + 1, 0, none⟩), .pointer (some ⟨W.heap.size + 1, 0, none⟩), .pointer (some ⟨W.heap.size + 1 + 1 + 1, 0, none⟩)]) rfl (by kernel_rfl) (by kernel_rfl) (by kernel_rfl) (by kernel_rfl) (fun _ _ _ h => h) (Or.inl ⟨by rfl, fun w hSw => by have f0 := (HC2.out w (chain H2.out hSw)).2.2; go_simp⟩) hH ?_
    refine wpAnyZ_take (i := 1) (v := .slice (some ⟨ab, ao, none⟩) (l.length + 1) c) rfl (by kernel_rfl) (by kernel_rfl) (by kernel_rfl) (by kernel_rfl) (fun _ _ _ h => h) (Or.inl ⟨by rfl, fun w hSw => by go_simp⟩) hH ?_
    try simp only [Act.put, List.setIfInBounds_toArray, List.set_cons_zero, List.set_cons_succ, List.getElem_toArray, List.getElem_cons_succ, List.getElem_cons_zero]
    refine wpAnyZ_take (i := 2) (v := .pointer (some ⟨ab, ao, none⟩)) rfl (by kernel_rfl) (by kernel_rfl) (by kernel_rfl) (by kernel_rfl) (fun _ _ _ h => h) (Or.inl ⟨by rfl, fun w hSw => by go_simp⟩) hH ?_
    try simp only [Act.put, List.setIfInBounds_toArray, List.set_cons_zero, List.set_cons_succ, List.getElem_toArray, List.getElem_cons_succ, List.getElem_cons_zero]
    refine wpAnyZ_take (i := 3) (v := .int .i64 (x : Int)) rfl (by kernel_rfl) (by kernel_rfl) (by kernel_rfl) (by kernel_rfl) (fun _ _ _ h => h) (Or.inl ⟨by rfl, fun w hSw => by have f0 := (HC2.out w (chain H2.out hSw)).2.1; go_simp⟩) hH ?_
    try simp only [Act.put, List.setIfInBounds_toArray, List.set_cons_zero, List.set_cons_succ, List.getElem_toArray, List.getElem_cons_succ, List.getElem_cons_zero]
    refine wpAnyZ_take (i := 5) (v := .slice (some ⟨ab, ao, none⟩) (l.length + 1) c) rfl (by kernel_rfl) (by kernel_rfl) (by kernel_rfl) (by kernel_rfl) (fun _ _ _ h => h) (Or.inl ⟨by rfl, fun w hSw => by go_simp⟩) hH ?_
    try simp only [Act.put, List.setIfInBounds_toArray, List.set_cons_zero, List.set_cons_succ, List.getElem_toArray, List.getElem_cons_succ, List.getElem_cons_zero]
    refine wpAnyZ_take (i := 6) (v := .slice (some ⟨ab, o8, none⟩) l.length (c - 1)) rfl (by kernel_rfl) (by kernel_rfl) (by kernel_rfl) (by kernel_rfl) (fun _ _ _ h => h) (Or.inl ⟨by rfl, fun w hSw => by go_simp⟩) hH ?_
    try simp only [Act.put, List.setIfInBounds_toArray, List.set_cons_zero, List.set_cons_succ, List.getElem_toArray, List.getElem_cons_succ, List.getElem_cons_zero]
    refine wpAnyZ_ready (rs := [4]) (by kernel_rfl) (by simp) ?_
    refine AllReadyZ.cons rfl (fun K hK => ?_) AllReadyZ.nil
    go_simp
    have h3 : Below w2.heap.size w2 (w2.alloc (Obj.cells #[.int .i64 (x : Int)] 3)).drew := chain (below_alloc _ _) (below_drew _)
    have HBx : Hid (RI (w2.alloc (Obj.cells #[.int .i64 (x : Int)] 3)).drew (some ⟨w2.heap.size, 0, none⟩) [x]) := .inr ⟨w2.heap.size, 0, #[.int .i64 (x : Int)], rfl, heapNew w2 _, fun j hj => by have e : j = 0 := (by simpa using hj); subst e; rfl⟩
    refine hK.out _ _ (Or.inr h3) (fun _ => ?_)
    clear hK K
    try simp only [Act.put, List.setIfInBounds_toArray, List.set_cons_zero, List.set_cons_succ, List.getElem_toArray, List.getElem_cons_succ, List.getElem_cons_zero]
    generalize (w2.alloc (Obj.cells #[.int .i64 (x : Int)] 3)).drew = W3 at *
    have HCl : Hid (Calls Try.prog 57 #[.slice (some ⟨w2.heap.size, 0, none⟩) 1 1, .slice (some ⟨ab, o8, none⟩) l.length (c - 1), .int .i64 0, .pointer (some ⟨W.heap.size, 0, none⟩), .pointer (some ⟨W.heap.size + 1 + 1, 0, none⟩), .pointer (some ⟨W.heap.size + 1, 0, none⟩), .pointer (some ⟨W.heap.size + 1 + 1 + 1, 0, none⟩)] W3 fun e w' => e = .returned (.tuple #[]) ∧ StB C k sp bb spb cpb dlb nmb ((tkR (fitU C.us (C.ds.getD k zDl)) l (nd - 1) [x] []).foldl (stT (svU C.us (C.ds.getD k zDl)) (fun r => sr C.us C.ds r (spD (C.ds.getD k zDl) sp k)) k) b) w' ∧ Fr (XB C bb) W3 w') := by
      have hq := HQ.out W3 (chain H2.out h3)
      have hI := HIH.out
      rw [HKe.out] at hI hq
      exact hI (nd - 1) l [x] [] b (some ⟨w2.heap.size, 0, none⟩) (some ⟨ab, o8, none⟩) 1 (c - 1) W3 (by show 1 + (nd - 1) = nd; omega) (by simp) (by simp) (by show l.length ≤ 8; omega) (fun y hy => HX.out y (List.mem_cons_of_mem _ hy)) (fun c hc => by show c ∈ takes C.us (C.ds.getD k zDl) (x :: l); rw [HTk.out]; exact hc) (by simp) (by show l.length ≤ c - 1; omega) HBx.out (by have := hq.2.2.2.drop 1 o8 (fun h => HDr.out (by simpa using h)); exact this) hq.1 hq.2.1
    refine wpAnyZ_ready (rs := [7]) (by kernel_rfl) (by simp) ?_
    refine AllReadyZ.cons rfl (fun K hK => ?_) AllReadyZ.nil
    go_simp
    go_at_call 57
    refine HCl.out.mono ?_
    rintro e w6 ⟨rfl, hS6, hF6⟩
    have HSe : Hid (StB C k sp bb spb cpb dlb nmb ((tkR (fitU C.us (C.ds.getD k zDl)) l (nd - 1) [x] []).foldl (stT (svU C.us (C.ds.getD k zDl)) (fun r => sr C.us C.ds r (spD (C.ds.getD k zDl) sp k)) k) b) w6 ∧ Fr (XB C bb) W w6) := ⟨hS6, (Fr.of (HQ.out W3 (chain H2.out h3)).2.2.1).trans hF6⟩
    clear hS6 hF6 HCl
    refine hK.out _ _ (Or.inl rfl) (fun _ => ?_)
    clear hK K
    try simp only [Act.put, List.setIfInBounds_toArray, List.set_cons_zero, List.set_cons_succ, List.getElem_toArray, List.getElem_cons_succ, List.getElem_cons_zero]
    refine wpAnyZ_done (by kernel_rfl) ?_ _
    clear hH h3 HC2 HQ HIH
    go_wp2
    go_end0
    refine ⟨rfl, ?_, HSe.out.2⟩
    have he := HSe.out.1
    rw [← HTk.out] at he
    exact he
  · have HTk : Hid (takes C.us (C.ds.getD k zDl) (x :: l) = []) := by
      show (if fitU C.us (C.ds.getD k zDl) x = true then _ else _) = _
      rw [if_neg hfit]
    have hfit' : fitU C.us (C.ds.getD k zDl) x = false := by simpa using hfit
    rw [hfit']
    have HSe : Hid (StB C k sp bb spb cpb dlb nmb b w2 ∧ Fr (XB C bb) W w2) := ⟨(HQ.out w2 H2.out).1, Fr.of (HQ.out w2 H2.out).2.2.1⟩
    clear hfit hfit' HC2 HQ HIH
    go_wp2
    go_end0
    refine ⟨rfl, ?_, HSe.out.2⟩
    have he := HSe.out.1
    rw [← List.foldl_nil (f := stT (svU C.us (C.ds.getD k zDl)) (fun r => sr C.us C.ds r (spD (C.ds.getD k zDl) sp k)) k) (b := b), ← HTk.out] at he
    exact he
end Go.Proofs.Ytkfmifbffgbiiaa
