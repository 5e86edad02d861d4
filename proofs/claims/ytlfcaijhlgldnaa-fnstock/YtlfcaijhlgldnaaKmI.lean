/-
  The program's methods of a lot whichever it is; the lots on sale, and which of them ends first.
-/
import Derived.Test.YtlfcaijhlgldnaaKmG
import Derived.Deep.DeepCutAuto
namespace Go.Proofs.Ytlfcaijhlgldnaa
open Go.ChangeShapes Go.WideShapes Go.ChangeAt Go.RowKit Go.Deep
set_option linter.unusedVariables false

def agF (hd : Bool) : FuncId := if hd = true then 98 else 94
def lvF (hd : Bool) : FuncId := if hd = true then 100 else 96
theorem na_toldT (hd : Bool) (a b c d e : Value) (w : World) : (nilAhead 241 (lotT hd) (.agg #[a, b, c, d, e]) "loop.example/g00067/impl.told").run Try.prog w = .ok (some false) w := by
  cases hd
  · exact na_told a b c d e w
  · exact nh_told a b c d e w
theorem me_toldT (hd : Bool) (a b c d e : Value) (w : World) : (method 241 (lotT hd) (.agg #[a, b, c, d, e]) "loop.example/g00067/impl.told").run Try.prog w = .ok (92, .agg #[a, b, c, d, e]) w := by
  cases hd
  · exact me_told a b c d e w
  · exact mh_told a b c d e w
theorem na_agT (hd : Bool) (a b c d e : Value) (w : World) : (nilAhead 241 (lotT hd) (.agg #[a, b, c, d, e]) "loop.example/g00067/impl.against").run Try.prog w = .ok (some false) w := by
  cases hd
  · exact na_ag a b c d e w
  · exact nh_ag a b c d e w
theorem me_agT (hd : Bool) (a b c d e : Value) (w : World) : (method 241 (lotT hd) (.agg #[a, b, c, d, e]) "loop.example/g00067/impl.against").run Try.prog w = .ok (agF hd, .agg #[a, b, c, d, e]) w := by
  cases hd
  · exact me_ag a b c d e w
  · exact mh_ag a b c d e w
theorem na_lvT (hd : Bool) (a b c d e : Value) (w : World) : (nilAhead 241 (lotT hd) (.agg #[a, b, c, d, e]) "loop.example/g00067/impl.leaving").run Try.prog w = .ok (some false) w := by
  cases hd
  · exact na_lv a b c d e w
  · exact nh_lv a b c d e w
theorem me_lvT (hd : Bool) (a b c d e : Value) (w : World) : (method 241 (lotT hd) (.agg #[a, b, c, d, e]) "loop.example/g00067/impl.leaving").run Try.prog w = .ok (lvF hd, .agg #[a, b, c, d, e]) w := by
  cases hd
  · exact me_lv a b c d e w
  · exact mh_lv a b c d e w
theorem cf_ag (hd : Bool) (a b : Value) (w : World) : (callFunc (agF hd) #[a, b]).run Try.prog w = .ok (.enter (agF hd) #[a, b]) w := by cases hd <;> kernel_rfl
theorem cf_lv (hd : Bool) (a b : Value) (w : World) : (callFunc (lvF hd) #[a, b]).run Try.prog w = .ok (.enter (lvF hd) #[a, b]) w := by cases hd <;> kernel_rfl
theorem against_any (a : ByteArray) (l n u : Int) (hd : Bool) (d : Int) (w : World) :
    Calls Try.prog (agF hd) #[.agg #[.string a, .int .i64 l, .int .i64 n, .int .i64 u, .bool hd], .int .i64 d] w fun e w' => e = .returned (.int .i64 (cA d ⟨a, l, n, u, hd⟩)) ∧ Below w.heap.size w w' := by
  cases hd
  · exact freeAgainst_any a l n u d w
  · exact heldAgainst_any a l n u d w
theorem leaving_any (a : ByteArray) (l n u : Int) (hd : Bool) (m : Int) (w : World) :
    Calls Try.prog (lvF hd) #[.agg #[.string a, .int .i64 l, .int .i64 n, .int .i64 u, .bool hd], .int .i64 m] w fun e w' => e = .returned (.iface (lotT hd) (.agg #[.string a, .int .i64 l, .int .i64 m, .int .i64 u, .bool hd])) ∧ Below w.heap.size w w' := by
  cases hd
  · exact freeLeaving_any a l n u false m w
  · exact heldLeaving_any a l n u true m w
theorem fldNu (a b c d e : Value) (w : World) : (Instr.field 38 (.agg #[a, b, c, d, e]) 2).run Try.prog w = .ok c w := by kernel_rfl
theorem fldUn (a b c d e : Value) (w : World) : (Instr.field 38 (.agg #[a, b, c, d, e]) 3).run Try.prog w = .ok d w := by kernel_rfl
def cmpV (a b : Int) : Int := if a < b then -1 else if b < a then 1 else 0
theorem isNaN_any (a : Int) (w : World) : Calls Try.prog 72 #[.int .i64 a] w fun e w' => e = .returned (.bool false) ∧ w = w' := by
  have h1 : (a != a) = false := by simp
  go_enter Try.func72, Try.ntmps72
  go_wp2
  go_ret
  exact ⟨rfl, rfl⟩
theorem compare_any (a b : Int) (w : World) : Calls Try.prog 67 #[.int .i64 a, .int .i64 b] w fun e w' => e = .returned (.int .i64 (cmpV a b)) ∧ w = w' := by
  unfold cmpV
  rcases (by omega : a < b ∨ (¬ a < b ∧ b < a) ∨ (¬ a < b ∧ ¬ b < a)) with h | ⟨h, h2⟩ | ⟨h, h2⟩
  · rw [if_pos h]
    go_enter Try.func67, Try.ntmps67
    go_wp2_with (go_at_call 72; refine (isNaN_any _ _).mono ?_; rintro e w2 ⟨rfl, rfl⟩)
    go_ret
    exact ⟨rfl, rfl⟩
  · rw [if_neg h, if_pos h2]
    go_enter Try.func67, Try.ntmps67
    go_wp2_with (go_at_call 72; refine (isNaN_any _ _).mono ?_; rintro e w2 ⟨rfl, rfl⟩)
    go_ret
    exact ⟨rfl, rfl⟩
  · rw [if_neg h, if_neg h2]
    go_enter Try.func67, Try.ntmps67
    go_wp2_with (go_at_call 72; refine (isNaN_any _ _).mono ?_; rintro e w2 ⟨rfl, rfl⟩)
    go_ret
    exact ⟨rfl, rfl⟩
theorem lotV_mk (a : ByteArray) (l n u : Int) (hd : Bool) : lotV ⟨a, l, n, u, hd⟩ = .iface (lotT hd) (.agg #[.string a, .int .i64 l, .int .i64 n, .int .i64 u, .bool hd]) := rfl
/-- What a look-up of a lot that is there gives. -/
theorem Rn.get {B rb mb ub : Nat} {σ : StS} {ov : Value} {W : World} (h : Rn B rb mb ub σ ov W) (hN : ∀ r ∈ σ.L, SlN r) {i : Nat} (hi : i < σ.L.length) {a : ByteArray} {l n u : Int} {hd : Bool} (hr : gl σ.L i = ⟨a, l, n, u, hd⟩) :
    (Instr.lookup 54 (.map (some mb)) (.agg #[.string a, .int .i64 l]) false).run Try.prog W = .ok (.iface (lotT hd) (.agg #[.string a, .int .i64 l, .int .i64 n, .int .i64 u, .bool hd])) W := by
  have := h.map.get hi (getN hN hi).key
  rw [hr, lotV_mk] at this
  exact this
set_option maxHeartbeats 8000000 in
theorem cmpKeys_any {B rb mb ub : Nat} {σ : StS} {ov : Value} {w : World} (h : Rn B rb mb ub σ ov w) (hN : ∀ r ∈ σ.L, SlN r) (xb : Nat) (hx : w.cell? ⟨xb, 0, none⟩ = some (.pointer (some ⟨rb, 0, none⟩))) {i j : Nat} (hi : i < σ.L.length) (hj : j < σ.L.length) :
    Calls Try.prog 66 #[.agg #[.string (gl σ.L i).ar, .int .i64 (gl σ.L i).lt], .agg #[.string (gl σ.L j).ar, .int .i64 (gl σ.L j).lt], .pointer (some ⟨xb, 0, none⟩)] w fun e w' => e = .returned (.int .i64 (cmpV (gl σ.L i).un (gl σ.L j).un)) ∧ Below w.heap.size w w' := by
  obtain ⟨⟨a0, a1, a2, a3, a4⟩, ha⟩ : ∃ r, gl σ.L i = r := ⟨_, rfl⟩
  obtain ⟨⟨b0, b1, b2, b3, b4⟩, hb⟩ : ∃ r, gl σ.L j = r := ⟨_, rfl⟩
  have HR : Hid (∀ W, Below w.heap.size w W → RnC rb mb ub σ ov W ∧ (Instr.lookup 54 (.map (some mb)) (.agg #[.string a0, .int .i64 a1]) false).run Try.prog W = .ok (.iface (lotT a4) (.agg #[.string a0, .int .i64 a1, .int .i64 a2, .int .i64 a3, .bool a4])) W ∧ (Instr.lookup 54 (.map (some mb)) (.agg #[.string b0, .int .i64 b1]) false).run Try.prog W = .ok (.iface (lotT b4) (.agg #[.string b0, .int .i64 b1, .int .i64 b2, .int .i64 b3, .bool b4])) W ∧ W.cell? ⟨xb, 0, none⟩ = some (.pointer (some ⟨rb, 0, none⟩))) := fun W hW => ⟨(h.later hW).at, (h.later hW).get hN hi ha, (h.later hW).get hN hj hb, (hW.cell (p := ⟨xb, 0, none⟩) (World.block_lt_of_cell? _ _ hx)).trans hx⟩
  rw [ha, hb]
  dsimp only
  obtain ⟨W2, hW2⟩ : ∃ W2, W2 = (w.alloc (Obj.cells #[.string a0, .int .i64 a1] 82)).alloc (Obj.cells #[.string b0, .int .i64 b1] 82) := ⟨_, rfl⟩
  have HW : Hid (Below w.heap.size w W2 ∧ W2.heap[w.heap.size]? = some (.cells #[.string a0, .int .i64 a1] 82 (0, 0)) ∧ W2.heap[w.heap.size + 1]? = some (.cells #[.string b0, .int .i64 b1] 82 (0, 0))) := by
    rw [hW2]
    exact ⟨chain (below_alloc _ _) (below_alloc _ _), heapTwo _ _ _⟩
  have HQ : Hid (∀ W, Below W2.heap.size W2 W → Below w.heap.size w W ∧ W.heap[w.heap.size]? = some (.cells #[.string a0, .int .i64 a1] 82 (0, 0)) ∧ W.heap[w.heap.size + 1]? = some (.cells #[.string b0, .int .i64 b1] 82 (0, 0))) := fun W hW => ⟨chain HW.out.1 hW, (hW.block _ (blkLt HW.out.2.1)).trans HW.out.2.1, (hW.block _ (blkLt HW.out.2.2)).trans HW.out.2.2⟩
  have t0 := fldUn
  have t1 := na_toldT
  have t2 := me_toldT
  clear h hx ha hb hN hi hj HW
  go_enter Try.func66, Try.ntmps66
  go_wp2_with fail
  rw [← hW2]
  clear hW2
  refine wp_region_held_drew (S := fun W => Below W2.heap.size W2 W) (by kernel_rfl) (below_drew _) (fun hH => ?_)
  refine wpAnyH_take (i := 0) (v := .pointer (some ⟨rb, 0, none⟩)) rfl (by kernel_rfl) (by kernel_rfl) (by kernel_rfl) (fun _ _ _ h => h) (Or.inl ⟨by rfl, fun w hSw => by have f0 := (HR.out w (HQ.out w hSw).1).2.2.2; go_simp⟩) hH ?_
  refine wpAnyH_take (i := 1) (v := .pointer (some ⟨rb, 0, none⟩)) rfl (by kernel_rfl) (by kernel_rfl) (by kernel_rfl) (fun _ _ _ h => h) (Or.inl ⟨by rfl, fun w hSw => by go_simp⟩) hH ?_
  try simp only [Act.put, List.setIfInBounds_toArray, List.set_cons_zero, List.set_cons_succ, List.getElem_toArray, List.getElem_cons_succ, List.getElem_cons_zero]
  refine wpAnyH_take (i := 2) (v := .pointer (some ⟨rb, 6, none⟩)) rfl (by kernel_rfl) (by kernel_rfl) (by kernel_rfl) (fun _ _ _ h => h) (Or.inl ⟨by rfl, fun w hSw => by go_simp⟩) hH ?_
  try simp only [Act.put, List.setIfInBounds_toArray, List.set_cons_zero, List.set_cons_succ, List.getElem_toArray, List.getElem_cons_succ, List.getElem_cons_zero]
  refine wpAnyH_take (i := 3) (v := .map (some mb)) rfl (by kernel_rfl) (by kernel_rfl) (by kernel_rfl) (fun _ _ _ h => h) (Or.inl ⟨by rfl, fun w hSw => by have f0 := (HR.out w (HQ.out w hSw).1).1.c6; go_simp⟩) hH ?_
  try simp only [Act.put, List.setIfInBounds_toArray, List.set_cons_zero, List.set_cons_succ, List.getElem_toArray, List.getElem_cons_succ, List.getElem_cons_zero]
  refine wpAnyH_take (i := 4) (v := .agg #[.string a0, .int .i64 a1]) rfl (by kernel_rfl) (by kernel_rfl) (by kernel_rfl) (fun _ _ _ h => h) (Or.inl ⟨by rfl, fun w hSw => by have f0 := blkCell (HQ.out w hSw).2.1 0 _ rfl; have f1 := blkCell (HQ.out w hSw).2.1 1 _ rfl; go_simp⟩) hH ?_
  try simp only [Act.put, List.setIfInBounds_toArray, List.set_cons_zero, List.set_cons_succ, List.getElem_toArray, List.getElem_cons_succ, List.getElem_cons_zero]
  refine wpAnyH_take (i := 5) (v := .iface (lotT a4) (.agg #[.string a0, .int .i64 a1, .int .i64 a2, .int .i64 a3, .bool a4])) rfl (by kernel_rfl) (by kernel_rfl) (by kernel_rfl) (fun _ _ _ h => h) (Or.inl ⟨by rfl, fun w hSw => by have f0 := (HR.out w (HQ.out w hSw).1).2.1; go_simp⟩) hH ?_
  try simp only [Act.put, List.setIfInBounds_toArray, List.set_cons_zero, List.set_cons_succ, List.getElem_toArray, List.getElem_cons_succ, List.getElem_cons_zero]
  refine wpAnyH_take (i := 8) (v := .pointer (some ⟨rb, 0, none⟩)) rfl (by kernel_rfl) (by kernel_rfl) (by kernel_rfl) (fun _ _ _ h => h) (Or.inl ⟨by rfl, fun w hSw => by have f0 := (HR.out w (HQ.out w hSw).1).2.2.2; go_simp⟩) hH ?_
  try simp only [Act.put, List.setIfInBounds_toArray, List.set_cons_zero, List.set_cons_succ, List.getElem_toArray, List.getElem_cons_succ, List.getElem_cons_zero]
  refine wpAnyH_take (i := 9) (v := .pointer (some ⟨rb, 0, none⟩)) rfl (by kernel_rfl) (by kernel_rfl) (by kernel_rfl) (fun _ _ _ h => h) (Or.inl ⟨by rfl, fun w hSw => by go_simp⟩) hH ?_
  try simp only [Act.put, List.setIfInBounds_toArray, List.set_cons_zero, List.set_cons_succ, List.getElem_toArray, List.getElem_cons_succ, List.getElem_cons_zero]
  refine wpAnyH_take (i := 10) (v := .pointer (some ⟨rb, 6, none⟩)) rfl (by kernel_rfl) (by kernel_rfl) (by kernel_rfl) (fun _ _ _ h => h) (Or.inl ⟨by rfl, fun w hSw => by go_simp⟩) hH ?_
  try simp only [Act.put, List.setIfInBounds_toArray, List.set_cons_zero, List.set_cons_succ, List.getElem_toArray, List.getElem_cons_succ, List.getElem_cons_zero]
  refine wpAnyH_take (i := 11) (v := .map (some mb)) rfl (by kernel_rfl) (by kernel_rfl) (by kernel_rfl) (fun _ _ _ h => h) (Or.inl ⟨by rfl, fun w hSw => by have f0 := (HR.out w (HQ.out w hSw).1).1.c6; go_simp⟩) hH ?_
  try simp only [Act.put, List.setIfInBounds_toArray, List.set_cons_zero, List.set_cons_succ, List.getElem_toArray, List.getElem_cons_succ, List.getElem_cons_zero]
  refine wpAnyH_take (i := 12) (v := .agg #[.string b0, .int .i64 b1]) rfl (by kernel_rfl) (by kernel_rfl) (by kernel_rfl) (fun _ _ _ h => h) (Or.inl ⟨by rfl, fun w hSw => by have f0 := blkCell (HQ.out w hSw).2.2 0 _ rfl; have f1 := blkCell (HQ.out w hSw).2.2 1 _ rfl; go_simp⟩) hH ?_
  try simp only [Act.put, List.setIfInBounds_toArray, List.set_cons_zero, List.set_cons_succ, List.getElem_toArray, List.getElem_cons_succ, List.getElem_cons_zero]
  refine wpAnyH_take (i := 13) (v := .iface (lotT b4) (.agg #[.string b0, .int .i64 b1, .int .i64 b2, .int .i64 b3, .bool b4])) rfl (by kernel_rfl) (by kernel_rfl) (by kernel_rfl) (fun _ _ _ h => h) (Or.inl ⟨by rfl, fun w hSw => by have f0 := (HR.out w (HQ.out w hSw).1).2.2.1; go_simp⟩) hH ?_
  try simp only [Act.put, List.setIfInBounds_toArray, List.set_cons_zero, List.set_cons_succ, List.getElem_toArray, List.getElem_cons_succ, List.getElem_cons_zero]
  refine wpAnyH_ready (rs := [6]) (by kernel_rfl) (by simp) ?_
  refine AllReadyH.cons rfl (fun K hK => ?_) AllReadyH.nil
  go_simp
  refine (told_any a0 a1 a2 a3 a4 _).mono ?_
  rintro e w3 ⟨rfl, hb3⟩
  have h3 := chain hH hb3
  refine hK.out _ _ h3 (fun _ => ?_)
  clear hK K
  try simp only [Act.put, List.setIfInBounds_toArray, List.set_cons_zero, List.set_cons_succ, List.getElem_toArray, List.getElem_cons_succ, List.getElem_cons_zero]
  clear hb3 hH
  refine wpAnyH_take (i := 7) (v := .int .i64 a3) rfl (by kernel_rfl) (by kernel_rfl) (by kernel_rfl) (fun _ _ _ h => h) (Or.inl ⟨by rfl, fun w hSw => by go_simp⟩) h3 ?_
  try simp only [Act.put, List.setIfInBounds_toArray, List.set_cons_zero, List.set_cons_succ, List.getElem_toArray, List.getElem_cons_succ, List.getElem_cons_zero]
  refine wpAnyH_ready (rs := [14]) (by kernel_rfl) (by simp) ?_
  refine AllReadyH.cons rfl (fun K hK => ?_) AllReadyH.nil
  go_simp
  refine (told_any b0 b1 b2 b3 b4 _).mono ?_
  rintro e w4 ⟨rfl, hb4⟩
  have h4 := chain h3 hb4
  refine hK.out _ _ h4 (fun _ => ?_)
  clear hK K
  try simp only [Act.put, List.setIfInBounds_toArray, List.set_cons_zero, List.set_cons_succ, List.getElem_toArray, List.getElem_cons_succ, List.getElem_cons_zero]
  clear hb4 h3
  refine wpAnyH_take (i := 15) (v := .int .i64 b3) rfl (by kernel_rfl) (by kernel_rfl) (by kernel_rfl) (fun _ _ _ h => h) (Or.inl ⟨by rfl, fun w hSw => by go_simp⟩) h4 ?_
  try simp only [Act.put, List.setIfInBounds_toArray, List.set_cons_zero, List.set_cons_succ, List.getElem_toArray, List.getElem_cons_succ, List.getElem_cons_zero]
  refine wpAnyH_ready (rs := [16]) (by kernel_rfl) (by simp) ?_
  refine AllReadyH.cons rfl (fun K hK => ?_) AllReadyH.nil
  go_simp
  refine (compare_any a3 b3 _).mono ?_
  rintro e w5 ⟨rfl, rfl⟩
  refine hK.out _ _ h4 (fun _ => ?_)
  clear hK K
  try simp only [Act.put, List.setIfInBounds_toArray, List.set_cons_zero, List.set_cons_succ, List.getElem_toArray, List.getElem_cons_succ, List.getElem_cons_zero]
  refine wpAnyH_take (i := 17) (v := .int .i64 (cmpV a3 b3)) rfl (by kernel_rfl) (by kernel_rfl) (by kernel_rfl) (fun _ _ _ h => h) (Or.inl ⟨by rfl, fun w hSw => by go_simp⟩) h4 ?_
  try simp only [Act.put, List.setIfInBounds_toArray, List.set_cons_zero, List.set_cons_succ, List.getElem_toArray, List.getElem_cons_succ, List.getElem_cons_zero]
  refine wpAnyH_done (by kernel_rfl) ?_ _
  have HE : Hid (Below w.heap.size w w4) := (HQ.out _ h4).1
  clear h4 HQ HR t0 t1 t2
  go_wp2
  go_ret
  exact ⟨rfl, HE.out⟩
end Go.Proofs.Ytlfcaijhlgldnaa
