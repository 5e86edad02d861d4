/-
  Texts of this claim laid together: TlO.
-/
import Derived.Test.YtabpkfhbnendjaaGreatM22
import Derived.Deep.MidRow
/-
  The program's do.
-/
namespace Go.Proofs.YtabpkfhbnendjaaGreat
open Go.ChangeShapes Go.WideShapes Go.ChangeAt Go.RowKit Go.Deep
set_option linter.unusedVariables false

def regL (lv : Value) (sh : Int) (iv kv : Value) (sl tk dp : Int) (cs : List Int) : List Value := [lv, .int .i64 sh, iv, kv, .int .i64 sl, .int .i64 tk, .int .i64 dp] ++ cs.map (Value.int .i64)
theorem regL_len (lv : Value) (sh : Int) (iv kv : Value) (sl tk dp : Int) (cs : List Int) : (regL lv sh iv kv sl tk dp cs).length = 7 + cs.length := by simp [regL]; omega
theorem reg_range {W : World} {rb : Nat} {lv : Value} {sh : Int} {iv kv : Value} {sl tk dp : Int} {cs : List Int} (h : RegIs W rb lv sh iv kv sl tk dp cs) : W.rangeAt rb 0 (regL lv sh iv kv sl tk dp cs) := fun j v hv => by
  rw [Nat.zero_add]
  exact blkCell h j v (by unfold regC; rw [List.getElem?_toArray]; exact hv)
theorem row_type {w : World} {B : Nat} {e : TypeId} {k : Nat} {v : Value} {n : Nat} {xs : List Value} (h : w.ownsRow B e k v n xs) {q : Nat} (hq : v.ownBlock = some q) : ∃ cur, w.heap[q]? = some (.cells cur e (0, 0)) := by
  rcases h.2 with ⟨rfl, _⟩ | ⟨g, cap, cur, rfl, _, hg, _⟩
  · cases hq
  · cases hq; exact ⟨cur, hg⟩
/-- A block of another kind has turned. -/
theorem Rg.aside {B rb : Nat} {iv lv : Value} {ls : List RLi} {sh : Int} {kv : Value} {ks : List Kb} {sl tk dp : Int} {cs : List Int} {W W' : World} (h : Rg B rb iv lv ls sh kv ks sl tk dp cs W) {bo : Nat} {V : Array Value} (hb : W.heap[bo]? = some (.cells V 40 (0, 0))) (hf : Fr (fun k => k = bo) W W') : Rg B rb iv lv ls sh kv ks sl tk dp cs W' := by
  have n1 : rb ≠ bo := fun e => by
    have := h.reg
    unfold RegIs at this
    rw [e, hb] at this
    simp at this
  have n2 : ∀ {v : Value} {n : Nat} {xs : List Value}, W.ownsRow B 82 4 v n xs → ∀ q, v.ownBlock = some q → q ≠ bo := fun hr q hq e => by
    obtain ⟨cur, hc⟩ := row_type hr hq
    rw [e, hb] at hc
    simp at hc
  have n3 : ∀ q, kv.ownBlock = some q → q ≠ bo := fun q hq e => by
    obtain ⟨cur, hc⟩ := row_type h.krow hq
    rw [e, hb] at hc
    simp at hc
  exact ⟨(hf.block rb h.reg.lt n1).trans h.reg, row_of h.lrow (fun q hq => hf.block q (row_lt h.lrow q hq).2 (n2 h.lrow q hq)), row_of h.krow (fun q hq => hf.block q (row_lt h.krow q hq).2 (n3 q hq)), fun k hk => row_of (h.rows k hk) (fun q hq => hf.block q (row_lt (h.rows k hk) q hq).2 (n2 (h.rows k hk) q hq)), h.dist, h.low⟩
/-- What is said of a world is not touched where a block of an answer's kind turns. -/
def Aside2 (Q : World → Prop) : Prop := ∀ (W W' : World) (bo : Nat) (V : Array Value), Q W → W.heap[bo]? = some (.cells V 40 (0, 0)) → Fr (fun k => k = bo) W W' → Q W'
theorem fin2 {W : World} {b : Nat} {u0 u1 : Value} {t : TypeId} (h : W.heap[b]? = some (.cells #[u0, u1] t (0, 0))) (v0 v1 : Value) : ((W.setCell ⟨b, 0, none⟩ v0).setCell ⟨b, 1, none⟩ v1).heap[b]? = some (.cells #[v0, v1] t (0, 0)) :=
  heap_setCell_same _ _ 1 _ _ _ (heap_setCell_same _ _ 0 _ _ _ h)
theorem na_scanning (v : Array Value) (w : World) : (nilAhead 275 91 (.agg v) "loop.example/g00067/impl.against").run Tryz.prog w = .ok (some false) w := by kernel_rfl
theorem me_scanning (v : Array Value) (w : World) : (method 275 91 (.agg v) "loop.example/g00067/impl.against").run Tryz.prog w = .ok (114, .agg v) w := by kernel_rfl
theorem na_voiding (v : Array Value) (w : World) : (nilAhead 275 95 (.agg v) "loop.example/g00067/impl.against").run Tryz.prog w = .ok (some false) w := by kernel_rfl
theorem me_voiding (v : Array Value) (w : World) : (method 275 95 (.agg v) "loop.example/g00067/impl.against").run Tryz.prog w = .ok (115, .agg v) w := by kernel_rfl
theorem na_showing (v : Array Value) (w : World) : (nilAhead 275 97 (.agg v) "loop.example/g00067/impl.against").run Tryz.prog w = .ok (some false) w := by kernel_rfl
theorem me_showing (v : Array Value) (w : World) : (method 275 97 (.agg v) "loop.example/g00067/impl.against").run Tryz.prog w = .ok (116, .agg v) w := by kernel_rfl
theorem na_suspending (v : Array Value) (w : World) : (nilAhead 275 99 (.agg v) "loop.example/g00067/impl.against").run Tryz.prog w = .ok (some false) w := by kernel_rfl
theorem me_suspending (v : Array Value) (w : World) : (method 275 99 (.agg v) "loop.example/g00067/impl.against").run Tryz.prog w = .ok (117, .agg v) w := by kernel_rfl
theorem na_resuming (v : Array Value) (w : World) : (nilAhead 275 101 (.agg v) "loop.example/g00067/impl.against").run Tryz.prog w = .ok (some false) w := by kernel_rfl
theorem me_resuming (v : Array Value) (w : World) : (method 275 101 (.agg v) "loop.example/g00067/impl.against").run Tryz.prog w = .ok (118, .agg v) w := by kernel_rfl
theorem na_paying (v : Array Value) (w : World) : (nilAhead 275 103 (.agg v) "loop.example/g00067/impl.against").run Tryz.prog w = .ok (some false) w := by kernel_rfl
theorem me_paying (v : Array Value) (w : World) : (method 275 103 (.agg v) "loop.example/g00067/impl.against").run Tryz.prog w = .ok (119, .agg v) w := by kernel_rfl
theorem Fr.far2 {X : Nat → Prop} {w W W' : World} {b : Nat} (hx : Fr X w W) (h : Fr (fun k => k = b) W W') (hb : w.heap.size ≤ b) : Fr X w W' :=
  ⟨h.os.trans hx.os, h.tape.trans hx.tape, h.output.trans hx.output, Nat.le_trans hx.size h.size, fun k hk hX => (h.block k (Nat.lt_of_lt_of_le hk hx.size) (by omega)).trans (hx.block k hk hX)⟩
theorem Fr.drop2 {w W W' : World} {b : Nat} (hb : Below w.heap.size w W) (h : Fr (fun k => k = b) W W') (hbw : w.heap.size ≤ b) : Below w.heap.size w W' := Fr.below hb h hb.size (fun k hk => by rw [hk]; exact hbw)
set_option maxHeartbeats 8000000 in
set_option maxRecDepth 8000 in
/-- The act's own code stands against it. -/
theorem do_code (R : ByteArray → Int × ByteArray × Int × Int) (hR : RsI R) (ia : Option Addr) (ic : Nat) (its : List RIt) (hok : ∀ r ∈ its, ItN r) (hil : its.length ≤ 40) (B rb : Nat) (lv : Value) (ls : List RLi) (sh : Int) (kv : Value) (ks : List Kb) (sl tk dp : Int) (cs : List Int) (hcs : cs.length = 9) (tx : ByteArray) (n : Int) (w : World) (hg : Rg B rb (.slice ia its.length ic) lv ls sh kv ks sl tk dp cs w) (hI : ReadsIt B w ia its) (hB : B ≤ w.heap.size) (kd : Int) (hE : deedE R its kd tx n ≠ 0) :
    Calls Tryz.prog 13 #[.pointer (some ⟨rb, 0, none⟩), .agg #[.int .i64 kd, .string tx, .int .i64 n]] w fun e w' => e = .returned (.agg #[.int .i64 (deedE R its kd tx n), .int .i64 0]) ∧ Below w.heap.size w w' := by
  have HDd : Hid (∀ W, Below w.heap.size w W → Calls Tryz.prog 28 #[.slice ia its.length ic, .agg #[.int .i64 kd, .string tx, .int .i64 n]] W fun e w' => e = .returned (.tuple #[deedV R its kd tx n, .int .i64 (deedE R its kd tx n)]) ∧ Below W.heap.size W w') := fun W hW => deedOf_any R hR ia ic its hok hil kd tx n W (((hI.below (hW.mono hB)).mono (Nat.le_trans hB hW.size)))
  have HG0 : Hid (Rg B rb (.slice ia its.length ic) lv ls sh kv ks sl tk dp cs w) := hg
  generalize deedV R its kd tx n = dv at *
  generalize deedE R its kd tx n = ce at *
  have hE1 : (ce == 0) = false := by simpa using hE
  have hE2 : (ce != 0) = true := by simpa using hE
  clear hg hI hok hR
  go_enter Tryz.func13, Tryz.ntmps13
  go_wp2_with fail
  have hba : ((w.alloc (Obj.cells #[.int .i64 kd, .string tx, .int .i64 n] 42)).alloc (Obj.cells #[.int .i64 0, .int .i64 0] 40)).heap[w.heap.size]? = some (.cells #[.int .i64 kd, .string tx, .int .i64 n] 42 (0, 0)) := (Below.heap_alloc _ _ _ (by simp)).trans (heapNew _ _)
  have hbo : ((w.alloc (Obj.cells #[.int .i64 kd, .string tx, .int .i64 n] 42)).alloc (Obj.cells #[.int .i64 0, .int .i64 0] 40)).heap[w.heap.size + 1]? = some (.cells #[.int .i64 0, .int .i64 0] 40 (0, 0)) := by
    have := heapNew (w.alloc (Obj.cells #[.int .i64 kd, .string tx, .int .i64 n] 42)) (Obj.cells #[.int .i64 0, .int .i64 0] 40)
    rwa [show (w.alloc (Obj.cells #[.int .i64 kd, .string tx, .int .i64 n] 42)).heap.size = w.heap.size + 1 by simp] at this
  have hW2 : Below w.heap.size w ((w.alloc (Obj.cells #[.int .i64 kd, .string tx, .int .i64 n] 42)).alloc (Obj.cells #[.int .i64 0, .int .i64 0] 40)) := chain (below_alloc _ _) (below_alloc _ _)
  generalize ((w.alloc (Obj.cells #[.int .i64 kd, .string tx, .int .i64 n] 42)).alloc (Obj.cells #[.int .i64 0, .int .i64 0] 40)) = W2 at *
  have HW : Hid (∀ W, Below W2.heap.size W2 W → Below w.heap.size w W ∧ W.heap[w.heap.size]? = some (.cells #[.int .i64 kd, .string tx, .int .i64 n] 42 (0, 0)) ∧ W.heap[w.heap.size + 1]? = some (.cells #[.int .i64 0, .int .i64 0] 40 (0, 0)) ∧ RegIs W rb lv sh (.slice ia its.length ic) kv sl tk dp cs) := fun W hW => ⟨chain hW2 hW, (hW.block _ (blkLt hba)).trans hba, (hW.block _ (blkLt hbo)).trans hbo, HG0.out.reg.later (chain hW2 hW)⟩
  clear hba hbo hW2
  refine wp_region_held_drew (S := fun W => Below W2.heap.size W2 W) (by kernel_rfl) (below_drew _) (fun hH => ?_)
  refine wpAnyH_take (i := 0) (v := .pointer (some ⟨rb, 0, none⟩)) rfl (by kernel_rfl) (by kernel_rfl) (by kernel_rfl) (fun _ _ _ h => h) (Or.inl ⟨by rfl, fun w hSw => by go_simp⟩) hH ?_
  refine wpAnyH_take (i := 1) (v := .pointer (some ⟨rb, 0, none⟩)) rfl (by kernel_rfl) (by kernel_rfl) (by kernel_rfl) (fun _ _ _ h => h) (Or.inl ⟨by rfl, fun w hSw => by go_simp⟩) hH ?_
  try simp only [Act.put, List.setIfInBounds_toArray, List.set_cons_zero, List.set_cons_succ, List.getElem_toArray, List.getElem_cons_succ, List.getElem_cons_zero]
  refine wpAnyH_take (i := 2) (v := .pointer (some ⟨rb, 2, none⟩)) rfl (by kernel_rfl) (by kernel_rfl) (by kernel_rfl) (fun _ _ _ h => h) (Or.inl ⟨by rfl, fun w hSw => by go_simp⟩) hH ?_
  try simp only [Act.put, List.setIfInBounds_toArray, List.set_cons_zero, List.set_cons_succ, List.getElem_toArray, List.getElem_cons_succ, List.getElem_cons_zero]
  refine wpAnyH_take (i := 3) (v := .slice ia its.length ic) rfl (by kernel_rfl) (by kernel_rfl) (by kernel_rfl) (fun _ _ _ h => h) (Or.inl ⟨by rfl, fun w hSw => by have f0 := (HW.out w hSw).2.2.2.cells.2.2.1; go_simp⟩) hH ?_
  try simp only [Act.put, List.setIfInBounds_toArray, List.set_cons_zero, List.set_cons_succ, List.getElem_toArray, List.getElem_cons_succ, List.getElem_cons_zero]
  refine wpAnyH_take (i := 4) (v := .agg #[.int .i64 kd, .string tx, .int .i64 n]) rfl (by kernel_rfl) (by kernel_rfl) (by kernel_rfl) (fun _ _ _ h => h) (Or.inl ⟨by rfl, fun w hSw => by have f0 := blkCell (HW.out w hSw).2.1 0 _ rfl; have f1 := blkCell (HW.out w hSw).2.1 1 _ rfl; have f2 := blkCell (HW.out w hSw).2.1 2 _ rfl; go_simp⟩) hH ?_
  try simp only [Act.put, List.setIfInBounds_toArray, List.set_cons_zero, List.set_cons_succ, List.getElem_toArray, List.getElem_cons_succ, List.getElem_cons_zero]
  refine wpAnyH_ready (rs := [5]) (by kernel_rfl) (by simp) ?_
  refine AllReadyH.cons rfl (fun K hK => ?_) AllReadyH.nil
  go_simp
  go_at_call 28
  refine (HDd.out _ (HW.out _ hH).1).mono ?_
  rintro e w5 ⟨rfl, hb5⟩
  have hw5 := chain hH hb5
  refine hK.out _ _ hw5 (fun _ => ?_)
  clear hK K
  try simp only [Act.put, List.setIfInBounds_toArray, List.set_cons_zero, List.set_cons_succ, List.getElem_toArray, List.getElem_cons_succ, List.getElem_cons_zero]
  refine wpAnyH_take (i := 6) (v := .tuple #[dv, .int .i64 ce]) rfl (by kernel_rfl) (by kernel_rfl) (by kernel_rfl) (fun _ _ _ h => h) (Or.inl ⟨by rfl, fun w hSw => by go_simp⟩) hw5 ?_
  try simp only [Act.put, List.setIfInBounds_toArray, List.set_cons_zero, List.set_cons_succ, List.getElem_toArray, List.getElem_cons_succ, List.getElem_cons_zero]
  refine wpAnyH_take (i := 7) (v := dv) rfl (by kernel_rfl) (by kernel_rfl) (by kernel_rfl) (fun _ _ _ h => h) (Or.inl ⟨by rfl, fun w hSw => by go_simp⟩) hw5 ?_
  try simp only [Act.put, List.setIfInBounds_toArray, List.set_cons_zero, List.set_cons_succ, List.getElem_toArray, List.getElem_cons_succ, List.getElem_cons_zero]
  refine wpAnyH_take (i := 8) (v := .int .i64 ce) rfl (by kernel_rfl) (by kernel_rfl) (by kernel_rfl) (fun _ _ _ h => h) (Or.inl ⟨by rfl, fun w hSw => by go_simp⟩) hw5 ?_
  try simp only [Act.put, List.setIfInBounds_toArray, List.set_cons_zero, List.set_cons_succ, List.getElem_toArray, List.getElem_cons_succ, List.getElem_cons_zero]
  refine wpAnyH_take (i := 9) (v := dv) rfl (by kernel_rfl) (by kernel_rfl) (by kernel_rfl) (fun _ _ _ h => h) (Or.inl ⟨by rfl, fun w hSw => by go_simp⟩) hw5 ?_
  try simp only [Act.put, List.setIfInBounds_toArray, List.set_cons_zero, List.set_cons_succ, List.getElem_toArray, List.getElem_cons_succ, List.getElem_cons_zero]
  refine wpAnyH_take (i := 10) (v := .int .i64 ce) rfl (by kernel_rfl) (by kernel_rfl) (by kernel_rfl) (fun _ _ _ h => h) (Or.inl ⟨by rfl, fun w hSw => by go_simp⟩) hw5 ?_
  try simp only [Act.put, List.setIfInBounds_toArray, List.set_cons_zero, List.set_cons_succ, List.getElem_toArray, List.getElem_cons_succ, List.getElem_cons_zero]
  refine wpAnyH_done (by kernel_rfl) ?_ _
  try simp
  have HO : Hid (w5.heap[w.heap.size + 1]? = some (.cells #[.int .i64 0, .int .i64 0] 40 (0, 0))) := (HW.out _ hw5).2.2.1
  have HB6 : Hid (Below w.heap.size w w5) := (HW.out _ hw5).1
  clear hw5 hb5 hH
  have z0 := blkFree HO.out 0
  have z1 := blkFree HO.out 1
  have y0 := blkCell HO.out 0 _ rfl
  have y1 := blkCell HO.out 1 _ rfl
  have hlo := blkLt HO.out
  go_wp2
  have hq := fin2 HO.out (.int .i64 ce) (.int .i64 0)
  have hfo : Fr (fun k => k = w.heap.size + 1) w5 ((w5.setCell ⟨w.heap.size + 1, 0, none⟩ (.int .i64 ce)).setCell ⟨w.heap.size + 1, 1, none⟩ (.int .i64 0)) := ((Fr.refl (fun k => k = w.heap.size + 1) w5).set (b := w.heap.size + 1) rfl _ _).set (b := w.heap.size + 1) rfl _ _
  generalize ((w5.setCell ⟨w.heap.size + 1, 0, none⟩ (.int .i64 ce)).setCell ⟨w.heap.size + 1, 1, none⟩ (.int .i64 0)) = W9 at *
  have p0 := blkCell hq 0 _ rfl
  have p1 := blkCell hq 1 _ rfl
  exact bodyPost_ret (v := .agg #[.int .i64 ce, .int .i64 0]) (by simp [results, Tryz.results13, go_sem, p0, p1]) rfl (⟨rfl, Fr.drop2 HB6.out hfo (by omega)⟩)
set_option maxHeartbeats 8000000 in
set_option maxRecDepth 8000 in
theorem do_scanning (R : ByteArray → Int × ByteArray × Int × Int) (hR : RsI R) (ia : Option Addr) (ic : Nat) (its : List RIt) (hok : ∀ r ∈ its, ItN r) (hil : its.length ≤ 40) (B rb : Nat) (lv : Value) (ls : List RLi) (sh : Int) (kv : Value) (ks : List Kb) (sl tk dp : Int) (cs : List Int) (hcs : cs.length = 9) (tx : ByteArray) (n : Int) (w : World) (hg : Rg B rb (.slice ia its.length ic) lv ls sh kv ks sl tk dp cs w) (hI : ReadsIt B w ia its) (hB : B ≤ w.heap.size) (q0 q1 q2 q3 ag : Int) (hE : deedV R its 1 tx n = .iface 91 (.agg #[.int .i64 q0, .int .i64 q1, .int .i64 q2, .int .i64 q3, .int .i64 ag]) ∧ deedE R its 1 tx n = 0) (ac num : Int) (Q : World → Prop) (hQ : Aside2 Q)
    (hag : ∀ W, Below w.heap.size w W → Calls Tryz.prog 114 #[.agg #[.int .i64 q0, .int .i64 q1, .int .i64 q2, .int .i64 q3, .int .i64 ag], .agg (regL lv sh (.slice ia its.length ic) kv sl tk dp cs).toArray] W fun e w' => e = .returned (.int .i64 ac) ∧ Below W.heap.size W w')
    (hca : ac = 0 → ∀ W, Below w.heap.size w W → Calls Tryz.prog 29 #[.pointer (some ⟨rb, 0, none⟩), .iface 91 (.agg #[.int .i64 q0, .int .i64 q1, .int .i64 q2, .int .i64 q3, .int .i64 ag])] W fun e w' => e = .returned (.int .i64 num) ∧ Fr (RgX rb lv kv) W w' ∧ Q w') :
    Calls Tryz.prog 13 #[.pointer (some ⟨rb, 0, none⟩), .agg #[.int .i64 1, .string tx, .int .i64 n]] w fun e w' => (ac ≠ 0 ∧ e = .returned (.agg #[.int .i64 ac, .int .i64 0]) ∧ Below w.heap.size w w') ∨ (ac = 0 ∧ e = .returned (.agg #[.int .i64 0, .int .i64 num]) ∧ Fr (RgX rb lv kv) w w' ∧ Q w') := by
  have HDd : Hid (∀ W, Below w.heap.size w W → Calls Tryz.prog 28 #[.slice ia its.length ic, .agg #[.int .i64 1, .string tx, .int .i64 n]] W fun e w' => e = .returned (.tuple #[deedV R its 1 tx n, .int .i64 (deedE R its 1 tx n)]) ∧ Below W.heap.size W w') := fun W hW => deedOf_any R hR ia ic its hok hil 1 tx n W (((hI.below (hW.mono hB)).mono (Nat.le_trans hB hW.size)))
  rw [hE.1, hE.2] at HDd
  have HG0 : Hid (Rg B rb (.slice ia its.length ic) lv ls sh kv ks sl tk dp cs w) := hg
  have HAg : Hid (∀ W, Below w.heap.size w W → Calls Tryz.prog 114 #[.agg #[.int .i64 q0, .int .i64 q1, .int .i64 q2, .int .i64 q3, .int .i64 ag], .agg (regL lv sh (.slice ia its.length ic) kv sl tk dp cs).toArray] W fun e w' => e = .returned (.int .i64 ac) ∧ Below W.heap.size W w') := hag
  have HCa : Hid (ac = 0 → ∀ W, Below w.heap.size w W → Calls Tryz.prog 29 #[.pointer (some ⟨rb, 0, none⟩), .iface 91 (.agg #[.int .i64 q0, .int .i64 q1, .int .i64 q2, .int .i64 q3, .int .i64 ag])] W fun e w' => e = .returned (.int .i64 num) ∧ Fr (RgX rb lv kv) W w' ∧ Q w') := hca
  have HQ : Hid (Aside2 Q) := hQ
  clear hg hI hok hR hag hca hQ hE
  generalize hpost : (fun (e : Ending) (w' : World) => (ac ≠ 0 ∧ e = .returned (.agg #[.int .i64 ac, .int .i64 0]) ∧ Below w.heap.size w w') ∨ (ac = 0 ∧ e = .returned (.agg #[.int .i64 0, .int .i64 num]) ∧ Fr (RgX rb lv kv) w w' ∧ Q w')) = post
  have HP1 : Hid (ac ≠ 0 → ∀ w', Below w.heap.size w w' → post (.returned (.agg #[.int .i64 ac, .int .i64 0])) w') := fun h w' hb => by subst hpost; exact .inl ⟨h, rfl, hb⟩
  have HP2 : Hid (ac = 0 → ∀ w', Fr (RgX rb lv kv) w w' → Q w' → post (.returned (.agg #[.int .i64 0, .int .i64 num])) w') := fun h w' hb hq => by subst hpost; exact .inr ⟨h, rfl, hb, hq⟩
  clear hpost
  go_enter Tryz.func13, Tryz.ntmps13
  go_wp2_with fail
  have hba : ((w.alloc (Obj.cells #[.int .i64 1, .string tx, .int .i64 n] 42)).alloc (Obj.cells #[.int .i64 0, .int .i64 0] 40)).heap[w.heap.size]? = some (.cells #[.int .i64 1, .string tx, .int .i64 n] 42 (0, 0)) := (Below.heap_alloc _ _ _ (by simp)).trans (heapNew _ _)
  have hbo : ((w.alloc (Obj.cells #[.int .i64 1, .string tx, .int .i64 n] 42)).alloc (Obj.cells #[.int .i64 0, .int .i64 0] 40)).heap[w.heap.size + 1]? = some (.cells #[.int .i64 0, .int .i64 0] 40 (0, 0)) := by
    have := heapNew (w.alloc (Obj.cells #[.int .i64 1, .string tx, .int .i64 n] 42)) (Obj.cells #[.int .i64 0, .int .i64 0] 40)
    rwa [show (w.alloc (Obj.cells #[.int .i64 1, .string tx, .int .i64 n] 42)).heap.size = w.heap.size + 1 by simp] at this
  have hW2 : Below w.heap.size w ((w.alloc (Obj.cells #[.int .i64 1, .string tx, .int .i64 n] 42)).alloc (Obj.cells #[.int .i64 0, .int .i64 0] 40)) := chain (below_alloc _ _) (below_alloc _ _)
  generalize ((w.alloc (Obj.cells #[.int .i64 1, .string tx, .int .i64 n] 42)).alloc (Obj.cells #[.int .i64 0, .int .i64 0] 40)) = W2 at *
  have HW : Hid (∀ W, Below W2.heap.size W2 W → Below w.heap.size w W ∧ W.heap[w.heap.size]? = some (.cells #[.int .i64 1, .string tx, .int .i64 n] 42 (0, 0)) ∧ W.heap[w.heap.size + 1]? = some (.cells #[.int .i64 0, .int .i64 0] 40 (0, 0)) ∧ RegIs W rb lv sh (.slice ia its.length ic) kv sl tk dp cs) := fun W hW => ⟨chain hW2 hW, (hW.block _ (blkLt hba)).trans hba, (hW.block _ (blkLt hbo)).trans hbo, HG0.out.reg.later (chain hW2 hW)⟩
  clear hba hbo hW2
  refine wp_region_held_drew (S := fun W => Below W2.heap.size W2 W) (by kernel_rfl) (below_drew _) (fun hH => ?_)
  refine wpAnyH_take (i := 0) (v := .pointer (some ⟨rb, 0, none⟩)) rfl (by kernel_rfl) (by kernel_rfl) (by kernel_rfl) (fun _ _ _ h => h) (Or.inl ⟨by rfl, fun w hSw => by go_simp⟩) hH ?_
  refine wpAnyH_take (i := 1) (v := .pointer (some ⟨rb, 0, none⟩)) rfl (by kernel_rfl) (by kernel_rfl) (by kernel_rfl) (fun _ _ _ h => h) (Or.inl ⟨by rfl, fun w hSw => by go_simp⟩) hH ?_
  try simp only [Act.put, List.setIfInBounds_toArray, List.set_cons_zero, List.set_cons_succ, List.getElem_toArray, List.getElem_cons_succ, List.getElem_cons_zero]
  refine wpAnyH_take (i := 2) (v := .pointer (some ⟨rb, 2, none⟩)) rfl (by kernel_rfl) (by kernel_rfl) (by kernel_rfl) (fun _ _ _ h => h) (Or.inl ⟨by rfl, fun w hSw => by go_simp⟩) hH ?_
  try simp only [Act.put, List.setIfInBounds_toArray, List.set_cons_zero, List.set_cons_succ, List.getElem_toArray, List.getElem_cons_succ, List.getElem_cons_zero]
  refine wpAnyH_take (i := 3) (v := .slice ia its.length ic) rfl (by kernel_rfl) (by kernel_rfl) (by kernel_rfl) (fun _ _ _ h => h) (Or.inl ⟨by rfl, fun w hSw => by have f0 := (HW.out w hSw).2.2.2.cells.2.2.1; go_simp⟩) hH ?_
  try simp only [Act.put, List.setIfInBounds_toArray, List.set_cons_zero, List.set_cons_succ, List.getElem_toArray, List.getElem_cons_succ, List.getElem_cons_zero]
  refine wpAnyH_take (i := 4) (v := .agg #[.int .i64 1, .string tx, .int .i64 n]) rfl (by kernel_rfl) (by kernel_rfl) (by kernel_rfl) (fun _ _ _ h => h) (Or.inl ⟨by rfl, fun w hSw => by have f0 := blkCell (HW.out w hSw).2.1 0 _ rfl; have f1 := blkCell (HW.out w hSw).2.1 1 _ rfl; have f2 := blkCell (HW.out w hSw).2.1 2 _ rfl; go_simp⟩) hH ?_
  try simp only [Act.put, List.setIfInBounds_toArray, List.set_cons_zero, List.set_cons_succ, List.getElem_toArray, List.getElem_cons_succ, List.getElem_cons_zero]
  refine wpAnyH_ready (rs := [5]) (by kernel_rfl) (by simp) ?_
  refine AllReadyH.cons rfl (fun K hK => ?_) AllReadyH.nil
  go_simp
  go_at_call 28
  refine (HDd.out _ (HW.out _ hH).1).mono ?_
  rintro e w5 ⟨rfl, hb5⟩
  have hw5 := chain hH hb5
  refine hK.out _ _ hw5 (fun _ => ?_)
  clear hK K
  try simp only [Act.put, List.setIfInBounds_toArray, List.set_cons_zero, List.set_cons_succ, List.getElem_toArray, List.getElem_cons_succ, List.getElem_cons_zero]
  refine wpAnyH_take (i := 6) (v := .tuple #[.iface 91 (.agg #[.int .i64 q0, .int .i64 q1, .int .i64 q2, .int .i64 q3, .int .i64 ag]), .int .i64 0]) rfl (by kernel_rfl) (by kernel_rfl) (by kernel_rfl) (fun _ _ _ h => h) (Or.inl ⟨by rfl, fun w hSw => by go_simp⟩) hw5 ?_
  try simp only [Act.put, List.setIfInBounds_toArray, List.set_cons_zero, List.set_cons_succ, List.getElem_toArray, List.getElem_cons_succ, List.getElem_cons_zero]
  refine wpAnyH_take (i := 7) (v := .iface 91 (.agg #[.int .i64 q0, .int .i64 q1, .int .i64 q2, .int .i64 q3, .int .i64 ag])) rfl (by kernel_rfl) (by kernel_rfl) (by kernel_rfl) (fun _ _ _ h => h) (Or.inl ⟨by rfl, fun w hSw => by go_simp⟩) hw5 ?_
  try simp only [Act.put, List.setIfInBounds_toArray, List.set_cons_zero, List.set_cons_succ, List.getElem_toArray, List.getElem_cons_succ, List.getElem_cons_zero]
  refine wpAnyH_take (i := 8) (v := .int .i64 0) rfl (by kernel_rfl) (by kernel_rfl) (by kernel_rfl) (fun _ _ _ h => h) (Or.inl ⟨by rfl, fun w hSw => by go_simp⟩) hw5 ?_
  try simp only [Act.put, List.setIfInBounds_toArray, List.set_cons_zero, List.set_cons_succ, List.getElem_toArray, List.getElem_cons_succ, List.getElem_cons_zero]
  refine wpAnyH_take (i := 9) (v := .iface 91 (.agg #[.int .i64 q0, .int .i64 q1, .int .i64 q2, .int .i64 q3, .int .i64 ag])) rfl (by kernel_rfl) (by kernel_rfl) (by kernel_rfl) (fun _ _ _ h => h) (Or.inl ⟨by rfl, fun w hSw => by go_simp⟩) hw5 ?_
  try simp only [Act.put, List.setIfInBounds_toArray, List.set_cons_zero, List.set_cons_succ, List.getElem_toArray, List.getElem_cons_succ, List.getElem_cons_zero]
  refine wpAnyH_take (i := 10) (v := .int .i64 0) rfl (by kernel_rfl) (by kernel_rfl) (by kernel_rfl) (fun _ _ _ h => h) (Or.inl ⟨by rfl, fun w hSw => by go_simp⟩) hw5 ?_
  try simp only [Act.put, List.setIfInBounds_toArray, List.set_cons_zero, List.set_cons_succ, List.getElem_toArray, List.getElem_cons_succ, List.getElem_cons_zero]
  refine wpAnyH_done (by kernel_rfl) ?_ _
  try simp
  go_wp2_with fail
  refine wp_region_held_drew (S := fun W => Below W2.heap.size W2 W) (by kernel_rfl) (chain hw5 (below_drew _)) (fun hH2 => ?_)
  have na := na_scanning
  have me := me_scanning
  have HU := Tryz.underlying51
  have HI' : (Tryz.prog.info? 51).map (·.size) = some (regL lv sh (.slice ia its.length ic) kv sl tk dp cs).length := by rw [regL_len, hcs]; kernel_rfl
  refine wpAnyH_take (i := 0) (v := .iface 91 (.agg #[.int .i64 q0, .int .i64 q1, .int .i64 q2, .int .i64 q3, .int .i64 ag])) rfl (by kernel_rfl) (by kernel_rfl) (by kernel_rfl) (fun _ _ _ h => h) (Or.inl ⟨by rfl, fun w hSw => by go_simp⟩) hH2 ?_
  refine wpAnyH_take (i := 1) (v := .pointer (some ⟨rb, 0, none⟩)) rfl (by kernel_rfl) (by kernel_rfl) (by kernel_rfl) (fun _ _ _ h => h) (Or.inl ⟨by rfl, fun w hSw => by go_simp⟩) hH2 ?_
  try simp only [Act.put, List.setIfInBounds_toArray, List.set_cons_zero, List.set_cons_succ, List.getElem_toArray, List.getElem_cons_succ, List.getElem_cons_zero]
  refine wpAnyH_take (i := 2) (v := .pointer (some ⟨rb, 0, none⟩)) rfl (by kernel_rfl) (by kernel_rfl) (by kernel_rfl) (fun _ _ _ h => h) (Or.inl ⟨by rfl, fun w hSw => by go_simp⟩) hH2 ?_
  try simp only [Act.put, List.setIfInBounds_toArray, List.set_cons_zero, List.set_cons_succ, List.getElem_toArray, List.getElem_cons_succ, List.getElem_cons_zero]
  refine wpAnyH_take (i := 3) (v := .agg (regL lv sh (.slice ia its.length ic) kv sl tk dp cs).toArray) rfl (by kernel_rfl) (by kernel_rfl) (by kernel_rfl) (fun _ _ _ h => h) (yieldsIf_load_mid (by rfl) 51 (.tmp 20) rfl rb 0 rfl (regL lv sh (.slice ia its.length ic) kv sl tk dp cs) _ (fun w h => reg_range (HW.out w h).2.2.2) HU rfl HI') hH2 ?_
  clear HU HI'
  refine wpAnyH_take (i := 4) (v := .func (.method "loop.example/g00067/impl.against") #[.iface 91 (.agg #[.int .i64 q0, .int .i64 q1, .int .i64 q2, .int .i64 q3, .int .i64 ag])] #[]) rfl (by kernel_rfl) (by kernel_rfl) (by kernel_rfl) (fun _ _ _ h => h) (Or.inl ⟨by rfl, fun w hSw => by go_simp⟩) hH2 ?_
  try simp only [Act.put, List.setIfInBounds_toArray, List.set_cons_zero, List.set_cons_succ, List.getElem_toArray, List.getElem_cons_succ, List.getElem_cons_zero]
  refine wpAnyH_take (i := 5) (v := .func (.method "loop.example/g00067/impl.against") #[.iface 91 (.agg #[.int .i64 q0, .int .i64 q1, .int .i64 q2, .int .i64 q3, .int .i64 ag])] #[]) rfl (by kernel_rfl) (by kernel_rfl) (by kernel_rfl) (fun _ _ _ h => h) (Or.inl ⟨by rfl, fun w hSw => by go_simp⟩) hH2 ?_
  try simp only [Act.put, List.setIfInBounds_toArray, List.set_cons_zero, List.set_cons_succ, List.getElem_toArray, List.getElem_cons_succ, List.getElem_cons_zero]
  refine wpAnyH_take (i := 6) (v := .iface 91 (.agg #[.int .i64 q0, .int .i64 q1, .int .i64 q2, .int .i64 q3, .int .i64 ag])) rfl (by kernel_rfl) (by kernel_rfl) (by kernel_rfl) (fun _ _ _ h => h) (Or.inl ⟨by rfl, fun w hSw => by go_simp⟩) hH2 ?_
  try simp only [Act.put, List.setIfInBounds_toArray, List.set_cons_zero, List.set_cons_succ, List.getElem_toArray, List.getElem_cons_succ, List.getElem_cons_zero]
  refine wpAnyH_ready (rs := [7]) (by kernel_rfl) (by simp) ?_
  refine AllReadyH.cons rfl (fun K hK => ?_) AllReadyH.nil
  go_simp
  go_at_call 114
  refine (HAg.out _ (HW.out _ hH2).1).mono ?_
  rintro e w6 ⟨rfl, hb6⟩
  have hw6 := chain hH2 hb6
  refine hK.out _ _ hw6 (fun _ => ?_)
  clear hK K
  try simp only [Act.put, List.setIfInBounds_toArray, List.set_cons_zero, List.set_cons_succ, List.getElem_toArray, List.getElem_cons_succ, List.getElem_cons_zero]
  refine wpAnyH_take (i := 8) (v := .int .i64 ac) rfl (by kernel_rfl) (by kernel_rfl) (by kernel_rfl) (fun _ _ _ h => h) (Or.inl ⟨by rfl, fun w hSw => by go_simp⟩) hw6 ?_
  try simp only [Act.put, List.setIfInBounds_toArray, List.set_cons_zero, List.set_cons_succ, List.getElem_toArray, List.getElem_cons_succ, List.getElem_cons_zero]
  refine wpAnyH_done (by kernel_rfl) ?_ _
  try simp
  have HO6 : Hid (w6.heap[w.heap.size + 1]? = some (.cells #[.int .i64 0, .int .i64 0] 40 (0, 0))) := (HW.out _ hw6).2.2.1
  have HB6 : Hid (Below w.heap.size w w6) := (HW.out _ hw6).1
  clear hw5 hb5 hH hH2 hb6 hw6 na me
  by_cases hac : ac = 0
  · have HP := HP2.out hac
    have HC := HCa.out hac
    subst hac
    go_wp2_with fail
    (first | go_at_call 29 | skip)
    refine (HC w6 HB6.out).mono ?_
    rintro e w8 ⟨rfl, hf8, hq8⟩
    have hnx : ¬ RgX rb lv kv (w.heap.size + 1) := by
      rintro (e | e | e)
      · have := HG0.out.reg.lt; omega
      · have := (row_lt HG0.out.lrow _ e).2; omega
      · have := (row_lt HG0.out.krow _ e).2; omega
    have HO : Hid (w8.heap[w.heap.size + 1]? = some (.cells #[.int .i64 0, .int .i64 0] 40 (0, 0))) := (hf8.block _ (blkLt HO6.out) hnx).trans HO6.out
    have HF8 : Hid (Fr (RgX rb lv kv) w w8) := (Fr.of HB6.out).trans hf8
    have HQ8 : Hid (Q w8) := hq8
    clear hf8 hq8 hnx
    have z0 := blkFree HO.out 0
    have z1 := blkFree HO.out 1
    have y0 := blkCell HO.out 0 _ rfl
    have y1 := blkCell HO.out 1 _ rfl
    have hlo := blkLt HO.out
    go_wp2
    have hq := fin2 HO.out (.int .i64 0) (.int .i64 num)
    have hfo : Fr (fun k => k = w.heap.size + 1) w8 ((w8.setCell ⟨w.heap.size + 1, 0, none⟩ (.int .i64 0)).setCell ⟨w.heap.size + 1, 1, none⟩ (.int .i64 num)) := ((Fr.refl (fun k => k = w.heap.size + 1) w8).set (b := w.heap.size + 1) rfl _ _).set (b := w.heap.size + 1) rfl _ _
    generalize ((w8.setCell ⟨w.heap.size + 1, 0, none⟩ (.int .i64 0)).setCell ⟨w.heap.size + 1, 1, none⟩ (.int .i64 num)) = W9 at *
    have p0 := blkCell hq 0 _ rfl
    have p1 := blkCell hq 1 _ rfl
    exact bodyPost_ret (v := .agg #[.int .i64 0, .int .i64 num]) (by simp [results, Tryz.results13, go_sem, p0, p1]) rfl (HP _ (Fr.far2 HF8.out hfo (by omega)) (HQ.out _ _ _ _ HQ8.out HO.out hfo))
  · have h1 : (ac != 0) = true := by simpa using hac
    have HP := HP1.out hac
    have HO : Hid (w6.heap[w.heap.size + 1]? = some (.cells #[.int .i64 0, .int .i64 0] 40 (0, 0))) := HO6.out
    have z0 := blkFree HO.out 0
    have z1 := blkFree HO.out 1
    have y0 := blkCell HO.out 0 _ rfl
    have y1 := blkCell HO.out 1 _ rfl
    have hlo := blkLt HO.out
    go_wp2
    have hq := fin2 HO.out (.int .i64 ac) (.int .i64 0)
    have hfo : Fr (fun k => k = w.heap.size + 1) w6 ((w6.setCell ⟨w.heap.size + 1, 0, none⟩ (.int .i64 ac)).setCell ⟨w.heap.size + 1, 1, none⟩ (.int .i64 0)) := ((Fr.refl (fun k => k = w.heap.size + 1) w6).set (b := w.heap.size + 1) rfl _ _).set (b := w.heap.size + 1) rfl _ _
    generalize ((w6.setCell ⟨w.heap.size + 1, 0, none⟩ (.int .i64 ac)).setCell ⟨w.heap.size + 1, 1, none⟩ (.int .i64 0)) = W9 at *
    have p0 := blkCell hq 0 _ rfl
    have p1 := blkCell hq 1 _ rfl
    exact bodyPost_ret (v := .agg #[.int .i64 ac, .int .i64 0]) (by simp [results, Tryz.results13, go_sem, p0, p1]) rfl (HP _ (Fr.drop2 HB6.out hfo (by omega)))
set_option maxHeartbeats 8000000 in
set_option maxRecDepth 8000 in
theorem do_voiding (R : ByteArray → Int × ByteArray × Int × Int) (hR : RsI R) (ia : Option Addr) (ic : Nat) (its : List RIt) (hok : ∀ r ∈ its, ItN r) (hil : its.length ≤ 40) (B rb : Nat) (lv : Value) (ls : List RLi) (sh : Int) (kv : Value) (ks : List Kb) (sl tk dp : Int) (cs : List Int) (hcs : cs.length = 9) (tx : ByteArray) (n : Int) (w : World) (hg : Rg B rb (.slice ia its.length ic) lv ls sh kv ks sl tk dp cs w) (hI : ReadsIt B w ia its) (hB : B ≤ w.heap.size)  (ac num : Int) (Q : World → Prop) (hQ : Aside2 Q)
    (hag : ∀ W, Below w.heap.size w W → Calls Tryz.prog 115 #[.agg #[.int .i64 n], .agg (regL lv sh (.slice ia its.length ic) kv sl tk dp cs).toArray] W fun e w' => e = .returned (.int .i64 ac) ∧ Below W.heap.size W w')
    (hca : ac = 0 → ∀ W, Below w.heap.size w W → Calls Tryz.prog 29 #[.pointer (some ⟨rb, 0, none⟩), .iface 95 (.agg #[.int .i64 n])] W fun e w' => e = .returned (.int .i64 num) ∧ Fr (RgX rb lv kv) W w' ∧ Q w') :
    Calls Tryz.prog 13 #[.pointer (some ⟨rb, 0, none⟩), .agg #[.int .i64 2, .string tx, .int .i64 n]] w fun e w' => (ac ≠ 0 ∧ e = .returned (.agg #[.int .i64 ac, .int .i64 0]) ∧ Below w.heap.size w w') ∨ (ac = 0 ∧ e = .returned (.agg #[.int .i64 0, .int .i64 num]) ∧ Fr (RgX rb lv kv) w w' ∧ Q w') := by
  have HDd : Hid (∀ W, Below w.heap.size w W → Calls Tryz.prog 28 #[.slice ia its.length ic, .agg #[.int .i64 2, .string tx, .int .i64 n]] W fun e w' => e = .returned (.tuple #[deedV R its 2 tx n, .int .i64 (deedE R its 2 tx n)]) ∧ Below W.heap.size W w') := fun W hW => deedOf_any R hR ia ic its hok hil 2 tx n W (((hI.below (hW.mono hB)).mono (Nat.le_trans hB hW.size)))
  rw [show deedV R its 2 tx n = .iface 95 (.agg #[.int .i64 n]) from rfl, show deedE R its 2 tx n = 0 from rfl] at HDd
  have HG0 : Hid (Rg B rb (.slice ia its.length ic) lv ls sh kv ks sl tk dp cs w) := hg
  have HAg : Hid (∀ W, Below w.heap.size w W → Calls Tryz.prog 115 #[.agg #[.int .i64 n], .agg (regL lv sh (.slice ia its.length ic) kv sl tk dp cs).toArray] W fun e w' => e = .returned (.int .i64 ac) ∧ Below W.heap.size W w') := hag
  have HCa : Hid (ac = 0 → ∀ W, Below w.heap.size w W → Calls Tryz.prog 29 #[.pointer (some ⟨rb, 0, none⟩), .iface 95 (.agg #[.int .i64 n])] W fun e w' => e = .returned (.int .i64 num) ∧ Fr (RgX rb lv kv) W w' ∧ Q w') := hca
  have HQ : Hid (Aside2 Q) := hQ
  clear hg hI hok hR hag hca hQ
  generalize hpost : (fun (e : Ending) (w' : World) => (ac ≠ 0 ∧ e = .returned (.agg #[.int .i64 ac, .int .i64 0]) ∧ Below w.heap.size w w') ∨ (ac = 0 ∧ e = .returned (.agg #[.int .i64 0, .int .i64 num]) ∧ Fr (RgX rb lv kv) w w' ∧ Q w')) = post
  have HP1 : Hid (ac ≠ 0 → ∀ w', Below w.heap.size w w' → post (.returned (.agg #[.int .i64 ac, .int .i64 0])) w') := fun h w' hb => by subst hpost; exact .inl ⟨h, rfl, hb⟩
  have HP2 : Hid (ac = 0 → ∀ w', Fr (RgX rb lv kv) w w' → Q w' → post (.returned (.agg #[.int .i64 0, .int .i64 num])) w') := fun h w' hb hq => by subst hpost; exact .inr ⟨h, rfl, hb, hq⟩
  clear hpost
  go_enter Tryz.func13, Tryz.ntmps13
  go_wp2_with fail
  have hba : ((w.alloc (Obj.cells #[.int .i64 2, .string tx, .int .i64 n] 42)).alloc (Obj.cells #[.int .i64 0, .int .i64 0] 40)).heap[w.heap.size]? = some (.cells #[.int .i64 2, .string tx, .int .i64 n] 42 (0, 0)) := (Below.heap_alloc _ _ _ (by simp)).trans (heapNew _ _)
  have hbo : ((w.alloc (Obj.cells #[.int .i64 2, .string tx, .int .i64 n] 42)).alloc (Obj.cells #[.int .i64 0, .int .i64 0] 40)).heap[w.heap.size + 1]? = some (.cells #[.int .i64 0, .int .i64 0] 40 (0, 0)) := by
    have := heapNew (w.alloc (Obj.cells #[.int .i64 2, .string tx, .int .i64 n] 42)) (Obj.cells #[.int .i64 0, .int .i64 0] 40)
    rwa [show (w.alloc (Obj.cells #[.int .i64 2, .string tx, .int .i64 n] 42)).heap.size = w.heap.size + 1 by simp] at this
  have hW2 : Below w.heap.size w ((w.alloc (Obj.cells #[.int .i64 2, .string tx, .int .i64 n] 42)).alloc (Obj.cells #[.int .i64 0, .int .i64 0] 40)) := chain (below_alloc _ _) (below_alloc _ _)
  generalize ((w.alloc (Obj.cells #[.int .i64 2, .string tx, .int .i64 n] 42)).alloc (Obj.cells #[.int .i64 0, .int .i64 0] 40)) = W2 at *
  have HW : Hid (∀ W, Below W2.heap.size W2 W → Below w.heap.size w W ∧ W.heap[w.heap.size]? = some (.cells #[.int .i64 2, .string tx, .int .i64 n] 42 (0, 0)) ∧ W.heap[w.heap.size + 1]? = some (.cells #[.int .i64 0, .int .i64 0] 40 (0, 0)) ∧ RegIs W rb lv sh (.slice ia its.length ic) kv sl tk dp cs) := fun W hW => ⟨chain hW2 hW, (hW.block _ (blkLt hba)).trans hba, (hW.block _ (blkLt hbo)).trans hbo, HG0.out.reg.later (chain hW2 hW)⟩
  clear hba hbo hW2
  refine wp_region_held_drew (S := fun W => Below W2.heap.size W2 W) (by kernel_rfl) (below_drew _) (fun hH => ?_)
  refine wpAnyH_take (i := 0) (v := .pointer (some ⟨rb, 0, none⟩)) rfl (by kernel_rfl) (by kernel_rfl) (by kernel_rfl) (fun _ _ _ h => h) (Or.inl ⟨by rfl, fun w hSw => by go_simp⟩) hH ?_
  refine wpAnyH_take (i := 1) (v := .pointer (some ⟨rb, 0, none⟩)) rfl (by kernel_rfl) (by kernel_rfl) (by kernel_rfl) (fun _ _ _ h => h) (Or.inl ⟨by rfl, fun w hSw => by go_simp⟩) hH ?_
  try simp only [Act.put, List.setIfInBounds_toArray, List.set_cons_zero, List.set_cons_succ, List.getElem_toArray, List.getElem_cons_succ, List.getElem_cons_zero]
  refine wpAnyH_take (i := 2) (v := .pointer (some ⟨rb, 2, none⟩)) rfl (by kernel_rfl) (by kernel_rfl) (by kernel_rfl) (fun _ _ _ h => h) (Or.inl ⟨by rfl, fun w hSw => by go_simp⟩) hH ?_
  try simp only [Act.put, List.setIfInBounds_toArray, List.set_cons_zero, List.set_cons_succ, List.getElem_toArray, List.getElem_cons_succ, List.getElem_cons_zero]
  refine wpAnyH_take (i := 3) (v := .slice ia its.length ic) rfl (by kernel_rfl) (by kernel_rfl) (by kernel_rfl) (fun _ _ _ h => h) (Or.inl ⟨by rfl, fun w hSw => by have f0 := (HW.out w hSw).2.2.2.cells.2.2.1; go_simp⟩) hH ?_
  try simp only [Act.put, List.setIfInBounds_toArray, List.set_cons_zero, List.set_cons_succ, List.getElem_toArray, List.getElem_cons_succ, List.getElem_cons_zero]
  refine wpAnyH_take (i := 4) (v := .agg #[.int .i64 2, .string tx, .int .i64 n]) rfl (by kernel_rfl) (by kernel_rfl) (by kernel_rfl) (fun _ _ _ h => h) (Or.inl ⟨by rfl, fun w hSw => by have f0 := blkCell (HW.out w hSw).2.1 0 _ rfl; have f1 := blkCell (HW.out w hSw).2.1 1 _ rfl; have f2 := blkCell (HW.out w hSw).2.1 2 _ rfl; go_simp⟩) hH ?_
  try simp only [Act.put, List.setIfInBounds_toArray, List.set_cons_zero, List.set_cons_succ, List.getElem_toArray, List.getElem_cons_succ, List.getElem_cons_zero]
  refine wpAnyH_ready (rs := [5]) (by kernel_rfl) (by simp) ?_
  refine AllReadyH.cons rfl (fun K hK => ?_) AllReadyH.nil
  go_simp
  go_at_call 28
  refine (HDd.out _ (HW.out _ hH).1).mono ?_
  rintro e w5 ⟨rfl, hb5⟩
  have hw5 := chain hH hb5
  refine hK.out _ _ hw5 (fun _ => ?_)
  clear hK K
  try simp only [Act.put, List.setIfInBounds_toArray, List.set_cons_zero, List.set_cons_succ, List.getElem_toArray, List.getElem_cons_succ, List.getElem_cons_zero]
  refine wpAnyH_take (i := 6) (v := .tuple #[.iface 95 (.agg #[.int .i64 n]), .int .i64 0]) rfl (by kernel_rfl) (by kernel_rfl) (by kernel_rfl) (fun _ _ _ h => h) (Or.inl ⟨by rfl, fun w hSw => by go_simp⟩) hw5 ?_
  try simp only [Act.put, List.setIfInBounds_toArray, List.set_cons_zero, List.set_cons_succ, List.getElem_toArray, List.getElem_cons_succ, List.getElem_cons_zero]
  refine wpAnyH_take (i := 7) (v := .iface 95 (.agg #[.int .i64 n])) rfl (by kernel_rfl) (by kernel_rfl) (by kernel_rfl) (fun _ _ _ h => h) (Or.inl ⟨by rfl, fun w hSw => by go_simp⟩) hw5 ?_
  try simp only [Act.put, List.setIfInBounds_toArray, List.set_cons_zero, List.set_cons_succ, List.getElem_toArray, List.getElem_cons_succ, List.getElem_cons_zero]
  refine wpAnyH_take (i := 8) (v := .int .i64 0) rfl (by kernel_rfl) (by kernel_rfl) (by kernel_rfl) (fun _ _ _ h => h) (Or.inl ⟨by rfl, fun w hSw => by go_simp⟩) hw5 ?_
  try simp only [Act.put, List.setIfInBounds_toArray, List.set_cons_zero, List.set_cons_succ, List.getElem_toArray, List.getElem_cons_succ, List.getElem_cons_zero]
  refine wpAnyH_take (i := 9) (v := .iface 95 (.agg #[.int .i64 n])) rfl (by kernel_rfl) (by kernel_rfl) (by kernel_rfl) (fun _ _ _ h => h) (Or.inl ⟨by rfl, fun w hSw => by go_simp⟩) hw5 ?_
  try simp only [Act.put, List.setIfInBounds_toArray, List.set_cons_zero, List.set_cons_succ, List.getElem_toArray, List.getElem_cons_succ, List.getElem_cons_zero]
  refine wpAnyH_take (i := 10) (v := .int .i64 0) rfl (by kernel_rfl) (by kernel_rfl) (by kernel_rfl) (fun _ _ _ h => h) (Or.inl ⟨by rfl, fun w hSw => by go_simp⟩) hw5 ?_
  try simp only [Act.put, List.setIfInBounds_toArray, List.set_cons_zero, List.set_cons_succ, List.getElem_toArray, List.getElem_cons_succ, List.getElem_cons_zero]
  refine wpAnyH_done (by kernel_rfl) ?_ _
  try simp
  go_wp2_with fail
  refine wp_region_held_drew (S := fun W => Below W2.heap.size W2 W) (by kernel_rfl) (chain hw5 (below_drew _)) (fun hH2 => ?_)
  have na := na_voiding
  have me := me_voiding
  have HU := Tryz.underlying51
  have HI' : (Tryz.prog.info? 51).map (·.size) = some (regL lv sh (.slice ia its.length ic) kv sl tk dp cs).length := by rw [regL_len, hcs]; kernel_rfl
  refine wpAnyH_take (i := 0) (v := .iface 95 (.agg #[.int .i64 n])) rfl (by kernel_rfl) (by kernel_rfl) (by kernel_rfl) (fun _ _ _ h => h) (Or.inl ⟨by rfl, fun w hSw => by go_simp⟩) hH2 ?_
  refine wpAnyH_take (i := 1) (v := .pointer (some ⟨rb, 0, none⟩)) rfl (by kernel_rfl) (by kernel_rfl) (by kernel_rfl) (fun _ _ _ h => h) (Or.inl ⟨by rfl, fun w hSw => by go_simp⟩) hH2 ?_
  try simp only [Act.put, List.setIfInBounds_toArray, List.set_cons_zero, List.set_cons_succ, List.getElem_toArray, List.getElem_cons_succ, List.getElem_cons_zero]
  refine wpAnyH_take (i := 2) (v := .pointer (some ⟨rb, 0, none⟩)) rfl (by kernel_rfl) (by kernel_rfl) (by kernel_rfl) (fun _ _ _ h => h) (Or.inl ⟨by rfl, fun w hSw => by go_simp⟩) hH2 ?_
  try simp only [Act.put, List.setIfInBounds_toArray, List.set_cons_zero, List.set_cons_succ, List.getElem_toArray, List.getElem_cons_succ, List.getElem_cons_zero]
  refine wpAnyH_take (i := 3) (v := .agg (regL lv sh (.slice ia its.length ic) kv sl tk dp cs).toArray) rfl (by kernel_rfl) (by kernel_rfl) (by kernel_rfl) (fun _ _ _ h => h) (yieldsIf_load_mid (by rfl) 51 (.tmp 20) rfl rb 0 rfl (regL lv sh (.slice ia its.length ic) kv sl tk dp cs) _ (fun w h => reg_range (HW.out w h).2.2.2) HU rfl HI') hH2 ?_
  clear HU HI'
  refine wpAnyH_take (i := 4) (v := .func (.method "loop.example/g00067/impl.against") #[.iface 95 (.agg #[.int .i64 n])] #[]) rfl (by kernel_rfl) (by kernel_rfl) (by kernel_rfl) (fun _ _ _ h => h) (Or.inl ⟨by rfl, fun w hSw => by go_simp⟩) hH2 ?_
  try simp only [Act.put, List.setIfInBounds_toArray, List.set_cons_zero, List.set_cons_succ, List.getElem_toArray, List.getElem_cons_succ, List.getElem_cons_zero]
  refine wpAnyH_take (i := 5) (v := .func (.method "loop.example/g00067/impl.against") #[.iface 95 (.agg #[.int .i64 n])] #[]) rfl (by kernel_rfl) (by kernel_rfl) (by kernel_rfl) (fun _ _ _ h => h) (Or.inl ⟨by rfl, fun w hSw => by go_simp⟩) hH2 ?_
  try simp only [Act.put, List.setIfInBounds_toArray, List.set_cons_zero, List.set_cons_succ, List.getElem_toArray, List.getElem_cons_succ, List.getElem_cons_zero]
  refine wpAnyH_take (i := 6) (v := .iface 95 (.agg #[.int .i64 n])) rfl (by kernel_rfl) (by kernel_rfl) (by kernel_rfl) (fun _ _ _ h => h) (Or.inl ⟨by rfl, fun w hSw => by go_simp⟩) hH2 ?_
  try simp only [Act.put, List.setIfInBounds_toArray, List.set_cons_zero, List.set_cons_succ, List.getElem_toArray, List.getElem_cons_succ, List.getElem_cons_zero]
  refine wpAnyH_ready (rs := [7]) (by kernel_rfl) (by simp) ?_
  refine AllReadyH.cons rfl (fun K hK => ?_) AllReadyH.nil
  go_simp
  go_at_call 115
  refine (HAg.out _ (HW.out _ hH2).1).mono ?_
  rintro e w6 ⟨rfl, hb6⟩
  have hw6 := chain hH2 hb6
  refine hK.out _ _ hw6 (fun _ => ?_)
  clear hK K
  try simp only [Act.put, List.setIfInBounds_toArray, List.set_cons_zero, List.set_cons_succ, List.getElem_toArray, List.getElem_cons_succ, List.getElem_cons_zero]
  refine wpAnyH_take (i := 8) (v := .int .i64 ac) rfl (by kernel_rfl) (by kernel_rfl) (by kernel_rfl) (fun _ _ _ h => h) (Or.inl ⟨by rfl, fun w hSw => by go_simp⟩) hw6 ?_
  try simp only [Act.put, List.setIfInBounds_toArray, List.set_cons_zero, List.set_cons_succ, List.getElem_toArray, List.getElem_cons_succ, List.getElem_cons_zero]
  refine wpAnyH_done (by kernel_rfl) ?_ _
  try simp
  have HO6 : Hid (w6.heap[w.heap.size + 1]? = some (.cells #[.int .i64 0, .int .i64 0] 40 (0, 0))) := (HW.out _ hw6).2.2.1
  have HB6 : Hid (Below w.heap.size w w6) := (HW.out _ hw6).1
  clear hw5 hb5 hH hH2 hb6 hw6 na me
  by_cases hac : ac = 0
  · have HP := HP2.out hac
    have HC := HCa.out hac
    subst hac
    go_wp2_with fail
    (first | go_at_call 29 | skip)
    refine (HC w6 HB6.out).mono ?_
    rintro e w8 ⟨rfl, hf8, hq8⟩
    have hnx : ¬ RgX rb lv kv (w.heap.size + 1) := by
      rintro (e | e | e)
      · have := HG0.out.reg.lt; omega
      · have := (row_lt HG0.out.lrow _ e).2; omega
      · have := (row_lt HG0.out.krow _ e).2; omega
    have HO : Hid (w8.heap[w.heap.size + 1]? = some (.cells #[.int .i64 0, .int .i64 0] 40 (0, 0))) := (hf8.block _ (blkLt HO6.out) hnx).trans HO6.out
    have HF8 : Hid (Fr (RgX rb lv kv) w w8) := (Fr.of HB6.out).trans hf8
    have HQ8 : Hid (Q w8) := hq8
    clear hf8 hq8 hnx
    have z0 := blkFree HO.out 0
    have z1 := blkFree HO.out 1
    have y0 := blkCell HO.out 0 _ rfl
    have y1 := blkCell HO.out 1 _ rfl
    have hlo := blkLt HO.out
    go_wp2
    have hq := fin2 HO.out (.int .i64 0) (.int .i64 num)
    have hfo : Fr (fun k => k = w.heap.size + 1) w8 ((w8.setCell ⟨w.heap.size + 1, 0, none⟩ (.int .i64 0)).setCell ⟨w.heap.size + 1, 1, none⟩ (.int .i64 num)) := ((Fr.refl (fun k => k = w.heap.size + 1) w8).set (b := w.heap.size + 1) rfl _ _).set (b := w.heap.size + 1) rfl _ _
    generalize ((w8.setCell ⟨w.heap.size + 1, 0, none⟩ (.int .i64 0)).setCell ⟨w.heap.size + 1, 1, none⟩ (.int .i64 num)) = W9 at *
    have p0 := blkCell hq 0 _ rfl
    have p1 := blkCell hq 1 _ rfl
    exact bodyPost_ret (v := .agg #[.int .i64 0, .int .i64 num]) (by simp [results, Tryz.results13, go_sem, p0, p1]) rfl (HP _ (Fr.far2 HF8.out hfo (by omega)) (HQ.out _ _ _ _ HQ8.out HO.out hfo))
  · have h1 : (ac != 0) = true := by simpa using hac
    have HP := HP1.out hac
    have HO : Hid (w6.heap[w.heap.size + 1]? = some (.cells #[.int .i64 0, .int .i64 0] 40 (0, 0))) := HO6.out
    have z0 := blkFree HO.out 0
    have z1 := blkFree HO.out 1
    have y0 := blkCell HO.out 0 _ rfl
    have y1 := blkCell HO.out 1 _ rfl
    have hlo := blkLt HO.out
    go_wp2
    have hq := fin2 HO.out (.int .i64 ac) (.int .i64 0)
    have hfo : Fr (fun k => k = w.heap.size + 1) w6 ((w6.setCell ⟨w.heap.size + 1, 0, none⟩ (.int .i64 ac)).setCell ⟨w.heap.size + 1, 1, none⟩ (.int .i64 0)) := ((Fr.refl (fun k => k = w.heap.size + 1) w6).set (b := w.heap.size + 1) rfl _ _).set (b := w.heap.size + 1) rfl _ _
    generalize ((w6.setCell ⟨w.heap.size + 1, 0, none⟩ (.int .i64 ac)).setCell ⟨w.heap.size + 1, 1, none⟩ (.int .i64 0)) = W9 at *
    have p0 := blkCell hq 0 _ rfl
    have p1 := blkCell hq 1 _ rfl
    exact bodyPost_ret (v := .agg #[.int .i64 ac, .int .i64 0]) (by simp [results, Tryz.results13, go_sem, p0, p1]) rfl (HP _ (Fr.drop2 HB6.out hfo (by omega)))
set_option maxHeartbeats 8000000 in
set_option maxRecDepth 8000 in
theorem do_showing (R : ByteArray → Int × ByteArray × Int × Int) (hR : RsI R) (ia : Option Addr) (ic : Nat) (its : List RIt) (hok : ∀ r ∈ its, ItN r) (hil : its.length ≤ 40) (B rb : Nat) (lv : Value) (ls : List RLi) (sh : Int) (kv : Value) (ks : List Kb) (sl tk dp : Int) (cs : List Int) (hcs : cs.length = 9) (tx : ByteArray) (n : Int) (w : World) (hg : Rg B rb (.slice ia its.length ic) lv ls sh kv ks sl tk dp cs w) (hI : ReadsIt B w ia its) (hB : B ≤ w.heap.size)  (ac num : Int) (Q : World → Prop) (hQ : Aside2 Q)
    (hag : ∀ W, Below w.heap.size w W → Calls Tryz.prog 116 #[.agg #[.int .i64 n], .agg (regL lv sh (.slice ia its.length ic) kv sl tk dp cs).toArray] W fun e w' => e = .returned (.int .i64 ac) ∧ Below W.heap.size W w')
    (hca : ac = 0 → ∀ W, Below w.heap.size w W → Calls Tryz.prog 29 #[.pointer (some ⟨rb, 0, none⟩), .iface 97 (.agg #[.int .i64 n])] W fun e w' => e = .returned (.int .i64 num) ∧ Fr (RgX rb lv kv) W w' ∧ Q w') :
    Calls Tryz.prog 13 #[.pointer (some ⟨rb, 0, none⟩), .agg #[.int .i64 3, .string tx, .int .i64 n]] w fun e w' => (ac ≠ 0 ∧ e = .returned (.agg #[.int .i64 ac, .int .i64 0]) ∧ Below w.heap.size w w') ∨ (ac = 0 ∧ e = .returned (.agg #[.int .i64 0, .int .i64 num]) ∧ Fr (RgX rb lv kv) w w' ∧ Q w') := by
  have HDd : Hid (∀ W, Below w.heap.size w W → Calls Tryz.prog 28 #[.slice ia its.length ic, .agg #[.int .i64 3, .string tx, .int .i64 n]] W fun e w' => e = .returned (.tuple #[deedV R its 3 tx n, .int .i64 (deedE R its 3 tx n)]) ∧ Below W.heap.size W w') := fun W hW => deedOf_any R hR ia ic its hok hil 3 tx n W (((hI.below (hW.mono hB)).mono (Nat.le_trans hB hW.size)))
  rw [show deedV R its 3 tx n = .iface 97 (.agg #[.int .i64 n]) from rfl, show deedE R its 3 tx n = 0 from rfl] at HDd
  have HG0 : Hid (Rg B rb (.slice ia its.length ic) lv ls sh kv ks sl tk dp cs w) := hg
  have HAg : Hid (∀ W, Below w.heap.size w W → Calls Tryz.prog 116 #[.agg #[.int .i64 n], .agg (regL lv sh (.slice ia its.length ic) kv sl tk dp cs).toArray] W fun e w' => e = .returned (.int .i64 ac) ∧ Below W.heap.size W w') := hag
  have HCa : Hid (ac = 0 → ∀ W, Below w.heap.size w W → Calls Tryz.prog 29 #[.pointer (some ⟨rb, 0, none⟩), .iface 97 (.agg #[.int .i64 n])] W fun e w' => e = .returned (.int .i64 num) ∧ Fr (RgX rb lv kv) W w' ∧ Q w') := hca
  have HQ : Hid (Aside2 Q) := hQ
  clear hg hI hok hR hag hca hQ
  generalize hpost : (fun (e : Ending) (w' : World) => (ac ≠ 0 ∧ e = .returned (.agg #[.int .i64 ac, .int .i64 0]) ∧ Below w.heap.size w w') ∨ (ac = 0 ∧ e = .returned (.agg #[.int .i64 0, .int .i64 num]) ∧ Fr (RgX rb lv kv) w w' ∧ Q w')) = post
  have HP1 : Hid (ac ≠ 0 → ∀ w', Below w.heap.size w w' → post (.returned (.agg #[.int .i64 ac, .int .i64 0])) w') := fun h w' hb => by subst hpost; exact .inl ⟨h, rfl, hb⟩
  have HP2 : Hid (ac = 0 → ∀ w', Fr (RgX rb lv kv) w w' → Q w' → post (.returned (.agg #[.int .i64 0, .int .i64 num])) w') := fun h w' hb hq => by subst hpost; exact .inr ⟨h, rfl, hb, hq⟩
  clear hpost
  go_enter Tryz.func13, Tryz.ntmps13
  go_wp2_with fail
  have hba : ((w.alloc (Obj.cells #[.int .i64 3, .string tx, .int .i64 n] 42)).alloc (Obj.cells #[.int .i64 0, .int .i64 0] 40)).heap[w.heap.size]? = some (.cells #[.int .i64 3, .string tx, .int .i64 n] 42 (0, 0)) := (Below.heap_alloc _ _ _ (by simp)).trans (heapNew _ _)
  have hbo : ((w.alloc (Obj.cells #[.int .i64 3, .string tx, .int .i64 n] 42)).alloc (Obj.cells #[.int .i64 0, .int .i64 0] 40)).heap[w.heap.size + 1]? = some (.cells #[.int .i64 0, .int .i64 0] 40 (0, 0)) := by
    have := heapNew (w.alloc (Obj.cells #[.int .i64 3, .string tx, .int .i64 n] 42)) (Obj.cells #[.int .i64 0, .int .i64 0] 40)
    rwa [show (w.alloc (Obj.cells #[.int .i64 3, .string tx, .int .i64 n] 42)).heap.size = w.heap.size + 1 by simp] at this
  have hW2 : Below w.heap.size w ((w.alloc (Obj.cells #[.int .i64 3, .string tx, .int .i64 n] 42)).alloc (Obj.cells #[.int .i64 0, .int .i64 0] 40)) := chain (below_alloc _ _) (below_alloc _ _)
  generalize ((w.alloc (Obj.cells #[.int .i64 3, .string tx, .int .i64 n] 42)).alloc (Obj.cells #[.int .i64 0, .int .i64 0] 40)) = W2 at *
  have HW : Hid (∀ W, Below W2.heap.size W2 W → Below w.heap.size w W ∧ W.heap[w.heap.size]? = some (.cells #[.int .i64 3, .string tx, .int .i64 n] 42 (0, 0)) ∧ W.heap[w.heap.size + 1]? = some (.cells #[.int .i64 0, .int .i64 0] 40 (0, 0)) ∧ RegIs W rb lv sh (.slice ia its.length ic) kv sl tk dp cs) := fun W hW => ⟨chain hW2 hW, (hW.block _ (blkLt hba)).trans hba, (hW.block _ (blkLt hbo)).trans hbo, HG0.out.reg.later (chain hW2 hW)⟩
  clear hba hbo hW2
  refine wp_region_held_drew (S := fun W => Below W2.heap.size W2 W) (by kernel_rfl) (below_drew _) (fun hH => ?_)
  refine wpAnyH_take (i := 0) (v := .pointer (some ⟨rb, 0, none⟩)) rfl (by kernel_rfl) (by kernel_rfl) (by kernel_rfl) (fun _ _ _ h => h) (Or.inl ⟨by rfl, fun w hSw => by go_simp⟩) hH ?_
  refine wpAnyH_take (i := 1) (v := .pointer (some ⟨rb, 0, none⟩)) rfl (by kernel_rfl) (by kernel_rfl) (by kernel_rfl) (fun _ _ _ h => h) (Or.inl ⟨by rfl, fun w hSw => by go_simp⟩) hH ?_
  try simp only [Act.put, List.setIfInBounds_toArray, List.set_cons_zero, List.set_cons_succ, List.getElem_toArray, List.getElem_cons_succ, List.getElem_cons_zero]
  refine wpAnyH_take (i := 2) (v := .pointer (some ⟨rb, 2, none⟩)) rfl (by kernel_rfl) (by kernel_rfl) (by kernel_rfl) (fun _ _ _ h => h) (Or.inl ⟨by rfl, fun w hSw => by go_simp⟩) hH ?_
  try simp only [Act.put, List.setIfInBounds_toArray, List.set_cons_zero, List.set_cons_succ, List.getElem_toArray, List.getElem_cons_succ, List.getElem_cons_zero]
  refine wpAnyH_take (i := 3) (v := .slice ia its.length ic) rfl (by kernel_rfl) (by kernel_rfl) (by kernel_rfl) (fun _ _ _ h => h) (Or.inl ⟨by rfl, fun w hSw => by have f0 := (HW.out w hSw).2.2.2.cells.2.2.1; go_simp⟩) hH ?_
  try simp only [Act.put, List.setIfInBounds_toArray, List.set_cons_zero, List.set_cons_succ, List.getElem_toArray, List.getElem_cons_succ, List.getElem_cons_zero]
  refine wpAnyH_take (i := 4) (v := .agg #[.int .i64 3, .string tx, .int .i64 n]) rfl (by kernel_rfl) (by kernel_rfl) (by kernel_rfl) (fun _ _ _ h => h) (Or.inl ⟨by rfl, fun w hSw => by have f0 := blkCell (HW.out w hSw).2.1 0 _ rfl; have f1 := blkCell (HW.out w hSw).2.1 1 _ rfl; have f2 := blkCell (HW.out w hSw).2.1 2 _ rfl; go_simp⟩) hH ?_
  try simp only [Act.put, List.setIfInBounds_toArray, List.set_cons_zero, List.set_cons_succ, List.getElem_toArray, List.getElem_cons_succ, List.getElem_cons_zero]
  refine wpAnyH_ready (rs := [5]) (by kernel_rfl) (by simp) ?_
  refine AllReadyH.cons rfl (fun K hK => ?_) AllReadyH.nil
  go_simp
  go_at_call 28
  refine (HDd.out _ (HW.out _ hH).1).mono ?_
  rintro e w5 ⟨rfl, hb5⟩
  have hw5 := chain hH hb5
  refine hK.out _ _ hw5 (fun _ => ?_)
  clear hK K
  try simp only [Act.put, List.setIfInBounds_toArray, List.set_cons_zero, List.set_cons_succ, List.getElem_toArray, List.getElem_cons_succ, List.getElem_cons_zero]
  refine wpAnyH_take (i := 6) (v := .tuple #[.iface 97 (.agg #[.int .i64 n]), .int .i64 0]) rfl (by kernel_rfl) (by kernel_rfl) (by kernel_rfl) (fun _ _ _ h => h) (Or.inl ⟨by rfl, fun w hSw => by go_simp⟩) hw5 ?_
  try simp only [Act.put, List.setIfInBounds_toArray, List.set_cons_zero, List.set_cons_succ, List.getElem_toArray, List.getElem_cons_succ, List.getElem_cons_zero]
  refine wpAnyH_take (i := 7) (v := .iface 97 (.agg #[.int .i64 n])) rfl (by kernel_rfl) (by kernel_rfl) (by kernel_rfl) (fun _ _ _ h => h) (Or.inl ⟨by rfl, fun w hSw => by go_simp⟩) hw5 ?_
  try simp only [Act.put, List.setIfInBounds_toArray, List.set_cons_zero, List.set_cons_succ, List.getElem_toArray, List.getElem_cons_succ, List.getElem_cons_zero]
  refine wpAnyH_take (i := 8) (v := .int .i64 0) rfl (by kernel_rfl) (by kernel_rfl) (by kernel_rfl) (fun _ _ _ h => h) (Or.inl ⟨by rfl, fun w hSw => by go_simp⟩) hw5 ?_
  try simp only [Act.put, List.setIfInBounds_toArray, List.set_cons_zero, List.set_cons_succ, List.getElem_toArray, List.getElem_cons_succ, List.getElem_cons_zero]
  refine wpAnyH_take (i := 9) (v := .iface 97 (.agg #[.int .i64 n])) rfl (by kernel_rfl) (by kernel_rfl) (by kernel_rfl) (fun _ _ _ h => h) (Or.inl ⟨by rfl, fun w hSw => by go_simp⟩) hw5 ?_
  try simp only [Act.put, List.setIfInBounds_toArray, List.set_cons_zero, List.set_cons_succ, List.getElem_toArray, List.getElem_cons_succ, List.getElem_cons_zero]
  refine wpAnyH_take (i := 10) (v := .int .i64 0) rfl (by kernel_rfl) (by kernel_rfl) (by kernel_rfl) (fun _ _ _ h => h) (Or.inl ⟨by rfl, fun w hSw => by go_simp⟩) hw5 ?_
  try simp only [Act.put, List.setIfInBounds_toArray, List.set_cons_zero, List.set_cons_succ, List.getElem_toArray, List.getElem_cons_succ, List.getElem_cons_zero]
  refine wpAnyH_done (by kernel_rfl) ?_ _
  try simp
  go_wp2_with fail
  refine wp_region_held_drew (S := fun W => Below W2.heap.size W2 W) (by kernel_rfl) (chain hw5 (below_drew _)) (fun hH2 => ?_)
  have na := na_showing
  have me := me_showing
  have HU := Tryz.underlying51
  have HI' : (Tryz.prog.info? 51).map (·.size) = some (regL lv sh (.slice ia its.length ic) kv sl tk dp cs).length := by rw [regL_len, hcs]; kernel_rfl
  refine wpAnyH_take (i := 0) (v := .iface 97 (.agg #[.int .i64 n])) rfl (by kernel_rfl) (by kernel_rfl) (by kernel_rfl) (fun _ _ _ h => h) (Or.inl ⟨by rfl, fun w hSw => by go_simp⟩) hH2 ?_
  refine wpAnyH_take (i := 1) (v := .pointer (some ⟨rb, 0, none⟩)) rfl (by kernel_rfl) (by kernel_rfl) (by kernel_rfl) (fun _ _ _ h => h) (Or.inl ⟨by rfl, fun w hSw => by go_simp⟩) hH2 ?_
  try simp only [Act.put, List.setIfInBounds_toArray, List.set_cons_zero, List.set_cons_succ, List.getElem_toArray, List.getElem_cons_succ, List.getElem_cons_zero]
  refine wpAnyH_take (i := 2) (v := .pointer (some ⟨rb, 0, none⟩)) rfl (by kernel_rfl) (by kernel_rfl) (by kernel_rfl) (fun _ _ _ h => h) (Or.inl ⟨by rfl, fun w hSw => by go_simp⟩) hH2 ?_
  try simp only [Act.put, List.setIfInBounds_toArray, List.set_cons_zero, List.set_cons_succ, List.getElem_toArray, List.getElem_cons_succ, List.getElem_cons_zero]
  refine wpAnyH_take (i := 3) (v := .agg (regL lv sh (.slice ia its.length ic) kv sl tk dp cs).toArray) rfl (by kernel_rfl) (by kernel_rfl) (by kernel_rfl) (fun _ _ _ h => h) (yieldsIf_load_mid (by rfl) 51 (.tmp 20) rfl rb 0 rfl (regL lv sh (.slice ia its.length ic) kv sl tk dp cs) _ (fun w h => reg_range (HW.out w h).2.2.2) HU rfl HI') hH2 ?_
  clear HU HI'
  refine wpAnyH_take (i := 4) (v := .func (.method "loop.example/g00067/impl.against") #[.iface 97 (.agg #[.int .i64 n])] #[]) rfl (by kernel_rfl) (by kernel_rfl) (by kernel_rfl) (fun _ _ _ h => h) (Or.inl ⟨by rfl, fun w hSw => by go_simp⟩) hH2 ?_
  try simp only [Act.put, List.setIfInBounds_toArray, List.set_cons_zero, List.set_cons_succ, List.getElem_toArray, List.getElem_cons_succ, List.getElem_cons_zero]
  refine wpAnyH_take (i := 5) (v := .func (.method "loop.example/g00067/impl.against") #[.iface 97 (.agg #[.int .i64 n])] #[]) rfl (by kernel_rfl) (by kernel_rfl) (by kernel_rfl) (fun _ _ _ h => h) (Or.inl ⟨by rfl, fun w hSw => by go_simp⟩) hH2 ?_
  try simp only [Act.put, List.setIfInBounds_toArray, List.set_cons_zero, List.set_cons_succ, List.getElem_toArray, List.getElem_cons_succ, List.getElem_cons_zero]
  refine wpAnyH_take (i := 6) (v := .iface 97 (.agg #[.int .i64 n])) rfl (by kernel_rfl) (by kernel_rfl) (by kernel_rfl) (fun _ _ _ h => h) (Or.inl ⟨by rfl, fun w hSw => by go_simp⟩) hH2 ?_
  try simp only [Act.put, List.setIfInBounds_toArray, List.set_cons_zero, List.set_cons_succ, List.getElem_toArray, List.getElem_cons_succ, List.getElem_cons_zero]
  refine wpAnyH_ready (rs := [7]) (by kernel_rfl) (by simp) ?_
  refine AllReadyH.cons rfl (fun K hK => ?_) AllReadyH.nil
  go_simp
  go_at_call 116
  refine (HAg.out _ (HW.out _ hH2).1).mono ?_
  rintro e w6 ⟨rfl, hb6⟩
  have hw6 := chain hH2 hb6
  refine hK.out _ _ hw6 (fun _ => ?_)
  clear hK K
  try simp only [Act.put, List.setIfInBounds_toArray, List.set_cons_zero, List.set_cons_succ, List.getElem_toArray, List.getElem_cons_succ, List.getElem_cons_zero]
  refine wpAnyH_take (i := 8) (v := .int .i64 ac) rfl (by kernel_rfl) (by kernel_rfl) (by kernel_rfl) (fun _ _ _ h => h) (Or.inl ⟨by rfl, fun w hSw => by go_simp⟩) hw6 ?_
  try simp only [Act.put, List.setIfInBounds_toArray, List.set_cons_zero, List.set_cons_succ, List.getElem_toArray, List.getElem_cons_succ, List.getElem_cons_zero]
  refine wpAnyH_done (by kernel_rfl) ?_ _
  try simp
  have HO6 : Hid (w6.heap[w.heap.size + 1]? = some (.cells #[.int .i64 0, .int .i64 0] 40 (0, 0))) := (HW.out _ hw6).2.2.1
  have HB6 : Hid (Below w.heap.size w w6) := (HW.out _ hw6).1
  clear hw5 hb5 hH hH2 hb6 hw6 na me
  by_cases hac : ac = 0
  · have HP := HP2.out hac
    have HC := HCa.out hac
    subst hac
    go_wp2_with fail
    (first | go_at_call 29 | skip)
    refine (HC w6 HB6.out).mono ?_
    rintro e w8 ⟨rfl, hf8, hq8⟩
    have hnx : ¬ RgX rb lv kv (w.heap.size + 1) := by
      rintro (e | e | e)
      · have := HG0.out.reg.lt; omega
      · have := (row_lt HG0.out.lrow _ e).2; omega
      · have := (row_lt HG0.out.krow _ e).2; omega
    have HO : Hid (w8.heap[w.heap.size + 1]? = some (.cells #[.int .i64 0, .int .i64 0] 40 (0, 0))) := (hf8.block _ (blkLt HO6.out) hnx).trans HO6.out
    have HF8 : Hid (Fr (RgX rb lv kv) w w8) := (Fr.of HB6.out).trans hf8
    have HQ8 : Hid (Q w8) := hq8
    clear hf8 hq8 hnx
    have z0 := blkFree HO.out 0
    have z1 := blkFree HO.out 1
    have y0 := blkCell HO.out 0 _ rfl
    have y1 := blkCell HO.out 1 _ rfl
    have hlo := blkLt HO.out
    go_wp2
    have hq := fin2 HO.out (.int .i64 0) (.int .i64 num)
    have hfo : Fr (fun k => k = w.heap.size + 1) w8 ((w8.setCell ⟨w.heap.size + 1, 0, none⟩ (.int .i64 0)).setCell ⟨w.heap.size + 1, 1, none⟩ (.int .i64 num)) := ((Fr.refl (fun k => k = w.heap.size + 1) w8).set (b := w.heap.size + 1) rfl _ _).set (b := w.heap.size + 1) rfl _ _
    generalize ((w8.setCell ⟨w.heap.size + 1, 0, none⟩ (.int .i64 0)).setCell ⟨w.heap.size + 1, 1, none⟩ (.int .i64 num)) = W9 at *
    have p0 := blkCell hq 0 _ rfl
    have p1 := blkCell hq 1 _ rfl
    exact bodyPost_ret (v := .agg #[.int .i64 0, .int .i64 num]) (by simp [results, Tryz.results13, go_sem, p0, p1]) rfl (HP _ (Fr.far2 HF8.out hfo (by omega)) (HQ.out _ _ _ _ HQ8.out HO.out hfo))
  · have h1 : (ac != 0) = true := by simpa using hac
    have HP := HP1.out hac
    have HO : Hid (w6.heap[w.heap.size + 1]? = some (.cells #[.int .i64 0, .int .i64 0] 40 (0, 0))) := HO6.out
    have z0 := blkFree HO.out 0
    have z1 := blkFree HO.out 1
    have y0 := blkCell HO.out 0 _ rfl
    have y1 := blkCell HO.out 1 _ rfl
    have hlo := blkLt HO.out
    go_wp2
    have hq := fin2 HO.out (.int .i64 ac) (.int .i64 0)
    have hfo : Fr (fun k => k = w.heap.size + 1) w6 ((w6.setCell ⟨w.heap.size + 1, 0, none⟩ (.int .i64 ac)).setCell ⟨w.heap.size + 1, 1, none⟩ (.int .i64 0)) := ((Fr.refl (fun k => k = w.heap.size + 1) w6).set (b := w.heap.size + 1) rfl _ _).set (b := w.heap.size + 1) rfl _ _
    generalize ((w6.setCell ⟨w.heap.size + 1, 0, none⟩ (.int .i64 ac)).setCell ⟨w.heap.size + 1, 1, none⟩ (.int .i64 0)) = W9 at *
    have p0 := blkCell hq 0 _ rfl
    have p1 := blkCell hq 1 _ rfl
    exact bodyPost_ret (v := .agg #[.int .i64 ac, .int .i64 0]) (by simp [results, Tryz.results13, go_sem, p0, p1]) rfl (HP _ (Fr.drop2 HB6.out hfo (by omega)))
set_option maxHeartbeats 8000000 in
set_option maxRecDepth 8000 in
theorem do_suspending (R : ByteArray → Int × ByteArray × Int × Int) (hR : RsI R) (ia : Option Addr) (ic : Nat) (its : List RIt) (hok : ∀ r ∈ its, ItN r) (hil : its.length ≤ 40) (B rb : Nat) (lv : Value) (ls : List RLi) (sh : Int) (kv : Value) (ks : List Kb) (sl tk dp : Int) (cs : List Int) (hcs : cs.length = 9) (tx : ByteArray) (n : Int) (w : World) (hg : Rg B rb (.slice ia its.length ic) lv ls sh kv ks sl tk dp cs w) (hI : ReadsIt B w ia its) (hB : B ≤ w.heap.size)  (ac num : Int) (Q : World → Prop) (hQ : Aside2 Q)
    (hag : ∀ W, Below w.heap.size w W → Calls Tryz.prog 117 #[.agg #[], .agg (regL lv sh (.slice ia its.length ic) kv sl tk dp cs).toArray] W fun e w' => e = .returned (.int .i64 ac) ∧ Below W.heap.size W w')
    (hca : ac = 0 → ∀ W, Below w.heap.size w W → Calls Tryz.prog 29 #[.pointer (some ⟨rb, 0, none⟩), .iface 99 (.agg #[])] W fun e w' => e = .returned (.int .i64 num) ∧ Fr (RgX rb lv kv) W w' ∧ Q w') :
    Calls Tryz.prog 13 #[.pointer (some ⟨rb, 0, none⟩), .agg #[.int .i64 4, .string tx, .int .i64 n]] w fun e w' => (ac ≠ 0 ∧ e = .returned (.agg #[.int .i64 ac, .int .i64 0]) ∧ Below w.heap.size w w') ∨ (ac = 0 ∧ e = .returned (.agg #[.int .i64 0, .int .i64 num]) ∧ Fr (RgX rb lv kv) w w' ∧ Q w') := by
  have HDd : Hid (∀ W, Below w.heap.size w W → Calls Tryz.prog 28 #[.slice ia its.length ic, .agg #[.int .i64 4, .string tx, .int .i64 n]] W fun e w' => e = .returned (.tuple #[deedV R its 4 tx n, .int .i64 (deedE R its 4 tx n)]) ∧ Below W.heap.size W w') := fun W hW => deedOf_any R hR ia ic its hok hil 4 tx n W (((hI.below (hW.mono hB)).mono (Nat.le_trans hB hW.size)))
  rw [show deedV R its 4 tx n = .iface 99 (.agg #[]) from rfl, show deedE R its 4 tx n = 0 from rfl] at HDd
  have HG0 : Hid (Rg B rb (.slice ia its.length ic) lv ls sh kv ks sl tk dp cs w) := hg
  have HAg : Hid (∀ W, Below w.heap.size w W → Calls Tryz.prog 117 #[.agg #[], .agg (regL lv sh (.slice ia its.length ic) kv sl tk dp cs).toArray] W fun e w' => e = .returned (.int .i64 ac) ∧ Below W.heap.size W w') := hag
  have HCa : Hid (ac = 0 → ∀ W, Below w.heap.size w W → Calls Tryz.prog 29 #[.pointer (some ⟨rb, 0, none⟩), .iface 99 (.agg #[])] W fun e w' => e = .returned (.int .i64 num) ∧ Fr (RgX rb lv kv) W w' ∧ Q w') := hca
  have HQ : Hid (Aside2 Q) := hQ
  clear hg hI hok hR hag hca hQ
  generalize hpost : (fun (e : Ending) (w' : World) => (ac ≠ 0 ∧ e = .returned (.agg #[.int .i64 ac, .int .i64 0]) ∧ Below w.heap.size w w') ∨ (ac = 0 ∧ e = .returned (.agg #[.int .i64 0, .int .i64 num]) ∧ Fr (RgX rb lv kv) w w' ∧ Q w')) = post
  have HP1 : Hid (ac ≠ 0 → ∀ w', Below w.heap.size w w' → post (.returned (.agg #[.int .i64 ac, .int .i64 0])) w') := fun h w' hb => by subst hpost; exact .inl ⟨h, rfl, hb⟩
  have HP2 : Hid (ac = 0 → ∀ w', Fr (RgX rb lv kv) w w' → Q w' → post (.returned (.agg #[.int .i64 0, .int .i64 num])) w') := fun h w' hb hq => by subst hpost; exact .inr ⟨h, rfl, hb, hq⟩
  clear hpost
  go_enter Tryz.func13, Tryz.ntmps13
  go_wp2_with fail
  have hba : ((w.alloc (Obj.cells #[.int .i64 4, .string tx, .int .i64 n] 42)).alloc (Obj.cells #[.int .i64 0, .int .i64 0] 40)).heap[w.heap.size]? = some (.cells #[.int .i64 4, .string tx, .int .i64 n] 42 (0, 0)) := (Below.heap_alloc _ _ _ (by simp)).trans (heapNew _ _)
  have hbo : ((w.alloc (Obj.cells #[.int .i64 4, .string tx, .int .i64 n] 42)).alloc (Obj.cells #[.int .i64 0, .int .i64 0] 40)).heap[w.heap.size + 1]? = some (.cells #[.int .i64 0, .int .i64 0] 40 (0, 0)) := by
    have := heapNew (w.alloc (Obj.cells #[.int .i64 4, .string tx, .int .i64 n] 42)) (Obj.cells #[.int .i64 0, .int .i64 0] 40)
    rwa [show (w.alloc (Obj.cells #[.int .i64 4, .string tx, .int .i64 n] 42)).heap.size = w.heap.size + 1 by simp] at this
  have hW2 : Below w.heap.size w ((w.alloc (Obj.cells #[.int .i64 4, .string tx, .int .i64 n] 42)).alloc (Obj.cells #[.int .i64 0, .int .i64 0] 40)) := chain (below_alloc _ _) (below_alloc _ _)
  generalize ((w.alloc (Obj.cells #[.int .i64 4, .string tx, .int .i64 n] 42)).alloc (Obj.cells #[.int .i64 0, .int .i64 0] 40)) = W2 at *
  have HW : Hid (∀ W, Below W2.heap.size W2 W → Below w.heap.size w W ∧ W.heap[w.heap.size]? = some (.cells #[.int .i64 4, .string tx, .int .i64 n] 42 (0, 0)) ∧ W.heap[w.heap.size + 1]? = some (.cells #[.int .i64 0, .int .i64 0] 40 (0, 0)) ∧ RegIs W rb lv sh (.slice ia its.length ic) kv sl tk dp cs) := fun W hW => ⟨chain hW2 hW, (hW.block _ (blkLt hba)).trans hba, (hW.block _ (blkLt hbo)).trans hbo, HG0.out.reg.later (chain hW2 hW)⟩
  clear hba hbo hW2
  refine wp_region_held_drew (S := fun W => Below W2.heap.size W2 W) (by kernel_rfl) (below_drew _) (fun hH => ?_)
  refine wpAnyH_take (i := 0) (v := .pointer (some ⟨rb, 0, none⟩)) rfl (by kernel_rfl) (by kernel_rfl) (by kernel_rfl) (fun _ _ _ h => h) (Or.inl ⟨by rfl, fun w hSw => by go_simp⟩) hH ?_
  refine wpAnyH_take (i := 1) (v := .pointer (some ⟨rb, 0, none⟩)) rfl (by kernel_rfl) (by kernel_rfl) (by kernel_rfl) (fun _ _ _ h => h) (Or.inl ⟨by rfl, fun w hSw => by go_simp⟩) hH ?_
  try simp only [Act.put, List.setIfInBounds_toArray, List.set_cons_zero, List.set_cons_succ, List.getElem_toArray, List.getElem_cons_succ, List.getElem_cons_zero]
  refine wpAnyH_take (i := 2) (v := .pointer (some ⟨rb, 2, none⟩)) rfl (by kernel_rfl) (by kernel_rfl) (by kernel_rfl) (fun _ _ _ h => h) (Or.inl ⟨by rfl, fun w hSw => by go_simp⟩) hH ?_
  try simp only [Act.put, List.setIfInBounds_toArray, List.set_cons_zero, List.set_cons_succ, List.getElem_toArray, List.getElem_cons_succ, List.getElem_cons_zero]
  refine wpAnyH_take (i := 3) (v := .slice ia its.length ic) rfl (by kernel_rfl) (by kernel_rfl) (by kernel_rfl) (fun _ _ _ h => h) (Or.inl ⟨by rfl, fun w hSw => by have f0 := (HW.out w hSw).2.2.2.cells.2.2.1; go_simp⟩) hH ?_
  try simp only [Act.put, List.setIfInBounds_toArray, List.set_cons_zero, List.set_cons_succ, List.getElem_toArray, List.getElem_cons_succ, List.getElem_cons_zero]
  refine wpAnyH_take (i := 4) (v := .agg #[.int .i64 4, .string tx, .int .i64 n]) rfl (by kernel_rfl) (by kernel_rfl) (by kernel_rfl) (fun _ _ _ h => h) (Or.inl ⟨by rfl, fun w hSw => by have f0 := blkCell (HW.out w hSw).2.1 0 _ rfl; have f1 := blkCell (HW.out w hSw).2.1 1 _ rfl; have f2 := blkCell (HW.out w hSw).2.1 2 _ rfl; go_simp⟩) hH ?_
  try simp only [Act.put, List.setIfInBounds_toArray, List.set_cons_zero, List.set_cons_succ, List.getElem_toArray, List.getElem_cons_succ, List.getElem_cons_zero]
  refine wpAnyH_ready (rs := [5]) (by kernel_rfl) (by simp) ?_
  refine AllReadyH.cons rfl (fun K hK => ?_) AllReadyH.nil
  go_simp
  go_at_call 28
  refine (HDd.out _ (HW.out _ hH).1).mono ?_
  rintro e w5 ⟨rfl, hb5⟩
  have hw5 := chain hH hb5
  refine hK.out _ _ hw5 (fun _ => ?_)
  clear hK K
  try simp only [Act.put, List.setIfInBounds_toArray, List.set_cons_zero, List.set_cons_succ, List.getElem_toArray, List.getElem_cons_succ, List.getElem_cons_zero]
  refine wpAnyH_take (i := 6) (v := .tuple #[.iface 99 (.agg #[]), .int .i64 0]) rfl (by kernel_rfl) (by kernel_rfl) (by kernel_rfl) (fun _ _ _ h => h) (Or.inl ⟨by rfl, fun w hSw => by go_simp⟩) hw5 ?_
  try simp only [Act.put, List.setIfInBounds_toArray, List.set_cons_zero, List.set_cons_succ, List.getElem_toArray, List.getElem_cons_succ, List.getElem_cons_zero]
  refine wpAnyH_take (i := 7) (v := .iface 99 (.agg #[])) rfl (by kernel_rfl) (by kernel_rfl) (by kernel_rfl) (fun _ _ _ h => h) (Or.inl ⟨by rfl, fun w hSw => by go_simp⟩) hw5 ?_
  try simp only [Act.put, List.setIfInBounds_toArray, List.set_cons_zero, List.set_cons_succ, List.getElem_toArray, List.getElem_cons_succ, List.getElem_cons_zero]
  refine wpAnyH_take (i := 8) (v := .int .i64 0) rfl (by kernel_rfl) (by kernel_rfl) (by kernel_rfl) (fun _ _ _ h => h) (Or.inl ⟨by rfl, fun w hSw => by go_simp⟩) hw5 ?_
  try simp only [Act.put, List.setIfInBounds_toArray, List.set_cons_zero, List.set_cons_succ, List.getElem_toArray, List.getElem_cons_succ, List.getElem_cons_zero]
  refine wpAnyH_take (i := 9) (v := .iface 99 (.agg #[])) rfl (by kernel_rfl) (by kernel_rfl) (by kernel_rfl) (fun _ _ _ h => h) (Or.inl ⟨by rfl, fun w hSw => by go_simp⟩) hw5 ?_
  try simp only [Act.put, List.setIfInBounds_toArray, List.set_cons_zero, List.set_cons_succ, List.getElem_toArray, List.getElem_cons_succ, List.getElem_cons_zero]
  refine wpAnyH_take (i := 10) (v := .int .i64 0) rfl (by kernel_rfl) (by kernel_rfl) (by kernel_rfl) (fun _ _ _ h => h) (Or.inl ⟨by rfl, fun w hSw => by go_simp⟩) hw5 ?_
  try simp only [Act.put, List.setIfInBounds_toArray, List.set_cons_zero, List.set_cons_succ, List.getElem_toArray, List.getElem_cons_succ, List.getElem_cons_zero]
  refine wpAnyH_done (by kernel_rfl) ?_ _
  try simp
  go_wp2_with fail
  refine wp_region_held_drew (S := fun W => Below W2.heap.size W2 W) (by kernel_rfl) (chain hw5 (below_drew _)) (fun hH2 => ?_)
  have na := na_suspending
  have me := me_suspending
  have HU := Tryz.underlying51
  have HI' : (Tryz.prog.info? 51).map (·.size) = some (regL lv sh (.slice ia its.length ic) kv sl tk dp cs).length := by rw [regL_len, hcs]; kernel_rfl
  refine wpAnyH_take (i := 0) (v := .iface 99 (.agg #[])) rfl (by kernel_rfl) (by kernel_rfl) (by kernel_rfl) (fun _ _ _ h => h) (Or.inl ⟨by rfl, fun w hSw => by go_simp⟩) hH2 ?_
  refine wpAnyH_take (i := 1) (v := .pointer (some ⟨rb, 0, none⟩)) rfl (by kernel_rfl) (by kernel_rfl) (by kernel_rfl) (fun _ _ _ h => h) (Or.inl ⟨by rfl, fun w hSw => by go_simp⟩) hH2 ?_
  try simp only [Act.put, List.setIfInBounds_toArray, List.set_cons_zero, List.set_cons_succ, List.getElem_toArray, List.getElem_cons_succ, List.getElem_cons_zero]
  refine wpAnyH_take (i := 2) (v := .pointer (some ⟨rb, 0, none⟩)) rfl (by kernel_rfl) (by kernel_rfl) (by kernel_rfl) (fun _ _ _ h => h) (Or.inl ⟨by rfl, fun w hSw => by go_simp⟩) hH2 ?_
  try simp only [Act.put, List.setIfInBounds_toArray, List.set_cons_zero, List.set_cons_succ, List.getElem_toArray, List.getElem_cons_succ, List.getElem_cons_zero]
  refine wpAnyH_take (i := 3) (v := .agg (regL lv sh (.slice ia its.length ic) kv sl tk dp cs).toArray) rfl (by kernel_rfl) (by kernel_rfl) (by kernel_rfl) (fun _ _ _ h => h) (yieldsIf_load_mid (by rfl) 51 (.tmp 20) rfl rb 0 rfl (regL lv sh (.slice ia its.length ic) kv sl tk dp cs) _ (fun w h => reg_range (HW.out w h).2.2.2) HU rfl HI') hH2 ?_
  clear HU HI'
  refine wpAnyH_take (i := 4) (v := .func (.method "loop.example/g00067/impl.against") #[.iface 99 (.agg #[])] #[]) rfl (by kernel_rfl) (by kernel_rfl) (by kernel_rfl) (fun _ _ _ h => h) (Or.inl ⟨by rfl, fun w hSw => by go_simp⟩) hH2 ?_
  try simp only [Act.put, List.setIfInBounds_toArray, List.set_cons_zero, List.set_cons_succ, List.getElem_toArray, List.getElem_cons_succ, List.getElem_cons_zero]
  refine wpAnyH_take (i := 5) (v := .func (.method "loop.example/g00067/impl.against") #[.iface 99 (.agg #[])] #[]) rfl (by kernel_rfl) (by kernel_rfl) (by kernel_rfl) (fun _ _ _ h => h) (Or.inl ⟨by rfl, fun w hSw => by go_simp⟩) hH2 ?_
  try simp only [Act.put, List.setIfInBounds_toArray, List.set_cons_zero, List.set_cons_succ, List.getElem_toArray, List.getElem_cons_succ, List.getElem_cons_zero]
  refine wpAnyH_take (i := 6) (v := .iface 99 (.agg #[])) rfl (by kernel_rfl) (by kernel_rfl) (by kernel_rfl) (fun _ _ _ h => h) (Or.inl ⟨by rfl, fun w hSw => by go_simp⟩) hH2 ?_
  try simp only [Act.put, List.setIfInBounds_toArray, List.set_cons_zero, List.set_cons_succ, List.getElem_toArray, List.getElem_cons_succ, List.getElem_cons_zero]
  refine wpAnyH_ready (rs := [7]) (by kernel_rfl) (by simp) ?_
  refine AllReadyH.cons rfl (fun K hK => ?_) AllReadyH.nil
  go_simp
  go_at_call 117
  refine (HAg.out _ (HW.out _ hH2).1).mono ?_
  rintro e w6 ⟨rfl, hb6⟩
  have hw6 := chain hH2 hb6
  refine hK.out _ _ hw6 (fun _ => ?_)
  clear hK K
  try simp only [Act.put, List.setIfInBounds_toArray, List.set_cons_zero, List.set_cons_succ, List.getElem_toArray, List.getElem_cons_succ, List.getElem_cons_zero]
  refine wpAnyH_take (i := 8) (v := .int .i64 ac) rfl (by kernel_rfl) (by kernel_rfl) (by kernel_rfl) (fun _ _ _ h => h) (Or.inl ⟨by rfl, fun w hSw => by go_simp⟩) hw6 ?_
  try simp only [Act.put, List.setIfInBounds_toArray, List.set_cons_zero, List.set_cons_succ, List.getElem_toArray, List.getElem_cons_succ, List.getElem_cons_zero]
  refine wpAnyH_done (by kernel_rfl) ?_ _
  try simp
  have HO6 : Hid (w6.heap[w.heap.size + 1]? = some (.cells #[.int .i64 0, .int .i64 0] 40 (0, 0))) := (HW.out _ hw6).2.2.1
  have HB6 : Hid (Below w.heap.size w w6) := (HW.out _ hw6).1
  clear hw5 hb5 hH hH2 hb6 hw6 na me
  by_cases hac : ac = 0
  · have HP := HP2.out hac
    have HC := HCa.out hac
    subst hac
    go_wp2_with fail
    (first | go_at_call 29 | skip)
    refine (HC w6 HB6.out).mono ?_
    rintro e w8 ⟨rfl, hf8, hq8⟩
    have hnx : ¬ RgX rb lv kv (w.heap.size + 1) := by
      rintro (e | e | e)
      · have := HG0.out.reg.lt; omega
      · have := (row_lt HG0.out.lrow _ e).2; omega
      · have := (row_lt HG0.out.krow _ e).2; omega
    have HO : Hid (w8.heap[w.heap.size + 1]? = some (.cells #[.int .i64 0, .int .i64 0] 40 (0, 0))) := (hf8.block _ (blkLt HO6.out) hnx).trans HO6.out
    have HF8 : Hid (Fr (RgX rb lv kv) w w8) := (Fr.of HB6.out).trans hf8
    have HQ8 : Hid (Q w8) := hq8
    clear hf8 hq8 hnx
    have z0 := blkFree HO.out 0
    have z1 := blkFree HO.out 1
    have y0 := blkCell HO.out 0 _ rfl
    have y1 := blkCell HO.out 1 _ rfl
    have hlo := blkLt HO.out
    go_wp2
    have hq := fin2 HO.out (.int .i64 0) (.int .i64 num)
    have hfo : Fr (fun k => k = w.heap.size + 1) w8 ((w8.setCell ⟨w.heap.size + 1, 0, none⟩ (.int .i64 0)).setCell ⟨w.heap.size + 1, 1, none⟩ (.int .i64 num)) := ((Fr.refl (fun k => k = w.heap.size + 1) w8).set (b := w.heap.size + 1) rfl _ _).set (b := w.heap.size + 1) rfl _ _
    generalize ((w8.setCell ⟨w.heap.size + 1, 0, none⟩ (.int .i64 0)).setCell ⟨w.heap.size + 1, 1, none⟩ (.int .i64 num)) = W9 at *
    have p0 := blkCell hq 0 _ rfl
    have p1 := blkCell hq 1 _ rfl
    exact bodyPost_ret (v := .agg #[.int .i64 0, .int .i64 num]) (by simp [results, Tryz.results13, go_sem, p0, p1]) rfl (HP _ (Fr.far2 HF8.out hfo (by omega)) (HQ.out _ _ _ _ HQ8.out HO.out hfo))
  · have h1 : (ac != 0) = true := by simpa using hac
    have HP := HP1.out hac
    have HO : Hid (w6.heap[w.heap.size + 1]? = some (.cells #[.int .i64 0, .int .i64 0] 40 (0, 0))) := HO6.out
    have z0 := blkFree HO.out 0
    have z1 := blkFree HO.out 1
    have y0 := blkCell HO.out 0 _ rfl
    have y1 := blkCell HO.out 1 _ rfl
    have hlo := blkLt HO.out
    go_wp2
    have hq := fin2 HO.out (.int .i64 ac) (.int .i64 0)
    have hfo : Fr (fun k => k = w.heap.size + 1) w6 ((w6.setCell ⟨w.heap.size + 1, 0, none⟩ (.int .i64 ac)).setCell ⟨w.heap.size + 1, 1, none⟩ (.int .i64 0)) := ((Fr.refl (fun k => k = w.heap.size + 1) w6).set (b := w.heap.size + 1) rfl _ _).set (b := w.heap.size + 1) rfl _ _
    generalize ((w6.setCell ⟨w.heap.size + 1, 0, none⟩ (.int .i64 ac)).setCell ⟨w.heap.size + 1, 1, none⟩ (.int .i64 0)) = W9 at *
    have p0 := blkCell hq 0 _ rfl
    have p1 := blkCell hq 1 _ rfl
    exact bodyPost_ret (v := .agg #[.int .i64 ac, .int .i64 0]) (by simp [results, Tryz.results13, go_sem, p0, p1]) rfl (HP _ (Fr.drop2 HB6.out hfo (by omega)))
set_option maxHeartbeats 8000000 in
set_option maxRecDepth 8000 in
theorem do_resuming (R : ByteArray → Int × ByteArray × Int × Int) (hR : RsI R) (ia : Option Addr) (ic : Nat) (its : List RIt) (hok : ∀ r ∈ its, ItN r) (hil : its.length ≤ 40) (B rb : Nat) (lv : Value) (ls : List RLi) (sh : Int) (kv : Value) (ks : List Kb) (sl tk dp : Int) (cs : List Int) (hcs : cs.length = 9) (tx : ByteArray) (n : Int) (w : World) (hg : Rg B rb (.slice ia its.length ic) lv ls sh kv ks sl tk dp cs w) (hI : ReadsIt B w ia its) (hB : B ≤ w.heap.size)  (ac num : Int) (Q : World → Prop) (hQ : Aside2 Q)
    (hag : ∀ W, Below w.heap.size w W → Calls Tryz.prog 118 #[.agg #[.int .i64 n], .agg (regL lv sh (.slice ia its.length ic) kv sl tk dp cs).toArray] W fun e w' => e = .returned (.int .i64 ac) ∧ Below W.heap.size W w')
    (hca : ac = 0 → ∀ W, Below w.heap.size w W → Calls Tryz.prog 29 #[.pointer (some ⟨rb, 0, none⟩), .iface 101 (.agg #[.int .i64 n])] W fun e w' => e = .returned (.int .i64 num) ∧ Fr (RgX rb lv kv) W w' ∧ Q w') :
    Calls Tryz.prog 13 #[.pointer (some ⟨rb, 0, none⟩), .agg #[.int .i64 5, .string tx, .int .i64 n]] w fun e w' => (ac ≠ 0 ∧ e = .returned (.agg #[.int .i64 ac, .int .i64 0]) ∧ Below w.heap.size w w') ∨ (ac = 0 ∧ e = .returned (.agg #[.int .i64 0, .int .i64 num]) ∧ Fr (RgX rb lv kv) w w' ∧ Q w') := by
  have HDd : Hid (∀ W, Below w.heap.size w W → Calls Tryz.prog 28 #[.slice ia its.length ic, .agg #[.int .i64 5, .string tx, .int .i64 n]] W fun e w' => e = .returned (.tuple #[deedV R its 5 tx n, .int .i64 (deedE R its 5 tx n)]) ∧ Below W.heap.size W w') := fun W hW => deedOf_any R hR ia ic its hok hil 5 tx n W (((hI.below (hW.mono hB)).mono (Nat.le_trans hB hW.size)))
  rw [show deedV R its 5 tx n = .iface 101 (.agg #[.int .i64 n]) from rfl, show deedE R its 5 tx n = 0 from rfl] at HDd
  have HG0 : Hid (Rg B rb (.slice ia its.length ic) lv ls sh kv ks sl tk dp cs w) := hg
  have HAg : Hid (∀ W, Below w.heap.size w W → Calls Tryz.prog 118 #[.agg #[.int .i64 n], .agg (regL lv sh (.slice ia its.length ic) kv sl tk dp cs).toArray] W fun e w' => e = .returned (.int .i64 ac) ∧ Below W.heap.size W w') := hag
  have HCa : Hid (ac = 0 → ∀ W, Below w.heap.size w W → Calls Tryz.prog 29 #[.pointer (some ⟨rb, 0, none⟩), .iface 101 (.agg #[.int .i64 n])] W fun e w' => e = .returned (.int .i64 num) ∧ Fr (RgX rb lv kv) W w' ∧ Q w') := hca
  have HQ : Hid (Aside2 Q) := hQ
  clear hg hI hok hR hag hca hQ
  generalize hpost : (fun (e : Ending) (w' : World) => (ac ≠ 0 ∧ e = .returned (.agg #[.int .i64 ac, .int .i64 0]) ∧ Below w.heap.size w w') ∨ (ac = 0 ∧ e = .returned (.agg #[.int .i64 0, .int .i64 num]) ∧ Fr (RgX rb lv kv) w w' ∧ Q w')) = post
  have HP1 : Hid (ac ≠ 0 → ∀ w', Below w.heap.size w w' → post (.returned (.agg #[.int .i64 ac, .int .i64 0])) w') := fun h w' hb => by subst hpost; exact .inl ⟨h, rfl, hb⟩
  have HP2 : Hid (ac = 0 → ∀ w', Fr (RgX rb lv kv) w w' → Q w' → post (.returned (.agg #[.int .i64 0, .int .i64 num])) w') := fun h w' hb hq => by subst hpost; exact .inr ⟨h, rfl, hb, hq⟩
  clear hpost
  go_enter Tryz.func13, Tryz.ntmps13
  go_wp2_with fail
  have hba : ((w.alloc (Obj.cells #[.int .i64 5, .string tx, .int .i64 n] 42)).alloc (Obj.cells #[.int .i64 0, .int .i64 0] 40)).heap[w.heap.size]? = some (.cells #[.int .i64 5, .string tx, .int .i64 n] 42 (0, 0)) := (Below.heap_alloc _ _ _ (by simp)).trans (heapNew _ _)
  have hbo : ((w.alloc (Obj.cells #[.int .i64 5, .string tx, .int .i64 n] 42)).alloc (Obj.cells #[.int .i64 0, .int .i64 0] 40)).heap[w.heap.size + 1]? = some (.cells #[.int .i64 0, .int .i64 0] 40 (0, 0)) := by
    have := heapNew (w.alloc (Obj.cells #[.int .i64 5, .string tx, .int .i64 n] 42)) (Obj.cells #[.int .i64 0, .int .i64 0] 40)
    rwa [show (w.alloc (Obj.cells #[.int .i64 5, .string tx, .int .i64 n] 42)).heap.size = w.heap.size + 1 by simp] at this
  have hW2 : Below w.heap.size w ((w.alloc (Obj.cells #[.int .i64 5, .string tx, .int .i64 n] 42)).alloc (Obj.cells #[.int .i64 0, .int .i64 0] 40)) := chain (below_alloc _ _) (below_alloc _ _)
  generalize ((w.alloc (Obj.cells #[.int .i64 5, .string tx, .int .i64 n] 42)).alloc (Obj.cells #[.int .i64 0, .int .i64 0] 40)) = W2 at *
  have HW : Hid (∀ W, Below W2.heap.size W2 W → Below w.heap.size w W ∧ W.heap[w.heap.size]? = some (.cells #[.int .i64 5, .string tx, .int .i64 n] 42 (0, 0)) ∧ W.heap[w.heap.size + 1]? = some (.cells #[.int .i64 0, .int .i64 0] 40 (0, 0)) ∧ RegIs W rb lv sh (.slice ia its.length ic) kv sl tk dp cs) := fun W hW => ⟨chain hW2 hW, (hW.block _ (blkLt hba)).trans hba, (hW.block _ (blkLt hbo)).trans hbo, HG0.out.reg.later (chain hW2 hW)⟩
  clear hba hbo hW2
  refine wp_region_held_drew (S := fun W => Below W2.heap.size W2 W) (by kernel_rfl) (below_drew _) (fun hH => ?_)
  refine wpAnyH_take (i := 0) (v := .pointer (some ⟨rb, 0, none⟩)) rfl (by kernel_rfl) (by kernel_rfl) (by kernel_rfl) (fun _ _ _ h => h) (Or.inl ⟨by rfl, fun w hSw => by go_simp⟩) hH ?_
  refine wpAnyH_take (i := 1) (v := .pointer (some ⟨rb, 0, none⟩)) rfl (by kernel_rfl) (by kernel_rfl) (by kernel_rfl) (fun _ _ _ h => h) (Or.inl ⟨by rfl, fun w hSw => by go_simp⟩) hH ?_
  try simp only [Act.put, List.setIfInBounds_toArray, List.set_cons_zero, List.set_cons_succ, List.getElem_toArray, List.getElem_cons_succ, List.getElem_cons_zero]
  refine wpAnyH_take (i := 2) (v := .pointer (some ⟨rb, 2, none⟩)) rfl (by kernel_rfl) (by kernel_rfl) (by kernel_rfl) (fun _ _ _ h => h) (Or.inl ⟨by rfl, fun w hSw => by go_simp⟩) hH ?_
  try simp only [Act.put, List.setIfInBounds_toArray, List.set_cons_zero, List.set_cons_succ, List.getElem_toArray, List.getElem_cons_succ, List.getElem_cons_zero]
  refine wpAnyH_take (i := 3) (v := .slice ia its.length ic) rfl (by kernel_rfl) (by kernel_rfl) (by kernel_rfl) (fun _ _ _ h => h) (Or.inl ⟨by rfl, fun w hSw => by have f0 := (HW.out w hSw).2.2.2.cells.2.2.1; go_simp⟩) hH ?_
  try simp only [Act.put, List.setIfInBounds_toArray, List.set_cons_zero, List.set_cons_succ, List.getElem_toArray, List.getElem_cons_succ, List.getElem_cons_zero]
  refine wpAnyH_take (i := 4) (v := .agg #[.int .i64 5, .string tx, .int .i64 n]) rfl (by kernel_rfl) (by kernel_rfl) (by kernel_rfl) (fun _ _ _ h => h) (Or.inl ⟨by rfl, fun w hSw => by have f0 := blkCell (HW.out w hSw).2.1 0 _ rfl; have f1 := blkCell (HW.out w hSw).2.1 1 _ rfl; have f2 := blkCell (HW.out w hSw).2.1 2 _ rfl; go_simp⟩) hH ?_
  try simp only [Act.put, List.setIfInBounds_toArray, List.set_cons_zero, List.set_cons_succ, List.getElem_toArray, List.getElem_cons_succ, List.getElem_cons_zero]
  refine wpAnyH_ready (rs := [5]) (by kernel_rfl) (by simp) ?_
  refine AllReadyH.cons rfl (fun K hK => ?_) AllReadyH.nil
  go_simp
  go_at_call 28
  refine (HDd.out _ (HW.out _ hH).1).mono ?_
  rintro e w5 ⟨rfl, hb5⟩
  have hw5 := chain hH hb5
  refine hK.out _ _ hw5 (fun _ => ?_)
  clear hK K
  try simp only [Act.put, List.setIfInBounds_toArray, List.set_cons_zero, List.set_cons_succ, List.getElem_toArray, List.getElem_cons_succ, List.getElem_cons_zero]
  refine wpAnyH_take (i := 6) (v := .tuple #[.iface 101 (.agg #[.int .i64 n]), .int .i64 0]) rfl (by kernel_rfl) (by kernel_rfl) (by kernel_rfl) (fun _ _ _ h => h) (Or.inl ⟨by rfl, fun w hSw => by go_simp⟩) hw5 ?_
  try simp only [Act.put, List.setIfInBounds_toArray, List.set_cons_zero, List.set_cons_succ, List.getElem_toArray, List.getElem_cons_succ, List.getElem_cons_zero]
  refine wpAnyH_take (i := 7) (v := .iface 101 (.agg #[.int .i64 n])) rfl (by kernel_rfl) (by kernel_rfl) (by kernel_rfl) (fun _ _ _ h => h) (Or.inl ⟨by rfl, fun w hSw => by go_simp⟩) hw5 ?_
  try simp only [Act.put, List.setIfInBounds_toArray, List.set_cons_zero, List.set_cons_succ, List.getElem_toArray, List.getElem_cons_succ, List.getElem_cons_zero]
  refine wpAnyH_take (i := 8) (v := .int .i64 0) rfl (by kernel_rfl) (by kernel_rfl) (by kernel_rfl) (fun _ _ _ h => h) (Or.inl ⟨by rfl, fun w hSw => by go_simp⟩) hw5 ?_
  try simp only [Act.put, List.setIfInBounds_toArray, List.set_cons_zero, List.set_cons_succ, List.getElem_toArray, List.getElem_cons_succ, List.getElem_cons_zero]
  refine wpAnyH_take (i := 9) (v := .iface 101 (.agg #[.int .i64 n])) rfl (by kernel_rfl) (by kernel_rfl) (by kernel_rfl) (fun _ _ _ h => h) (Or.inl ⟨by rfl, fun w hSw => by go_simp⟩) hw5 ?_
  try simp only [Act.put, List.setIfInBounds_toArray, List.set_cons_zero, List.set_cons_succ, List.getElem_toArray, List.getElem_cons_succ, List.getElem_cons_zero]
  refine wpAnyH_take (i := 10) (v := .int .i64 0) rfl (by kernel_rfl) (by kernel_rfl) (by kernel_rfl) (fun _ _ _ h => h) (Or.inl ⟨by rfl, fun w hSw => by go_simp⟩) hw5 ?_
  try simp only [Act.put, List.setIfInBounds_toArray, List.set_cons_zero, List.set_cons_succ, List.getElem_toArray, List.getElem_cons_succ, List.getElem_cons_zero]
  refine wpAnyH_done (by kernel_rfl) ?_ _
  try simp
  go_wp2_with fail
  refine wp_region_held_drew (S := fun W => Below W2.heap.size W2 W) (by kernel_rfl) (chain hw5 (below_drew _)) (fun hH2 => ?_)
  have na := na_resuming
  have me := me_resuming
  have HU := Tryz.underlying51
  have HI' : (Tryz.prog.info? 51).map (·.size) = some (regL lv sh (.slice ia its.length ic) kv sl tk dp cs).length := by rw [regL_len, hcs]; kernel_rfl
  refine wpAnyH_take (i := 0) (v := .iface 101 (.agg #[.int .i64 n])) rfl (by kernel_rfl) (by kernel_rfl) (by kernel_rfl) (fun _ _ _ h => h) (Or.inl ⟨by rfl, fun w hSw => by go_simp⟩) hH2 ?_
  refine wpAnyH_take (i := 1) (v := .pointer (some ⟨rb, 0, none⟩)) rfl (by kernel_rfl) (by kernel_rfl) (by kernel_rfl) (fun _ _ _ h => h) (Or.inl ⟨by rfl, fun w hSw => by go_simp⟩) hH2 ?_
  try simp only [Act.put, List.setIfInBounds_toArray, List.set_cons_zero, List.set_cons_succ, List.getElem_toArray, List.getElem_cons_succ, List.getElem_cons_zero]
  refine wpAnyH_take (i := 2) (v := .pointer (some ⟨rb, 0, none⟩)) rfl (by kernel_rfl) (by kernel_rfl) (by kernel_rfl) (fun _ _ _ h => h) (Or.inl ⟨by rfl, fun w hSw => by go_simp⟩) hH2 ?_
  try simp only [Act.put, List.setIfInBounds_toArray, List.set_cons_zero, List.set_cons_succ, List.getElem_toArray, List.getElem_cons_succ, List.getElem_cons_zero]
  refine wpAnyH_take (i := 3) (v := .agg (regL lv sh (.slice ia its.length ic) kv sl tk dp cs).toArray) rfl (by kernel_rfl) (by kernel_rfl) (by kernel_rfl) (fun _ _ _ h => h) (yieldsIf_load_mid (by rfl) 51 (.tmp 20) rfl rb 0 rfl (regL lv sh (.slice ia its.length ic) kv sl tk dp cs) _ (fun w h => reg_range (HW.out w h).2.2.2) HU rfl HI') hH2 ?_
  clear HU HI'
  refine wpAnyH_take (i := 4) (v := .func (.method "loop.example/g00067/impl.against") #[.iface 101 (.agg #[.int .i64 n])] #[]) rfl (by kernel_rfl) (by kernel_rfl) (by kernel_rfl) (fun _ _ _ h => h) (Or.inl ⟨by rfl, fun w hSw => by go_simp⟩) hH2 ?_
  try simp only [Act.put, List.setIfInBounds_toArray, List.set_cons_zero, List.set_cons_succ, List.getElem_toArray, List.getElem_cons_succ, List.getElem_cons_zero]
  refine wpAnyH_take (i := 5) (v := .func (.method "loop.example/g00067/impl.against") #[.iface 101 (.agg #[.int .i64 n])] #[]) rfl (by kernel_rfl) (by kernel_rfl) (by kernel_rfl) (fun _ _ _ h => h) (Or.inl ⟨by rfl, fun w hSw => by go_simp⟩) hH2 ?_
  try simp only [Act.put, List.setIfInBounds_toArray, List.set_cons_zero, List.set_cons_succ, List.getElem_toArray, List.getElem_cons_succ, List.getElem_cons_zero]
  refine wpAnyH_take (i := 6) (v := .iface 101 (.agg #[.int .i64 n])) rfl (by kernel_rfl) (by kernel_rfl) (by kernel_rfl) (fun _ _ _ h => h) (Or.inl ⟨by rfl, fun w hSw => by go_simp⟩) hH2 ?_
  try simp only [Act.put, List.setIfInBounds_toArray, List.set_cons_zero, List.set_cons_succ, List.getElem_toArray, List.getElem_cons_succ, List.getElem_cons_zero]
  refine wpAnyH_ready (rs := [7]) (by kernel_rfl) (by simp) ?_
  refine AllReadyH.cons rfl (fun K hK => ?_) AllReadyH.nil
  go_simp
  go_at_call 118
  refine (HAg.out _ (HW.out _ hH2).1).mono ?_
  rintro e w6 ⟨rfl, hb6⟩
  have hw6 := chain hH2 hb6
  refine hK.out _ _ hw6 (fun _ => ?_)
  clear hK K
  try simp only [Act.put, List.setIfInBounds_toArray, List.set_cons_zero, List.set_cons_succ, List.getElem_toArray, List.getElem_cons_succ, List.getElem_cons_zero]
  refine wpAnyH_take (i := 8) (v := .int .i64 ac) rfl (by kernel_rfl) (by kernel_rfl) (by kernel_rfl) (fun _ _ _ h => h) (Or.inl ⟨by rfl, fun w hSw => by go_simp⟩) hw6 ?_
  try simp only [Act.put, List.setIfInBounds_toArray, List.set_cons_zero, List.set_cons_succ, List.getElem_toArray, List.getElem_cons_succ, List.getElem_cons_zero]
  refine wpAnyH_done (by kernel_rfl) ?_ _
  try simp
  have HO6 : Hid (w6.heap[w.heap.size + 1]? = some (.cells #[.int .i64 0, .int .i64 0] 40 (0, 0))) := (HW.out _ hw6).2.2.1
  have HB6 : Hid (Below w.heap.size w w6) := (HW.out _ hw6).1
  clear hw5 hb5 hH hH2 hb6 hw6 na me
  by_cases hac : ac = 0
  · have HP := HP2.out hac
    have HC := HCa.out hac
    subst hac
    go_wp2_with fail
    (first | go_at_call 29 | skip)
    refine (HC w6 HB6.out).mono ?_
    rintro e w8 ⟨rfl, hf8, hq8⟩
    have hnx : ¬ RgX rb lv kv (w.heap.size + 1) := by
      rintro (e | e | e)
      · have := HG0.out.reg.lt; omega
      · have := (row_lt HG0.out.lrow _ e).2; omega
      · have := (row_lt HG0.out.krow _ e).2; omega
    have HO : Hid (w8.heap[w.heap.size + 1]? = some (.cells #[.int .i64 0, .int .i64 0] 40 (0, 0))) := (hf8.block _ (blkLt HO6.out) hnx).trans HO6.out
    have HF8 : Hid (Fr (RgX rb lv kv) w w8) := (Fr.of HB6.out).trans hf8
    have HQ8 : Hid (Q w8) := hq8
    clear hf8 hq8 hnx
    have z0 := blkFree HO.out 0
    have z1 := blkFree HO.out 1
    have y0 := blkCell HO.out 0 _ rfl
    have y1 := blkCell HO.out 1 _ rfl
    have hlo := blkLt HO.out
    go_wp2
    have hq := fin2 HO.out (.int .i64 0) (.int .i64 num)
    have hfo : Fr (fun k => k = w.heap.size + 1) w8 ((w8.setCell ⟨w.heap.size + 1, 0, none⟩ (.int .i64 0)).setCell ⟨w.heap.size + 1, 1, none⟩ (.int .i64 num)) := ((Fr.refl (fun k => k = w.heap.size + 1) w8).set (b := w.heap.size + 1) rfl _ _).set (b := w.heap.size + 1) rfl _ _
    generalize ((w8.setCell ⟨w.heap.size + 1, 0, none⟩ (.int .i64 0)).setCell ⟨w.heap.size + 1, 1, none⟩ (.int .i64 num)) = W9 at *
    have p0 := blkCell hq 0 _ rfl
    have p1 := blkCell hq 1 _ rfl
    exact bodyPost_ret (v := .agg #[.int .i64 0, .int .i64 num]) (by simp [results, Tryz.results13, go_sem, p0, p1]) rfl (HP _ (Fr.far2 HF8.out hfo (by omega)) (HQ.out _ _ _ _ HQ8.out HO.out hfo))
  · have h1 : (ac != 0) = true := by simpa using hac
    have HP := HP1.out hac
    have HO : Hid (w6.heap[w.heap.size + 1]? = some (.cells #[.int .i64 0, .int .i64 0] 40 (0, 0))) := HO6.out
    have z0 := blkFree HO.out 0
    have z1 := blkFree HO.out 1
    have y0 := blkCell HO.out 0 _ rfl
    have y1 := blkCell HO.out 1 _ rfl
    have hlo := blkLt HO.out
    go_wp2
    have hq := fin2 HO.out (.int .i64 ac) (.int .i64 0)
    have hfo : Fr (fun k => k = w.heap.size + 1) w6 ((w6.setCell ⟨w.heap.size + 1, 0, none⟩ (.int .i64 ac)).setCell ⟨w.heap.size + 1, 1, none⟩ (.int .i64 0)) := ((Fr.refl (fun k => k = w.heap.size + 1) w6).set (b := w.heap.size + 1) rfl _ _).set (b := w.heap.size + 1) rfl _ _
    generalize ((w6.setCell ⟨w.heap.size + 1, 0, none⟩ (.int .i64 ac)).setCell ⟨w.heap.size + 1, 1, none⟩ (.int .i64 0)) = W9 at *
    have p0 := blkCell hq 0 _ rfl
    have p1 := blkCell hq 1 _ rfl
    exact bodyPost_ret (v := .agg #[.int .i64 ac, .int .i64 0]) (by simp [results, Tryz.results13, go_sem, p0, p1]) rfl (HP _ (Fr.drop2 HB6.out hfo (by omega)))
set_option maxHeartbeats 8000000 in
set_option maxRecDepth 8000 in
theorem do_paying (R : ByteArray → Int × ByteArray × Int × Int) (hR : RsI R) (ia : Option Addr) (ic : Nat) (its : List RIt) (hok : ∀ r ∈ its, ItN r) (hil : its.length ≤ 40) (B rb : Nat) (lv : Value) (ls : List RLi) (sh : Int) (kv : Value) (ks : List Kb) (sl tk dp : Int) (cs : List Int) (hcs : cs.length = 9) (tx : ByteArray) (n : Int) (w : World) (hg : Rg B rb (.slice ia its.length ic) lv ls sh kv ks sl tk dp cs w) (hI : ReadsIt B w ia its) (hB : B ≤ w.heap.size)  (ac num : Int) (Q : World → Prop) (hQ : Aside2 Q)
    (hag : ∀ W, Below w.heap.size w W → Calls Tryz.prog 119 #[.agg #[.int .i64 n], .agg (regL lv sh (.slice ia its.length ic) kv sl tk dp cs).toArray] W fun e w' => e = .returned (.int .i64 ac) ∧ Below W.heap.size W w')
    (hca : ac = 0 → ∀ W, Below w.heap.size w W → Calls Tryz.prog 29 #[.pointer (some ⟨rb, 0, none⟩), .iface 103 (.agg #[.int .i64 n])] W fun e w' => e = .returned (.int .i64 num) ∧ Fr (RgX rb lv kv) W w' ∧ Q w') :
    Calls Tryz.prog 13 #[.pointer (some ⟨rb, 0, none⟩), .agg #[.int .i64 6, .string tx, .int .i64 n]] w fun e w' => (ac ≠ 0 ∧ e = .returned (.agg #[.int .i64 ac, .int .i64 0]) ∧ Below w.heap.size w w') ∨ (ac = 0 ∧ e = .returned (.agg #[.int .i64 0, .int .i64 num]) ∧ Fr (RgX rb lv kv) w w' ∧ Q w') := by
  have HDd : Hid (∀ W, Below w.heap.size w W → Calls Tryz.prog 28 #[.slice ia its.length ic, .agg #[.int .i64 6, .string tx, .int .i64 n]] W fun e w' => e = .returned (.tuple #[deedV R its 6 tx n, .int .i64 (deedE R its 6 tx n)]) ∧ Below W.heap.size W w') := fun W hW => deedOf_any R hR ia ic its hok hil 6 tx n W (((hI.below (hW.mono hB)).mono (Nat.le_trans hB hW.size)))
  rw [show deedV R its 6 tx n = .iface 103 (.agg #[.int .i64 n]) from rfl, show deedE R its 6 tx n = 0 from rfl] at HDd
  have HG0 : Hid (Rg B rb (.slice ia its.length ic) lv ls sh kv ks sl tk dp cs w) := hg
  have HAg : Hid (∀ W, Below w.heap.size w W → Calls Tryz.prog 119 #[.agg #[.int .i64 n], .agg (regL lv sh (.slice ia its.length ic) kv sl tk dp cs).toArray] W fun e w' => e = .returned (.int .i64 ac) ∧ Below W.heap.size W w') := hag
  have HCa : Hid (ac = 0 → ∀ W, Below w.heap.size w W → Calls Tryz.prog 29 #[.pointer (some ⟨rb, 0, none⟩), .iface 103 (.agg #[.int .i64 n])] W fun e w' => e = .returned (.int .i64 num) ∧ Fr (RgX rb lv kv) W w' ∧ Q w') := hca
  have HQ : Hid (Aside2 Q) := hQ
  clear hg hI hok hR hag hca hQ
  generalize hpost : (fun (e : Ending) (w' : World) => (ac ≠ 0 ∧ e = .returned (.agg #[.int .i64 ac, .int .i64 0]) ∧ Below w.heap.size w w') ∨ (ac = 0 ∧ e = .returned (.agg #[.int .i64 0, .int .i64 num]) ∧ Fr (RgX rb lv kv) w w' ∧ Q w')) = post
  have HP1 : Hid (ac ≠ 0 → ∀ w', Below w.heap.size w w' → post (.returned (.agg #[.int .i64 ac, .int .i64 0])) w') := fun h w' hb => by subst hpost; exact .inl ⟨h, rfl, hb⟩
  have HP2 : Hid (ac = 0 → ∀ w', Fr (RgX rb lv kv) w w' → Q w' → post (.returned (.agg #[.int .i64 0, .int .i64 num])) w') := fun h w' hb hq => by subst hpost; exact .inr ⟨h, rfl, hb, hq⟩
  clear hpost
  go_enter Tryz.func13, Tryz.ntmps13
  go_wp2_with fail
  have hba : ((w.alloc (Obj.cells #[.int .i64 6, .string tx, .int .i64 n] 42)).alloc (Obj.cells #[.int .i64 0, .int .i64 0] 40)).heap[w.heap.size]? = some (.cells #[.int .i64 6, .string tx, .int .i64 n] 42 (0, 0)) := (Below.heap_alloc _ _ _ (by simp)).trans (heapNew _ _)
  have hbo : ((w.alloc (Obj.cells #[.int .i64 6, .string tx, .int .i64 n] 42)).alloc (Obj.cells #[.int .i64 0, .int .i64 0] 40)).heap[w.heap.size + 1]? = some (.cells #[.int .i64 0, .int .i64 0] 40 (0, 0)) := by
    have := heapNew (w.alloc (Obj.cells #[.int .i64 6, .string tx, .int .i64 n] 42)) (Obj.cells #[.int .i64 0, .int .i64 0] 40)
    rwa [show (w.alloc (Obj.cells #[.int .i64 6, .string tx, .int .i64 n] 42)).heap.size = w.heap.size + 1 by simp] at this
  have hW2 : Below w.heap.size w ((w.alloc (Obj.cells #[.int .i64 6, .string tx, .int .i64 n] 42)).alloc (Obj.cells #[.int .i64 0, .int .i64 0] 40)) := chain (below_alloc _ _) (below_alloc _ _)
  generalize ((w.alloc (Obj.cells #[.int .i64 6, .string tx, .int .i64 n] 42)).alloc (Obj.cells #[.int .i64 0, .int .i64 0] 40)) = W2 at *
  have HW : Hid (∀ W, Below W2.heap.size W2 W → Below w.heap.size w W ∧ W.heap[w.heap.size]? = some (.cells #[.int .i64 6, .string tx, .int .i64 n] 42 (0, 0)) ∧ W.heap[w.heap.size + 1]? = some (.cells #[.int .i64 0, .int .i64 0] 40 (0, 0)) ∧ RegIs W rb lv sh (.slice ia its.length ic) kv sl tk dp cs) := fun W hW => ⟨chain hW2 hW, (hW.block _ (blkLt hba)).trans hba, (hW.block _ (blkLt hbo)).trans hbo, HG0.out.reg.later (chain hW2 hW)⟩
  clear hba hbo hW2
  refine wp_region_held_drew (S := fun W => Below W2.heap.size W2 W) (by kernel_rfl) (below_drew _) (fun hH => ?_)
  refine wpAnyH_take (i := 0) (v := .pointer (some ⟨rb, 0, none⟩)) rfl (by kernel_rfl) (by kernel_rfl) (by kernel_rfl) (fun _ _ _ h => h) (Or.inl ⟨by rfl, fun w hSw => by go_simp⟩) hH ?_
  refine wpAnyH_take (i := 1) (v := .pointer (some ⟨rb, 0, none⟩)) rfl (by kernel_rfl) (by kernel_rfl) (by kernel_rfl) (fun _ _ _ h => h) (Or.inl ⟨by rfl, fun w hSw => by go_simp⟩) hH ?_
  try simp only [Act.put, List.setIfInBounds_toArray, List.set_cons_zero, List.set_cons_succ, List.getElem_toArray, List.getElem_cons_succ, List.getElem_cons_zero]
  refine wpAnyH_take (i := 2) (v := .pointer (some ⟨rb, 2, none⟩)) rfl (by kernel_rfl) (by kernel_rfl) (by kernel_rfl) (fun _ _ _ h => h) (Or.inl ⟨by rfl, fun w hSw => by go_simp⟩) hH ?_
  try simp only [Act.put, List.setIfInBounds_toArray, List.set_cons_zero, List.set_cons_succ, List.getElem_toArray, List.getElem_cons_succ, List.getElem_cons_zero]
  refine wpAnyH_take (i := 3) (v := .slice ia its.length ic) rfl (by kernel_rfl) (by kernel_rfl) (by kernel_rfl) (fun _ _ _ h => h) (Or.inl ⟨by rfl, fun w hSw => by have f0 := (HW.out w hSw).2.2.2.cells.2.2.1; go_simp⟩) hH ?_
  try simp only [Act.put, List.setIfInBounds_toArray, List.set_cons_zero, List.set_cons_succ, List.getElem_toArray, List.getElem_cons_succ, List.getElem_cons_zero]
  refine wpAnyH_take (i := 4) (v := .agg #[.int .i64 6, .string tx, .int .i64 n]) rfl (by kernel_rfl) (by kernel_rfl) (by kernel_rfl) (fun _ _ _ h => h) (Or.inl ⟨by rfl, fun w hSw => by have f0 := blkCell (HW.out w hSw).2.1 0 _ rfl; have f1 := blkCell (HW.out w hSw).2.1 1 _ rfl; have f2 := blkCell (HW.out w hSw).2.1 2 _ rfl; go_simp⟩) hH ?_
  try simp only [Act.put, List.setIfInBounds_toArray, List.set_cons_zero, List.set_cons_succ, List.getElem_toArray, List.getElem_cons_succ, List.getElem_cons_zero]
  refine wpAnyH_ready (rs := [5]) (by kernel_rfl) (by simp) ?_
  refine AllReadyH.cons rfl (fun K hK => ?_) AllReadyH.nil
  go_simp
  go_at_call 28
  refine (HDd.out _ (HW.out _ hH).1).mono ?_
  rintro e w5 ⟨rfl, hb5⟩
  have hw5 := chain hH hb5
  refine hK.out _ _ hw5 (fun _ => ?_)
  clear hK K
  try simp only [Act.put, List.setIfInBounds_toArray, List.set_cons_zero, List.set_cons_succ, List.getElem_toArray, List.getElem_cons_succ, List.getElem_cons_zero]
  refine wpAnyH_take (i := 6) (v := .tuple #[.iface 103 (.agg #[.int .i64 n]), .int .i64 0]) rfl (by kernel_rfl) (by kernel_rfl) (by kernel_rfl) (fun _ _ _ h => h) (Or.inl ⟨by rfl, fun w hSw => by go_simp⟩) hw5 ?_
  try simp only [Act.put, List.setIfInBounds_toArray, List.set_cons_zero, List.set_cons_succ, List.getElem_toArray, List.getElem_cons_succ, List.getElem_cons_zero]
  refine wpAnyH_take (i := 7) (v := .iface 103 (.agg #[.int .i64 n])) rfl (by kernel_rfl) (by kernel_rfl) (by kernel_rfl) (fun _ _ _ h => h) (Or.inl ⟨by rfl, fun w hSw => by go_simp⟩) hw5 ?_
  try simp only [Act.put, List.setIfInBounds_toArray, List.set_cons_zero, List.set_cons_succ, List.getElem_toArray, List.getElem_cons_succ, List.getElem_cons_zero]
  refine wpAnyH_take (i := 8) (v := .int .i64 0) rfl (by kernel_rfl) (by kernel_rfl) (by kernel_rfl) (fun _ _ _ h => h) (Or.inl ⟨by rfl, fun w hSw => by go_simp⟩) hw5 ?_
  try simp only [Act.put, List.setIfInBounds_toArray, List.set_cons_zero, List.set_cons_succ, List.getElem_toArray, List.getElem_cons_succ, List.getElem_cons_zero]
  refine wpAnyH_take (i := 9) (v := .iface 103 (.agg #[.int .i64 n])) rfl (by kernel_rfl) (by kernel_rfl) (by kernel_rfl) (fun _ _ _ h => h) (Or.inl ⟨by rfl, fun w hSw => by go_simp⟩) hw5 ?_
  try simp only [Act.put, List.setIfInBounds_toArray, List.set_cons_zero, List.set_cons_succ, List.getElem_toArray, List.getElem_cons_succ, List.getElem_cons_zero]
  refine wpAnyH_take (i := 10) (v := .int .i64 0) rfl (by kernel_rfl) (by kernel_rfl) (by kernel_rfl) (fun _ _ _ h => h) (Or.inl ⟨by rfl, fun w hSw => by go_simp⟩) hw5 ?_
  try simp only [Act.put, List.setIfInBounds_toArray, List.set_cons_zero, List.set_cons_succ, List.getElem_toArray, List.getElem_cons_succ, List.getElem_cons_zero]
  refine wpAnyH_done (by kernel_rfl) ?_ _
  try simp
  go_wp2_with fail
  refine wp_region_held_drew (S := fun W => Below W2.heap.size W2 W) (by kernel_rfl) (chain hw5 (below_drew _)) (fun hH2 => ?_)
  have na := na_paying
  have me := me_paying
  have HU := Tryz.underlying51
  have HI' : (Tryz.prog.info? 51).map (·.size) = some (regL lv sh (.slice ia its.length ic) kv sl tk dp cs).length := by rw [regL_len, hcs]; kernel_rfl
  refine wpAnyH_take (i := 0) (v := .iface 103 (.agg #[.int .i64 n])) rfl (by kernel_rfl) (by kernel_rfl) (by kernel_rfl) (fun _ _ _ h => h) (Or.inl ⟨by rfl, fun w hSw => by go_simp⟩) hH2 ?_
  refine wpAnyH_take (i := 1) (v := .pointer (some ⟨rb, 0, none⟩)) rfl (by kernel_rfl) (by kernel_rfl) (by kernel_rfl) (fun _ _ _ h => h) (Or.inl ⟨by rfl, fun w hSw => by go_simp⟩) hH2 ?_
  try simp only [Act.put, List.setIfInBounds_toArray, List.set_cons_zero, List.set_cons_succ, List.getElem_toArray, List.getElem_cons_succ, List.getElem_cons_zero]
  refine wpAnyH_take (i := 2) (v := .pointer (some ⟨rb, 0, none⟩)) rfl (by kernel_rfl) (by kernel_rfl) (by kernel_rfl) (fun _ _ _ h => h) (Or.inl ⟨by rfl, fun w hSw => by go_simp⟩) hH2 ?_
  try simp only [Act.put, List.setIfInBounds_toArray, List.set_cons_zero, List.set_cons_succ, List.getElem_toArray, List.getElem_cons_succ, List.getElem_cons_zero]
  refine wpAnyH_take (i := 3) (v := .agg (regL lv sh (.slice ia its.length ic) kv sl tk dp cs).toArray) rfl (by kernel_rfl) (by kernel_rfl) (by kernel_rfl) (fun _ _ _ h => h) (yieldsIf_load_mid (by rfl) 51 (.tmp 20) rfl rb 0 rfl (regL lv sh (.slice ia its.length ic) kv sl tk dp cs) _ (fun w h => reg_range (HW.out w h).2.2.2) HU rfl HI') hH2 ?_
  clear HU HI'
  refine wpAnyH_take (i := 4) (v := .func (.method "loop.example/g00067/impl.against") #[.iface 103 (.agg #[.int .i64 n])] #[]) rfl (by kernel_rfl) (by kernel_rfl) (by kernel_rfl) (fun _ _ _ h => h) (Or.inl ⟨by rfl, fun w hSw => by go_simp⟩) hH2 ?_
  try simp only [Act.put, List.setIfInBounds_toArray, List.set_cons_zero, List.set_cons_succ, List.getElem_toArray, List.getElem_cons_succ, List.getElem_cons_zero]
  refine wpAnyH_take (i := 5) (v := .func (.method "loop.example/g00067/impl.against") #[.iface 103 (.agg #[.int .i64 n])] #[]) rfl (by kernel_rfl) (by kernel_rfl) (by kernel_rfl) (fun _ _ _ h => h) (Or.inl ⟨by rfl, fun w hSw => by go_simp⟩) hH2 ?_
  try simp only [Act.put, List.setIfInBounds_toArray, List.set_cons_zero, List.set_cons_succ, List.getElem_toArray, List.getElem_cons_succ, List.getElem_cons_zero]
  refine wpAnyH_take (i := 6) (v := .iface 103 (.agg #[.int .i64 n])) rfl (by kernel_rfl) (by kernel_rfl) (by kernel_rfl) (fun _ _ _ h => h) (Or.inl ⟨by rfl, fun w hSw => by go_simp⟩) hH2 ?_
  try simp only [Act.put, List.setIfInBounds_toArray, List.set_cons_zero, List.set_cons_succ, List.getElem_toArray, List.getElem_cons_succ, List.getElem_cons_zero]
  refine wpAnyH_ready (rs := [7]) (by kernel_rfl) (by simp) ?_
  refine AllReadyH.cons rfl (fun K hK => ?_) AllReadyH.nil
  go_simp
  go_at_call 119
  refine (HAg.out _ (HW.out _ hH2).1).mono ?_
  rintro e w6 ⟨rfl, hb6⟩
  have hw6 := chain hH2 hb6
  refine hK.out _ _ hw6 (fun _ => ?_)
  clear hK K
  try simp only [Act.put, List.setIfInBounds_toArray, List.set_cons_zero, List.set_cons_succ, List.getElem_toArray, List.getElem_cons_succ, List.getElem_cons_zero]
  refine wpAnyH_take (i := 8) (v := .int .i64 ac) rfl (by kernel_rfl) (by kernel_rfl) (by kernel_rfl) (fun _ _ _ h => h) (Or.inl ⟨by rfl, fun w hSw => by go_simp⟩) hw6 ?_
  try simp only [Act.put, List.setIfInBounds_toArray, List.set_cons_zero, List.set_cons_succ, List.getElem_toArray, List.getElem_cons_succ, List.getElem_cons_zero]
  refine wpAnyH_done (by kernel_rfl) ?_ _
  try simp
  have HO6 : Hid (w6.heap[w.heap.size + 1]? = some (.cells #[.int .i64 0, .int .i64 0] 40 (0, 0))) := (HW.out _ hw6).2.2.1
  have HB6 : Hid (Below w.heap.size w w6) := (HW.out _ hw6).1
  clear hw5 hb5 hH hH2 hb6 hw6 na me
  by_cases hac : ac = 0
  · have HP := HP2.out hac
    have HC := HCa.out hac
    subst hac
    go_wp2_with fail
    (first | go_at_call 29 | skip)
    refine (HC w6 HB6.out).mono ?_
    rintro e w8 ⟨rfl, hf8, hq8⟩
    have hnx : ¬ RgX rb lv kv (w.heap.size + 1) := by
      rintro (e | e | e)
      · have := HG0.out.reg.lt; omega
      · have := (row_lt HG0.out.lrow _ e).2; omega
      · have := (row_lt HG0.out.krow _ e).2; omega
    have HO : Hid (w8.heap[w.heap.size + 1]? = some (.cells #[.int .i64 0, .int .i64 0] 40 (0, 0))) := (hf8.block _ (blkLt HO6.out) hnx).trans HO6.out
    have HF8 : Hid (Fr (RgX rb lv kv) w w8) := (Fr.of HB6.out).trans hf8
    have HQ8 : Hid (Q w8) := hq8
    clear hf8 hq8 hnx
    have z0 := blkFree HO.out 0
    have z1 := blkFree HO.out 1
    have y0 := blkCell HO.out 0 _ rfl
    have y1 := blkCell HO.out 1 _ rfl
    have hlo := blkLt HO.out
    go_wp2
    have hq := fin2 HO.out (.int .i64 0) (.int .i64 num)
    have hfo : Fr (fun k => k = w.heap.size + 1) w8 ((w8.setCell ⟨w.heap.size + 1, 0, none⟩ (.int .i64 0)).setCell ⟨w.heap.size + 1, 1, none⟩ (.int .i64 num)) := ((Fr.refl (fun k => k = w.heap.size + 1) w8).set (b := w.heap.size + 1) rfl _ _).set (b := w.heap.size + 1) rfl _ _
    generalize ((w8.setCell ⟨w.heap.size + 1, 0, none⟩ (.int .i64 0)).setCell ⟨w.heap.size + 1, 1, none⟩ (.int .i64 num)) = W9 at *
    have p0 := blkCell hq 0 _ rfl
    have p1 := blkCell hq 1 _ rfl
    exact bodyPost_ret (v := .agg #[.int .i64 0, .int .i64 num]) (by simp [results, Tryz.results13, go_sem, p0, p1]) rfl (HP _ (Fr.far2 HF8.out hfo (by omega)) (HQ.out _ _ _ _ HQ8.out HO.out hfo))
  · have h1 : (ac != 0) = true := by simpa using hac
    have HP := HP1.out hac
    have HO : Hid (w6.heap[w.heap.size + 1]? = some (.cells #[.int .i64 0, .int .i64 0] 40 (0, 0))) := HO6.out
    have z0 := blkFree HO.out 0
    have z1 := blkFree HO.out 1
    have y0 := blkCell HO.out 0 _ rfl
    have y1 := blkCell HO.out 1 _ rfl
    have hlo := blkLt HO.out
    go_wp2
    have hq := fin2 HO.out (.int .i64 ac) (.int .i64 0)
    have hfo : Fr (fun k => k = w.heap.size + 1) w6 ((w6.setCell ⟨w.heap.size + 1, 0, none⟩ (.int .i64 ac)).setCell ⟨w.heap.size + 1, 1, none⟩ (.int .i64 0)) := ((Fr.refl (fun k => k = w.heap.size + 1) w6).set (b := w.heap.size + 1) rfl _ _).set (b := w.heap.size + 1) rfl _ _
    generalize ((w6.setCell ⟨w.heap.size + 1, 0, none⟩ (.int .i64 ac)).setCell ⟨w.heap.size + 1, 1, none⟩ (.int .i64 0)) = W9 at *
    have p0 := blkCell hq 0 _ rfl
    have p1 := blkCell hq 1 _ rfl
    exact bodyPost_ret (v := .agg #[.int .i64 ac, .int .i64 0]) (by simp [results, Tryz.results13, go_sem, p0, p1]) rfl (HP _ (Fr.drop2 HB6.out hfo (by omega)))
end Go.Proofs.YtabpkfhbnendjaaGreat
