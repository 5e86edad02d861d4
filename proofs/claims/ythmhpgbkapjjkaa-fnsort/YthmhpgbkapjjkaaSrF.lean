/-
  Contract of the program's SortRun, for all arguments.
-/
import Derived.Test.YthmhpgbkapjjkaaSrD
import Derived.Test.YthmhpgbkapjjkaaSrE
import Derived.Test.YthmhpgbkapjjkaaRow1
import Derived.Laws.OwnMore
namespace Go.Proofs.Ythmhpgbkapjjkaa
open Go.ChangeShapes Go.WideShapes Go.ChangeAt Go.RowKit Go.Joins Go.Deep Go.Conc
set_option linter.unusedVariables false

/-- An answer of SortRun: two lists of its own. -/
def AnsSo (w : World) (tk rc c : Int) (O R : List Int) (e : Ending) (w' : World) : Prop :=
  ∃ qo co qr cr, e = .returned (.tuple #[.agg #[.int .i64 tk, .int .i64 rc, .slice qo O.length co, .slice qr R.length cr], .int .i64 c]) ∧ w'.ownsRow w.heap.size 3 1 (.slice qo O.length co) O.length (inV O) ∧ w'.ownsRow w.heap.size 3 1 (.slice qr R.length cr) R.length (inV R) ∧ (∀ q, (Value.slice qo O.length co).ownBlock = some q → (Value.slice qr R.length cr).ownBlock ≠ some q) ∧ Below w.heap.size w w'
/-- The same, the first list ahead of the second one in memory. -/
def AnsSi (w : World) (tk rc c : Int) (O R : List Int) (e : Ending) (w' : World) : Prop :=
  ∃ qo co qr cr, e = .returned (.tuple #[.agg #[.int .i64 tk, .int .i64 rc, .slice qo O.length co, .slice qr R.length cr], .int .i64 c]) ∧ w'.ownsRow w.heap.size 3 1 (.slice qo O.length co) O.length (inV O) ∧ w'.ownsRow w.heap.size 3 1 (.slice qr R.length cr) R.length (inV R) ∧ (∀ q q2, (Value.slice qo O.length co).ownBlock = some q → (Value.slice qr R.length cr).ownBlock = some q2 → q < q2) ∧ Below w.heap.size w w'
def soT (ls : List RLa) (ps : List Int) : Int := if soC ls ps = 0 then (srF ls ps).tk else 0
def soN (ls : List RLa) (ps : List Int) : Int := if soC ls ps = 0 then (srF ls ps).rc else 0
def soO (ls : List RLa) (ps : List Int) : List Int := if soC ls ps = 0 then (srF ls ps).out else []
def soJ (ls : List RLa) (ps : List Int) : List Int := if soC ls ps = 0 then (srF ls ps).rej else []
theorem row_wide {w : World} {B B' : Nat} {e : TypeId} {k : Nat} {v : Value} {n : Nat} {xs : List Value} (h : w.ownsRow B e k v n xs) (hB : B' ≤ B) : w.ownsRow B' e k v n xs := by
  obtain ⟨h1, h2⟩ := h
  rcases h2 with h2 | ⟨g, cap, cur, e1, h3, r⟩
  · exact ⟨h1, .inl h2⟩
  · exact ⟨h1, .inr ⟨g, cap, cur, e1, Nat.le_trans hB h3, r⟩⟩
theorem run_makeN (n : Nat) (hn : n ≤ 100000000) (w : World) :
    (Instr.makeSlice 26 (.int .i64 (n : Int)) (.int .i64 (n : Int))).run Try.prog w = .ok (.slice (some ⟨w.heap.size, 0, none⟩) n n) (w.alloc (.cells (madeCells #[.int .i64 0] n) 3)) := by
  obtain ⟨i, hi, hzz⟩ := Option.map_eq_some_iff.1 intInfo1
  simp only [Prod.mk.injEq] at hzz
  obtain ⟨hz, hs, hb⟩ := hzz
  have hr := run_make (P := Try.prog) w 26 3 i (.int .i64 0) Try.underlying26 hi hz .i64 .i64 (n : Int) (n : Int) (by omega) (Int.le_refl _) (by rw [hb]; omega) (by omega)
  simp only [Int.toNat_natCast, hs, Nat.mul_one] at hr
  exact hr
theorem beltInfo : (Try.prog.info? 92).map (·.bytes) = some 24 := by kernel_rfl
theorem run_belt (n : Nat) (hn : n ≤ 100000000) (w : World) : (Instr.makeChan 88 (.int .i64 (n : Int))).run Try.prog w = .ok (.chan (some w.heap.size)) (w.alloc (.chan n #[] false 0 0 false)) := by
  obtain ⟨i, hi, hb⟩ := Option.map_eq_some_iff.1 beltInfo
  exact run_makeChan Try.underlying88 hi .i64 n (by omega) (by rw [hb]; omega)
theorem row_zeros {w : World} {B g n : Nat} (hB : B ≤ g) (hn : n ≤ 100000000) (h : w.heap[g]? = some (.cells (madeCells #[.int .i64 0] n) 3 (0, 0))) : w.ownsRow B 3 1 (.slice (some ⟨g, 0, none⟩) n n) (List.replicate n (0 : Int)).length (inV (List.replicate n (0 : Int))) := by
  have e : (madeCells #[.int .i64 0] n).toList = inV (List.replicate n (0 : Int)) := by
    rw [toList_madeCells_one]; unfold inV; rw [List.map_replicate]
  rw [List.length_replicate]
  refine ⟨by unfold inV; simp, .inr ⟨g, n, _, rfl, hB, h, Nat.le_refl _, by unfold maxLen; omega, by rw [size_madeCells]; omega, ?_⟩⟩
  rw [e, List.take_of_length_le (by unfold inV; simp)]
theorem set_seven {w : World} {b : Nat} {a0 a1 a2 a3 a4 a5 a6 : Value} {t : TypeId} (h : w.heap[b]? = some (.cells #[a0, a1, a2, a3, a4, a5, a6] t (0, 0))) (x0 x1 x2 x3 x4 x5 x6 : Value) :
    (((((((w.setCell ⟨b, 0, none⟩ x0).setCell ⟨b, 1, none⟩ x1).setCell ⟨b, 2, none⟩ x2).setCell ⟨b, 3, none⟩ x3).setCell ⟨b, 4, none⟩ x4).setCell ⟨b, 5, none⟩ x5).setCell ⟨b, 6, none⟩ x6).heap[b]? = some (.cells #[x0, x1, x2, x3, x4, x5, x6] t (0, 0)) ∧
    (∀ d, d ≠ b → (((((((w.setCell ⟨b, 0, none⟩ x0).setCell ⟨b, 1, none⟩ x1).setCell ⟨b, 2, none⟩ x2).setCell ⟨b, 3, none⟩ x3).setCell ⟨b, 4, none⟩ x4).setCell ⟨b, 5, none⟩ x5).setCell ⟨b, 6, none⟩ x6).heap[d]? = w.heap[d]?) ∧
    ∀ B, B ≤ b → Below B w (((((((w.setCell ⟨b, 0, none⟩ x0).setCell ⟨b, 1, none⟩ x1).setCell ⟨b, 2, none⟩ x2).setCell ⟨b, 3, none⟩ x3).setCell ⟨b, 4, none⟩ x4).setCell ⟨b, 5, none⟩ x5).setCell ⟨b, 6, none⟩ x6) := by
  have h1 := heap_setCell_same w b 0 _ t x0 h
  have h2 := heap_setCell_same _ b 1 _ t x1 h1
  have h3 := heap_setCell_same _ b 2 _ t x2 h2
  have h4 := heap_setCell_same _ b 3 _ t x3 h3
  have h5 := heap_setCell_same _ b 4 _ t x4 h4
  have h6 := heap_setCell_same _ b 5 _ t x5 h5
  have h7 := heap_setCell_same _ b 6 _ t x6 h6
  refine ⟨by rw [h7]; simp only [List.setIfInBounds_toArray, List.set_cons_zero, List.set_cons_succ], fun d hd => ?_, fun B hB => ?_⟩
  · rw [heap_setCell_other _ _ _ _ hd, heap_setCell_other _ _ _ _ hd, heap_setCell_other _ _ _ _ hd, heap_setCell_other _ _ _ _ hd, heap_setCell_other _ _ _ _ hd, heap_setCell_other _ _ _ _ hd, heap_setCell_other _ _ _ _ hd]
  · exact (((((((Below.refl B w).setCell (p := ⟨b, 0, none⟩) hB _).setCell (p := ⟨b, 1, none⟩) hB _).setCell (p := ⟨b, 2, none⟩) hB _).setCell (p := ⟨b, 3, none⟩) hB _).setCell (p := ⟨b, 4, none⟩) hB _).setCell (p := ⟨b, 5, none⟩) hB _).setCell (p := ⟨b, 6, none⟩) hB _
theorem set_four {w : World} {b : Nat} {a0 a1 a2 a3 : Value} {t : TypeId} (h : w.heap[b]? = some (.cells #[a0, a1, a2, a3] t (0, 0))) (x0 x1 x2 x3 : Value) :
    ((((w.setCell ⟨b, 0, none⟩ x0).setCell ⟨b, 1, none⟩ x1).setCell ⟨b, 2, none⟩ x2).setCell ⟨b, 3, none⟩ x3).heap[b]? = some (.cells #[x0, x1, x2, x3] t (0, 0)) ∧
    (∀ d, d ≠ b → ((((w.setCell ⟨b, 0, none⟩ x0).setCell ⟨b, 1, none⟩ x1).setCell ⟨b, 2, none⟩ x2).setCell ⟨b, 3, none⟩ x3).heap[d]? = w.heap[d]?) ∧
    ∀ B, B ≤ b → Below B w ((((w.setCell ⟨b, 0, none⟩ x0).setCell ⟨b, 1, none⟩ x1).setCell ⟨b, 2, none⟩ x2).setCell ⟨b, 3, none⟩ x3) := by
  have h1 := heap_setCell_same w b 0 _ t x0 h
  have h2 := heap_setCell_same _ b 1 _ t x1 h1
  have h3 := heap_setCell_same _ b 2 _ t x2 h2
  have h4 := heap_setCell_same _ b 3 _ t x3 h3
  refine ⟨by rw [h4]; simp only [List.setIfInBounds_toArray, List.set_cons_zero, List.set_cons_succ], fun d hd => ?_, fun B hB => ?_⟩
  · rw [heap_setCell_other _ _ _ _ hd, heap_setCell_other _ _ _ _ hd, heap_setCell_other _ _ _ _ hd, heap_setCell_other _ _ _ _ hd]
  · exact ((((Below.refl B w).setCell (p := ⟨b, 0, none⟩) hB _).setCell (p := ⟨b, 1, none⟩) hB _).setCell (p := ⟨b, 2, none⟩) hB _).setCell (p := ⟨b, 3, none⟩) hB _
/-- What has been made so far of a sorter: its lanes' row, its belt, its block. -/
structure MkI (B n m : Nat) (W0 : World) (ow oc os : Option Nat) (V : Array Value) (W : World) : Prop where
  low : Below B W0 W
  aw : ∀ b, ow = some b → B ≤ b ∧ W.heap[b]? = some (.cells (madeCells #[.int .i64 0] n) 3 (0, 0))
  ac : ∀ b, oc = some b → B ≤ b ∧ W.heap[b]? = some (.chan m #[] false 0 0 false)
  sr : ∀ b, os = some b → B ≤ b ∧ W.heap[b]? = some (.cells V 90 (0, 0))
section
variable {B n m : Nat} {W0 : World} {ow oc os : Option Nat} {V : Array Value} {W W' : World}
theorem MkI.size (h : MkI B n m W0 ow oc os V W) (hB : B ≤ W0.heap.size) : B ≤ W.heap.size := Nat.le_trans hB h.low.size
theorem heap_lt {w : World} {b : Nat} {x : Obj} (h : w.heap[b]? = some x) : b < w.heap.size := by
  rcases Nat.lt_or_ge b w.heap.size with q | q
  · exact q
  · rw [Array.getElem?_eq_none q] at h; cases h
theorem MkI.later (h : MkI B n m W0 ow oc os V W) (hB : B ≤ W0.heap.size) (hb : Below W.heap.size W W') : MkI B n m W0 ow oc os V W' :=
  ⟨h.low.trans (hb.mono (h.size hB)), fun b e => ⟨(h.aw b e).1, (hb.block b (heap_lt (h.aw b e).2)).trans (h.aw b e).2⟩, fun b e => ⟨(h.ac b e).1, (hb.block b (heap_lt (h.ac b e).2)).trans (h.ac b e).2⟩, fun b e => ⟨(h.sr b e).1, (hb.block b (heap_lt (h.sr b e).2)).trans (h.sr b e).2⟩⟩
theorem MkI.mkW (h : MkI B n m W0 none oc os V W) (hB : B ≤ W0.heap.size) : MkI B n m W0 (some W.heap.size) oc os V (W.alloc (Obj.cells (madeCells #[.int .i64 0] n) 3)) := by
  have k := h.later hB (below_alloc W (Obj.cells (madeCells #[.int .i64 0] n) 3))
  exact ⟨k.low, fun b e => by cases e; exact ⟨h.size hB, heapNew _ _⟩, k.ac, k.sr⟩
theorem MkI.mkC (h : MkI B n m W0 ow none os V W) (hB : B ≤ W0.heap.size) : MkI B n m W0 ow (some W.heap.size) os V (W.alloc (.chan m #[] false 0 0 false)) := by
  have k := h.later hB (below_alloc W (.chan m #[] false 0 0 false))
  exact ⟨k.low, k.aw, fun b e => by cases e; exact ⟨h.size hB, heapNew _ _⟩, k.sr⟩
theorem MkI.mkS (h : MkI B n m W0 ow oc none V W) (hB : B ≤ W0.heap.size) : MkI B n m W0 ow oc (some W.heap.size) V (W.alloc (Obj.cells V 90)) := by
  have k := h.later hB (below_alloc W (Obj.cells V 90))
  exact ⟨k.low, k.aw, k.ac, fun b e => by cases e; exact ⟨h.size hB, heapNew _ _⟩⟩
end
def Mid4 (la : Option Addr) (lc : Nat) (ls : List RLa) (pa : Option Addr) (pc : Nat) (ps : List Int) (B rb : Nat) (W0 : World) (a : Act) (W : World) : Prop :=
  ∃ u8 u9 u10 u11 u12 u13 u14 u15 u16 u17 u18 u19 u20 u21 u22 u23 u24 u25 u26 u27 u28 u29 u30 u31 u32 u33 u34 u35 u36 u37 u38 u39 u40 u41 u42 u43 u44 u45 : Value, ∃ sb wb cb : Nat, a = ⟨#[.slice la ls.length lc, .slice pa ps.length pc, undef, undef, .pointer (some ⟨rb, 0, none⟩), .int .i64 0, .int .i64 0, .pointer (some ⟨sb, 0, none⟩), u8, u9, u10, u11, u12, u13, u14, u15, u16, u17, u18, u19, u20, u21, u22, u23, u24, u25, u26, u27, u28, u29, u30, u31, u32, u33, u34, u35, u36, u37, u38, u39, u40, u41, u42, u43, u44, u45], []⟩ ∧ MkI B ls.length ps.length W0 (some wb) (some cb) (some sb) #[.slice la ls.length lc, .slice (some ⟨wb, 0, none⟩) ls.length ls.length, .chan (some cb), .int .i64 0, .int .i64 0, .slice none 0 0, .slice none 0 0] W
def LpI (la : Option Addr) (lc : Nat) (ls : List RLa) (pa : Option Addr) (pc : Nat) (ps : List Int) (B rb sb wb ob cb : Nat) (W0 : World) (n : Nat) (a : Act) (W : World) : Prop :=
  ∃ u8 u9 u10 u11 u12 u13 u14 u15 u16 u17 u18 u19 u20 u21 u22 u23 u24 u25 u26 u27 u28 u29 u33 u34 u35 u36 u37 u38 u39 u40 u41 u42 u43 u44 u45 : Value, ∃ k : Nat, a = ⟨#[.slice la ls.length lc, .slice pa ps.length pc, undef, undef, .pointer (some ⟨rb, 0, none⟩), .int .i64 0, .int .i64 0, .pointer (some ⟨sb, 0, none⟩), u8, u9, u10, u11, u12, u13, u14, u15, u16, u17, u18, u19, u20, u21, u22, u23, u24, u25, u26, u27, u28, u29, .slice pa ps.length pc, .int .i64 (ps.length : Int), .int .i64 (k : Int), u33, u34, u35, u36, u37, u38, u39, u40, u41, u42, u43, u44, u45], []⟩ ∧ k ≤ ps.length ∧ n = ps.length - k ∧ SoI B sb wb ob cb la lc ls ps.length ls.length ps.length (bfV ps (beltOf k)) (List.replicate ls.length 0) (List.replicate ps.length 0) [] 0 0 none 0 W ∧ Below B W0 W
set_option maxHeartbeats 8000000 in
set_option maxRecDepth 8000 in
theorem implSort_ok (la : Option Addr) (lc : Nat) (ls : List RLa) (pa : Option Addr) (pc : Nat) (ps : List Int) (h9 : ls.length ≤ 9) (h1 : ps.length ≤ 100) (hls : lnsB ls = true) (hps : alB 0 ((ls.length : Int) - 1) ps = true) (hc : soC ls ps = 0) (w : World) (hr : ReadsLa w.heap.size w la ls) (hp : Reads w.heap.size w pa ps) :
    Calls Try.prog 13 #[.slice la ls.length lc, .slice pa ps.length pc] w (AnsSi w (srF ls ps).tk (srF ls ps).rc 0 (srF ls ps).out (srF ls ps).rej) := by
  obtain ⟨W0, hW0⟩ : ∃ W0, W0 = w.alloc (Obj.cells #[.int .i64 0, .int .i64 0, .slice none 0 0, .slice none 0 0] 41) := ⟨_, rfl⟩
  obtain ⟨rb, hrb⟩ : ∃ rb, rb = w.heap.size := ⟨_, rfl⟩
  obtain ⟨B, hB⟩ : ∃ B, B = W0.heap.size := ⟨_, rfl⟩
  have HE : Hid (W0 = w.alloc (Obj.cells #[.int .i64 0, .int .i64 0, .slice none 0 0, .slice none 0 0] 41) ∧ rb = w.heap.size) := ⟨hW0, hrb⟩
  have hz : B = rb + 1 := by rw [hB, hW0, hrb]; simp
  have HB : Hid (B = rb + 1 ∧ rb = w.heap.size ∧ B = W0.heap.size) := ⟨hz, hrb, hB⟩
  have HL0 : Hid (Below w.heap.size w W0) := by show Below _ _ _; rw [hW0]; exact below_alloc _ _
  have HR : Hid (ReadsLa B W0 la ls ∧ Reads B W0 pa ps) := ⟨(hr.below HL0.out).mono (by omega), (hp.below HL0.out).mono (by omega)⟩
  have HRb : Hid (W0.heap[rb]? = some (.cells #[.int .i64 0, .int .i64 0, .slice none 0 0, .slice none 0 0] 41 (0, 0))) := by show _ = _; rw [hW0, hrb]; exact heapNew _ _
  have HSf : Hid (Calls Try.prog 45 #[.slice la ls.length lc, .slice pa ps.length pc] W0 fun e w' => e = .returned (.int .i64 0) ∧ Below W0.heap.size W0 w') := by
    have := sortFault_any la lc ls pa pc ps (by omega) (by omega) W0 (by rw [← hB]; exact HR.out.1) (by rw [← hB]; exact HR.out.2)
    rw [hc] at this
    exact this
  have HRun : Hid (∀ sb wb ob cb wc oc σ W, SrOK ls ps.length σ → SoS B sb wb ob cb la lc ls ps.length wc oc ps σ W → Calls Try.prog 46 #[.pointer (some ⟨sb, 0, none⟩)] W fun e w' => e = .returned (.tuple #[]) ∧ (∃ F, SoS B sb wb ob cb la lc ls ps.length wc oc ps { srEnd ls ps σ with full := F } w') ∧ Below B W w') := fun sb wb ob cb wc oc σ W h2 h3 => run_any ps rfl h1 hls h9 hps σ h2 W h3
  have HSt : Hid (SrOK ls ps.length (srStart ls.length ps.length 0)) := start_ok ls ps.length h1 0
  have HPn : Hid (∀ k, k < ps.length → 0 ≤ ps.getD k 0 ∧ ps.getD k 0 ≤ (ls.length : Int) - 1) := fun k hk => alB_get hps hk
  have hmk : ∀ w, (Instr.makeSlice 26 (.int .i64 (ls.length : Int)) (.int .i64 (ls.length : Int))).run Try.prog w = .ok (.slice (some ⟨w.heap.size, 0, none⟩) ls.length ls.length) (w.alloc (.cells (madeCells #[.int .i64 0] ls.length) 3)) := fun w => run_makeN ls.length (by omega) w
  have hmk2 : ∀ w, (Instr.makeSlice 26 (.int .i64 (ps.length : Int)) (.int .i64 (ps.length : Int))).run Try.prog w = .ok (.slice (some ⟨w.heap.size, 0, none⟩) ps.length ps.length) (w.alloc (.cells (madeCells #[.int .i64 0] ps.length) 3)) := fun w => run_makeN ps.length (by omega) w
  have hmc : ∀ w, (Instr.makeChan 88 (.int .i64 (ps.length : Int))).run Try.prog w = .ok (.chan (some w.heap.size)) (w.alloc (.chan ps.length #[] false 0 0 false)) := fun w => run_belt ps.length (by omega) w
  have HM2 := hmk2
  clear hr hp hc hls hps hW0 hrb hB hz hmk2
  refine calls_of_wpN Try.func13 rfl ?_
  simp only [Try.ntmps13, List.size_toArray, List.length_cons, List.length_nil, Nat.reduceAdd, Nat.reduceSub, Array.replicate_succ, Array.replicate_zero, List.push_toArray, List.append_toArray, List.nil_append, List.cons_append]
  refine wpN_seq_of ?_
  go_wp2
  rw [← HE.out.1, ← HE.out.2]
  clear HE
  refine wpN_seq_of ?_
  go_wp2_with fail
  (first | go_at_call 45 | skip)
  refine HSf.out.mono ?_
  rintro e w1 ⟨rfl, hb⟩
  have HL1 : Hid (Below B W0 w1) := hb.mono (by rw [HB.out.2.2]; exact Nat.le_refl _)
  clear hb HSf
  go_wp2
  refine wpN_seq_mid (Mid4 la lc ls pa pc ps B rb W0) ?_ ?_
  · refine wp_region_held_drew (S := fun _ => True) (by kernel_rfl) trivial (fun hH => ?_)
    have hB0 : B ≤ W0.heap.size := by rw [HB.out.2.2]; exact Nat.le_refl _
    have HI : Hid (MkI B ls.length ps.length W0 none none none #[.slice none 0 0, .slice none 0 0, .chan none, .int .i64 0, .int .i64 0, .slice none 0 0, .slice none 0 0] w1.drew) := ⟨HL1.out.drew, fun b e => (by cases e), fun b e => (by cases e), fun b e => (by cases e)⟩
    clear HM2 HL1
    generalize w1.drew = X0 at *
    refine wpAnyH_take (i := 0) (v := .slice la ls.length lc) rfl (by kernel_rfl) (by kernel_rfl) (by kernel_rfl) (fun _ _ _ h => h) (Or.inl ⟨by rfl, fun w hSw => by clear hSw; go_simp⟩) trivial ?_
    refine wpAnyH_take (i := 1) (v := .slice la ls.length lc) rfl (by kernel_rfl) (by kernel_rfl) (by kernel_rfl) (fun _ _ _ h => h) (Or.inl ⟨by rfl, fun w hSw => by clear hSw; go_simp⟩) trivial ?_
    try simp only [Act.put, List.setIfInBounds_toArray, List.set_cons_zero, List.set_cons_succ, List.getElem_toArray, List.getElem_cons_succ, List.getElem_cons_zero]
    refine wpAnyH_take (i := 2) (v := .int .i64 (ls.length : Int)) rfl (by kernel_rfl) (by kernel_rfl) (by kernel_rfl) (fun _ _ _ h => h) (Or.inl ⟨by rfl, fun w hSw => by clear hSw; go_simp⟩) trivial ?_
    try simp only [Act.put, List.setIfInBounds_toArray, List.set_cons_zero, List.set_cons_succ, List.getElem_toArray, List.getElem_cons_succ, List.getElem_cons_zero]
    refine wpAnyH_take (i := 4) (v := .slice pa ps.length pc) rfl (by kernel_rfl) (by kernel_rfl) (by kernel_rfl) (fun _ _ _ h => h) (Or.inl ⟨by rfl, fun w hSw => by clear hSw; go_simp⟩) trivial ?_
    try simp only [Act.put, List.setIfInBounds_toArray, List.set_cons_zero, List.set_cons_succ, List.getElem_toArray, List.getElem_cons_succ, List.getElem_cons_zero]
    refine wpAnyH_take (i := 5) (v := .int .i64 (ps.length : Int)) rfl (by kernel_rfl) (by kernel_rfl) (by kernel_rfl) (fun _ _ _ h => h) (Or.inl ⟨by rfl, fun w hSw => by clear hSw; go_simp⟩) trivial ?_
    try simp only [Act.put, List.setIfInBounds_toArray, List.set_cons_zero, List.set_cons_succ, List.getElem_toArray, List.getElem_cons_succ, List.getElem_cons_zero]
    refine wpAnyH_ready (rs := [3, 6, 8]) (by kernel_rfl) (by simp) ?_
    refine (AllReadyH.cons rfl (fun K hK => ?_) (AllReadyH.cons rfl (fun K hK => ?_) (AllReadyH.cons rfl (fun K hK => ?_) AllReadyH.nil)))
    · go_simp
      obtain ⟨wb, hwb⟩ : ∃ wb, wb = X0.heap.size := ⟨_, rfl⟩
      obtain ⟨X1, hX1⟩ : ∃ X1, X1 = X0.alloc (Obj.cells (madeCells #[.int .i64 0] ls.length) 3) := ⟨_, rfl⟩
      have HI1 : Hid (MkI B ls.length ps.length W0 (some wb) none none #[.slice none 0 0, .slice none 0 0, .chan none, .int .i64 0, .int .i64 0, .slice none 0 0, .slice none 0 0] X1) := by
        show MkI _ _ _ _ _ _ _ _ _
        rw [hX1, hwb]; exact HI.out.mkW hB0
      rw [← hX1, ← hwb]
      clear hX1 hwb
      refine hK.out _ _ trivial (fun _ => ?_)
      clear hK K
      try simp only [Act.put, List.setIfInBounds_toArray, List.set_cons_zero, List.set_cons_succ, List.getElem_toArray, List.getElem_cons_succ, List.getElem_cons_zero]
      refine wpAnyH_ready (rs := [6, 8]) (by kernel_rfl) (by simp) ?_
      refine (AllReadyH.cons rfl (fun K hK => ?_) (AllReadyH.cons rfl (fun K hK => ?_) AllReadyH.nil))
      · go_simp
        obtain ⟨cb, hcb⟩ : ∃ cb, cb = X1.heap.size := ⟨_, rfl⟩
        obtain ⟨X2, hX2⟩ : ∃ X2, X2 = X1.alloc (.chan ps.length #[] false 0 0 false) := ⟨_, rfl⟩
        have HI2 : Hid (MkI B ls.length ps.length W0 (some wb) (some cb) none #[.slice none 0 0, .slice none 0 0, .chan none, .int .i64 0, .int .i64 0, .slice none 0 0, .slice none 0 0] X2) := by
          show MkI _ _ _ _ _ _ _ _ _
          rw [hX2, hcb]; exact HI1.out.mkC hB0
        rw [← hX2, ← hcb]
        clear hX2 hcb
        refine hK.out _ _ trivial (fun _ => ?_)
        clear hK K
        try simp only [Act.put, List.setIfInBounds_toArray, List.set_cons_zero, List.set_cons_succ, List.getElem_toArray, List.getElem_cons_succ, List.getElem_cons_zero]
        refine wpAnyH_take (i := 7) (v := .agg #[.slice la ls.length lc, .slice (some ⟨wb, 0, none⟩) ls.length ls.length, .chan (some cb), .int .i64 0, .int .i64 0, .slice none 0 0, .slice none 0 0]) rfl (by kernel_rfl) (by kernel_rfl) (by kernel_rfl) (fun _ _ _ h => h) (Or.inl ⟨by rfl, fun w hSw => by clear hSw; go_simp⟩) trivial ?_
        try simp only [Act.put, List.setIfInBounds_toArray, List.set_cons_zero, List.set_cons_succ, List.getElem_toArray, List.getElem_cons_succ, List.getElem_cons_zero]
        refine wpAnyH_ready (rs := [8]) (by kernel_rfl) (by simp) ?_
        refine (AllReadyH.cons rfl (fun K hK => ?_) AllReadyH.nil)
        · go_simp
          obtain ⟨sb, hsb⟩ : ∃ sb, sb = X2.heap.size := ⟨_, rfl⟩
          obtain ⟨X3, hX3⟩ : ∃ X3, X3 = X2.alloc (Obj.cells #[.slice none 0 0, .slice none 0 0, .chan none, .int .i64 0, .int .i64 0, .slice none 0 0, .slice none 0 0] 90) := ⟨_, rfl⟩
          have HI3 : Hid (MkI B ls.length ps.length W0 (some wb) (some cb) (some sb) #[.slice none 0 0, .slice none 0 0, .chan none, .int .i64 0, .int .i64 0, .slice none 0 0, .slice none 0 0] X3) := by
            show MkI _ _ _ _ _ _ _ _ _
            rw [hX3, hsb]; exact HI2.out.mkS hB0
          rw [← hX3, ← hsb]
          clear hX3 hsb
          refine hK.out _ _ trivial (fun _ => ?_)
          clear hK K
          try simp only [Act.put, List.setIfInBounds_toArray, List.set_cons_zero, List.set_cons_succ, List.getElem_toArray, List.getElem_cons_succ, List.getElem_cons_zero]
          have hbx := (HI3.out.sr sb rfl).2
          have d0 := blkCell hbx 0 _ rfl
          have e0 := blkFree hbx 0
          have d1 := blkCell hbx 1 _ rfl
          have e1 := blkFree hbx 1
          have d2 := blkCell hbx 2 _ rfl
          have e2 := blkFree hbx 2
          have d3 := blkCell hbx 3 _ rfl
          have e3 := blkFree hbx 3
          have d4 := blkCell hbx 4 _ rfl
          have e4 := blkFree hbx 4
          have d5 := blkCell hbx 5 _ rfl
          have e5 := blkFree hbx 5
          have d6 := blkCell hbx 6 _ rfl
          have e6 := blkFree hbx 6
          simp only [List.getElem_toArray, List.getElem_cons_zero, List.getElem_cons_succ] at d0 d1 d2 d3 d4 d5 d6
          refine wpAnyH_ready (rs := [9]) (by kernel_rfl) (by simp) ?_
          refine AllReadyH.cons rfl (fun K hK => ?_) AllReadyH.nil
          go_simp
          clear d0 e0 d1 e1 d2 e2 d3 e3 d4 e4 d5 e5 d6 e6
          obtain ⟨g1, g2, g3⟩ := set_seven hbx (.slice la ls.length lc) (.slice (some ⟨wb, 0, none⟩) ls.length ls.length) (.chan (some cb)) (.int .i64 0) (.int .i64 0) (.slice none 0 0) (.slice none 0 0)
          refine hK.out _ _ trivial (fun _ => ?_)
          clear hK K
          try simp only [Act.put, List.setIfInBounds_toArray, List.set_cons_zero, List.set_cons_succ, List.getElem_toArray, List.getElem_cons_succ, List.getElem_cons_zero]
          refine wpAnyH_done (by kernel_rfl) ?_ _
          have hq := HI3.out
          have hne1 : wb ≠ sb := fun e => by have h1 := (hq.aw wb rfl).2; rw [e, hbx] at h1; simp at h1
          have hne2 : cb ≠ sb := fun e => by have h1 := (hq.ac cb rfl).2; rw [e, hbx] at h1; cases h1
          exact ⟨_, _, _, _, _, _, _, _, _, _, _, _, _, _, _, _, _, _, _, _, _, _, _, _, _, _, _, _, _, _, _, _, _, _, _, _, _, _, sb, wb, cb, rfl, hq.low.trans (g3 B (hq.sr sb rfl).1), fun b e => by cases e; exact ⟨(hq.aw wb rfl).1, (g2 wb hne1).trans (hq.aw wb rfl).2⟩, fun b e => by cases e; exact ⟨(hq.ac cb rfl).1, (g2 cb hne2).trans (hq.ac cb rfl).2⟩, fun b e => by cases e; exact ⟨(hq.sr sb rfl).1, g1⟩⟩
      · go_simp
        obtain ⟨sb, hsb⟩ : ∃ sb, sb = X1.heap.size := ⟨_, rfl⟩
        obtain ⟨X2, hX2⟩ : ∃ X2, X2 = X1.alloc (Obj.cells #[.slice none 0 0, .slice none 0 0, .chan none, .int .i64 0, .int .i64 0, .slice none 0 0, .slice none 0 0] 90) := ⟨_, rfl⟩
        have HI2 : Hid (MkI B ls.length ps.length W0 (some wb) none (some sb) #[.slice none 0 0, .slice none 0 0, .chan none, .int .i64 0, .int .i64 0, .slice none 0 0, .slice none 0 0] X2) := by
          show MkI _ _ _ _ _ _ _ _ _
          rw [hX2, hsb]; exact HI1.out.mkS hB0
        rw [← hX2, ← hsb]
        clear hX2 hsb
        refine hK.out _ _ trivial (fun _ => ?_)
        clear hK K
        try simp only [Act.put, List.setIfInBounds_toArray, List.set_cons_zero, List.set_cons_succ, List.getElem_toArray, List.getElem_cons_succ, List.getElem_cons_zero]
        refine wpAnyH_ready (rs := [6]) (by kernel_rfl) (by simp) ?_
        refine (AllReadyH.cons rfl (fun K hK => ?_) AllReadyH.nil)
        · go_simp
          obtain ⟨cb, hcb⟩ : ∃ cb, cb = X2.heap.size := ⟨_, rfl⟩
          obtain ⟨X3, hX3⟩ : ∃ X3, X3 = X2.alloc (.chan ps.length #[] false 0 0 false) := ⟨_, rfl⟩
          have HI3 : Hid (MkI B ls.length ps.length W0 (some wb) (some cb) (some sb) #[.slice none 0 0, .slice none 0 0, .chan none, .int .i64 0, .int .i64 0, .slice none 0 0, .slice none 0 0] X3) := by
            show MkI _ _ _ _ _ _ _ _ _
            rw [hX3, hcb]; exact HI2.out.mkC hB0
          rw [← hX3, ← hcb]
          clear hX3 hcb
          refine hK.out _ _ trivial (fun _ => ?_)
          clear hK K
          try simp only [Act.put, List.setIfInBounds_toArray, List.set_cons_zero, List.set_cons_succ, List.getElem_toArray, List.getElem_cons_succ, List.getElem_cons_zero]
          refine wpAnyH_take (i := 7) (v := .agg #[.slice la ls.length lc, .slice (some ⟨wb, 0, none⟩) ls.length ls.length, .chan (some cb), .int .i64 0, .int .i64 0, .slice none 0 0, .slice none 0 0]) rfl (by kernel_rfl) (by kernel_rfl) (by kernel_rfl) (fun _ _ _ h => h) (Or.inl ⟨by rfl, fun w hSw => by clear hSw; go_simp⟩) trivial ?_
          try simp only [Act.put, List.setIfInBounds_toArray, List.set_cons_zero, List.set_cons_succ, List.getElem_toArray, List.getElem_cons_succ, List.getElem_cons_zero]
          have hbx := (HI3.out.sr sb rfl).2
          have d0 := blkCell hbx 0 _ rfl
          have e0 := blkFree hbx 0
          have d1 := blkCell hbx 1 _ rfl
          have e1 := blkFree hbx 1
          have d2 := blkCell hbx 2 _ rfl
          have e2 := blkFree hbx 2
          have d3 := blkCell hbx 3 _ rfl
          have e3 := blkFree hbx 3
          have d4 := blkCell hbx 4 _ rfl
          have e4 := blkFree hbx 4
          have d5 := blkCell hbx 5 _ rfl
          have e5 := blkFree hbx 5
          have d6 := blkCell hbx 6 _ rfl
          have e6 := blkFree hbx 6
          simp only [List.getElem_toArray, List.getElem_cons_zero, List.getElem_cons_succ] at d0 d1 d2 d3 d4 d5 d6
          refine wpAnyH_ready (rs := [9]) (by kernel_rfl) (by simp) ?_
          refine AllReadyH.cons rfl (fun K hK => ?_) AllReadyH.nil
          go_simp
          clear d0 e0 d1 e1 d2 e2 d3 e3 d4 e4 d5 e5 d6 e6
          obtain ⟨g1, g2, g3⟩ := set_seven hbx (.slice la ls.length lc) (.slice (some ⟨wb, 0, none⟩) ls.length ls.length) (.chan (some cb)) (.int .i64 0) (.int .i64 0) (.slice none 0 0) (.slice none 0 0)
          refine hK.out _ _ trivial (fun _ => ?_)
          clear hK K
          try simp only [Act.put, List.setIfInBounds_toArray, List.set_cons_zero, List.set_cons_succ, List.getElem_toArray, List.getElem_cons_succ, List.getElem_cons_zero]
          refine wpAnyH_done (by kernel_rfl) ?_ _
          have hq := HI3.out
          have hne1 : wb ≠ sb := fun e => by have h1 := (hq.aw wb rfl).2; rw [e, hbx] at h1; simp at h1
          have hne2 : cb ≠ sb := fun e => by have h1 := (hq.ac cb rfl).2; rw [e, hbx] at h1; cases h1
          exact ⟨_, _, _, _, _, _, _, _, _, _, _, _, _, _, _, _, _, _, _, _, _, _, _, _, _, _, _, _, _, _, _, _, _, _, _, _, _, _, sb, wb, cb, rfl, hq.low.trans (g3 B (hq.sr sb rfl).1), fun b e => by cases e; exact ⟨(hq.aw wb rfl).1, (g2 wb hne1).trans (hq.aw wb rfl).2⟩, fun b e => by cases e; exact ⟨(hq.ac cb rfl).1, (g2 cb hne2).trans (hq.ac cb rfl).2⟩, fun b e => by cases e; exact ⟨(hq.sr sb rfl).1, g1⟩⟩
    · go_simp
      obtain ⟨cb, hcb⟩ : ∃ cb, cb = X0.heap.size := ⟨_, rfl⟩
      obtain ⟨X1, hX1⟩ : ∃ X1, X1 = X0.alloc (.chan ps.length #[] false 0 0 false) := ⟨_, rfl⟩
      have HI1 : Hid (MkI B ls.length ps.length W0 none (some cb) none #[.slice none 0 0, .slice none 0 0, .chan none, .int .i64 0, .int .i64 0, .slice none 0 0, .slice none 0 0] X1) := by
        show MkI _ _ _ _ _ _ _ _ _
        rw [hX1, hcb]; exact HI.out.mkC hB0
      rw [← hX1, ← hcb]
      clear hX1 hcb
      refine hK.out _ _ trivial (fun _ => ?_)
      clear hK K
      try simp only [Act.put, List.setIfInBounds_toArray, List.set_cons_zero, List.set_cons_succ, List.getElem_toArray, List.getElem_cons_succ, List.getElem_cons_zero]
      refine wpAnyH_ready (rs := [3, 8]) (by kernel_rfl) (by simp) ?_
      refine (AllReadyH.cons rfl (fun K hK => ?_) (AllReadyH.cons rfl (fun K hK => ?_) AllReadyH.nil))
      · go_simp
        obtain ⟨wb, hwb⟩ : ∃ wb, wb = X1.heap.size := ⟨_, rfl⟩
        obtain ⟨X2, hX2⟩ : ∃ X2, X2 = X1.alloc (Obj.cells (madeCells #[.int .i64 0] ls.length) 3) := ⟨_, rfl⟩
        have HI2 : Hid (MkI B ls.length ps.length W0 (some wb) (some cb) none #[.slice none 0 0, .slice none 0 0, .chan none, .int .i64 0, .int .i64 0, .slice none 0 0, .slice none 0 0] X2) := by
          show MkI _ _ _ _ _ _ _ _ _
          rw [hX2, hwb]; exact HI1.out.mkW hB0
        rw [← hX2, ← hwb]
        clear hX2 hwb
        refine hK.out _ _ trivial (fun _ => ?_)
        clear hK K
        try simp only [Act.put, List.setIfInBounds_toArray, List.set_cons_zero, List.set_cons_succ, List.getElem_toArray, List.getElem_cons_succ, List.getElem_cons_zero]
        refine wpAnyH_take (i := 7) (v := .agg #[.slice la ls.length lc, .slice (some ⟨wb, 0, none⟩) ls.length ls.length, .chan (some cb), .int .i64 0, .int .i64 0, .slice none 0 0, .slice none 0 0]) rfl (by kernel_rfl) (by kernel_rfl) (by kernel_rfl) (fun _ _ _ h => h) (Or.inl ⟨by rfl, fun w hSw => by clear hSw; go_simp⟩) trivial ?_
        try simp only [Act.put, List.setIfInBounds_toArray, List.set_cons_zero, List.set_cons_succ, List.getElem_toArray, List.getElem_cons_succ, List.getElem_cons_zero]
        refine wpAnyH_ready (rs := [8]) (by kernel_rfl) (by simp) ?_
        refine (AllReadyH.cons rfl (fun K hK => ?_) AllReadyH.nil)
        · go_simp
          obtain ⟨sb, hsb⟩ : ∃ sb, sb = X2.heap.size := ⟨_, rfl⟩
          obtain ⟨X3, hX3⟩ : ∃ X3, X3 = X2.alloc (Obj.cells #[.slice none 0 0, .slice none 0 0, .chan none, .int .i64 0, .int .i64 0, .slice none 0 0, .slice none 0 0] 90) := ⟨_, rfl⟩
          have HI3 : Hid (MkI B ls.length ps.length W0 (some wb) (some cb) (some sb) #[.slice none 0 0, .slice none 0 0, .chan none, .int .i64 0, .int .i64 0, .slice none 0 0, .slice none 0 0] X3) := by
            show MkI _ _ _ _ _ _ _ _ _
            rw [hX3, hsb]; exact HI2.out.mkS hB0
          rw [← hX3, ← hsb]
          clear hX3 hsb
          refine hK.out _ _ trivial (fun _ => ?_)
          clear hK K
          try simp only [Act.put, List.setIfInBounds_toArray, List.set_cons_zero, List.set_cons_succ, List.getElem_toArray, List.getElem_cons_succ, List.getElem_cons_zero]
          have hbx := (HI3.out.sr sb rfl).2
          have d0 := blkCell hbx 0 _ rfl
          have e0 := blkFree hbx 0
          have d1 := blkCell hbx 1 _ rfl
          have e1 := blkFree hbx 1
          have d2 := blkCell hbx 2 _ rfl
          have e2 := blkFree hbx 2
          have d3 := blkCell hbx 3 _ rfl
          have e3 := blkFree hbx 3
          have d4 := blkCell hbx 4 _ rfl
          have e4 := blkFree hbx 4
          have d5 := blkCell hbx 5 _ rfl
          have e5 := blkFree hbx 5
          have d6 := blkCell hbx 6 _ rfl
          have e6 := blkFree hbx 6
          simp only [List.getElem_toArray, List.getElem_cons_zero, List.getElem_cons_succ] at d0 d1 d2 d3 d4 d5 d6
          refine wpAnyH_ready (rs := [9]) (by kernel_rfl) (by simp) ?_
          refine AllReadyH.cons rfl (fun K hK => ?_) AllReadyH.nil
          go_simp
          clear d0 e0 d1 e1 d2 e2 d3 e3 d4 e4 d5 e5 d6 e6
          obtain ⟨g1, g2, g3⟩ := set_seven hbx (.slice la ls.length lc) (.slice (some ⟨wb, 0, none⟩) ls.length ls.length) (.chan (some cb)) (.int .i64 0) (.int .i64 0) (.slice none 0 0) (.slice none 0 0)
          refine hK.out _ _ trivial (fun _ => ?_)
          clear hK K
          try simp only [Act.put, List.setIfInBounds_toArray, List.set_cons_zero, List.set_cons_succ, List.getElem_toArray, List.getElem_cons_succ, List.getElem_cons_zero]
          refine wpAnyH_done (by kernel_rfl) ?_ _
          have hq := HI3.out
          have hne1 : wb ≠ sb := fun e => by have h1 := (hq.aw wb rfl).2; rw [e, hbx] at h1; simp at h1
          have hne2 : cb ≠ sb := fun e => by have h1 := (hq.ac cb rfl).2; rw [e, hbx] at h1; cases h1
          exact ⟨_, _, _, _, _, _, _, _, _, _, _, _, _, _, _, _, _, _, _, _, _, _, _, _, _, _, _, _, _, _, _, _, _, _, _, _, _, _, sb, wb, cb, rfl, hq.low.trans (g3 B (hq.sr sb rfl).1), fun b e => by cases e; exact ⟨(hq.aw wb rfl).1, (g2 wb hne1).trans (hq.aw wb rfl).2⟩, fun b e => by cases e; exact ⟨(hq.ac cb rfl).1, (g2 cb hne2).trans (hq.ac cb rfl).2⟩, fun b e => by cases e; exact ⟨(hq.sr sb rfl).1, g1⟩⟩
      · go_simp
        obtain ⟨sb, hsb⟩ : ∃ sb, sb = X1.heap.size := ⟨_, rfl⟩
        obtain ⟨X2, hX2⟩ : ∃ X2, X2 = X1.alloc (Obj.cells #[.slice none 0 0, .slice none 0 0, .chan none, .int .i64 0, .int .i64 0, .slice none 0 0, .slice none 0 0] 90) := ⟨_, rfl⟩
        have HI2 : Hid (MkI B ls.length ps.length W0 none (some cb) (some sb) #[.slice none 0 0, .slice none 0 0, .chan none, .int .i64 0, .int .i64 0, .slice none 0 0, .slice none 0 0] X2) := by
          show MkI _ _ _ _ _ _ _ _ _
          rw [hX2, hsb]; exact HI1.out.mkS hB0
        rw [← hX2, ← hsb]
        clear hX2 hsb
        refine hK.out _ _ trivial (fun _ => ?_)
        clear hK K
        try simp only [Act.put, List.setIfInBounds_toArray, List.set_cons_zero, List.set_cons_succ, List.getElem_toArray, List.getElem_cons_succ, List.getElem_cons_zero]
        refine wpAnyH_ready (rs := [3]) (by kernel_rfl) (by simp) ?_
        refine (AllReadyH.cons rfl (fun K hK => ?_) AllReadyH.nil)
        · go_simp
          obtain ⟨wb, hwb⟩ : ∃ wb, wb = X2.heap.size := ⟨_, rfl⟩
          obtain ⟨X3, hX3⟩ : ∃ X3, X3 = X2.alloc (Obj.cells (madeCells #[.int .i64 0] ls.length) 3) := ⟨_, rfl⟩
          have HI3 : Hid (MkI B ls.length ps.length W0 (some wb) (some cb) (some sb) #[.slice none 0 0, .slice none 0 0, .chan none, .int .i64 0, .int .i64 0, .slice none 0 0, .slice none 0 0] X3) := by
            show MkI _ _ _ _ _ _ _ _ _
            rw [hX3, hwb]; exact HI2.out.mkW hB0
          rw [← hX3, ← hwb]
          clear hX3 hwb
          refine hK.out _ _ trivial (fun _ => ?_)
          clear hK K
          try simp only [Act.put, List.setIfInBounds_toArray, List.set_cons_zero, List.set_cons_succ, List.getElem_toArray, List.getElem_cons_succ, List.getElem_cons_zero]
          refine wpAnyH_take (i := 7) (v := .agg #[.slice la ls.length lc, .slice (some ⟨wb, 0, none⟩) ls.length ls.length, .chan (some cb), .int .i64 0, .int .i64 0, .slice none 0 0, .slice none 0 0]) rfl (by kernel_rfl) (by kernel_rfl) (by kernel_rfl) (fun _ _ _ h => h) (Or.inl ⟨by rfl, fun w hSw => by clear hSw; go_simp⟩) trivial ?_
          try simp only [Act.put, List.setIfInBounds_toArray, List.set_cons_zero, List.set_cons_succ, List.getElem_toArray, List.getElem_cons_succ, List.getElem_cons_zero]
          have hbx := (HI3.out.sr sb rfl).2
          have d0 := blkCell hbx 0 _ rfl
          have e0 := blkFree hbx 0
          have d1 := blkCell hbx 1 _ rfl
          have e1 := blkFree hbx 1
          have d2 := blkCell hbx 2 _ rfl
          have e2 := blkFree hbx 2
          have d3 := blkCell hbx 3 _ rfl
          have e3 := blkFree hbx 3
          have d4 := blkCell hbx 4 _ rfl
          have e4 := blkFree hbx 4
          have d5 := blkCell hbx 5 _ rfl
          have e5 := blkFree hbx 5
          have d6 := blkCell hbx 6 _ rfl
          have e6 := blkFree hbx 6
          simp only [List.getElem_toArray, List.getElem_cons_zero, List.getElem_cons_succ] at d0 d1 d2 d3 d4 d5 d6
          refine wpAnyH_ready (rs := [9]) (by kernel_rfl) (by simp) ?_
          refine AllReadyH.cons rfl (fun K hK => ?_) AllReadyH.nil
          go_simp
          clear d0 e0 d1 e1 d2 e2 d3 e3 d4 e4 d5 e5 d6 e6
          obtain ⟨g1, g2, g3⟩ := set_seven hbx (.slice la ls.length lc) (.slice (some ⟨wb, 0, none⟩) ls.length ls.length) (.chan (some cb)) (.int .i64 0) (.int .i64 0) (.slice none 0 0) (.slice none 0 0)
          refine hK.out _ _ trivial (fun _ => ?_)
          clear hK K
          try simp only [Act.put, List.setIfInBounds_toArray, List.set_cons_zero, List.set_cons_succ, List.getElem_toArray, List.getElem_cons_succ, List.getElem_cons_zero]
          refine wpAnyH_done (by kernel_rfl) ?_ _
          have hq := HI3.out
          have hne1 : wb ≠ sb := fun e => by have h1 := (hq.aw wb rfl).2; rw [e, hbx] at h1; simp at h1
          have hne2 : cb ≠ sb := fun e => by have h1 := (hq.ac cb rfl).2; rw [e, hbx] at h1; cases h1
          exact ⟨_, _, _, _, _, _, _, _, _, _, _, _, _, _, _, _, _, _, _, _, _, _, _, _, _, _, _, _, _, _, _, _, _, _, _, _, _, _, sb, wb, cb, rfl, hq.low.trans (g3 B (hq.sr sb rfl).1), fun b e => by cases e; exact ⟨(hq.aw wb rfl).1, (g2 wb hne1).trans (hq.aw wb rfl).2⟩, fun b e => by cases e; exact ⟨(hq.ac cb rfl).1, (g2 cb hne2).trans (hq.ac cb rfl).2⟩, fun b e => by cases e; exact ⟨(hq.sr sb rfl).1, g1⟩⟩
    · go_simp
      obtain ⟨sb, hsb⟩ : ∃ sb, sb = X0.heap.size := ⟨_, rfl⟩
      obtain ⟨X1, hX1⟩ : ∃ X1, X1 = X0.alloc (Obj.cells #[.slice none 0 0, .slice none 0 0, .chan none, .int .i64 0, .int .i64 0, .slice none 0 0, .slice none 0 0] 90) := ⟨_, rfl⟩
      have HI1 : Hid (MkI B ls.length ps.length W0 none none (some sb) #[.slice none 0 0, .slice none 0 0, .chan none, .int .i64 0, .int .i64 0, .slice none 0 0, .slice none 0 0] X1) := by
        show MkI _ _ _ _ _ _ _ _ _
        rw [hX1, hsb]; exact HI.out.mkS hB0
      rw [← hX1, ← hsb]
      clear hX1 hsb
      refine hK.out _ _ trivial (fun _ => ?_)
      clear hK K
      try simp only [Act.put, List.setIfInBounds_toArray, List.set_cons_zero, List.set_cons_succ, List.getElem_toArray, List.getElem_cons_succ, List.getElem_cons_zero]
      refine wpAnyH_ready (rs := [3, 6]) (by kernel_rfl) (by simp) ?_
      refine (AllReadyH.cons rfl (fun K hK => ?_) (AllReadyH.cons rfl (fun K hK => ?_) AllReadyH.nil))
      · go_simp
        obtain ⟨wb, hwb⟩ : ∃ wb, wb = X1.heap.size := ⟨_, rfl⟩
        obtain ⟨X2, hX2⟩ : ∃ X2, X2 = X1.alloc (Obj.cells (madeCells #[.int .i64 0] ls.length) 3) := ⟨_, rfl⟩
        have HI2 : Hid (MkI B ls.length ps.length W0 (some wb) none (some sb) #[.slice none 0 0, .slice none 0 0, .chan none, .int .i64 0, .int .i64 0, .slice none 0 0, .slice none 0 0] X2) := by
          show MkI _ _ _ _ _ _ _ _ _
          rw [hX2, hwb]; exact HI1.out.mkW hB0
        rw [← hX2, ← hwb]
        clear hX2 hwb
        refine hK.out _ _ trivial (fun _ => ?_)
        clear hK K
        try simp only [Act.put, List.setIfInBounds_toArray, List.set_cons_zero, List.set_cons_succ, List.getElem_toArray, List.getElem_cons_succ, List.getElem_cons_zero]
        refine wpAnyH_ready (rs := [6]) (by kernel_rfl) (by simp) ?_
        refine (AllReadyH.cons rfl (fun K hK => ?_) AllReadyH.nil)
        · go_simp
          obtain ⟨cb, hcb⟩ : ∃ cb, cb = X2.heap.size := ⟨_, rfl⟩
          obtain ⟨X3, hX3⟩ : ∃ X3, X3 = X2.alloc (.chan ps.length #[] false 0 0 false) := ⟨_, rfl⟩
          have HI3 : Hid (MkI B ls.length ps.length W0 (some wb) (some cb) (some sb) #[.slice none 0 0, .slice none 0 0, .chan none, .int .i64 0, .int .i64 0, .slice none 0 0, .slice none 0 0] X3) := by
            show MkI _ _ _ _ _ _ _ _ _
            rw [hX3, hcb]; exact HI2.out.mkC hB0
          rw [← hX3, ← hcb]
          clear hX3 hcb
          refine hK.out _ _ trivial (fun _ => ?_)
          clear hK K
          try simp only [Act.put, List.setIfInBounds_toArray, List.set_cons_zero, List.set_cons_succ, List.getElem_toArray, List.getElem_cons_succ, List.getElem_cons_zero]
          refine wpAnyH_take (i := 7) (v := .agg #[.slice la ls.length lc, .slice (some ⟨wb, 0, none⟩) ls.length ls.length, .chan (some cb), .int .i64 0, .int .i64 0, .slice none 0 0, .slice none 0 0]) rfl (by kernel_rfl) (by kernel_rfl) (by kernel_rfl) (fun _ _ _ h => h) (Or.inl ⟨by rfl, fun w hSw => by clear hSw; go_simp⟩) trivial ?_
          try simp only [Act.put, List.setIfInBounds_toArray, List.set_cons_zero, List.set_cons_succ, List.getElem_toArray, List.getElem_cons_succ, List.getElem_cons_zero]
          have hbx := (HI3.out.sr sb rfl).2
          have d0 := blkCell hbx 0 _ rfl
          have e0 := blkFree hbx 0
          have d1 := blkCell hbx 1 _ rfl
          have e1 := blkFree hbx 1
          have d2 := blkCell hbx 2 _ rfl
          have e2 := blkFree hbx 2
          have d3 := blkCell hbx 3 _ rfl
          have e3 := blkFree hbx 3
          have d4 := blkCell hbx 4 _ rfl
          have e4 := blkFree hbx 4
          have d5 := blkCell hbx 5 _ rfl
          have e5 := blkFree hbx 5
          have d6 := blkCell hbx 6 _ rfl
          have e6 := blkFree hbx 6
          simp only [List.getElem_toArray, List.getElem_cons_zero, List.getElem_cons_succ] at d0 d1 d2 d3 d4 d5 d6
          refine wpAnyH_ready (rs := [9]) (by kernel_rfl) (by simp) ?_
          refine AllReadyH.cons rfl (fun K hK => ?_) AllReadyH.nil
          go_simp
          clear d0 e0 d1 e1 d2 e2 d3 e3 d4 e4 d5 e5 d6 e6
          obtain ⟨g1, g2, g3⟩ := set_seven hbx (.slice la ls.length lc) (.slice (some ⟨wb, 0, none⟩) ls.length ls.length) (.chan (some cb)) (.int .i64 0) (.int .i64 0) (.slice none 0 0) (.slice none 0 0)
          refine hK.out _ _ trivial (fun _ => ?_)
          clear hK K
          try simp only [Act.put, List.setIfInBounds_toArray, List.set_cons_zero, List.set_cons_succ, List.getElem_toArray, List.getElem_cons_succ, List.getElem_cons_zero]
          refine wpAnyH_done (by kernel_rfl) ?_ _
          have hq := HI3.out
          have hne1 : wb ≠ sb := fun e => by have h1 := (hq.aw wb rfl).2; rw [e, hbx] at h1; simp at h1
          have hne2 : cb ≠ sb := fun e => by have h1 := (hq.ac cb rfl).2; rw [e, hbx] at h1; cases h1
          exact ⟨_, _, _, _, _, _, _, _, _, _, _, _, _, _, _, _, _, _, _, _, _, _, _, _, _, _, _, _, _, _, _, _, _, _, _, _, _, _, sb, wb, cb, rfl, hq.low.trans (g3 B (hq.sr sb rfl).1), fun b e => by cases e; exact ⟨(hq.aw wb rfl).1, (g2 wb hne1).trans (hq.aw wb rfl).2⟩, fun b e => by cases e; exact ⟨(hq.ac cb rfl).1, (g2 cb hne2).trans (hq.ac cb rfl).2⟩, fun b e => by cases e; exact ⟨(hq.sr sb rfl).1, g1⟩⟩
      · go_simp
        obtain ⟨cb, hcb⟩ : ∃ cb, cb = X1.heap.size := ⟨_, rfl⟩
        obtain ⟨X2, hX2⟩ : ∃ X2, X2 = X1.alloc (.chan ps.length #[] false 0 0 false) := ⟨_, rfl⟩
        have HI2 : Hid (MkI B ls.length ps.length W0 none (some cb) (some sb) #[.slice none 0 0, .slice none 0 0, .chan none, .int .i64 0, .int .i64 0, .slice none 0 0, .slice none 0 0] X2) := by
          show MkI _ _ _ _ _ _ _ _ _
          rw [hX2, hcb]; exact HI1.out.mkC hB0
        rw [← hX2, ← hcb]
        clear hX2 hcb
        refine hK.out _ _ trivial (fun _ => ?_)
        clear hK K
        try simp only [Act.put, List.setIfInBounds_toArray, List.set_cons_zero, List.set_cons_succ, List.getElem_toArray, List.getElem_cons_succ, List.getElem_cons_zero]
        refine wpAnyH_ready (rs := [3]) (by kernel_rfl) (by simp) ?_
        refine (AllReadyH.cons rfl (fun K hK => ?_) AllReadyH.nil)
        · go_simp
          obtain ⟨wb, hwb⟩ : ∃ wb, wb = X2.heap.size := ⟨_, rfl⟩
          obtain ⟨X3, hX3⟩ : ∃ X3, X3 = X2.alloc (Obj.cells (madeCells #[.int .i64 0] ls.length) 3) := ⟨_, rfl⟩
          have HI3 : Hid (MkI B ls.length ps.length W0 (some wb) (some cb) (some sb) #[.slice none 0 0, .slice none 0 0, .chan none, .int .i64 0, .int .i64 0, .slice none 0 0, .slice none 0 0] X3) := by
            show MkI _ _ _ _ _ _ _ _ _
            rw [hX3, hwb]; exact HI2.out.mkW hB0
          rw [← hX3, ← hwb]
          clear hX3 hwb
          refine hK.out _ _ trivial (fun _ => ?_)
          clear hK K
          try simp only [Act.put, List.setIfInBounds_toArray, List.set_cons_zero, List.set_cons_succ, List.getElem_toArray, List.getElem_cons_succ, List.getElem_cons_zero]
          refine wpAnyH_take (i := 7) (v := .agg #[.slice la ls.length lc, .slice (some ⟨wb, 0, none⟩) ls.length ls.length, .chan (some cb), .int .i64 0, .int .i64 0, .slice none 0 0, .slice none 0 0]) rfl (by kernel_rfl) (by kernel_rfl) (by kernel_rfl) (fun _ _ _ h => h) (Or.inl ⟨by rfl, fun w hSw => by clear hSw; go_simp⟩) trivial ?_
          try simp only [Act.put, List.setIfInBounds_toArray, List.set_cons_zero, List.set_cons_succ, List.getElem_toArray, List.getElem_cons_succ, List.getElem_cons_zero]
          have hbx := (HI3.out.sr sb rfl).2
          have d0 := blkCell hbx 0 _ rfl
          have e0 := blkFree hbx 0
          have d1 := blkCell hbx 1 _ rfl
          have e1 := blkFree hbx 1
          have d2 := blkCell hbx 2 _ rfl
          have e2 := blkFree hbx 2
          have d3 := blkCell hbx 3 _ rfl
          have e3 := blkFree hbx 3
          have d4 := blkCell hbx 4 _ rfl
          have e4 := blkFree hbx 4
          have d5 := blkCell hbx 5 _ rfl
          have e5 := blkFree hbx 5
          have d6 := blkCell hbx 6 _ rfl
          have e6 := blkFree hbx 6
          simp only [List.getElem_toArray, List.getElem_cons_zero, List.getElem_cons_succ] at d0 d1 d2 d3 d4 d5 d6
          refine wpAnyH_ready (rs := [9]) (by kernel_rfl) (by simp) ?_
          refine AllReadyH.cons rfl (fun K hK => ?_) AllReadyH.nil
          go_simp
          clear d0 e0 d1 e1 d2 e2 d3 e3 d4 e4 d5 e5 d6 e6
          obtain ⟨g1, g2, g3⟩ := set_seven hbx (.slice la ls.length lc) (.slice (some ⟨wb, 0, none⟩) ls.length ls.length) (.chan (some cb)) (.int .i64 0) (.int .i64 0) (.slice none 0 0) (.slice none 0 0)
          refine hK.out _ _ trivial (fun _ => ?_)
          clear hK K
          try simp only [Act.put, List.setIfInBounds_toArray, List.set_cons_zero, List.set_cons_succ, List.getElem_toArray, List.getElem_cons_succ, List.getElem_cons_zero]
          refine wpAnyH_done (by kernel_rfl) ?_ _
          have hq := HI3.out
          have hne1 : wb ≠ sb := fun e => by have h1 := (hq.aw wb rfl).2; rw [e, hbx] at h1; simp at h1
          have hne2 : cb ≠ sb := fun e => by have h1 := (hq.ac cb rfl).2; rw [e, hbx] at h1; cases h1
          exact ⟨_, _, _, _, _, _, _, _, _, _, _, _, _, _, _, _, _, _, _, _, _, _, _, _, _, _, _, _, _, _, _, _, _, _, _, _, _, _, sb, wb, cb, rfl, hq.low.trans (g3 B (hq.sr sb rfl).1), fun b e => by cases e; exact ⟨(hq.aw wb rfl).1, (g2 wb hne1).trans (hq.aw wb rfl).2⟩, fun b e => by cases e; exact ⟨(hq.ac cb rfl).1, (g2 cb hne2).trans (hq.ac cb rfl).2⟩, fun b e => by cases e; exact ⟨(hq.sr sb rfl).1, g1⟩⟩
  clear HL1 hmk hmc
  rintro a W1 ⟨u8, u9, u10, u11, u12, u13, u14, u15, u16, u17, u18, u19, u20, u21, u22, u23, u24, u25, u26, u27, u28, u29, u30, u31, u32, u33, u34, u35, u36, u37, u38, u39, u40, u41, u42, u43, u44, u45, sb, wb, cb, rfl, hmi⟩
  have HI : Hid (MkI B ls.length ps.length W0 (some wb) (some cb) (some sb) #[.slice la ls.length lc, .slice (some ⟨wb, 0, none⟩) ls.length ls.length, .chan (some cb), .int .i64 0, .int .i64 0, .slice none 0 0, .slice none 0 0] W1) := hmi
  clear hmi
  have hbx := (HI.out.sr sb rfl).2
  have d5 := ((below_alloc W1 (Obj.cells (madeCells #[.int .i64 0] ps.length) 3)).cell (p := ⟨sb, 5, none⟩) (blkLt hbx)).trans (blkCell hbx 5 _ rfl)
  have e5 := ((below_alloc W1 (Obj.cells (madeCells #[.int .i64 0] ps.length) 3)).frozen (p := ⟨sb, 5, none⟩) (blkLt hbx)).trans (blkFree hbx 5)
  simp only [List.getElem_toArray, List.getElem_cons_zero, List.getElem_cons_succ] at d5
  clear hbx
  refine wpN_seq_of ?_
  go_wp2
  clear d5 e5
  obtain ⟨ob, hob⟩ : ∃ ob, ob = W1.heap.size := ⟨_, rfl⟩
  obtain ⟨W2, hW2⟩ : ∃ W2, W2 = (W1.alloc (Obj.cells (madeCells #[.int .i64 0] ps.length) 3)).setCell ⟨sb, 5, none⟩ (.slice (some ⟨W1.heap.size, 0, none⟩) ps.length ps.length) := ⟨_, rfl⟩
  have HS : Hid (SoI B sb wb ob cb la lc ls ps.length ls.length ps.length (bfV ps (beltOf 0)) (List.replicate ls.length 0) (List.replicate ps.length 0) [] 0 0 none 0 W2 ∧ Below B W0 W2) := by
    have hq := HI.out
    obtain ⟨s1, s2⟩ := hq.sr sb rfl
    obtain ⟨w1', w2⟩ := hq.aw wb rfl
    obtain ⟨c1, c2⟩ := hq.ac cb rfl
    have hB0 : B ≤ W1.heap.size := hq.size (by rw [HB.out.2.2]; exact Nat.le_refl _)
    have ba := below_alloc W1 (Obj.cells (madeCells #[.int .i64 0] ps.length) 3)
    have k1 : ∀ d x, W1.heap[d]? = some x → (W1.alloc (Obj.cells (madeCells #[.int .i64 0] ps.length) 3)).heap[d]? = some x := fun d x e => (ba.block d (heap_lt e)).trans e
    have ko := heapNew W1 (Obj.cells (madeCells #[.int .i64 0] ps.length) 3)
    have hx := heap_setCell_same _ sb 5 _ _ (.slice (some ⟨W1.heap.size, 0, none⟩) ps.length ps.length) (k1 sb _ s2)
    have ho : ∀ d, d ≠ sb → W2.heap[d]? = (W1.alloc (Obj.cells (madeCells #[.int .i64 0] ps.length) 3)).heap[d]? := fun d hd => by rw [hW2]; exact heap_setCell_other _ _ _ _ hd
    have n1 : wb ≠ sb := fun e => by rw [e, s2] at w2; simp at w2
    have n2 : cb ≠ sb := fun e => by rw [e, s2] at c2; cases c2
    have hlt1 := heap_lt s2
    have hlt2 := heap_lt w2
    have n3 : W1.heap.size ≠ sb := by omega
    have hbl : Below B W0 W2 := by rw [hW2]; exact (hq.low.trans (ba.mono hB0)).setCell (p := ⟨sb, 5, none⟩) s1 _
    refine ⟨⟨?_, row_zeros w1' (by omega) ((ho wb n1).trans (k1 wb _ w2)), ?_, ⟨rfl, .inl ⟨rfl, rfl⟩⟩, ⟨0, 0, (ho cb n2).trans (k1 cb _ c2)⟩, by simp, by simp, by rw [hob]; omega, fun q hq => (by cases hq), ⟨s1, c1⟩, HR.out.1.below hbl⟩, hbl⟩
    · rw [hW2, hob]
      rw [hx]
      simp only [List.setIfInBounds_toArray, List.set_cons_zero, List.set_cons_succ, List.length_nil]
    · rw [hob]
      exact row_zeros hB0 (by omega) ((ho _ n3).trans ko)
  rw [← hW2]
  clear hW2 hob HI HM2
  refine wpN_seq (wpN_seq_of ?_)
  go_wp2
  refine wpN_block (wpN_loopG (LpI la lc ls pa pc ps B rb sb wb ob cb W0) ps.length ⟨_, _, _, _, _, _, _, _, _, _, _, _, _, _, _, _, _, _, _, _, _, _, _, _, _, _, _, _, _, _, _, _, _, _, _, 0, rfl, Nat.zero_le _, rfl, HS.out.1, HS.out.2⟩ ?_)
  clear HS
  intro n a W hI
  obtain ⟨u8, u9, u10, u11, u12, u13, u14, u15, u16, u17, u18, u19, u20, u21, u22, u23, u24, u25, u26, u27, u28, u29, u33, u34, u35, u36, u37, u38, u39, u40, u41, u42, u43, u44, u45, k, rfl, hk, hn, hs, hb⟩ := hI
  have HS : Hid (SoI B sb wb ob cb la lc ls ps.length ls.length ps.length (bfV ps (beltOf k)) (List.replicate ls.length 0) (List.replicate ps.length 0) [] 0 0 none 0 W ∧ Below B W0 W) := ⟨hs, hb⟩
  clear hs hb
  by_cases hlt : k < ps.length
  · have hlt' : (k : Int) < (ps.length : Int) := by omega
    rcases HR.out.2 with h | ⟨b1, o1, hpa, hB1, ia⟩
    · rw [h] at hlt; simp at hlt
    subst hpa
    have f0 := (ia.below HS.out.2 hB1) k hlt
    clear ia
    obtain ⟨p, hp⟩ : ∃ p, ps.getD k 0 = p := ⟨_, rfl⟩
    rw [hp] at f0
    refine wpN_seq_of ?_
    go_wp2
    refine wpN_seq_of ?_
    go_wp2
    refine wpN_seq (wpN_block (wpN_seq_of ?_))
    go_wp2
    clear f0
    refine wpN_region ?_
    change RunL _ _ _ [0, 1, 2, 3, 4, 5] _ _
    obtain ⟨⟨_, _, f2, _⟩, _, _⟩ := HS.out.1.cells
    obtain ⟨s0, t0, hch⟩ := HS.out.1.chan
    have HCh : Hid (W.heap[cb]? = some (.chan ps.length (bfV ps (beltOf k)) false s0 t0 false)) := hch
    clear hch
    have HPu : Hid ((bfV ps (beltOf k)).push (.agg #[.int .i64 (k : Int), .int .i64 p, .int .i64 0]) = bfV ps (beltOf (k + 1))) := by
      have := bfV_push ps (beltOf k) k 0
      rw [hp] at this
      rw [beltOf_succ]
      exact this
    have hsz : (bfV ps (beltOf k)).size < ps.length := by rw [bfV_size]; unfold beltOf; simpa using hlt
    have HS2 : Hid (SoI B sb wb ob cb la lc ls ps.length ls.length ps.length (bfV ps (beltOf (k + 1))) (List.replicate ls.length 0) (List.replicate ps.length 0) [] 0 0 none 0 (W.setChan cb ps.length (bfV ps (beltOf (k + 1))) false (s0 + 1) t0 false) ∧ Below B W0 (W.setChan cb ps.length (bfV ps (beltOf (k + 1))) false (s0 + 1) t0 false)) := by
      have := HS.out.1.send (bfV ps (beltOf (k + 1))) (s0 + 1) t0
      exact ⟨this.1, HS.out.2.trans this.2⟩
    clear HS hp
    refine RunL.cons (OneTo.val (w' := W) (v := .pointer (some ⟨sb, 2, none⟩)) rfl (by kernel_rfl) (by go_simp)) ?_
    try simp only [Act.put, List.setIfInBounds_toArray, List.set_cons_zero, List.set_cons_succ, List.getElem_toArray, List.getElem_cons_zero]
    refine RunL.cons (OneTo.val (w' := W) (v := .chan (some cb)) rfl (by kernel_rfl) (by go_simp)) ?_
    try simp only [Act.put, List.setIfInBounds_toArray, List.set_cons_zero, List.set_cons_succ, List.getElem_toArray, List.getElem_cons_succ, List.getElem_cons_zero]
    refine RunL.cons (OneTo.val (w' := W) (v := .int .i64 (k : Int)) rfl (by kernel_rfl) (by go_simp)) ?_
    try simp only [Act.put, List.setIfInBounds_toArray, List.set_cons_zero, List.set_cons_succ, List.getElem_toArray, List.getElem_cons_succ, List.getElem_cons_zero]
    refine RunL.cons (OneTo.val (w' := W) (v := .int .i64 p) rfl (by kernel_rfl) (by go_simp)) ?_
    try simp only [Act.put, List.setIfInBounds_toArray, List.set_cons_zero, List.set_cons_succ, List.getElem_toArray, List.getElem_cons_succ, List.getElem_cons_zero]
    refine RunL.cons (OneTo.val (w' := W) (v := .agg #[.int .i64 (k : Int), .int .i64 p, .int .i64 0]) rfl (by kernel_rfl) (by go_simp)) ?_
    try simp only [Act.put, List.setIfInBounds_toArray, List.set_cons_zero, List.set_cons_succ, List.getElem_toArray, List.getElem_cons_succ, List.getElem_cons_zero]
    clear f2
    refine RunL.cons (OneTo.send (c := cb) (v := .agg #[.int .i64 (k : Int), .int .i64 p, .int .i64 0]) (z' := .tuple #[]) rfl (by kernel_rfl) (by simp [execOp, scase, Act.eval]) HCh.out hsz) ?_
    try simp only [Act.put, List.getElem_toArray, List.getElem_cons_succ, List.getElem_cons_zero]
    rw [HPu.out]
    clear HPu HCh hsz
    generalize W.setChan cb ps.length (bfV ps (beltOf (k + 1))) false (s0 + 1) t0 false = V at *
    refine RunL.nil ?_
    refine wpN_of ?_
    have hwk : IntKind.i64.wrap ((k : Int) + 1) = (k : Int) + 1 := wrap_id _ (by omega) (by omega)
    go_wp2
    exact ⟨ps.length - (k + 1), by omega, _, _, _, _, _, _, _, _, _, _, _, _, _, _, _, _, _, _, _, _, _, _, _, _, _, _, _, _, _, _, _, _, _, _, _, k + 1, rfl, by omega, rfl, HS2.out.1, HS2.out.2⟩
  · have hk2 : k = ps.length := by omega
    subst hk2
    have hlt' : ¬ (ps.length : Int) < (ps.length : Int) := by omega
    refine wpN_seq_of ?_
    go_wp2
    refine wpN_seq_of ?_
    go_wp2
    refine wpN_seq_of ?_
    go_wp2_with fail
    (first | go_at_call 46 | skip)
    refine (HRun.out sb wb ob cb ls.length ps.length (srStart ls.length ps.length 0) W HSt.out ⟨none, 0, HS.out.1⟩).mono ?_
    rintro e W3 ⟨rfl, ⟨F, rg, rk, hso⟩, hb3⟩
    have HS3 : Hid (SoI B sb wb ob cb la lc ls ps.length ls.length ps.length (bfV ps (srF ls ps).belt) F (srF ls ps).out (srF ls ps).rej (srF ls ps).tk (srF ls ps).rc rg rk W3) := hso
    have HB3 : Hid (Below B W0 W3) := HS.out.2.trans hb3
    clear hso hb3 HS HRun HSt
    have hrb3 := (HB3.out.block rb (by have := HB.out; omega)).trans HRb.out
    go_wp2
    refine wpN_of ?_
    have r0 := blkCell hrb3 0 _ rfl
    have r1 := blkCell hrb3 1 _ rfl
    have r2 := blkCell hrb3 2 _ rfl
    have r3 := blkCell hrb3 3 _ rfl
    have q0 := blkFree hrb3 0
    have q1 := blkFree hrb3 1
    have q2 := blkFree hrb3 2
    have q3 := blkFree hrb3 3
    simp only [List.getElem_toArray, List.getElem_cons_zero, List.getElem_cons_succ] at r0 r1 r2 r3
    obtain ⟨⟨_, _, _, f3⟩, ⟨f4, f5, f6⟩, _⟩ := HS3.out.cells
    have hz := HB.out
    have hne : ∀ d, B ≤ d → d ≠ rb := fun d hd => by omega
    obtain ⟨g1, g2, g3⟩ := set_four hrb3 (.int .i64 (srF ls ps).tk) (.int .i64 (srF ls ps).rc) (.slice (some ⟨ob, 0, none⟩) ps.length ps.length) (.slice rg (srF ls ps).rej.length rk)
    have HFin : Hid (∃ V, V = ((((W3.setCell ⟨rb, 0, none⟩ (.int .i64 (srF ls ps).tk)).setCell ⟨rb, 1, none⟩ (.int .i64 (srF ls ps).rc)).setCell ⟨rb, 2, none⟩ (.slice (some ⟨ob, 0, none⟩) ps.length ps.length)).setCell ⟨rb, 3, none⟩ (.slice rg (srF ls ps).rej.length rk)) ∧ V.heap[rb]? = some (.cells #[.int .i64 (srF ls ps).tk, .int .i64 (srF ls ps).rc, .slice (some ⟨ob, 0, none⟩) ps.length ps.length, .slice rg (srF ls ps).rej.length rk] 41 (0, 0)) ∧ V.ownsRow w.heap.size 3 1 (.slice (some ⟨ob, 0, none⟩) ps.length ps.length) (srF ls ps).out.length (inV (srF ls ps).out) ∧ V.ownsRow w.heap.size 3 1 (.slice rg (srF ls ps).rej.length rk) (srF ls ps).rej.length (inV (srF ls ps).rej) ∧ (∀ q q2, (Value.slice (some ⟨ob, 0, none⟩) ps.length ps.length).ownBlock = some q → (Value.slice rg (srF ls ps).rej.length rk).ownBlock = some q2 → q < q2) ∧ Below w.heap.size w V) := by
      refine ⟨_, rfl, g1, row_wide (row_of HS3.out.rowO (fun q hq => g2 q (hne q (row_lt HS3.out.rowO q hq).1))) (by omega), row_wide (row_of HS3.out.rowR (fun q hq => g2 q (hne q (row_lt HS3.out.rowR q hq).1))) (by omega), fun q q2 hq e => ?_, (HL0.out.trans (HB3.out.mono (by omega))).trans (g3 w.heap.size (by omega))⟩
      cases hq
      exact (HS3.out.rr _ e).2
    have hol : ps.length = (srF ls ps).out.length := HS3.out.ol.symm
    have HOl : Hid (ps.length = (srF ls ps).out.length) := hol
    clear g1 g2 g3 hne hz HB3 HS3 hol HR
    generalize (srF ls ps).tk = tk at *
    generalize (srF ls ps).rc = rc at *
    generalize (srF ls ps).rej = rej at *
    generalize (srF ls ps).out = out at *
    go_wp2
    clear r0 r1 r2 r3 q0 q1 q2 q3 f3 f4 f5 f6 hrb3
    obtain ⟨V, hV, h1, h2, h3, h4, h5⟩ := HFin.out
    rw [← hV]
    have c0 := blkCell h1 0 _ rfl
    have c1 := blkCell h1 1 _ rfl
    have c2 := blkCell h1 2 _ rfl
    have c3 := blkCell h1 3 _ rfl
    simp only [List.getElem_toArray, List.getElem_cons_zero, List.getElem_cons_succ] at c0 c1 c2 c3
    refine bodyPost_ret (v := .tuple #[.agg #[.int .i64 tk, .int .i64 rc, .slice (some ⟨ob, 0, none⟩) ps.length ps.length, .slice rg rej.length rk], .int .i64 0]) (by simp [results, Try.results13, go_sem, c0, c1, c2, c3]) rfl ⟨some ⟨ob, 0, none⟩, ps.length, rg, rk, by rw [HOl.out], by rw [← HOl.out]; rw [← HOl.out] at h2; exact h2, h3, by rw [← HOl.out]; exact h4, h5⟩
theorem so_len (ls : List RLa) (ps : List Int) : (soO ls ps).length ≤ ps.length ∧ (soJ ls ps).length ≤ ps.length := by
  by_cases h : soC ls ps = 0
  · rcases so_ways ls ps with ⟨_, e⟩ | ⟨_, _, e⟩ | ⟨_, _, _, e⟩ | ⟨_, _, _, _, e⟩ | ⟨_, t2, t3, t4, _⟩
    · omega
    · omega
    · omega
    · omega
    · have := end_ok t3 t4 rfl _ (start_ok ls ps.length t2 0)
      unfold soO soJ
      rw [if_pos h, if_pos h]
      have h1 := this.ol
      have h2 := this.rl
      exact ⟨Nat.le_of_eq h1, by show (srEnd ls ps (srStart ls.length ps.length 0)).rej.length ≤ _; omega⟩
  · unfold soO soJ
    rw [if_neg h, if_neg h]
    exact ⟨Nat.zero_le _, Nat.zero_le _⟩
theorem so_zero (la : Option Addr) (lc : Nat) (ls : List RLa) (pa : Option Addr) (pc : Nat) (ps : List Int) (h : soC ls ps ≠ 0) : soT ls ps = 0 ∧ soN ls ps = 0 ∧ soO ls ps = [] ∧ soJ ls ps = [] := by
  unfold soT soN soO soJ
  rw [if_neg h, if_neg h, if_neg h, if_neg h]
  exact ⟨rfl, rfl, rfl, rfl⟩
set_option maxHeartbeats 4000000 in
theorem implSort_any (la : Option Addr) (lc : Nat) (ls : List RLa) (pa : Option Addr) (pc : Nat) (ps : List Int) (hl1 : ls.length ≤ 100000000) (hl2 : ps.length ≤ 100000000) (w : World) (hr : ReadsLa w.heap.size w la ls) (hp : Reads w.heap.size w pa ps) :
    Calls Try.prog 13 #[.slice la ls.length lc, .slice pa ps.length pc] w (AnsSi w (soT ls ps) (soN ls ps) (soC ls ps) (soO ls ps) (soJ ls ps)) := by
  by_cases h0 : soC ls ps = 0
  · rcases so_ways ls ps with ⟨_, e⟩ | ⟨_, _, e⟩ | ⟨_, _, _, e⟩ | ⟨_, _, _, _, e⟩ | ⟨t1, t2, t3, t4, e⟩
    · omega
    · omega
    · omega
    · omega
    · unfold soT soN soO soJ
      rw [if_pos h0, if_pos h0, if_pos h0, if_pos h0, h0]
      exact implSort_ok la lc ls pa pc ps t1 t2 t3 t4 h0 w hr hp
  · obtain ⟨e1, e2, e3, e4⟩ := so_zero la lc ls pa pc ps h0
    rw [e1, e2, e3, e4]
    have hb0 : (soC ls ps != 0) = true := by simp [h0]
    obtain ⟨W0, hW0⟩ : ∃ W0, W0 = w.alloc (Obj.cells #[.int .i64 0, .int .i64 0, .slice none 0 0, .slice none 0 0] 41) := ⟨_, rfl⟩
    obtain ⟨rb, hrb⟩ : ∃ rb, rb = w.heap.size := ⟨_, rfl⟩
    have HE : Hid (W0 = w.alloc (Obj.cells #[.int .i64 0, .int .i64 0, .slice none 0 0, .slice none 0 0] 41) ∧ rb = w.heap.size) := ⟨hW0, hrb⟩
    have hbl : Below w.heap.size w W0 := by rw [hW0]; exact below_alloc _ _
    have HSf : Hid (Calls Try.prog 45 #[.slice la ls.length lc, .slice pa ps.length pc] W0 fun e w' => e = .returned (.int .i64 (soC ls ps)) ∧ Below W0.heap.size W0 w') := sortFault_any la lc ls pa pc ps hl1 hl2 W0 ((hr.below hbl).mono hbl.size) ((hp.below hbl).mono hbl.size)
    have HRb : Hid (W0.heap[rb]? = some (.cells #[.int .i64 0, .int .i64 0, .slice none 0 0, .slice none 0 0] 41 (0, 0)) ∧ Below w.heap.size w W0) := ⟨by rw [hW0, hrb]; exact heapNew _ _, hbl⟩
    generalize soC ls ps = c at *
    clear hr hp h0 e1 e2 e3 e4 hW0 hrb hbl
    go_enter Try.func13, Try.ntmps13
    go_upto_region 1 with fail
    rw [← HE.out.1, ← HE.out.2]
    go_wp2_with fail
    (first | go_at_call 45 | skip)
    refine HSf.out.mono ?_
    rintro e w1 ⟨rfl, hb1⟩
    have hrb3 := (hb1.block rb (blkLt HRb.out.1)).trans HRb.out.1
    have hlow := HRb.out.2.trans (hb1.mono HRb.out.2.size)
    have r0 := blkCell hrb3 0 _ rfl
    have r1 := blkCell hrb3 1 _ rfl
    have r2 := blkCell hrb3 2 _ rfl
    have r3 := blkCell hrb3 3 _ rfl
    have q0 := blkFree hrb3 0
    have q1 := blkFree hrb3 1
    have q2 := blkFree hrb3 2
    have q3 := blkFree hrb3 3
    simp only [List.getElem_toArray, List.getElem_cons_zero, List.getElem_cons_succ] at r0 r1 r2 r3
    obtain ⟨g1, g2, g3⟩ := set_four hrb3 (.int .i64 0) (.int .i64 0) (.slice none 0 0) (.slice none 0 0)
    have HFin : Hid (∃ V, V = ((((w1.setCell ⟨rb, 0, none⟩ (.int .i64 0)).setCell ⟨rb, 1, none⟩ (.int .i64 0)).setCell ⟨rb, 2, none⟩ (.slice none 0 0)).setCell ⟨rb, 3, none⟩ (.slice none 0 0)) ∧ V.heap[rb]? = some (.cells #[.int .i64 0, .int .i64 0, .slice none 0 0, .slice none 0 0] 41 (0, 0)) ∧ Below w.heap.size w V) := ⟨_, rfl, g1, hlow.trans (g3 w.heap.size (by rw [HE.out.2]; exact Nat.le_refl _))⟩
    clear g1 g2 g3 hlow hb1
    go_wp2
    clear r0 r1 r2 r3 q0 q1 q2 q3 hrb3
    obtain ⟨V, hV, h1, h5⟩ := HFin.out
    rw [← hV]
    have c0 := blkCell h1 0 _ rfl
    have c1 := blkCell h1 1 _ rfl
    have c2 := blkCell h1 2 _ rfl
    have c3 := blkCell h1 3 _ rfl
    simp only [List.getElem_toArray, List.getElem_cons_zero, List.getElem_cons_succ] at c0 c1 c2 c3
    refine bodyPost_ret (v := .tuple #[.agg #[.int .i64 0, .int .i64 0, .slice none 0 0, .slice none 0 0], .int .i64 c]) (by simp [results, Try.results13, go_sem, c0, c1, c2, c3]) rfl ⟨none, 0, none, 0, rfl, ⟨rfl, .inl ⟨rfl, rfl⟩⟩, ⟨rfl, .inl ⟨rfl, rfl⟩⟩, fun q q2 hq => (by cases hq), h5⟩
end Go.Proofs.Ythmhpgbkapjjkaa
