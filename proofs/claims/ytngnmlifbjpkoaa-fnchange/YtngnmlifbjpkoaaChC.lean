/-
  Rows of rows in memory that grow by append; contract of the program's fewestCoins.
-/
import Derived.Test.YtngnmlifbjpkoaaChB
import Derived.Test.YtngnmlifbjpkoaaRow1
namespace Go.Proofs.Ytngnmlifbjpkoaa
open Go.ChangeShapes Go.WideShapes Go.ChangeAt Go.RowKit
set_option linter.unusedVariables false

/-- v is a row of its own, from block B on, of rows of n numbers each; row i is F i. -/
def Grid (w0 : World) (B : Nat) (v : Value) (k n : Nat) (F : Nat → Nat → Int) (w : World) : Prop :=
  ∃ bs : List Nat, bs.length = k ∧ w.ownsRow B 24 1 v k (bs.map fun b => Value.slice (some ⟨b, 0, none⟩) n n) ∧ B ≤ w.heap.size ∧ Below B w0 w ∧ ∀ i, i < k → RwI w (bs.getD i 0) n (F i)
theorem Grid.later {w0 : World} {B : Nat} {v : Value} {k n : Nat} {F : Nat → Nat → Int} {w w' : World} (h : Grid w0 B v k n F w) (hb : Below w.heap.size w w') : Grid w0 B v k n F w' := by
  obtain ⟨bs, h1, ⟨h2, h3⟩, h4, h5, h6⟩ := h
  refine ⟨bs, h1, ⟨h2, ?_⟩, Nat.le_trans h4 hb.size, h5.trans (hb.mono h4), fun i hi => (h6 i hi).below hb (h6 i hi).lt⟩
  rcases h3 with h3 | ⟨g, cap, cur, e, hB, hg, r⟩
  · exact .inl h3
  · refine .inr ⟨g, cap, cur, e, hB, ?_, r⟩
    obtain ⟨hlt, _⟩ := Array.getElem?_eq_some_iff.1 hg
    exact (hb.block g hlt).trans hg
/-- A row of numbers is no row of rows. -/
theorem far_types {w : World} {b g n : Nat} {f : Nat → Int} {cur : Array Value} (h : RwI w b n f) (hg : w.heap[g]? = some (.cells cur 24 (0, 0))) : b ≠ g := by
  intro e
  subst e
  obtain ⟨c, hc, _⟩ := h
  rw [hc] at hg
  injection hg with hg
  injection hg with _ ht
  exact absurd ht (by decide)
theorem Grid.own {w0 : World} {B : Nat} {v : Value} {k n : Nat} {F : Nat → Nat → Int} {w : World} (h : Grid w0 B v k n F w) : ∃ g cp, v = .slice g k cp := by
  obtain ⟨bs, h1, ⟨h2, h3⟩, _⟩ := h
  rcases h3 with ⟨rfl, rfl⟩ | ⟨g, cap, cur, rfl, _⟩
  · exact ⟨_, _, rfl⟩
  · exact ⟨_, _, rfl⟩
theorem Grid.push {w0 : World} {B : Nat} {v : Value} {k n : Nat} {F : Nat → Nat → Int} {w w' : World} {b g cp : Nat} {bs : List Nat} (h1 : bs.length = k) (h2 : w.ownsRow B 24 1 v k (bs.map fun b => Value.slice (some ⟨b, 0, none⟩) n n)) (h4 : B ≤ w.heap.size) (h5 : Below B w0 w) (h6 : ∀ i, i < k → RwI w (bs.getD i 0) n (F i)) (hr : RwI w b n (F k))
    (ho : w'.ownsRow B 24 1 (.slice (some ⟨g, 0, none⟩) (k + 1) cp) (k + 1) ((bs.map fun b => Value.slice (some ⟨b, 0, none⟩) n n) ++ [.slice (some ⟨b, 0, none⟩) n n])) (hg : w.grownBy w' v.ownBlock) :
    Grid w0 B (.slice (some ⟨g, 0, none⟩) (k + 1) cp) (k + 1) n F w' ∧ RwI w' b n (F k) := by
  have hfar : ∀ b' f, RwI w b' n f → RwI w' b' n f := fun b' f hb' => by
    refine World.rowIs.of_block hb' (hg.block b' hb'.lt ?_)
    rcases h2.2 with ⟨rfl, _⟩ | ⟨g0, cap, cur, rfl, _, hg0, _⟩
    · simp [Value.ownBlock]
    · have := far_types hb' hg0
      simp [Value.ownBlock]; exact this
  refine ⟨⟨bs ++ [b], by simp [h1], ?_, Nat.le_trans h4 hg.size, h5.grown hg h4 (fun q hq => (h2.lt q hq).1), fun i hi => ?_⟩, hfar _ _ hr⟩
  · rw [List.map_append]; exact ho
  · by_cases e : i = k
    · rw [e, show (bs ++ [b]).getD k 0 = b by simp [List.getD_eq_getElem?_getD, h1]]
      exact hfar _ _ hr
    · rw [show (bs ++ [b]).getD i 0 = bs.getD i 0 by simp only [List.getD_eq_getElem?_getD]; rw [List.getElem?_append_left (by omega)]]
      exact hfar _ _ (h6 i (by omega))
theorem Grid.start (w0 w : World) (B b n : Nat) (F : Nat → Nat → Int) (hB : B ≤ w.heap.size) (hb : Below B w0 w) (hr : RwI w b n (F 0)) :
    Grid w0 B (.slice (some ⟨w.heap.size, 0, none⟩) 1 1) 1 n F (w.alloc (Obj.cells #[.slice (some ⟨b, 0, none⟩) n n] 24)) := by
  refine ⟨[b], rfl, ⟨rfl, .inr ⟨w.heap.size, 1, _, rfl, hB, heapNew w _, Nat.le_refl _, by unfold maxLen; omega, rfl, rfl⟩⟩, by simp; omega, hb.trans (Below.mono (below_alloc w _) hB), fun i hi => ?_⟩
  obtain rfl : i = 0 := by omega
  exact hr.below (below_alloc w _) hr.lt
/-- What a grid is read by. -/
def GridAt (w : World) (g k n : Nat) (bs : Nat → Nat) (F : Nat → Nat → Int) : Prop := ∀ i, i < k → w.cell? ⟨g, i, none⟩ = some (.slice (some ⟨bs i, 0, none⟩) n n) ∧ RwI w (bs i) n (F i) ∧ g < w.heap.size
theorem Grid.reads {w0 : World} {B : Nat} {v : Value} {k n : Nat} {F : Nat → Nat → Int} {w : World} (h : Grid w0 B v k n F w) (hk : 0 < k) : ∃ g cp bs, v = .slice (some ⟨g, 0, none⟩) k cp ∧ B ≤ g ∧ GridAt w g k n bs F ∧ Below B w0 w := by
  obtain ⟨bs, h1, h2, h4, h5, h6⟩ := h
  obtain ⟨g, cap, he, hB, hlt⟩ := h2.form (by omega)
  refine ⟨g, cap, fun i => bs.getD i 0, he, hB, fun i hi => ⟨?_, h6 i hi, hlt⟩, h5⟩
  subst he
  rw [h2.cellAt i (by omega)]
  simp [List.getD_eq_getElem?_getD, h1, hi]
theorem GridAt.below {w w' : World} {g k n : Nat} {bs : Nat → Nat} {F : Nat → Nat → Int} (h : GridAt w g k n bs F) (hb : Below w.heap.size w w') : GridAt w' g k n bs F := fun i hi => by
  obtain ⟨h1, h2, h3⟩ := h i hi
  exact ⟨(hb.cell (p := ⟨g, i, none⟩) h3).trans h1, h2.below hb h2.lt, Nat.lt_of_lt_of_le h3 hb.size⟩
theorem r0_start (i : Nat) : (if i = 0 then (0 : Int) else if i ≤ 0 then 721 else 0) = 0 := by
  by_cases e : i = 0
  · rw [if_pos e]
  · rw [if_neg e, if_neg (by omega)]
theorem r0_end (i k : Nat) (h : i ≤ k) : (if i = 0 then (0 : Int) else if i ≤ k then 721 else 0) = r0I i := by
  unfold r0I
  by_cases e : i = 0
  · rw [if_pos e, if_pos e]
  · rw [if_neg e, if_neg e, if_pos h]
theorem slInfo : (Try.prog.info? 24).map (fun i => (i.zero, i.size, i.bytes)) = some (some (.slice none 0 0), 1, 24) := by kernel_rfl
theorem rwI_bound (rs : List RCo) : ∀ k n, 0 ≤ rwI rs k n ∧ rwI rs k n ≤ 721
  | 0, n => by show 0 ≤ r0I n ∧ r0I n ≤ 721; unfold r0I; split <;> omega
  | k + 1, n => bI_bound _ _ _ (fun i => rwI_bound rs k i) _

set_option maxHeartbeats 4000000 in
set_option maxRecDepth 4000 in
theorem fewest_any (a : Option Addr) (cap : Nat) (rs : List RCo) (hl : rs.length ≤ 12) (hr : ∀ r ∈ rs, 1 ≤ r.vl ∧ r.vl ≤ 100000 ∧ 0 ≤ r.ct ∧ r.ct ≤ 60) (due : Nat) (hd : due ≤ 10000) (w : World) (hw : ReadsCo w.heap.size w a rs) :
    Calls Try.prog 16 #[.int .i64 (due : Int), .slice a rs.length cap] w fun e w' => ∃ v, e = .returned v ∧ Grid w w.heap.size v (rs.length + 1) (due + 1) (rwI rs) w' := by
  have hmk := fun w => run_make_row' (P := Try.prog) 24 3 (.int .i64 0) 8 Try.underlying24 intInfo rfl .i64 .i64 (due + 1) (by omega) (by omega) w
  have ecast : (((due + 1 : Nat)) : Int) = (due : Int) + 1 := by omega
  rw [ecast] at hmk
  obtain ⟨i0, hi, hzz⟩ := Option.map_eq_some_iff.1 slInfo
  simp only [Prod.mk.injEq] at hzz
  obtain ⟨hi0, hi1, hi2⟩ := hzz
  have HR : Hid (ReadsCo w.heap.size w a rs) := hw
  have HOK : Hid (∀ r ∈ rs, CoR r) := hr
  have HM : Hid (RwI (w.alloc (Obj.cells (madeCells #[.int .i64 0] (due + 1)) 3)) w.heap.size (due + 1) (fun _ => 0)) := World.rowIs_made w (.int .i64 0) (due + 1) 3
  clear hw hr ecast
  go_enter Try.func16, Try.ntmps16
  go_wp2
  go_loopw [14] (fun x wr => ∃ k : Nat, k ≤ due ∧ x = .int .i64 (k : Int) ∧ RwI wr w.heap.size (due + 1) (fun i => if i = 0 then 0 else if i ≤ k then 721 else 0) ∧ Below w.heap.size w wr) (fun x _ => due - (intOf x).toNat)
  case atStart => exact ⟨0, Nat.zero_le _, rfl, HM.out.congr (fun i hi => (r0_start i).symm), below_alloc _ _⟩
  case round =>
    obtain ⟨k, hk, rfl, hrw, hbw⟩ := hrel
    have HRw : Hid (RwI wr w.heap.size (due + 1) (fun i => if i = 0 then 0 else if i ≤ k then 721 else 0)) := hrw
    have HBw : Hid (Below w.heap.size w wr) := hbw
    clear hrw hbw
    by_cases hlt : k < due
    · have hlt' : (k : Int) < (due : Int) := by omega
      have c0 := HRw.out.cell (i := k + 1) (by omega)
      have f0 : wr.frozen? ⟨w.heap.size, k + 1, none⟩ = false := HRw.out.frozen (k + 1)
      have HN : Hid (RwI (wr.setCell ⟨w.heap.size, k + 1, none⟩ (.int .i64 721)) w.heap.size (due + 1) (fun i => if i = 0 then 0 else if i ≤ k + 1 then 721 else 0)) := (RwI.put HRw.out (k + 1) 721).congr (fun i hi => by
        by_cases e : i = k + 1
        · rw [if_pos e, if_neg (by omega), if_pos (by omega)]
        · rw [if_neg e]
          by_cases e0 : i = 0
          · rw [if_pos e0, if_pos e0]
          · rw [if_neg e0, if_neg e0]
            by_cases e1 : i ≤ k
            · rw [if_pos e1, if_pos (by omega)]
            · rw [if_neg e1, if_neg (by omega)])
      go_wp2
      go_roundw
      case rel => exact ⟨k + 1, by omega, by go_num, HN.out, HBw.out.setCell (Nat.le_refl _) _⟩
      case measure => simp [intOf]; omega
    · obtain rfl : k = due := by omega
      have HG : Hid (Grid w w.heap.size (.slice (some ⟨wr.heap.size, 0, none⟩) 1 1) 1 (k + 1) (rwI rs) (wr.alloc (Obj.cells #[.slice (some ⟨w.heap.size, 0, none⟩) (k + 1) (k + 1)] 24))) := Grid.start w wr w.heap.size w.heap.size (k + 1) (rwI rs) HBw.out.size HBw.out (HRw.out.congr (fun i hi => r0_end i k (by omega)))
      have HR0 : Hid (RwI (wr.alloc (Obj.cells #[.slice (some ⟨w.heap.size, 0, none⟩) (k + 1) (k + 1)] 24)) w.heap.size (k + 1) (rwI rs 0)) := (HRw.out.congr (fun i hi => r0_end i k (by omega))).below (below_alloc _ _) HRw.out.lt
      clear HM HRw HBw hmk
      go_wp2
      go_loopw [5, 7, 26] (fun y v x wj => ∃ (j b : Nat), j ≤ rs.length ∧ x = .int .i64 (j : Int) ∧ y = .slice (some ⟨b, 0, none⟩) (k + 1) (k + 1) ∧ RwI wj b (k + 1) (rwI rs j) ∧ Grid w w.heap.size v (j + 1) (k + 1) (rwI rs) wj) (fun _ _ x _ => rs.length - (intOf x).toNat)
      case atStart => exact ⟨0, _, Nat.zero_le _, rfl, rfl, HR0.out, HG.out⟩
      case round =>
      clear HG HR0
      obtain ⟨j, b, hj, rfl, rfl, hrw, hG⟩ := hrel
      obtain ⟨gv, cv, rfl⟩ := hG.own
      have HRw : Hid (RwI wr b (k + 1) (rwI rs j)) := hrw
      have HG : Hid (Grid w w.heap.size (.slice gv (j + 1) cv) (j + 1) (k + 1) (rwI rs) wr) := hG
      have HB : Hid (Below w.heap.size w wr) := by obtain ⟨_, _, _, _, h, _⟩ := hG; exact h
      clear hrw hG
      by_cases hjl : j < rs.length
      · have hjl' : (j : Int) < (rs.length : Int) := by omega
        rcases HR.out with h | ⟨b0, o0, ha, hB0, ia⟩
        · rw [h] at hjl; simp at hjl
        obtain ⟨c0, c1⟩ := (ia.below HB.out hB0) j hjl
        have hW := fun W (hW : RwI W b (k + 1) (rwI rs j)) => rowWith_any (rs.getD j zCo) (getCo HOK.out hjl) (k + 1) b (k + 1) (by omega) (by omega) (rwI rs j) (rwI_bound rs j) W hW
        have HNx : Hid (nxI (rs.getD j zCo) (rwI rs j) = rwI rs (j + 1)) := rfl
        rw [HNx.out] at hW
        clear ia HNx
        subst ha
        generalize rs.getD j zCo = q at *
        obtain ⟨v, c⟩ := q
        dsimp only at c0 c1 hW
        have HW : Hid (∀ W, RwI W b (k + 1) (rwI rs j) → Calls Try.prog 24 #[.agg #[.int .i64 v, .int .i64 c], .slice (some ⟨b, 0, none⟩) (k + 1) (k + 1)] W fun e w' => ∃ nb, e = .returned (.slice (some ⟨nb, 0, none⟩) (k + 1) (k + 1)) ∧ W.heap.size ≤ nb ∧ RwI w' nb (k + 1) (rwI rs (j + 1)) ∧ Below W.heap.size W w') := hW
        clear hW
        go_wp2_with fail
        (first | go_at_call 24 | skip)
        refine (HW.out _ (HRw.out.below (below_alloc _ _) HRw.out.lt)).mono ?_
        rintro e w2 ⟨nb, rfl, hnb, hrn, hb2⟩
        have HB2 : Hid (Below wr.heap.size wr w2) := chain (below_alloc _ _) hb2
        have HRn : Hid (RwI w2 nb (k + 1) (rwI rs (j + 1))) := hrn
        have HG2 : Hid (Grid w w.heap.size (.slice gv (j + 1) cv) (j + 1) (k + 1) (rwI rs) w2) := HG.out.later HB2.out
        clear hrn hb2 HG HRw HB c0 c1
        obtain ⟨bs, g1, g2, g4, g5, g6⟩ := HG2.out
        have GA : Hid ((w2.alloc (Obj.cells #[.slice (some ⟨nb, 0, none⟩) (k + 1) (k + 1)] 24)).ownsRow w.heap.size 24 1 (.slice gv (j + 1) cv) (j + 1) (bs.map fun b => Value.slice (some ⟨b, 0, none⟩) (k + 1) (k + 1))) := g2.alloc _
        have GB : Hid (Below w.heap.size w (w2.alloc (Obj.cells #[.slice (some ⟨nb, 0, none⟩) (k + 1) (k + 1)] 24))) := g5.alloc g4 _
        have G6 : Hid (∀ i, i < j + 1 → RwI (w2.alloc (Obj.cells #[.slice (some ⟨nb, 0, none⟩) (k + 1) (k + 1)] 24)) (bs.getD i 0) (k + 1) (rwI rs i)) := fun i hi => (g6 i hi).below (below_alloc _ _) (g6 i hi).lt
        have GR : Hid (RwI (w2.alloc (Obj.cells #[.slice (some ⟨nb, 0, none⟩) (k + 1) (k + 1)] 24)) nb (k + 1) (rwI rs (j + 1))) := HRn.out.below (below_alloc _ _) HRn.out.lt
        have g4' : w.heap.size ≤ (w2.alloc (Obj.cells #[.slice (some ⟨nb, 0, none⟩) (k + 1) (k + 1)] 24)).heap.size := by simp; omega
        clear HG2 g2 g5 g6 HRn
        go_wp2_with (at_builtin; refine wpList_append_lies _ rfl _ _ 41 rfl w.heap.size 24 i0 (.slice none 0 0) 1 24 Try.underlying41 hi hi0 hi1 hi2 rfl (by decide) _ _ _ rfl GA.out ⟨w2.heap.size, 0, none⟩ 1 1 [.slice (some ⟨nb, 0, none⟩) (k + 1) (k + 1)] rfl rfl (newsOne w2 _ _) (by intro u hu; simp at hu; subst hu; rfl) (by omega) (by unfold maxLen; omega) (by omega) g4' _ rfl ?_; intro g1' cp1 w5 hown1 hgrow1 hat1 hglt1; have HT5 : Hid _ := Grid.push g1 GA.out g4' GB.out G6.out GR.out hown1 hgrow1; clear hown1 hgrow1 hat1 hglt1)
        go_roundw
        case rel => exact ⟨j + 1, nb, by omega, by go_num, rfl, HT5.out.2, HT5.out.1⟩
        case measure => simp [intOf]; omega
      · obtain rfl : j = rs.length := by omega
        go_wp2
        go_ret
        exact ⟨_, rfl, HG.out⟩
end Go.Proofs.Ytngnmlifbjpkoaa
