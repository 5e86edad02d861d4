/-
  Contract of the program's alarmsOf and Alarms, for all arguments.
-/
import Derived.Test.YtillkllkekhmfaaAmM
import Derived.Test.YtillkllkekhmfaaQsA
import Derived.Lib.OwnBridge
namespace Go.Proofs.Ytillkllkekhmfaa
open Go.ChangeShapes Go.WideShapes Go.ChangeAt Go.RowKit Go.Joins Go.Deep Go.Shelf
set_option linter.unusedVariables false
attribute [local go_sem] Oper.semAt_some run_store_float

theorem AmI.cells {w : World} {a : Option Addr} {len cap hi lo : Nat} {hold ab : Int} {on : Bool} {F : List (Int × Int)} {W : World} (h : AmI w a len cap hi lo hold on ab F W) :
    W.cell? ⟨w.heap.size + 1, 0, none⟩ = some (.float .f64 hi) ∧ W.cell? ⟨w.heap.size + 2, 0, none⟩ = some (.float .f64 lo) ∧ W.cell? ⟨w.heap.size + 3, 0, none⟩ = some (.int .i64 hold) ∧ (W.cell? ⟨w.heap.size + 5, 0, none⟩ = some (.bool on) ∧ W.frozen? ⟨w.heap.size + 5, 0, none⟩ = false) ∧ (W.cell? ⟨w.heap.size + 6, 0, none⟩ = some (.int .i64 ab) ∧ W.frozen? ⟨w.heap.size + 6, 0, none⟩ = false) ∧ W.cell? ⟨w.heap.size, 0, none⟩ = some (.slice a len cap) :=
  ⟨blkCell h.b1 0 _ rfl, blkCell h.b2 0 _ rfl, blkCell h.b3 0 _ rfl, ⟨blkCell h.b5 0 _ rfl, blkFree h.b5 0⟩, ⟨blkCell h.b6 0 _ rfl, blkFree h.b6 0⟩, blkCell h.b0 0 _ rfl⟩
theorem newsTwoI {w : World} (x y : Int) (t : TypeId) : ∀ (j : Nat) (u : Value), [Value.int .i64 x, Value.int .i64 y][j]? = some u → (w.alloc (Obj.cells #[.int .i64 x, .int .i64 y] t)).cell? ((⟨w.heap.size, 0, none⟩ : Addr).add j) = some u := World.news_of_block (heapNew w (Obj.cells #[.int .i64 x, .int .i64 y] t))
theorem almInfo : (Try.prog.info? 39).map (fun i => (i.zero, i.size, i.bytes)) = some (some (.agg #[.int .i64 0, .int .i64 0]), 2, 16) := by kernel_rfl
theorem AmI.start (w : World) (a : Option Addr) (len cap hi lo : Nat) (hold : Int) (w7 : World) (h7 : w7 = ((((((w.alloc (Obj.cells #[.slice a len cap] 23)).alloc (Obj.cells #[.float .f64 hi] 24)).alloc (Obj.cells #[.float .f64 lo] 24)).alloc (Obj.cells #[.int .i64 hold] 3)).alloc (Obj.cells #[.slice none 0 0] 35)).alloc (Obj.cells #[.bool false] 4)).alloc (Obj.cells #[.int .i64 0] 3)) :
    w7.heap.size = w.heap.size + 7 ∧ AmI w a len cap hi lo hold false 0 [] (w7.alloc (Obj.cells #[.slice a len cap] 23)) := by
  have step : ∀ (W : World) (o : Obj) (n : Nat), W.heap.size = n → (W.alloc o).heap[n]? = some o ∧ (W.alloc o).heap.size = n + 1 ∧ Below W.heap.size W (W.alloc o) := fun W o n h => ⟨by rw [← h]; exact heapNew _ _, by rw [World.size_alloc, h], below_alloc _ _⟩
  obtain ⟨W1, e1⟩ : ∃ W1, W1 = w.alloc (Obj.cells #[.slice a len cap] 23) := ⟨_, rfl⟩
  obtain ⟨a1, s1, b1⟩ := step w (Obj.cells #[.slice a len cap] 23) _ rfl
  rw [← e1] at a1 s1 b1 h7
  obtain ⟨W2, e2⟩ : ∃ W2, W2 = W1.alloc (Obj.cells #[.float .f64 hi] 24) := ⟨_, rfl⟩
  obtain ⟨a2, s2, b2⟩ := step W1 (Obj.cells #[.float .f64 hi] 24) _ s1
  rw [← e2] at a2 s2 b2 h7
  obtain ⟨W3, e3⟩ : ∃ W3, W3 = W2.alloc (Obj.cells #[.float .f64 lo] 24) := ⟨_, rfl⟩
  obtain ⟨a3, s3, b3⟩ := step W2 (Obj.cells #[.float .f64 lo] 24) _ s2
  rw [← e3] at a3 s3 b3 h7
  obtain ⟨W4, e4⟩ : ∃ W4, W4 = W3.alloc (Obj.cells #[.int .i64 hold] 3) := ⟨_, rfl⟩
  obtain ⟨a4, s4, b4⟩ := step W3 (Obj.cells #[.int .i64 hold] 3) _ s3
  rw [← e4] at a4 s4 b4 h7
  obtain ⟨W5, e5⟩ : ∃ W5, W5 = W4.alloc (Obj.cells #[.slice none 0 0] 35) := ⟨_, rfl⟩
  obtain ⟨a5, s5, b5⟩ := step W4 (Obj.cells #[.slice none 0 0] 35) _ s4
  rw [← e5] at a5 s5 b5 h7
  obtain ⟨W6, e6⟩ : ∃ W6, W6 = W5.alloc (Obj.cells #[.bool false] 4) := ⟨_, rfl⟩
  obtain ⟨a6, s6, b6⟩ := step W5 (Obj.cells #[.bool false] 4) _ s5
  rw [← e6] at a6 s6 b6 h7
  obtain ⟨a7, s7, b7⟩ := step W6 (Obj.cells #[.int .i64 0] 3) _ s6
  rw [← h7] at a7 s7 b7
  obtain ⟨a8, s8, b8⟩ := step w7 (Obj.cells #[.slice a len cap] 23) _ s7
  have k7 := fun k (h : k < w7.heap.size) => b8.block k h
  have k6 := fun k (h : k < W6.heap.size) => (k7 k (by omega)).trans (b7.block k h)
  have k5 := fun k (h : k < W5.heap.size) => (k6 k (by omega)).trans (b6.block k h)
  have k4 := fun k (h : k < W4.heap.size) => (k5 k (by omega)).trans (b5.block k h)
  have k3 := fun k (h : k < W3.heap.size) => (k4 k (by omega)).trans (b4.block k h)
  have k2 := fun k (h : k < W2.heap.size) => (k3 k (by omega)).trans (b3.block k h)
  have k1 := fun k (h : k < W1.heap.size) => (k2 k (by omega)).trans (b2.block k h)
  refine ⟨s7, ⟨(k1 _ (by omega)).trans a1, (k2 _ (by omega)).trans a2, (k3 _ (by omega)).trans a3, (k4 _ (by omega)).trans a4, ⟨none, 0, (k5 _ (by omega)).trans a5, World.ownsRow_nil _ _ _ _⟩, (k6 _ (by omega)).trans a6, (k7 _ (by omega)).trans a7, a8, ?_⟩⟩
  exact chain (chain (chain (chain (chain (chain (chain b1 b2) b3) b4) b5) b6) b7) b8
set_option maxRecDepth 100000 in
set_option maxHeartbeats 16000000 in
theorem alarmsOf_any (a : Option Addr) (cap : Nat) (xs : List Nat) (hi lo : Nat) (hold : Int) (hlen : xs.length ≤ 200) (hok : oksF xs = true) (hh : 1 ≤ hold ∧ hold ≤ 200) (w : World) (hr : ReadsF w.heap.size w a xs) :
    Calls Try.prog 40 #[.slice a xs.length cap, .float .f64 hi, .float .f64 lo, .int .i64 hold] w fun e w' => ∃ g cp, e = .returned (.slice g (full (xs.length : Int) (amF lo hi hold (thT xs xs.length))).length cp) ∧ w'.ownsRow w.heap.size 39 2 (.slice g (full (xs.length : Int) (amF lo hi hold (thT xs xs.length))).length cp) (full (xs.length : Int) (amF lo hi hold (thT xs xs.length))).length (alCells (full (xs.length : Int) (amF lo hi hold (thT xs xs.length)))) ∧ Below w.heap.size w w' := by
  have HR : Hid (ReadsF w.heap.size w a xs) := hr
  clear hr
  refine (callsIn_wide (n := 9)).1 ?_
  refine callsIn_of_wp_marks Try.func40 rfl trivial ?_ rfl
  simp only [Try.ntmps40, List.size_toArray, List.length_cons, List.length_nil, Nat.reduceAdd, Nat.reduceSub, Array.replicate_succ, Array.replicate_zero, List.push_toArray, List.append_toArray, List.nil_append, List.cons_append]
  gi_wp2_with fail
  refine ⟨trivial, (callsIn_wide.2 (thereF_any _ _ _ _)).mono ?_⟩
  rintro e w8 ⟨rfl, hw8⟩
  obtain ⟨w7, hw7⟩ : ∃ w7, w7 = ((((((w.alloc (Obj.cells #[.slice a xs.length cap] 23)).alloc (Obj.cells #[.float .f64 hi] 24)).alloc (Obj.cells #[.float .f64 lo] 24)).alloc (Obj.cells #[.int .i64 hold] 3)).alloc (Obj.cells #[.slice none 0 0] 35)).alloc (Obj.cells #[.bool false] 4)).alloc (Obj.cells #[.int .i64 0] 3) := ⟨_, rfl⟩
  obtain ⟨hz7, hI8⟩ := AmI.start w a xs.length cap hi lo hold w7 hw7
  rw [← hw7] at hw8 ⊢
  rw [← hw8] at hI8
  clear hw7
  rw [hz7]
  have hz8 : w8.heap.size = w.heap.size + 8 := by rw [hw8]; simp [hz7]
  clear hw8
  gi_wp2_with fail
  simp only [Nat.add_assoc, Nat.reduceAdd]
  refine wpIn_rangeFunc_ownG rfl (by decide) (gf := 54) (lb := #[.pointer (some ⟨w.heap.size + 7, 0, none⟩)]) rfl trivial (enters_of Try.func54 (by kernel_rfl) rfl)
    (there1_stops (9 - 1) (w.heap.size + 7) w.heap.size a cap xs (by omega) hok w8 (by omega) hI8.b7 (HR.out.below hI8.bel)) (fun h k => h.trans k) (Kp1.put (by omega) (by omega)) (Below.refl _ _) (fun _ => rfl)
    (fun pre W => AmI w a xs.length cap hi lo hold (amF lo hi hold pre).cur.isSome (amF lo hi hold pre).ab (full (xs.length : Int) (amF lo hi hold pre)) W)
    (fun _ _ _ => False)
    (fun pre A B row hs hg hr => hs.kept (by omega) hg hr)
    (fun _ _ _ _ _ hs _ _ => hs)
    hI8
    ?a1 ?assign ?body ?done ?stop
  case assign =>
    intro l x W K hK
    gi_wp2
    exact hK
  case body =>
    rintro l pre x W hI hlt
    obtain ⟨bd1, bd2, bd3⟩ := am_bd lo hi hold pre
    have HF0 : Hid (∀ W', AmI w a xs.length cap hi lo hold (amN lo hi hold (amF lo hi hold pre) x.1).cur.isSome (amN lo hi hold (amF lo hi hold pre) x.1).ab (full (xs.length : Int) (amN lo hi hold (amF lo hi hold pre) x.1)) W' → AmI w a xs.length cap hi lo hold (amF lo hi hold (pre ++ [x])).cur.isSome (amF lo hi hold (pre ++ [x])).ab (full (xs.length : Int) (amF lo hi hold (pre ++ [x]))) W') := fun W' h => by
      rw [amF_snoc]
      exact h
    have hL := o_le x.1.2 lo
    have hG := o_gt x.1.2 hi
    generalize amF lo hi hold pre = t at *
    obtain ⟨c, ab, L⟩ := t
    have hxp : x.1.1 < 4096 := x.2.1
    unfold amN at HF0
    dsimp only at HF0 hI bd1 bd2 bd3
    generalize x.1.2 = xv at *
    generalize x.1.1 = p at *
    have hw1 : IntKind.i64.wrap (ab + 1) = ab + 1 := wrap_id _ (by omega) (by omega)
    cases c with
    | some f =>
      rw [if_neg (by simp)] at bd3
      dsimp only at HF0
      have hI0 : AmI w a xs.length cap hi lo hold true ab (L ++ [(f, (xs.length : Int))]) W := hI
      obtain ⟨_, d2, _, ⟨d5, d5f⟩, ⟨d6, d6f⟩, _⟩ := hI0.cells
      cases hb : leF xv lo with
      | true =>
        rw [if_pos hb] at HF0
        rw [hb] at hL
        obtain ⟨g, cp, h4, q0, q1, I1, sk1, hne⟩ := hI0.put (p : Int)
        have c4 := blkCell h4 0 _ rfl
        simp only [List.getElem_toArray, List.getElem_cons_zero] at c4
        obtain ⟨_, _, _, ⟨e5, e5f⟩, ⟨e6, e6f⟩, _⟩ := I1.cells
        have I2 := I1.setOn false
        obtain ⟨_, _, _, _, ⟨z6, z6f⟩, _⟩ := I2.cells
        have I3 := I2.setAb 0
        have HFin : Hid (AmI w a xs.length cap hi lo hold false 0 (L ++ [(f, (p : Int))]) (((W.setCell ⟨g, L.length * 2 + 1, none⟩ (.int .i64 (p : Int))).setCell ⟨w.heap.size + 5, 0, none⟩ (.bool false)).setCell ⟨w.heap.size + 6, 0, none⟩ (.int .i64 0))) := I3
        have HSk : Hid (SkA w.heap.size W (((W.setCell ⟨g, L.length * 2 + 1, none⟩ (.int .i64 (p : Int))).setCell ⟨w.heap.size + 5, 0, none⟩ (.bool false)).setCell ⟨w.heap.size + 6, 0, none⟩ (.int .i64 0))) := (sk1.trans (SkA.set _ (b := w.heap.size + 5) (by omega) (by omega) 0 _)).trans (SkA.set _ (b := w.heap.size + 6) (by omega) (by omega) 0 _)
        have HF : Hid (∀ W', AmI w a xs.length cap hi lo hold false 0 (L ++ [(f, (p : Int))]) W' → AmI w a xs.length cap hi lo hold (amF lo hi hold (pre ++ [x])).cur.isSome (amF lo hi hold (pre ++ [x])).ab (full (xs.length : Int) (amF lo hi hold (pre ++ [x]))) W') := HF0.out
        clear HF0 hI hI0 I1 I2 I3 sk1 h4 hb
        have hm : L.length ≤ 200 := by omega
        have hwl : IntKind.i64.wrap (((L.length + 1 : Nat) : Int) - 1) = (L.length : Int) := wrap_id _ (by omega) (by omega) |>.trans (by omega)
        generalize L.length = m at *
        gi_wp2
        exact ⟨HSk.out.1.from _, HSk.out.2, HF.out _ HFin.out⟩
      | false =>
        rw [if_neg (by rw [hb]; simp)] at HF0
        rw [hb] at hL
        have HFin : Hid (AmI w a xs.length cap hi lo hold true ab (L ++ [(f, (xs.length : Int))]) W) := hI0
        have HF : Hid (∀ W', AmI w a xs.length cap hi lo hold true ab (L ++ [(f, (xs.length : Int))]) W' → AmI w a xs.length cap hi lo hold (amF lo hi hold (pre ++ [x])).cur.isSome (amF lo hi hold (pre ++ [x])).ab (full (xs.length : Int) (amF lo hi hold (pre ++ [x]))) W') := HF0.out
        clear HF0 hI hI0 hb
        gi_wp2
        exact ⟨(KeepsOthers.refl _).from _, Kp1.refl _ _ _, HF.out _ HFin.out⟩
    | none =>
      rw [if_pos rfl] at bd3
      dsimp only at HF0
      have hI0 : AmI w a xs.length cap hi lo hold false ab L W := hI
      obtain ⟨d1, _, d3, ⟨d5, d5f⟩, ⟨d6, d6f⟩, d0⟩ := hI0.cells
      cases hb : ltF hi xv with
      | true =>
        rw [if_pos hb] at HF0
        rw [hb] at hG
        have I1 := hI0.setAb (ab + 1)
        obtain ⟨_, _, e3, ⟨e5, e5f⟩, ⟨e6, e6f⟩, e0⟩ := I1.cells
        by_cases he : ab + 1 = hold
        · rw [if_pos he] at HF0
          subst he
          have hee : (ab + 1 == ab + 1) = true := by simp
          obtain ⟨g, cp, h4, hrow⟩ := I1.b4
          have c4 := blkCell h4 0 _ rfl
          simp only [List.getElem_toArray, List.getElem_cons_zero] at c4
          have HI1 : Hid (AmI w a xs.length cap hi lo (ab + 1) false (ab + 1) L (W.setCell ⟨w.heap.size + 6, 0, none⟩ (.int .i64 (ab + 1)))) := I1
          have HG4 : Hid ((W.setCell ⟨w.heap.size + 6, 0, none⟩ (.int .i64 (ab + 1))).heap[w.heap.size + 4]? = some (.cells #[.slice g L.length cp] 35 (0, 0))) := h4
          have HRow : Hid ((W.setCell ⟨w.heap.size + 6, 0, none⟩ (.int .i64 (ab + 1))).ownsRow w.heap.size 39 2 (.slice g L.length cp) L.length (alCells L)) := hrow
          have HSk0 : Hid (SkA w.heap.size W (W.setCell ⟨w.heap.size + 6, 0, none⟩ (.int .i64 (ab + 1)))) := SkA.set _ (b := w.heap.size + 6) (by omega) (by omega) 0 _
          have HF : Hid (∀ W', AmI w a xs.length cap hi lo (ab + 1) true (ab + 1) (L ++ [((p : Int), (xs.length : Int))]) W' → AmI w a xs.length cap hi lo (ab + 1) (amF lo hi (ab + 1) (pre ++ [x])).cur.isSome (amF lo hi (ab + 1) (pre ++ [x])).ab (full (xs.length : Int) (amF lo hi (ab + 1) (pre ++ [x]))) W') := HF0.out
          obtain ⟨i0, hi0, hzz⟩ := Option.map_eq_some_iff.1 almInfo
          simp only [Prod.mk.injEq] at hzz
          obtain ⟨i1, i2, i3⟩ := hzz
          have hm : L.length ≤ 200 := by omega
          clear HF0 hI hI0 I1 h4 hrow hb
          gi_wp2_with (first
            | (gi_at_builtin; refine wpListIn_append_own _ rfl _ _ 35 rfl w.heap.size 39 i0 (.agg #[.int .i64 0, .int .i64 0]) 2 16 Try.underlying35 hi0 i1 i2 i3 rfl (by decide) _ _ _ rfl (HRow.out.alloc _) ⟨(W.setCell ⟨w.heap.size + 6, 0, none⟩ (.int .i64 (ab + 1))).heap.size, 0, none⟩ 1 1 [.int .i64 (p : Int), .int .i64 (xs.length : Int)] (by simp [Act.eval]) rfl (newsTwoI _ _ _) (by simp [Value.oneCell']) (by unfold maxLen; omega) (by omega) (by have := HI1.out.bel.size; simp; simp at this; omega) ?_; intro v' w3 hown' hg3 hnil3
               obtain ⟨g1, cp1, rfl⟩ := row_slice hown'
               have HQ : Hid (_ ∧ _ ∧ _) := HI1.out.push (r := ((p : Int), (xs.length : Int))) HG4.out HRow.out hown' hg3
               have c3 := blkCell HQ.out.2.2 0 _ rfl
               have f3 := blkFree HQ.out.2.2 0
               simp only [List.getElem_toArray, List.getElem_cons_zero] at c3
               obtain ⟨_, _, _, ⟨y5, y5f⟩, _, _⟩ := HQ.out.1.cells
               clear hown' hg3 hnil3)
            | gi_in)
          have I5 := HQ.out.1.setOn true
          have SK := (HSk0.out.trans HQ.out.2.1).trans (SkA.set _ (b := w.heap.size + 5) (by omega) (by omega) 0 (.bool true))
          exact ⟨SK.1.from _, SK.2, HF.out _ I5⟩
        · rw [if_neg he] at HF0
          have hee : (ab + 1 == hold) = false := beq_eq_false_iff_ne.2 he
          have HFin : Hid (AmI w a xs.length cap hi lo hold false (ab + 1) L (W.setCell ⟨w.heap.size + 6, 0, none⟩ (.int .i64 (ab + 1)))) := I1
          have HF : Hid (∀ W', AmI w a xs.length cap hi lo hold false (ab + 1) L W' → AmI w a xs.length cap hi lo hold (amF lo hi hold (pre ++ [x])).cur.isSome (amF lo hi hold (pre ++ [x])).ab (full (xs.length : Int) (amF lo hi hold (pre ++ [x]))) W') := HF0.out
          clear HF0 hI hI0 I1 hb he
          gi_wp2
          have SK := SkA.set (s := w.heap.size) W (b := w.heap.size + 6) (by omega) (by omega) 0 (.int .i64 (ab + 1))
          exact ⟨SK.1.from _, SK.2, HF.out _ HFin.out⟩
      | false =>
        rw [if_neg (by rw [hb]; simp)] at HF0
        rw [hb] at hG
        have HFin : Hid (AmI w a xs.length cap hi lo hold false 0 L (W.setCell ⟨w.heap.size + 6, 0, none⟩ (.int .i64 0))) := hI0.setAb 0
        have HF : Hid (∀ W', AmI w a xs.length cap hi lo hold false 0 L W' → AmI w a xs.length cap hi lo hold (amF lo hi hold (pre ++ [x])).cur.isSome (amF lo hi hold (pre ++ [x])).ab (full (xs.length : Int) (amF lo hi hold (pre ++ [x]))) W') := HF0.out
        clear HF0 hI hI0 hb
        gi_wp2
        have SK := SkA.set (s := w.heap.size) W (b := w.heap.size + 6) (by omega) (by omega) 0 (.int .i64 0)
        exact ⟨SK.1.from _, SK.2, HF.out _ HFin.out⟩
  case done =>
    rintro F ys W hF rfl hI hK
    obtain ⟨g, cp, h4, hrow⟩ := hI.b4
    have c4 := blkCell h4 0 _ rfl
    simp only [List.getElem_toArray, List.getElem_cons_zero] at c4
    have hbel := hI.bel
    have HRow : Hid (W.ownsRow w.heap.size 39 2 (.slice g (full (xs.length : Int) (amF lo hi hold (thT xs xs.length))).length cp) (full (xs.length : Int) (amF lo hi hold (thT xs xs.length))).length (alCells (full (xs.length : Int) (amF lo hi hold (thT xs xs.length))))) := hrow
    have HK : Hid (W.heap[F]? = some (.deferred (some []))) := hK
    clear hI h4 hrow
    gi_wp2
    refine ⟨by simp, .inl ⟨_, _, rfl, run_takeDeferred HK.out, ?_⟩⟩
    refine ⟨_, results_tmp rfl _ _ _, g, cp, rfl, row_of HRow.out (fun q hq => World.putObj_heap_other ?_), hbel.trans (belowK_b (w := w) (Nat.le_refl _) _ F _ _ (by omega) HK.out rfl rfl)⟩
    rintro rfl
    obtain ⟨cur, hc⟩ := row_type HRow.out hq
    rw [HK.out] at hc
    cases hc
  case stop =>
    rintro F c pre W _ _ h _
    exact h.elim
end Go.Proofs.Ytillkllkekhmfaa
