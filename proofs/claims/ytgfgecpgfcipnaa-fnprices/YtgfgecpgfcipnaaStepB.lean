/-
  The program's turns: the minutes at which rows begin or have ended, sorted; for every list of rows.
-/
import Derived.Test.YtgfgecpgfcipnaaStepA
import Derived.Test.YtgfgecpgfcipnaaRow1
import Derived.Test.YtgfgecpgfcipnaaShelfO
import Derived.Lib.OwnBridge
namespace Go.Proofs.Ytgfgecpgfcipnaa
open Go.ChangeShapes Go.WideShapes Go.ChangeAt Go.RowKit Go.Sort Go.Shelf
set_option linter.unusedVariables false

/-- v is a row of n numbers of its own, from block B on: L. -/
def OneT (w : World) (B : Nat) (v : Value) (n : Nat) (L : List Int) (wr : World) : Prop :=
  wr.ownsRow B 3 1 v n (L.map (Value.int .i64)) ∧ B ≤ wr.heap.size ∧ Below B w wr
theorem OneT.alloc {w : World} {B n : Nat} {v : Value} {L : List Int} {wr : World} (h : OneT w B v n L wr) (o : Obj) : OneT w B v n L (wr.alloc o) :=
  ⟨h.1.alloc _, by have := h.2.1; simp; omega, h.2.2.alloc h.2.1 _⟩
theorem OneT.push {w : World} {B n : Nat} {v : Value} {L : List Int} {wr w' : World} {g cp : Nat} {x y : Int} (h : OneT w B v n L wr)
    (ho : w'.ownsRow B 3 1 (.slice (some ⟨g, 0, none⟩) (n + 2) cp) (n + 2) (L.map (Value.int .i64) ++ [.int .i64 x, .int .i64 y])) (hg : wr.grownBy w' v.ownBlock) : OneT w B (.slice (some ⟨g, 0, none⟩) (n + 2) cp) (n + 2) (L ++ [x, y]) w' := by
  obtain ⟨h1, h4, h5⟩ := h
  refine ⟨?_, Nat.le_trans h4 hg.size, h5.grown hg h4 (fun q hq => (h1.lt q hq).1)⟩
  rw [List.map_append]; exact ho
theorem turns_next (rs : List RPr) (k : Nat) (h : k < rs.length) : turnsL (rs.take (k + 1)) = turnsL (rs.take k) ++ [(rs.getD k zPr).fr, (rs.getD k zPr).to] := by
  have e : rs.getD k zPr = rs[k] := by simp [List.getD_eq_getElem?_getD, h]
  rw [e, List.take_succ_eq_append_getElem h]
  unfold turnsL
  rw [List.flatMap_append]; simp

theorem sortInts_any (w : World) (B g cap n : Nat) (L : List Int) (hl : L.length ≤ 1000000) (W : World) (h : OneT w B (.slice (some ⟨g, 0, none⟩) n cap) n L W) :
    Calls Try.prog 29 #[.slice (some ⟨g, 0, none⟩) n cap] W fun e w' => e = .returned (.tuple #[]) ∧ Reads w'.heap.size w' (some ⟨g, 0, none⟩) (L.mergeSort leZ) ∧ (B ≤ g ∧ g < w'.heap.size) ∧ Below B w w' := by
  obtain ⟨g', cap', he, hB, hlt, _, _, hn, hH⟩ := Go.Lib.holds_of_ownsRow (enc := Value.int .i64) h.1 (by simp)
  simp at he
  obtain ⟨rfl, rfl⟩ := he
  subst hn
  have cS := AnyM.slices_Sort_int Try.sortA g 0 cap L W hH hlt (by omega)
  change Calls Try.prog 29 _ _ _ at cS
  refine cS.mono ?_
  rintro e w' ⟨rfl, q, os, rfl⟩
  have hH0 : Holds (Value.int .i64) (Sort.ahead W q) g 0 L.toArray := hH
  have h1 : Holds (Value.int .i64) (grow (putRow (Value.int .i64) (Sort.ahead W q) g 0 (L.mergeSort leZ).toArray) os) g 0 (L.mergeSort leZ).toArray :=
    holds_grow _ _ _ _ _ _ (by simpa using hlt) (holds_putRow _ _ _ _ _ _ hH0 (by simp))
  have hb := Go.Lib.below_putRow (enc := Value.int .i64) (q := q) (d := (L.mergeSort leZ).toArray) h.2.2 hB
  have hgl : g < (grow (putRow (Value.int .i64) (Sort.ahead W q) g 0 (L.mergeSort leZ).toArray) os).heap.size := by
    rw [size_grow, size_putRow]; exact Nat.lt_of_lt_of_le hlt (Nat.le_add_right _ _)
  refine ⟨rfl, .inr ⟨g, 0, rfl, hgl, fun i hi => ?_⟩, ⟨hB, hgl⟩, ⟨hb.os, hb.tape, hb.output, ?_, fun k hk => ?_⟩⟩
  · have := (h1 i (by simpa using hi)).1
    have hi' : i < (L.mergeSort leZ).length := hi
    show World.cell? (grow (putRow (Value.int .i64) (Sort.ahead W q) g 0 (L.mergeSort leZ).toArray) os) _ = _
    rw [this]
    simp [List.getD_eq_getElem?_getD]
  · show w.heap.size ≤ (grow (putRow (Value.int .i64) (Sort.ahead W q) g 0 (L.mergeSort leZ).toArray) os).heap.size
    rw [size_grow]; exact Nat.le_trans hb.size (Nat.le_add_right _ _)
  · exact (heap_grow_old _ _ (by rw [size_putRow]; exact Nat.lt_trans (Nat.lt_of_lt_of_le hk hB) hlt)).trans (hb.block k hk)

set_option maxHeartbeats 2000000 in
theorem turns_any (a : Option Addr) (cap : Nat) (rs : List RPr) (hl : rs.length ≤ 80) (w : World) (hr : ReadsPr w.heap.size w a rs) :
    Calls Try.prog 15 #[.slice a rs.length cap] w fun e w' => ∃ g c, e = .returned (.slice (some ⟨g, 0, none⟩) (rs.length * 2) c) ∧ Reads w'.heap.size w' (some ⟨g, 0, none⟩) (turnsS rs) ∧ (w.heap.size ≤ g ∧ g < w'.heap.size) ∧ Below w.heap.size w w' := by
  have HR : Hid (ReadsPr w.heap.size w a rs) := hr
  clear hr
  have hmk : ∀ w, (Instr.makeSlice 44 (.int .i64 0) (.int .i64 (2 * (rs.length : Int)))).run Try.prog w = .ok (.slice (some ⟨w.heap.size, 0, none⟩) 0 (rs.length * 2)) (w.alloc (.cells (madeCells #[.int .i64 0] (rs.length * 2)) 3)) := fun w => by
    have := run_make_cap (rs.length * 2) (by omega) w
    rwa [show ((rs.length * 2 : Nat) : Int) = 2 * (rs.length : Int) by omega] at this
  have hwr : IntKind.i64.wrap (2 * (rs.length : Int)) = 2 * (rs.length : Int) := wrap_id _ (by omega) (by omega)
  have H0 : Hid (OneT w w.heap.size (.slice (some ⟨w.heap.size, 0, none⟩) 0 (rs.length * 2)) 0 [] (w.alloc (Obj.cells (madeCells #[.int .i64 0] (rs.length * 2)) 3))) := One.made w w.heap.size rfl (rs.length * 2) (by omega)
  obtain ⟨i0, hi, hzz⟩ := Option.map_eq_some_iff.1 intInfo1
  simp only [Prod.mk.injEq] at hzz
  obtain ⟨hi0, hi1, hi2⟩ := hzz
  have HSo : Hid (∀ (g cp : Nat) (W : World), OneT w w.heap.size (.slice (some ⟨g, 0, none⟩) (rs.length * 2) cp) (rs.length * 2) (turnsL rs) W → Calls Try.prog 29 #[.slice (some ⟨g, 0, none⟩) (rs.length * 2) cp] W fun e w' => e = .returned (.tuple #[]) ∧ Reads w'.heap.size w' (some ⟨g, 0, none⟩) (turnsS rs) ∧ (w.heap.size ≤ g ∧ g < w'.heap.size) ∧ Below w.heap.size w w') := fun g cp W h => sortInts_any w w.heap.size g cp (rs.length * 2) (turnsL rs) (by rw [turnsL_len]; omega) W h
  go_enter Try.func15, Try.ntmps15
  go_wp2
  go_loopw [3, 5, 12] (fun v _ c wr => ∃ k g cp : Nat, k ≤ rs.length ∧ c = .int .i64 (k : Int) ∧ v = .slice (some ⟨g, 0, none⟩) (k * 2) cp ∧ OneT w w.heap.size (.slice (some ⟨g, 0, none⟩) (k * 2) cp) (k * 2) (turnsL (rs.take k)) wr) (fun _ _ c _ => rs.length - (intOf c).toNat)
  case atStart => exact ⟨0, w.heap.size, rs.length * 2, Nat.zero_le _, rfl, by simp, by simpa [turnsL] using H0.out⟩
  case round =>
    clear H0 hmk hwr
    obtain ⟨k, g, cp, hk, rfl, rfl, hO⟩ := hrel
    have HO : Hid (OneT w w.heap.size (.slice (some ⟨g, 0, none⟩) (k * 2) cp) (k * 2) (turnsL (rs.take k)) wr) := hO
    have HB : Hid (Below w.heap.size w wr) := hO.2.2
    clear hO
    by_cases hlt : k < rs.length
    · have hlt' : (k : Int) < (rs.length : Int) := by omega
      rcases HR.out with h | ⟨b0, o0, ha, hB0, ia⟩
      · rw [h] at hlt; simp at hlt
      obtain ⟨c0, c1, c2, c3, c4, c5⟩ := (ia.below HB.out hB0) k hlt
      have HN : Hid (∀ g1 cp1 w7, OneT w w.heap.size (.slice (some ⟨g1, 0, none⟩) (k * 2 + 2) cp1) (k * 2 + 2) (turnsL (rs.take k) ++ [(rs.getD k zPr).fr, (rs.getD k zPr).to]) w7 → OneT w w.heap.size (.slice (some ⟨g1, 0, none⟩) ((k + 1) * 2) cp1) ((k + 1) * 2) (turnsL (rs.take (k + 1))) w7) := fun g1 cp1 w7 h => by
        rw [turns_next rs k hlt, show (k + 1) * 2 = k * 2 + 2 by omega]; exact h
      rw [ha]
      clear ia
      generalize rs.getD k zPr = r at *
      obtain ⟨r0, r1, r2, r3, r4, r5⟩ := r
      dsimp only at c0 c1 c2 c3 c4 c5 HN
      have HW5 : Hid (OneT w w.heap.size (.slice (some ⟨g, 0, none⟩) (k * 2) cp) (k * 2) (turnsL (rs.take k)) ((wr.alloc (Obj.cells #[.string r0, .string r1, .int .i64 r2, .int .i64 r3, .int .i64 r4, .int .i64 r5] 36)).alloc (Obj.cells #[.int .i64 r3, .int .i64 r4] 3))) := (HO.out.alloc _).alloc _
      have HNw : Hid (∀ j u, [Value.int .i64 r3, .int .i64 r4][j]? = some u → ((wr.alloc (Obj.cells #[.string r0, .string r1, .int .i64 r2, .int .i64 r3, .int .i64 r4, .int .i64 r5] 36)).alloc (Obj.cells #[.int .i64 r3, .int .i64 r4] 3)).cell? ((⟨wr.heap.size + 1, 0, none⟩ : Addr).add j) = some u) := by
        have e1 : (wr.alloc (Obj.cells #[.string r0, .string r1, .int .i64 r2, .int .i64 r3, .int .i64 r4, .int .i64 r5] 36)).heap.size = wr.heap.size + 1 := by simp
        have := World.news_of_block (heapNew (wr.alloc (Obj.cells #[.string r0, .string r1, .int .i64 r2, .int .i64 r3, .int .i64 r4, .int .i64 r5] 36)) (Obj.cells #[.int .i64 r3, .int .i64 r4] 3))
        rw [e1] at this
        exact this
      go_wp2_with (at_builtin; refine wpList_append_lies _ rfl _ _ 44 rfl w.heap.size 3 i0 (.int .i64 0) 1 8 Try.underlying44 hi hi0 hi1 hi2 rfl (by decide) _ _ _ rfl HW5.out.1 ⟨wr.heap.size + 1, 0, none⟩ 2 2 [.int .i64 r3, .int .i64 r4] rfl rfl HNw.out (by intro u hu; simp at hu; rcases hu with rfl | rfl <;> rfl) (by omega) (by unfold maxLen; omega) (by omega) HW5.out.2.1 _ rfl ?_; intro g1 cp1 w7 hown1 hgrow1 hat1 hglt1; have HO7 : Hid (OneT w w.heap.size (.slice (some ⟨g1, 0, none⟩) (k * 2 + 2) cp1) (k * 2 + 2) (turnsL (rs.take k) ++ [r3, r4]) w7) := HW5.out.push hown1 hgrow1; clear hown1 hgrow1 hat1 hglt1)
      go_roundw
      case rel => exact ⟨k + 1, g1, cp1, by omega, by go_num, by rw [show (k + 1) * 2 = k * 2 + 2 by omega], HN.out _ _ _ HO7.out⟩
      case measure => simp [intOf]; omega
    · obtain rfl : k = rs.length := by omega
      have HO' : Hid (OneT w w.heap.size (.slice (some ⟨g, 0, none⟩) (rs.length * 2) cp) (rs.length * 2) (turnsL rs) wr) := by have := HO.out; rwa [List.take_length] at this
      go_wp2_with (go_at_call 29; refine (HSo.out g cp wr HO'.out).mono ?_; rintro e w9 ⟨rfl, hr9, hg9, hb9⟩; have HR9 : Hid _ := hr9; have HB9 : Hid _ := hb9; have HG9 : Hid _ := hg9; clear hr9 hb9 hg9)
      go_ret
      exact ⟨g, cp, rfl, HR9.out, HG9.out, HB9.out⟩
end Go.Proofs.Ytgfgecpgfcipnaa
