/-
  Texts of this claim laid together: Row1, BgA.
-/
import Derived.Test.YtkfmifbffgbiiaaM2
import Derived.Deep.AppendLies
import Derived.Laws.OwnMore
import Derived.Test.YtkfmifbffgbiiaaM5
import Derived.Test.YtkfmifbffgbiiaaM8
import Derived.Test.YtkfmifbffgbiiaaM3
/-
  A row of numbers of its own that grows by append; nothing of the program is in it.
-/
namespace Go.Proofs.Ytkfmifbffgbiiaa
open Go.ChangeShapes Go.WideShapes Go.ChangeAt Go.RowKit
set_option linter.unusedVariables false

theorem newsOne (w : World) (v : Value) (t : TypeId) : ∀ j u, [v][j]? = some u → (w.alloc (Obj.cells #[v] t)).cell? ((⟨w.heap.size, 0, none⟩ : Addr).add j) = some u := by
  intro j u hj
  match j, hj with
  | 0, hj => simp at hj; subst hj; simp [Addr.add]
/-- v is a row of its own, from block B on, whose numbers are L. -/
def One (w : World) (B : Nat) (v : Value) (L : List Int) (wr : World) : Prop :=
  wr.ownsRow B 3 1 v L.length (L.map (Value.int .i64)) ∧ B ≤ wr.heap.size ∧ Below B w wr
theorem One.start (w : World) (B : Nat) (hB : w.heap.size = B) : One w B (.slice (some ⟨B, 0, none⟩) 0 0) [] (w.alloc (Obj.cells #[] 3)) := by
  subst hB
  refine ⟨⟨rfl, .inr ⟨w.heap.size, 0, #[], rfl, Nat.le_refl _, heapNew w _, Nat.le_refl _, by unfold maxLen; omega, rfl, rfl⟩⟩, by simp, below_alloc w _⟩
theorem One.made (w : World) (B : Nat) (hB : w.heap.size = B) (n : Nat) (hn : n ≤ 100000000) : One w B (.slice (some ⟨B, 0, none⟩) 0 n) [] (w.alloc (Obj.cells (madeCells #[.int .i64 0] n) 3)) := by
  subst hB
  refine ⟨⟨rfl, .inr ⟨w.heap.size, n, madeCells #[.int .i64 0] n, rfl, Nat.le_refl _, heapNew w _, Nat.zero_le _, by unfold maxLen; omega, by rw [size_madeCells, Nat.mul_one], by simp⟩⟩, by simp, below_alloc w _⟩
theorem One.alloc {w : World} {B : Nat} {v : Value} {L : List Int} {wr : World} (h : One w B v L wr) (o : Obj) : One w B v L (wr.alloc o) :=
  ⟨h.1.alloc _, by have := h.2.1; simp; omega, h.2.2.alloc h.2.1 _⟩
theorem One.later {w : World} {B : Nat} {v : Value} {L : List Int} {wr w' : World} (h : One w B v L wr) (hb : Below wr.heap.size wr w') : One w B v L w' := by
  obtain ⟨⟨h1, h2⟩, h3, h4⟩ := h
  refine ⟨⟨h1, ?_⟩, Nat.le_trans h3 hb.size, h4.trans (hb.mono h3)⟩
  rcases h2 with h2 | ⟨g, cap, cur, e, hB, hg, r⟩
  · exact .inl h2
  · refine .inr ⟨g, cap, cur, e, hB, ?_, r⟩
    obtain ⟨hlt, _⟩ := Array.getElem?_eq_some_iff.1 hg
    exact (hb.block g hlt).trans hg
theorem One.push {w : World} {B : Nat} {v : Value} {L : List Int} {wr w' : World} {g cp : Nat} {x : Int} (h : One w B v L wr)
    (ho : w'.ownsRow B 3 1 (.slice (some ⟨g, 0, none⟩) (L.length + 1) cp) (L.length + 1) (L.map (Value.int .i64) ++ [.int .i64 x])) (hg : wr.grownBy w' v.ownBlock) : One w B (.slice (some ⟨g, 0, none⟩) (L.length + 1) cp) (L ++ [x]) w' := by
  obtain ⟨h1, h4, h5⟩ := h
  refine ⟨?_, Nat.le_trans h4 hg.size, h5.grown hg h4 (fun q hq => (h1.lt q hq).1)⟩
  rw [List.length_append, List.map_append]; exact ho
theorem One.own2 {w : World} {B : Nat} {a : Option Addr} {n cp : Nat} {L : List Int} {wr : World} (h : One w B (.slice a n cp) L wr) (hn : n = L.length) : Own2 B wr a L := by
  subst hn
  by_cases h0 : L.length = 0
  · exact .inl (List.eq_nil_of_length_eq_zero h0)
  · obtain ⟨g, cap, he, hB, hlt⟩ := h.1.form (by omega)
    simp at he
    obtain ⟨rfl, rfl⟩ := he
    refine .inr ⟨g, rfl, hB, hlt, fun i hi => ?_, fun i hi => ?_⟩
    · rw [Nat.zero_add, h.1.cellAt i (by omega)]; simp [List.getD_eq_getElem?_getD, hi]
    · rw [Nat.zero_add]; exact h.1.frozenAt i
theorem intInfo1 : (Try.prog.info? 3).map (fun i => (i.zero, i.size, i.bytes)) = some (some (.int .i64 0), 1, 8) := by kernel_rfl
theorem run_make_cap (n : Nat) (hn : n ≤ 100000000) (w : World) :
    (Instr.makeSlice 34 (.int .i64 0) (.int .i64 (n : Int))).run Try.prog w = .ok (.slice (some ⟨w.heap.size, 0, none⟩) 0 n) (w.alloc (.cells (madeCells #[.int .i64 0] n) 3)) := by
  obtain ⟨i, hi, hzz⟩ := Option.map_eq_some_iff.1 intInfo1
  simp only [Prod.mk.injEq] at hzz
  obtain ⟨hz, hs, hb⟩ := hzz
  have hr := run_make (P := Try.prog) w 34 3 i (.int .i64 0) Try.underlying34 hi hz .i64 .i64 0 (n : Int) (Int.le_refl _) (by omega) (by rw [hb]; omega) (by omega)
  simp only [Int.toNat_natCast, hs, Nat.mul_one, Int.toNat_zero] at hr
  exact hr
end Go.Proofs.Ytkfmifbffgbiiaa

/-
  What deals save, as functions of prices; contracts of the program's together, saves, of the library's slices.Min at numbers.
-/
namespace Go.Proofs.Ytkfmifbffgbiiaa
open Go.ChangeShapes Go.WideShapes Go.ChangeAt Go.RowKit
set_option linter.unusedVariables false

theorem drewBelow (w : World) (n : Nat) : Below w.heap.size w (w.drewN n) := ⟨rfl, rfl, rfl, Nat.le_refl _, fun _ _ => rfl⟩
/-- The least of the first k prices. -/
def minN (ps : List Int) : Nat → Int
  | 0 => ps.getD 0 0
  | k + 1 => if ps.getD k 0 < minN ps k then ps.getD k 0 else minN ps k
/-- What a deal saves on units of these prices. -/
def svB (kd vl : Int) (ps : List Int) : Int := if kd = 1 then (ps.sum * vl).tdiv 100 else if kd = 2 then (if ps.sum - vl < 0 then 0 else ps.sum - vl) else if kd = 3 then minN ps ps.length else (if ps.sum < vl then ps.sum else vl)
/-- Prices that are right, one to four of them. -/
def PsOK (ps : List Int) : Prop := (1 ≤ ps.length ∧ ps.length ≤ 4) ∧ ∀ p ∈ ps, 0 ≤ p ∧ p ≤ 100000000
theorem sum_next (ps : List Int) (k : Nat) (h : k < ps.length) : (ps.take (k + 1)).sum = (ps.take k).sum + ps.getD k 0 := by
  have e : ps.getD k 0 = ps[k] := by simp [List.getD_eq_getElem?_getD, h]
  rw [List.take_succ_eq_append_getElem h, e, List.sum_append]; simp
theorem sum_bound (ps : List Int) (lo hi : Int) (h : ∀ p ∈ ps, lo ≤ p ∧ p ≤ hi) : lo * (ps.length : Int) ≤ ps.sum ∧ ps.sum ≤ hi * (ps.length : Int) := by
  induction ps with
  | nil => simp
  | cons a r ih =>
    have := ih (fun p hp => h p (List.mem_cons_of_mem _ hp))
    have h1 := h a (List.mem_cons_self ..)
    rw [List.sum_cons, List.length_cons]
    push_cast
    rw [Int.mul_add, Int.mul_add]
    omega
theorem sum_take_bound (ps : List Int) (h : ∀ p ∈ ps, 0 ≤ p ∧ p ≤ 100000000) (k : Nat) : 0 ≤ (ps.take k).sum ∧ (ps.take k).sum ≤ 100000000 * (ps.length : Int) := by
  have := sum_bound (ps.take k) 0 100000000 (fun p hp => h p (List.mem_of_mem_take hp))
  rw [List.length_take] at this
  omega


theorem together_any (a : Option Addr) (cap : Nat) (ps : List Int) (hl : ps.length ≤ 8) (hp : ∀ p ∈ ps, 0 ≤ p ∧ p ≤ 100000000) (w : World) (hr : Reads w.heap.size w a ps) :
    Calls Try.prog 55 #[.slice a ps.length cap] w fun e w' => e = .returned (.int .i64 ps.sum) ∧ w' = w := by
  have HR : Hid (Reads w.heap.size w a ps) := hr
  have HP : Hid (∀ p ∈ ps, 0 ≤ p ∧ p ≤ 100000000) := hp
  clear hr hp
  go_enter Try.func55, Try.ntmps55
  go_wp2
  go_loop [3, 5, 8] (fun s _ c => ∃ k : Nat, k ≤ ps.length ∧ c = .int .i64 (k : Int) ∧ s = .int .i64 (ps.take k).sum) (fun _ _ c => ps.length - (intOf c).toNat)
  case atStart => exact ⟨0, Nat.zero_le _, rfl, rfl⟩
  case round =>
    obtain ⟨k, hk, rfl, rfl⟩ := hrel
    by_cases hlt : k < ps.length
    · have hlt' : (k : Int) < (ps.length : Int) := by omega
      rcases HR.out with h | ⟨b0, o0, ha, hB0, ia⟩
      · rw [h] at hlt; simp at hlt
      have c0 := ia k hlt
      have hb1 := sum_take_bound ps HP.out k
      have hb2 := getD_bound HP.out k hlt
      have HE : Hid ((ps.take (k + 1)).sum = (ps.take k).sum + ps.getD k 0) := sum_next ps k hlt
      rw [ha]
      clear ia
      generalize (ps.take k).sum = s at *
      generalize ps.getD k 0 = x at *
      have hwr : IntKind.i64.wrap (s + x) = s + x := wrap_id _ (by omega) (by omega)
      go_wp2
      go_round
      case rel => exact ⟨k + 1, by omega, by go_num, by rw [HE.out]⟩
      case measure => simp [intOf]; omega
    · obtain rfl : k = ps.length := by omega
      have HE : Hid ((ps.take ps.length).sum = ps.sum) := by show _ = _; rw [List.take_length]
      go_wp2
      go_ret
      exact ⟨ret_int (by first | rfl | exact HE.out), rfl⟩


theorem minInts_any (a : Option Addr) (cap : Nat) (ps : List Int) (hl : ps.length ≤ 8) (h1 : 1 ≤ ps.length) (w : World) (hr : Reads w.heap.size w a ps) :
    Calls Try.prog 56 #[.slice a ps.length cap] w fun e w' => e = .returned (.int .i64 (minN ps ps.length)) ∧ w' = w := by
  have HR : Hid (Reads w.heap.size w a ps) := hr
  clear hr
  have h1' : ¬ ((ps.length : Int) < 1) := by omega
  rcases HR.out with h | ⟨b0, o0, ha, hB0, ia⟩
  · rw [h] at h1; simp at h1
  have c0 := ia 0 (by omega)
  rw [Nat.add_zero] at c0
  subst ha
  go_enter Try.func56, Try.ntmps56
  go_wp2
  go_loop [3, 4] (fun m c => ∃ k : Nat, 1 ≤ k ∧ k ≤ ps.length ∧ c = .int .i64 (k : Int) ∧ m = .int .i64 (minN ps k)) (fun _ c => ps.length - (intOf c).toNat)
  case atStart => exact ⟨1, by omega, by omega, rfl, by simp [minN]⟩
  case round =>
    obtain ⟨k, hk1, hk, rfl, rfl⟩ := hrel
    by_cases hlt : k < ps.length
    · have hlt' : (k : Int) < (ps.length : Int) := by omega
      have c1 := ia k hlt
      have HE : Hid (minN ps (k + 1) = if ps.getD k 0 < minN ps k then ps.getD k 0 else minN ps k) := rfl
      generalize minN ps k = m at *
      generalize ps.getD k 0 = x at *
      go_wp2
      exact ⟨⟨k + 1, by omega, by omega, by go_num, by rw [HE.out]⟩, by simp [intOf]; omega⟩
    · obtain rfl : k = ps.length := by omega
      go_wp2
      go_ret
      exact ⟨rfl, rfl⟩


/-- A deal's kind and value fit: what is reckoned with them stays small. -/
def TvOK (kd vl : Int) : Prop := 0 ≤ vl ∧ vl ≤ 100000000 ∧ (kd = 1 → vl ≤ 100)
theorem svB_ways (kd vl s m : Int) (ps : List Int) (hs : ps.sum = s) (hm : minN ps ps.length = m) : (kd = 1 ∧ svB kd vl ps = (s * vl).tdiv 100) ∨ (kd = 2 ∧ svB kd vl ps = if s - vl < 0 then 0 else s - vl) ∨ (kd = 3 ∧ svB kd vl ps = m) ∨ ((kd == 1) = false ∧ (kd == 2) = false ∧ (kd == 3) = false ∧ svB kd vl ps = if s < vl then s else vl) := by
  unfold svB
  rw [hs, hm]
  by_cases h1 : kd = 1
  · exact .inl ⟨h1, by rw [if_pos h1]⟩
  · by_cases h2 : kd = 2
    · exact .inr (.inl ⟨h2, by rw [if_neg h1, if_pos h2]⟩)
    · by_cases h3 : kd = 3
      · exact .inr (.inr (.inl ⟨h3, by rw [if_neg h1, if_neg h2, if_pos h3]⟩))
      · exact .inr (.inr (.inr ⟨by simpa using h1, by simpa using h2, by simpa using h3, by rw [if_neg h1, if_neg h2, if_neg h3]⟩))
theorem sv_small {s vl : Int} (h0 : 0 ≤ s) (h1 : s ≤ 400000000) (h2 : 0 ≤ vl) (h3 : vl ≤ 100) : 0 ≤ s * vl ∧ s * vl ≤ 40000000000 :=
  ⟨Int.mul_nonneg h0 h2, by have := Int.mul_le_mul h1 h3 h2 (by omega); omega⟩


set_option maxHeartbeats 2000000 in
theorem saves_any (c : CDl) (h : Option Addr) (cp : Nat) (a : Option Addr) (cap : Nat) (ps : List Int) (hps : PsOK ps) (htv : TvOK c.kd c.vl) (w : World) (hr : Reads w.heap.size w a ps) :
    Calls Try.prog 33 #[.agg #[.string c.nm, .int .i64 c.kd, .slice h c.arts.length cp, .int .i64 c.nd, .int .i64 c.vl, .bool c.on], .slice a ps.length cap] w fun e w' => e = .returned (.int .i64 (svB c.kd c.vl ps)) ∧ Below w.heap.size w w' := by
  have HT : Hid (∀ W, Below w.heap.size w W → Calls Try.prog 55 #[.slice a ps.length cap] W fun e w' => e = .returned (.int .i64 ps.sum) ∧ w' = W) := fun W hb => together_any a cap ps (by have := hps.1; omega) hps.2 W (hr.later hb)
  have HN : Hid (∀ W, Below w.heap.size w W → Calls Try.prog 56 #[.slice a ps.length cap] W fun e w' => e = .returned (.int .i64 (minN ps ps.length)) ∧ w' = W) := fun W hb => minInts_any a cap ps (by have := hps.1; omega) hps.1.1 W (hr.later hb)
  have hb := sum_take_bound ps hps.2 ps.length
  rw [List.take_length] at hb
  have hl := hps.1
  have HW := svB_ways c.kd c.vl _ _ ps rfl rfl
  clear hr hps
  obtain ⟨nm, kd, arts, nd, vl, on⟩ := c
  obtain ⟨v0, v1, v2⟩ := htv
  dsimp only at *
  generalize svB kd vl ps = sv at *
  generalize minN ps ps.length = m at *
  generalize ps.sum = s at *
  generalize ps.length = pn at *
  generalize arts.length = n at *
  rcases HW with ⟨rfl, rfl⟩ | ⟨rfl, rfl⟩ | ⟨rfl, rfl⟩ | ⟨k1, k2, k3, rfl⟩
  · have hsm := sv_small (s := s) (vl := vl) (by omega) (by omega) v0 (v2 rfl)
    have hw1 : IntKind.i64.wrap (s * vl) = s * vl := wrap_id _ (by omega) (by omega)
    have hq : IntKind.i64.wrap ((s * vl).tdiv 100) = (s * vl).tdiv 100 := by
      rw [Int.tdiv_eq_ediv_of_nonneg hsm.1]; exact wrap_id _ (by omega) (by omega)
    have HW1 : Hid (IntKind.i64.wrap (s * vl) = s * vl) := hw1
    have HW2 : Hid (IntKind.i64.wrap ((s * vl).tdiv 100) = (s * vl).tdiv 100) := hq
    clear v2 hw1 hq hsm
    go_enter Try.func33, Try.ntmps33
    go_wp2_with fail
    go_quiet (first | (go_at_call 55; exact Calls.quiet_of_same (HT.out _ (chain (below_alloc _ _) (drewBelow _ _)))))
    go_wp2
    go_ret
    refine ⟨ret_int ?_, chain (below_alloc _ _) (drewBelow _ _)⟩
    rw [← IntWalk.i64_left, ← IntWalk.i64_left, HW1.out, HW2.out]
  · have hw1 : IntKind.i64.wrap (s - vl) = s - vl := wrap_id _ (by omega) (by omega)
    clear v2
    go_enter Try.func33, Try.ntmps33
    go_wp2_with fail
    go_quiet (first | (go_at_call 55; exact Calls.quiet_of_same (HT.out _ (chain (below_alloc _ _) (drewBelow _ _)))))
    go_wp2
    all_goals
      go_ret
      exact ⟨ret_int (by first | rfl | omega | (split <;> omega)), chain (below_alloc _ _) (drewBelow _ _)⟩
  · clear v2
    go_enter Try.func33, Try.ntmps33
    go_wp2_with (first | (go_at_call 56; refine (HN.out _ (below_alloc _ _)).mono ?_; rintro e w2 ⟨rfl, rfl⟩))
    go_ret
    exact ⟨rfl, below_alloc _ _⟩
  · clear v2
    go_enter Try.func33, Try.ntmps33
    go_wp2_with fail
    go_quiet (first | (go_at_call 55; exact Calls.quiet_of_same (HT.out _ (chain (below_alloc _ _) (drewBelow _ _)))))
    go_wp2
    all_goals
      go_ret
      exact ⟨ret_int (by first | rfl | omega | (split <;> omega)), chain (below_alloc _ _) (drewBelow _ _)⟩

end Go.Proofs.Ytkfmifbffgbiiaa
