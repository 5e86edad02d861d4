/-
  The rate of a class, a place and a day: the specification's l03Row and l03At, the program's ownRate and rateAt.
-/
import Derived.Test.YtoaimjocphfcaaaTaxD
import Derived.Test.YtoaimjocphfcaaaTaxB
namespace Go.Proofs.Ytoaimjocphfcaaa
open Go.ChangeShapes Go.WideShapes Go.ChangeAt Go.RowKit
set_option linter.unusedVariables false

/-- Has a row the day? -/
def onDay (day : Int) (q : TR) : Bool := decide (q.fr ≤ day) && decide (day < q.to)
def hit (c : Int) (s : ByteArray) (day : Int) (q : TR) : Bool := (q.cl == c) && (q.pl.toList == s.toList) && onDay day q
theorem find_drop (p : TR → Bool) (rs : List TR) (k : Nat) (h : k < rs.length) : (rs.drop k).find? p = if p (rs.getD k tr0) = true then some (rs.getD k tr0) else (rs.drop (k + 1)).find? p := by
  rw [List.drop_eq_getElem_cons h]
  have e : rs.getD k tr0 = rs[k] := by simp [List.getD_eq_getElem?_getD, h]
  rw [e, List.find?_cons]
  cases p rs[k] <;> rfl
theorem groups_find (rs : List TR) (c : Int) (s : ByteArray) (day : Int) : (groups rs c s).find? (onDay day) = rs.find? (hit c s day) := by
  unfold groups
  rw [List.find?_filter]
  congr 1
  funext q
  unfold hit
  rw [bytes_eq]
  congr 1
  rw [Bool.eq_iff_iff]; simp
theorem hit_ways (qc : Int) (qp : ByteArray) (qf qt qn qd c : Int) (s : ByteArray) (day : Int) :
    ((qc == c) = false ∧ hit c s day ⟨qc, qp, qf, qt, qn, qd⟩ = false) ∨ ((qc == c) = true ∧ (qp.toList == s.toList) = false ∧ hit c s day ⟨qc, qp, qf, qt, qn, qd⟩ = false) ∨
    ((qc == c) = true ∧ (qp.toList == s.toList) = true ∧ day < qf ∧ hit c s day ⟨qc, qp, qf, qt, qn, qd⟩ = false) ∨ ((qc == c) = true ∧ (qp.toList == s.toList) = true ∧ qf ≤ day ∧ qt ≤ day ∧ hit c s day ⟨qc, qp, qf, qt, qn, qd⟩ = false) ∨
    ((qc == c) = true ∧ (qp.toList == s.toList) = true ∧ qf ≤ day ∧ day < qt ∧ hit c s day ⟨qc, qp, qf, qt, qn, qd⟩ = true) := by
  have e : hit c s day ⟨qc, qp, qf, qt, qn, qd⟩ = ((qc == c) && (qp.toList == s.toList) && (decide (qf ≤ day) && decide (day < qt))) := rfl
  rw [e]
  cases (qc == c)
  · exact .inl ⟨rfl, rfl⟩
  · cases (qp.toList == s.toList)
    · exact .inr (.inl ⟨rfl, rfl, rfl⟩)
    · rcases (by omega : day < qf ∨ (qf ≤ day ∧ qt ≤ day) ∨ (qf ≤ day ∧ day < qt)) with h | ⟨h, h'⟩ | ⟨h, h'⟩
      · exact .inr (.inr (.inl ⟨rfl, rfl, h, by rw [decide_eq_false (show ¬ qf ≤ day by omega)]; rfl⟩))
      · exact .inr (.inr (.inr (.inl ⟨rfl, rfl, h, h', by rw [decide_eq_false (show ¬ day < qt by omega)]; simp⟩)))
      · exact .inr (.inr (.inr (.inr ⟨rfl, rfl, h, h', by rw [decide_eq_true h, decide_eq_true h']; rfl⟩)))

/-- An index that says what was found. -/
def IdxOf (rs : List TR) (o : Option TR) (x : Int) : Prop := (x = -1 ∧ o = none) ∨ ∃ k : Nat, k < rs.length ∧ x = (k : Int) ∧ o = some (rs.getD k tr0)

set_option maxHeartbeats 2000000 in
theorem specRow_any (a : Option Addr) (cap : Nat) (rs : List TR) (hl : rs.length ≤ 100000000) (c : Int) (s : ByteArray) (day : Int) (w : World) (hr : ReadsT w.heap.size w a rs) :
    Calls Try.prog 10 #[.slice a rs.length cap, .int .i64 c, .string s, .int .i64 day] w fun e w' => (∃ x : Int, e = .returned (.int .i64 x) ∧ IdxOf rs (rs.find? (hit c s day)) x) ∧ Below w.heap.size w w' := by
  have HR : Hid (ReadsT w.heap.size w a rs) := hr
  clear hr
  go_enter Try.func10, Try.ntmps10
  go_wp2
  go_loopw [9, 10] (fun i _ wr => ∃ k : Nat, k ≤ rs.length ∧ i = .int .i64 (k : Int) ∧ rs.find? (hit c s day) = (rs.drop k).find? (hit c s day) ∧ Below w.heap.size w wr) (fun i _ _ => rs.length - (intOf i).toNat)
  case atStart => exact ⟨0, Nat.zero_le _, rfl, rfl, Below.refl _ _⟩
  case round =>
    obtain ⟨k, hk, rfl, hf, hb⟩ := hrel
    have HF : Hid (rs.find? (hit c s day) = (rs.drop k).find? (hit c s day)) := hf
    have HB : Hid (Below w.heap.size w wr) := hb
    clear hf hb
    by_cases hlt : k < rs.length
    · have hlt' : (k : Int) < (rs.length : Int) := by omega
      rcases HR.out with h | ⟨b0, o0, ha, hB0, ia⟩
      · rw [h] at hlt; simp at hlt
      obtain ⟨c0, c1, c2, c3, c4, c5⟩ := (ia.below HB.out hB0) k hlt
      have HD : Hid (rs.find? (hit c s day) = if hit c s day (rs.getD k tr0) = true then some (rs.getD k tr0) else (rs.drop (k + 1)).find? (hit c s day)) := HF.out.trans (find_drop _ rs k hlt)
      have HI : Hid (∀ o, o = some (rs.getD k tr0) → IdxOf rs o (k : Int)) := fun o h => .inr ⟨k, hlt, rfl, h⟩
      rw [ha]
      clear ia
      generalize rs.getD k tr0 = q at *
      obtain ⟨qc, qp, qf, qt, qn, qd⟩ := q
      dsimp only at c0 c1 c2 c3 c4 c5
      rcases hit_ways qc qp qf qt qn qd c s day with ⟨e1, e2⟩ | ⟨e1, e2, e3⟩ | ⟨e1, e2, e3, e4⟩ | ⟨e1, e2, e3, e4, e5⟩ | ⟨e1, e2, e3, e4, e5⟩
      · have HC : Hid (rs.find? (hit c s day) = (rs.drop (k + 1)).find? (hit c s day)) := HD.out.trans (if_neg (by rw [e2]; simp))
        clear e2
        go_wp2
        go_roundw
        case rel => exact ⟨k + 1, by omega, by go_num, HC.out, chain HB.out (below_alloc _ _)⟩
        case measure => simp [intOf]; omega
      · have HC : Hid (rs.find? (hit c s day) = (rs.drop (k + 1)).find? (hit c s day)) := HD.out.trans (if_neg (by rw [e3]; simp))
        clear e3
        go_wp2
        go_roundw
        case rel => exact ⟨k + 1, by omega, by go_num, HC.out, chain HB.out (below_alloc _ _)⟩
        case measure => simp [intOf]; omega
      · have HC : Hid (rs.find? (hit c s day) = (rs.drop (k + 1)).find? (hit c s day)) := HD.out.trans (if_neg (by rw [e4]; simp))
        clear e4
        go_wp2
        go_roundw
        case rel => exact ⟨k + 1, by omega, by go_num, HC.out, chain HB.out (below_alloc _ _)⟩
        case measure => simp [intOf]; omega
      · have HC : Hid (rs.find? (hit c s day) = (rs.drop (k + 1)).find? (hit c s day)) := HD.out.trans (if_neg (by rw [e5]; simp))
        clear e5
        go_wp2
        go_roundw
        case rel => exact ⟨k + 1, by omega, by go_num, HC.out, chain HB.out (below_alloc _ _)⟩
        case measure => simp [intOf]; omega
      · have HC : Hid (IdxOf rs (rs.find? (hit c s day)) (k : Int)) := HI.out _ (HD.out.trans (if_pos e5))
        clear e5
        go_wp2
        go_ret
        exact ⟨⟨_, rfl, HC.out⟩, chain HB.out (below_alloc _ _)⟩
    · have hle : (rs.length : Int) ≤ (k : Int) := by omega
      have HE : Hid (rs.find? (hit c s day) = none) := by show _ = _; rw [HF.out, List.drop_eq_nil_of_le (by omega)]; rfl
      go_wp2
      go_ret
      exact ⟨⟨_, rfl, .inl ⟨rfl, HE.out⟩⟩, HB.out⟩

/-- The row that counts: of the place, else of none. -/
def rowFor (rs : List TR) (c : Int) (s : ByteArray) (day : Int) : Option TR := match rs.find? (hit c s day) with
  | some r => some r
  | none => rs.find? (hit c ⟨#[]⟩ day)
theorem rowFor_some {rs : List TR} {c : Int} {s : ByteArray} {day : Int} {r : TR} (h : rs.find? (hit c s day) = some r) : rowFor rs c s day = some r := by unfold rowFor; rw [h]
theorem rowFor_none {rs : List TR} {c : Int} {s : ByteArray} {day : Int} (h : rs.find? (hit c s day) = none) : rowFor rs c s day = rs.find? (hit c ⟨#[]⟩ day) := by unfold rowFor; rw [h]

theorem wpList_look {w : World} {ops : Array Oper} {rest : List Oper} {o : Oper} {a : Act} {Q : Exit → Act → World → Prop} (hg : o.guard = none) (m x : Operand) (t : TypeId) (hop : o.op = Op.lookup t m x false)
    (mv key v : Value) (hm : a.eval m = mv) (hx : a.eval x = key) (hrun : (Instr.lookup t mv key false).run Try.prog w = .ok v w) (h : wpList Try.prog ops Q rest (a.put o.dst v) w) : wpList Try.prog ops Q (o :: rest) a w := by
  refine wpList_plain hg fun K' hK' => ?_
  unfold Oper.wp
  simp [execOp, hop, hm, hx, hrun, Result.andThen]
  exact hK' _ _ h

def oN (o : Option TR) : Int := (o.getD tr0).n
def oD (o : Option TR) : Int := (o.getD tr0).d
set_option maxHeartbeats 2000000 in
set_option maxRecDepth 4000 in
theorem ownRate_any (b base m : Nat) (rs : List TR) (hl : rs.length ≤ 100000000) (c : Int) (s : ByteArray) (hk : KeyOK c s) (day : Int) (w : World) (hT : Tab w b base m (groups rs)) :
    Calls Try.prog 35 #[.map (some b), .agg #[.int .i64 c, .string s], .int .i64 day] w fun e w' => e = .returned (.tuple #[.agg #[.int .i64 (oN (rs.find? (hit c s day))), .int .i64 (oD (rs.find? (hit c s day)))], .bool (rs.find? (hit c s day)).isSome]) ∧ Below w.heap.size w w' := by
  obtain ⟨v, M, hM, hlook, hown⟩ := ((hT.alloc (Obj.cells #[.int .i64 c, .string s] 69)).alloc (Obj.cells #[.int .i64 0, .int .i64 0] 36)).look hk
  obtain ⟨av, cv, rfl, hr⟩ := own_form hown
  have HLk : Hid ((Instr.lookup 48 (.map (some b)) (.agg #[.int .i64 c, .string s]) false).run Try.prog ((w.alloc (Obj.cells #[.int .i64 c, .string s] 69)).alloc (Obj.cells #[.int .i64 0, .int .i64 0] 36)) = .ok (.slice av (groups rs c s).length cv) ((w.alloc (Obj.cells #[.int .i64 c, .string s] 69)).alloc (Obj.cells #[.int .i64 0, .int .i64 0] 36))) := hlook _ hM
  have HR : Hid (ReadsT ((w.alloc (Obj.cells #[.int .i64 c, .string s] 69)).alloc (Obj.cells #[.int .i64 0, .int .i64 0] 36)).heap.size ((w.alloc (Obj.cells #[.int .i64 c, .string s] 69)).alloc (Obj.cells #[.int .i64 0, .int .i64 0] 36)) av (groups rs c s)) := hr
  have hgl := groups_len rs c s
  rw [← groups_find]
  clear hM hlook hown hr hT
  generalize groups rs c s = L at *
  have HB0 : Hid (Below w.heap.size w ((w.alloc (Obj.cells #[.int .i64 c, .string s] 69)).alloc (Obj.cells #[.int .i64 0, .int .i64 0] 36))) := chain (below_alloc _ _) (below_alloc _ _)
  go_enter Try.func35, Try.ntmps35
  go_wp2_with (first | (at_lookup; refine wpList_look rfl _ _ 48 rfl (.map (some b)) (.agg #[.int .i64 c, .string s]) (.slice av L.length cv) rfl rfl HLk.out ?_))
  have HC : Hid (∀ wr, Below ((w.alloc (Obj.cells #[.int .i64 c, .string s] 69)).alloc (Obj.cells #[.int .i64 0, .int .i64 0] 36)).heap.size ((w.alloc (Obj.cells #[.int .i64 c, .string s] 69)).alloc (Obj.cells #[.int .i64 0, .int .i64 0] 36)) wr → wr.cell? ⟨w.heap.size + 1, 0, none⟩ = some (.int .i64 0) ∧ wr.cell? ⟨w.heap.size + 1, 1, none⟩ = some (.int .i64 0) ∧ wr.frozen? ⟨w.heap.size + 1, 0, none⟩ = false ∧ wr.frozen? ⟨w.heap.size + 1, 1, none⟩ = false ∧ w.heap.size + 1 < wr.heap.size ∧ Below w.heap.size w wr) := fun wr hb => by
    obtain ⟨hc, hf, hz⟩ := bfacts hb
    have l : w.heap.size + 1 < ((w.alloc (Obj.cells #[.int .i64 c, .string s] 69)).alloc (Obj.cells #[.int .i64 0, .int .i64 0] 36)).heap.size := by simp
    have e : ((w.alloc (Obj.cells #[.int .i64 c, .string s] 69)).alloc (Obj.cells #[.int .i64 0, .int .i64 0] 36)).heap[w.heap.size + 1]? = some (.cells #[.int .i64 0, .int .i64 0] 36 (0, 0)) := by
      have := heapNew (w.alloc (Obj.cells #[.int .i64 c, .string s] 69)) (Obj.cells #[.int .i64 0, .int .i64 0] 36)
      rwa [show (w.alloc (Obj.cells #[.int .i64 c, .string s] 69)).heap.size = w.heap.size + 1 by simp] at this
    refine ⟨?_, ?_, ?_, ?_, hz _ l, chain HB0.out hb⟩
    · rw [hc _ _ l, cell_of_row _ _ _ _ _ _ e]; rfl
    · rw [hc _ _ l, cell_of_row _ _ _ _ _ _ e]; rfl
    · rw [hf _ _ l]; unfold World.frozen?; rw [e]; rfl
    · rw [hf _ _ l]; unfold World.frozen?; rw [e]; rfl
  generalize ((w.alloc (Obj.cells #[.int .i64 c, .string s] 69)).alloc (Obj.cells #[.int .i64 0, .int .i64 0] 36)) = W at *
  clear HLk
  go_loopw [9, 14] (fun _ i wr => ∃ k : Nat, k ≤ L.length ∧ i = .int .i64 (k : Int) ∧ L.find? (onDay day) = (L.drop k).find? (onDay day) ∧ Below W.heap.size W wr) (fun _ i _ => L.length - (intOf i).toNat)
  case atStart => exact ⟨0, Nat.zero_le _, rfl, rfl, Below.refl _ _⟩
  case round =>
    obtain ⟨k, hk', rfl, hf, hb⟩ := hrel
    have HF : Hid (L.find? (onDay day) = (L.drop k).find? (onDay day)) := hf
    have HB : Hid (Below W.heap.size W wr) := hb
    obtain ⟨k0, k1, f0, f1, klt, kB⟩ := HC.out wr hb
    have HKB : Hid (Below w.heap.size w wr) := kB
    clear hf hb kB
    by_cases hlt : k < L.length
    · have hlt' : (k : Int) < (L.length : Int) := by omega
      rcases HR.out with h | ⟨b0, o0, ha, hB0, ia⟩
      · rw [h] at hlt; simp at hlt
      obtain ⟨c0, c1, c2, c3, c4, c5⟩ := (ia.below HB.out hB0) k hlt
      have HD : Hid (L.find? (onDay day) = if onDay day (L.getD k tr0) = true then some (L.getD k tr0) else (L.drop (k + 1)).find? (onDay day)) := HF.out.trans (find_drop _ L k hlt)
      rw [ha]
      clear ia
      generalize L.getD k tr0 = q at *
      obtain ⟨qc, qp, qf, qt, qn, qd⟩ := q
      dsimp only at c0 c1 c2 c3 c4 c5
      have hon : onDay day ⟨qc, qp, qf, qt, qn, qd⟩ = (decide (qf ≤ day) && decide (day < qt)) := rfl
      rw [hon] at HD
      clear hon
      have hne : wr.heap.size ≠ w.heap.size + 1 := by omega
      have hne2 : w.heap.size + 1 ≠ wr.heap.size := by omega
      rcases (by omega : day < qf ∨ (qf ≤ day ∧ qt ≤ day) ∨ (qf ≤ day ∧ day < qt)) with h | ⟨h, h'⟩ | ⟨h, h'⟩
      · have HN : Hid (L.find? (onDay day) = (L.drop (k + 1)).find? (onDay day)) := HD.out.trans (if_neg (by rw [decide_eq_false (show ¬ qf ≤ day by omega)]; simp))
        go_wp2
        exact ⟨⟨k + 1, by omega, by go_num, HN.out, chain HB.out (below_alloc _ _)⟩, by simp [intOf]; omega⟩
      · have HN : Hid (L.find? (onDay day) = (L.drop (k + 1)).find? (onDay day)) := HD.out.trans (if_neg (by rw [decide_eq_false (show ¬ day < qt by omega)]; simp))
        go_wp2
        exact ⟨⟨k + 1, by omega, by go_num, HN.out, chain HB.out (below_alloc _ _)⟩, by simp [intOf]; omega⟩
      · have HN : Hid (L.find? (onDay day) = some ⟨qc, qp, qf, qt, qn, qd⟩) := HD.out.trans (if_pos (by rw [decide_eq_true h, decide_eq_true h']; rfl))
        have hsz : w.heap.size + 1 < ((wr.setCell ⟨w.heap.size + 1, 0, none⟩ (.int .i64 qn)).setCell ⟨w.heap.size + 1, 1, none⟩ (.int .i64 qd)).heap.size := by rw [World.size_setCell, World.size_setCell]; exact klt
        have r0 : (((wr.setCell ⟨w.heap.size + 1, 0, none⟩ (.int .i64 qn)).setCell ⟨w.heap.size + 1, 1, none⟩ (.int .i64 qd)).alloc (Obj.cells #[.int .i64 qc, .string qp, .int .i64 qf, .int .i64 qt, .int .i64 qn, .int .i64 qd] 45)).cell? ⟨w.heap.size + 1, 0, none⟩ = some (.int .i64 qn) := by
          rw [World.cell?_alloc_lt _ _ _ hsz, World.cell?_setCell_other _ _ _ _ (by simp)]
          exact World.cell?_setCell_same _ _ _ k0
        have r1 : (((wr.setCell ⟨w.heap.size + 1, 0, none⟩ (.int .i64 qn)).setCell ⟨w.heap.size + 1, 1, none⟩ (.int .i64 qd)).alloc (Obj.cells #[.int .i64 qc, .string qp, .int .i64 qf, .int .i64 qt, .int .i64 qn, .int .i64 qd] 45)).cell? ⟨w.heap.size + 1, 1, none⟩ = some (.int .i64 qd) := by
          rw [World.cell?_alloc_lt _ _ _ hsz]
          exact World.cell?_setCell_same _ _ _ (by rw [World.cell?_setCell_other _ _ _ _ (by simp)]; exact k1)
        have HR0 : Hid _ := r0
        have HR1 : Hid _ := r1
        have HBe : Hid (Below w.heap.size w (((wr.setCell ⟨w.heap.size + 1, 0, none⟩ (.int .i64 qn)).setCell ⟨w.heap.size + 1, 1, none⟩ (.int .i64 qd)).alloc (Obj.cells #[.int .i64 qc, .string qp, .int .i64 qf, .int .i64 qt, .int .i64 qn, .int .i64 qd] 45))) := ((HKB.out.setCell (show w.heap.size ≤ w.heap.size + 1 by omega) _).setCell (show w.heap.size ≤ w.heap.size + 1 by omega) _).alloc (by omega) _
        clear r0 r1 hsz
        go_wp2
        refine bodyPost_ret (v := .tuple #[.agg #[.int .i64 qn, .int .i64 qd], .bool true]) (by simp [results, Try.results35, go_sem, HR0.out, HR1.out]) rfl ⟨by rw [HN.out]; rfl, HBe.out⟩
    · have hle : (L.length : Int) ≤ (k : Int) := by omega
      have HE : Hid (L.find? (onDay day) = none) := by show _ = _; rw [HF.out, List.drop_eq_nil_of_le (by omega)]; rfl
      go_wp2
      refine bodyPost_ret (v := .tuple #[.agg #[.int .i64 0, .int .i64 0], .bool false]) (by simp [results, Try.results35, go_sem, k0, k1]) rfl ⟨by rw [HE.out]; rfl, ?_⟩
      exact (HKB.out.setCell (show w.heap.size ≤ w.heap.size + 1 by omega) _).setCell (show w.heap.size ≤ w.heap.size + 1 by omega) _
end Go.Proofs.Ytoaimjocphfcaaa
