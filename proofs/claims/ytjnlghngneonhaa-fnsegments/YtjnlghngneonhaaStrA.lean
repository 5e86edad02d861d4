/-
  Lists of texts in memory; the laws' own helpers on them (szStringS, toStringS, eqStringS).
-/
import Derived.Test.YtjnlghngneonhaaLists0
import Derived.Deep.Slices
namespace Go.Proofs.Ytjnlghngneonhaa
open Go.ChangeShapes Go.WideShapes Go.ChangeAt Go.RowKit Go.Deep
set_option linter.unusedVariables false

/-- The texts ss lie in block b from off on. -/
def StrsAt (w : World) (b off : Nat) (ss : List ByteArray) : Prop := ∀ i, i < ss.length → w.cell? ⟨b, off + i, none⟩ = some (.string (ss.getD i ByteArray.empty))
def ReadsS (B : Nat) (w : World) (a : Option Addr) (ss : List ByteArray) : Prop := ss = [] ∨ ∃ b off, a = some ⟨b, off, none⟩ ∧ b < B ∧ StrsAt w b off ss
theorem StrsAt.below {B : Nat} {w w' : World} {b off : Nat} {ss : List ByteArray} (h : StrsAt w b off ss) (hb : Below B w w') (hB : b < B) : StrsAt w' b off ss := fun i hi => (hb.cell (p := ⟨b, off + i, none⟩) hB).trans (h i hi)
theorem ReadsS.below {B : Nat} {w w' : World} {a : Option Addr} {ss : List ByteArray} (h : ReadsS B w a ss) (hb : Below B w w') : ReadsS B w' a ss := by
  rcases h with h | ⟨b, off, ha, hB, hi⟩
  · exact .inl h
  · exact .inr ⟨b, off, ha, hB, hi.below hb hB⟩
theorem ReadsS.mono {B B' : Nat} {w : World} {a : Option Addr} {ss : List ByteArray} (h : ReadsS B w a ss) (hb : B ≤ B') : ReadsS B' w a ss := by
  rcases h with h | ⟨b, off, ha, hB, hi⟩
  · exact .inl h
  · exact .inr ⟨b, off, ha, by omega, hi⟩
theorem ReadsS.later {w w' : World} {a : Option Addr} {ss : List ByteArray} (h : ReadsS w.heap.size w a ss) (hb : Below w.heap.size w w') : ReadsS w'.heap.size w' a ss := (h.below hb).mono hb.size
theorem strs_getD_take (ss : List ByteArray) (k i : Nat) (h : i < k) : (ss.take k).getD i ByteArray.empty = ss.getD i ByteArray.empty := by simp [List.getD_eq_getElem?_getD, h]
theorem ReadsS.take {B : Nat} {w : World} {a : Option Addr} {ss : List ByteArray} (h : ReadsS B w a ss) (k : Nat) : ReadsS B w a (ss.take k) := by
  rcases h with h | ⟨b, off, ha, hB, hi⟩
  · exact .inl (by rw [h]; simp)
  · refine .inr ⟨b, off, ha, hB, fun i hi' => ?_⟩
    rw [List.length_take] at hi'
    rw [strs_getD_take ss k i (by omega)]; exact hi i (by omega)
theorem getS {p : ByteArray → Prop} {ss : List ByteArray} (h : ∀ s ∈ ss, p s) {k : Nat} (hk : k < ss.length) : p (ss.getD k ByteArray.empty) := by
  have e : ss.getD k ByteArray.empty = ss[k] := by simp [List.getD_eq_getElem?_getD, hk]
  rw [e]; exact h _ (List.getElem_mem _)
theorem take_nextS {p : ByteArray → Prop} {ss : List ByteArray} {k : Nat} (h : k < ss.length) (ha : ∀ s ∈ ss.take k, p s) (hk : p (ss.getD k ByteArray.empty)) : ∀ s ∈ ss.take (k + 1), p s := fun r hr => by
  rw [List.take_succ_eq_append_getElem h] at hr
  rcases List.mem_append.mp hr with h' | h'
  · exact ha r h'
  · simp at h'
    have e : ss.getD k ByteArray.empty = ss[k] := by simp [List.getD_eq_getElem?_getD, h]
    rw [h', ← e]; exact hk


def SzS (ss : List ByteArray) (x0 x : Int) : Prop := x < 0 ∨ (0 ≤ x ∧ x + (ss.length : Int) ≤ x0 ∧ ∀ s ∈ ss, s.size ≤ 2000000)
set_option maxHeartbeats 1000000 in
theorem szStrs_any (a : Option Addr) (cap : Nat) (ss : List ByteArray) (hl : ss.length ≤ maxLen) (hp : ∀ s ∈ ss, s.size ≤ maxLen) (x0 : Int) (hx0 : 0 ≤ x0) (hx1 : x0 ≤ 1048576) (w : World) (hr : ReadsS w.heap.size w a ss) :
    Calls Try.prog 45 #[.slice a ss.length cap, .int .i64 x0] w fun e w' => (∃ x : Int, e = .returned (.int .i64 x) ∧ SzS ss x0 x) ∧ w' = w := by
  have HR : Hid (ReadsS w.heap.size w a ss) := hr
  have HP : Hid (∀ s ∈ ss, s.size ≤ maxLen) := hp
  clear hr hp
  unfold maxLen at hl
  by_cases c1 : x0 < (ss.length : Int)
  · have hwr : IntKind.i64.wrap (x0 - (ss.length : Int)) = x0 - (ss.length : Int) := wrap_id _ (by omega) (by omega)
    go_enter Try.func45, Try.ntmps45
    go_wp2
    go_ret
    exact ⟨⟨-1, rfl, .inl (by omega)⟩, rfl⟩
  · have hwr : IntKind.i64.wrap (x0 - (ss.length : Int)) = x0 - (ss.length : Int) := wrap_id _ (by omega) (by omega)
    go_enter Try.func45, Try.ntmps45
    go_wp2
    go_loop [1, 5] (fun l c => ∃ (k : Nat) (x : Int), k ≤ ss.length ∧ c = .int .i64 (k : Int) ∧ l = .int .i64 x ∧ 0 ≤ x ∧ x + (ss.length : Int) ≤ x0 ∧ (∀ s ∈ ss.take k, s.size ≤ 2000000)) (fun _ c => ss.length - (intOf c).toNat)
    case atStart => exact ⟨0, x0 - (ss.length : Int), Nat.zero_le _, rfl, rfl, by omega, by omega, by simp⟩
    case round =>
      obtain ⟨k, x, hk, rfl, rfl, hx2, hx3, hall⟩ := hrel
      have HA : Hid (∀ s ∈ ss.take k, s.size ≤ 2000000) := hall
      clear hall
      by_cases hlt : k < ss.length
      · have hlt' : (k : Int) < (ss.length : Int) := by omega
        rcases HR.out with h | ⟨b0, o0, ha, hB0, ia⟩
        · rw [h] at hlt; simp at hlt
        have c0 := ia k hlt
        have hW : (ss.getD k ByteArray.empty).size ≤ maxLen := getS HP.out hlt
        have HN : Hid (((ss.getD k ByteArray.empty).size : Int) ≤ x → ∀ s ∈ ss.take (k + 1), s.size ≤ 2000000) := fun q => take_nextS hlt HA.out (by show _ ≤ 2000000; omega)
        rw [ha]
        clear ia
        generalize ss.getD k ByteArray.empty = s at *
        unfold maxLen at hW
        have hwr2 : IntKind.i64.wrap (x - (s.size : Int)) = x - (s.size : Int) := wrap_id _ (by omega) (by omega)
        by_cases c2 : x < (s.size : Int)
        · go_wp2
          go_ret
          exact ⟨⟨-1, rfl, .inl (by omega)⟩, rfl⟩
        · have H1 : Hid _ := HN.out (by omega)
          go_wp2
          go_round
          case rel => exact ⟨k + 1, x - (s.size : Int), by omega, by go_num, rfl, by omega, by omega, H1.out⟩
          case measure => simp [intOf]; omega
      · have hle : (ss.length : Int) ≤ (k : Int) := by omega
        have HE : Hid (∀ s ∈ ss, s.size ≤ 2000000) := by
          have := HA.out
          rw [List.take_of_length_le (by omega)] at this
          exact this
        go_wp2
        go_ret
        exact ⟨⟨x, rfl, .inr ⟨hx2, hx3, HE.out⟩⟩, rfl⟩


theorem strInfo : (Try.prog.info? 9).map (fun i => (i.zero, i.size, i.bytes)) = some (some (.string ⟨#[]⟩), 1, 16) := by kernel_rfl
theorem makeStrs (m n : Nat) (hm : m ≤ n) (hn : n ≤ 100000000) (w : World) :
    (Instr.makeSlice 41 (.int .i64 (m : Int)) (.int .i64 (n : Int))).run Try.prog w = .ok (.slice (some ⟨w.heap.size, 0, none⟩) m n) (w.alloc (.cells (madeCells #[.string ⟨#[]⟩] n) 9)) := by
  obtain ⟨i, hi, hzz⟩ := Option.map_eq_some_iff.1 strInfo
  simp only [Prod.mk.injEq] at hzz
  obtain ⟨hz, hs, hb⟩ := hzz
  have hr := run_make (P := Try.prog) w 41 9 i _ Try.underlying41 hi hz .i64 .i64 (m : Int) (n : Int) (by omega) (by omega) (by rw [hb]; omega) (by omega)
  simp only [Int.toNat_natCast, hs, Nat.mul_one] at hr
  exact hr
theorem strs_made (w : World) (n : Nat) : (w.alloc (.cells (madeCells #[.string ⟨#[]⟩] n) 9)).rowIs w.heap.size 9 n (fun _ => .string ⟨#[]⟩) := by
  refine ⟨_, heapNew _ _, size_madeCells _ _, fun i hi => ?_⟩
  have h1 : i % 1 = 0 := Nat.mod_one i
  simp [madeCells, hi, h1]

def strFill (ss : List ByteArray) (k j : Nat) : Value := if j < k then .string (ss.getD j ByteArray.empty) else .string ⟨#[]⟩
theorem strsAt_of {w : World} {b : Nat} {ss : List ByteArray} (h : w.rowIs b 9 ss.length (strFill ss ss.length)) : StrsAt w b 0 ss := fun i hi => by
  rw [h.cell (i := 0 + i) (by omega)]; unfold strFill; rw [if_pos (by omega), Nat.zero_add]


set_option maxHeartbeats 1000000 in
theorem toStrs_any (a : Option Addr) (cap : Nat) (ss : List ByteArray) (hn : ss.length ≤ 1048576) (w : World) (hr : ReadsS w.heap.size w a ss) :
    Calls Try.prog 46 #[.slice a ss.length cap] w fun e w' => e = .returned (.slice (some ⟨w.heap.size, 0, none⟩) ss.length ss.length) ∧ Below w.heap.size w w' ∧ w.heap.size < w'.heap.size ∧ StrsAt w' w.heap.size 0 ss ∧ ∀ j, w'.frozen? ⟨w.heap.size, j, none⟩ = false := by
  have hmk := fun w => makeStrs ss.length ss.length (Nat.le_refl _) (by omega) w
  have HM : Hid ((w.alloc (.cells (madeCells #[.string ⟨#[]⟩] ss.length) 9)).rowIs w.heap.size 9 ss.length (fun _ => .string ⟨#[]⟩)) := strs_made w ss.length
  have HR : Hid (ReadsS w.heap.size w a ss) := hr
  clear hr
  go_enter Try.func46, Try.ntmps46
  go_wp2
  go_loopw [4] (fun i wr => ∃ k : Nat, k ≤ ss.length ∧ i = .int .i64 (k : Int) ∧ Below w.heap.size w wr ∧ wr.rowIs w.heap.size 9 ss.length (strFill ss k)) (fun i _ => ss.length - (intOf i).toNat)
  case atStart => exact ⟨0, Nat.zero_le _, rfl, below_alloc _ _, HM.out.congr (fun i hi => by unfold strFill; rw [if_neg (by omega)])⟩
  case round =>
    obtain ⟨k, hk, rfl, hb, hrow⟩ := hrel
    have HB : Hid (Below w.heap.size w wr) := hb
    have HW : Hid (wr.rowIs w.heap.size 9 ss.length (strFill ss k)) := hrow
    clear hb hrow
    by_cases hlt : k < ss.length
    · have hlt' : (k : Int) < (ss.length : Int) := by omega
      rcases HR.out with h | ⟨b0, o0, ha, hB0, ia⟩
      · rw [h] at hlt; simp at hlt
      have c0 := (ia.below HB.out hB0) k hlt
      have c1 := HW.out.cell (i := k) hlt
      have f1 := HW.out.frozen k
      have HN : Hid ((wr.setCell ⟨w.heap.size, k, none⟩ (.string (ss.getD k ByteArray.empty))).rowIs w.heap.size 9 ss.length (strFill ss (k + 1))) := by
        refine (HW.out.set k _).congr fun j hj => ?_
        unfold strFill
        by_cases e : j = k
        · rw [if_pos e, if_pos (by omega), e]
        · rw [if_neg e]
          by_cases h : j < k
          · rw [if_pos h, if_pos (by omega)]
          · rw [if_neg h, if_neg (by omega)]
      have HB2 : Hid (Below w.heap.size w (wr.setCell ⟨w.heap.size, k, none⟩ (.string (ss.getD k ByteArray.empty)))) := HB.out.setCell (Nat.le_refl _) _
      rw [ha]
      clear ia
      generalize ss.getD k ByteArray.empty = s at *
      go_wp2
      go_roundw
      case rel => exact ⟨k + 1, by omega, by go_num, HB2.out, HN.out⟩
      case measure => simp [intOf]; omega
    · obtain rfl : k = ss.length := by omega
      go_wp2
      go_ret
      exact ⟨rfl, HB.out, HW.out.lt, strsAt_of HW.out, fun j => HW.out.frozen j⟩



theorem beq_self (s : ByteArray) : (s.toList == s.toList) = true := by simp
set_option maxHeartbeats 1000000 in
theorem eqStrs_any (a b : Option Addr) (ca cb : Nat) (ss : List ByteArray) (hn : ss.length ≤ 1048576) (w : World) (ra : ReadsS w.heap.size w a ss) (rb : ReadsS w.heap.size w b ss) :
    Calls Try.prog 47 #[.slice a ss.length ca, .slice b ss.length cb] w fun e w' => e = .returned (.bool true) ∧ Below w.heap.size w w' := by
  have HA : Hid (ReadsS w.heap.size w a ss) := ra
  have HBb : Hid (ReadsS w.heap.size w b ss) := rb
  clear ra rb
  go_enter Try.func47, Try.ntmps47
  go_wp2
  go_loopw [5] (fun i wr => ∃ k : Nat, k ≤ ss.length ∧ i = .int .i64 (k : Int) ∧ Below w.heap.size w wr) (fun i _ => ss.length - (intOf i).toNat)
  case atStart => exact ⟨0, Nat.zero_le _, rfl, Below.refl _ _⟩
  case round =>
    obtain ⟨k, hk, rfl, hb⟩ := hrel
    have HB : Hid (Below w.heap.size w wr) := hb
    clear hb
    by_cases hlt : k < ss.length
    · have hlt' : (k : Int) < (ss.length : Int) := by omega
      rcases HA.out with h | ⟨b0, o0, ha, hB0, ia⟩
      · rw [h] at hlt; simp at hlt
      rcases HBb.out with h | ⟨b1, o1, hbb, hB1, ib⟩
      · rw [h] at hlt; simp at hlt
      have c0 := (ia.below HB.out hB0) k hlt
      have d0 := (ib.below HB.out hB1) k hlt
      rw [ha, hbb]
      clear ia ib
      generalize ss.getD k ByteArray.empty = s at *
      have hs := beq_self s
      go_wp2
      go_quiet (fail)
      go_wp2
      go_roundw
      case rel => exact ⟨k + 1, by omega, by go_num, by first | exact HB.out | exact HB.out.drew | exact chain HB.out ⟨rfl, rfl, rfl, Nat.le_refl _, fun _ _ => rfl⟩⟩
      case measure => simp [intOf]; omega
    · go_wp2
      go_ret
      exact ⟨rfl, HB.out⟩

end Go.Proofs.Ytjnlghngneonhaa
