/-
  Texts of this claim laid together: StrA, DlA.
-/
import Derived.Test.YtbijgoaanphojaaM1
import Derived.Deep.Slices
/-
  Lists of texts in memory; the laws' own helpers on them (szStringS, toStringS, eqStringS).
-/
namespace Go.Proofs.Ytbijgoaanphojaa
open Go.ChangeShapes Go.WideShapes Go.ChangeAt Go.RowKit Go.Deep
set_option linter.unusedVariables false

/-- The texts ss lie in block b from off on. -/
def StrsAt (w : World) (b off : Nat) (ss : List ByteArray) : Prop := ∀ i, i < ss.length → w.cell? ⟨b, off + i, none⟩ = some (.string (ss.getD i ByteArray.empty))
def ReadsS (B : Nat) (w : World) (a : Option Addr) (ss : List ByteArray) : Prop := ss = [] ∨ ∃ b off, a = some ⟨b, off, none⟩ ∧ b < B ∧ StrsAt w b off ss
theorem StrsAt.below {B : Nat} {w w' : World} {b off : Nat} {ss : List ByteArray} (h : StrsAt w b off ss) (hb : Below B w w') (hB : b < B) : StrsAt w' b off ss := fun i hi => (hb.cell (p := ⟨b, off + i, none⟩) hB).trans (h i hi)
theorem ReadsS.below {B : Nat} {w w' : World} {a : Option Addr} {ss : List ByteArray} (h : ReadsS B w a ss) (hb : Below B w w') : ReadsS B w' a ss := by
  rcases h with h | ⟨b, off, ha, hB, hi⟩
  · exact .inl h
  · exact .inr ⟨b, off, ha, hB, hi.below hb hB⟩
theorem ReadsS.mono {B B' : Nat} {w : World} {a : Option Addr} {ss : List ByteArray} (h : ReadsS B w a ss) (hb : B ≤ B') : ReadsS B' w a ss := by
  rcases h with h | ⟨b, off, ha, hB, hi⟩
  · exact .inl h
  · exact .inr ⟨b, off, ha, by omega, hi⟩
theorem ReadsS.later {w w' : World} {a : Option Addr} {ss : List ByteArray} (h : ReadsS w.heap.size w a ss) (hb : Below w.heap.size w w') : ReadsS w'.heap.size w' a ss := (h.below hb).mono hb.size
theorem strs_getD_take (ss : List ByteArray) (k i : Nat) (h : i < k) : (ss.take k).getD i ByteArray.empty = ss.getD i ByteArray.empty := by simp [List.getD_eq_getElem?_getD, h]
theorem ReadsS.take {B : Nat} {w : World} {a : Option Addr} {ss : List ByteArray} (h : ReadsS B w a ss) (k : Nat) : ReadsS B w a (ss.take k) := by
  rcases h with h | ⟨b, off, ha, hB, hi⟩
  · exact .inl (by rw [h]; simp)
  · refine .inr ⟨b, off, ha, hB, fun i hi' => ?_⟩
    rw [List.length_take] at hi'
    rw [strs_getD_take ss k i (by omega)]; exact hi i (by omega)
theorem getS {p : ByteArray → Prop} {ss : List ByteArray} (h : ∀ s ∈ ss, p s) {k : Nat} (hk : k < ss.length) : p (ss.getD k ByteArray.empty) := by
  have e : ss.getD k ByteArray.empty = ss[k] := by simp [List.getD_eq_getElem?_getD, hk]
  rw [e]; exact h _ (List.getElem_mem _)
theorem take_nextS {p : ByteArray → Prop} {ss : List ByteArray} {k : Nat} (h : k < ss.length) (ha : ∀ s ∈ ss.take k, p s) (hk : p (ss.getD k ByteArray.empty)) : ∀ s ∈ ss.take (k + 1), p s := fun r hr => by
  rw [List.take_succ_eq_append_getElem h] at hr
  rcases List.mem_append.mp hr with h' | h'
  · exact ha r h'
  · simp at h'
    have e : ss.getD k ByteArray.empty = ss[k] := by simp [List.getD_eq_getElem?_getD, h]
    rw [h', ← e]; exact hk


def SzS (ss : List ByteArray) (x0 x : Int) : Prop := x < 0 ∨ (0 ≤ x ∧ x + (ss.length : Int) ≤ x0 ∧ ∀ s ∈ ss, s.size ≤ 2000000)
set_option maxHeartbeats 1000000 in
theorem szStrs_any (a : Option Addr) (cap : Nat) (ss : List ByteArray) (hl : ss.length ≤ maxLen) (hp : ∀ s ∈ ss, s.size ≤ maxLen) (x0 : Int) (hx0 : 0 ≤ x0) (hx1 : x0 ≤ 1048576) (w : World) (hr : ReadsS w.heap.size w a ss) :
    Calls Try.prog 77 #[.slice a ss.length cap, .int .i64 x0] w fun e w' => (∃ x : Int, e = .returned (.int .i64 x) ∧ SzS ss x0 x) ∧ w' = w := by
  have HR : Hid (ReadsS w.heap.size w a ss) := hr
  have HP : Hid (∀ s ∈ ss, s.size ≤ maxLen) := hp
  clear hr hp
  unfold maxLen at hl
  by_cases c1 : x0 < (ss.length : Int)
  · have hwr : IntKind.i64.wrap (x0 - (ss.length : Int)) = x0 - (ss.length : Int) := wrap_id _ (by omega) (by omega)
    go_enter Try.func77, Try.ntmps77
    go_wp2
    go_ret
    exact ⟨⟨-1, rfl, .inl (by omega)⟩, rfl⟩
  · have hwr : IntKind.i64.wrap (x0 - (ss.length : Int)) = x0 - (ss.length : Int) := wrap_id _ (by omega) (by omega)
    go_enter Try.func77, Try.ntmps77
    go_wp2
    go_loop [1, 5] (fun l c => ∃ (k : Nat) (x : Int), k ≤ ss.length ∧ c = .int .i64 (k : Int) ∧ l = .int .i64 x ∧ 0 ≤ x ∧ x + (ss.length : Int) ≤ x0 ∧ (∀ s ∈ ss.take k, s.size ≤ 2000000)) (fun _ c => ss.length - (intOf c).toNat)
    case atStart => exact ⟨0, x0 - (ss.length : Int), Nat.zero_le _, rfl, rfl, by omega, by omega, by simp⟩
    case round =>
      obtain ⟨k, x, hk, rfl, rfl, hx2, hx3, hall⟩ := hrel
      have HA : Hid (∀ s ∈ ss.take k, s.size ≤ 2000000) := hall
      clear hall
      by_cases hlt : k < ss.length
      · have hlt' : (k : Int) < (ss.length : Int) := by omega
        rcases HR.out with h | ⟨b0, o0, ha, hB0, ia⟩
        · rw [h] at hlt; simp at hlt
        have c0 := ia k hlt
        have hW : (ss.getD k ByteArray.empty).size ≤ maxLen := getS HP.out hlt
        have HN : Hid (((ss.getD k ByteArray.empty).size : Int) ≤ x → ∀ s ∈ ss.take (k + 1), s.size ≤ 2000000) := fun q => take_nextS hlt HA.out (by show _ ≤ 2000000; omega)
        rw [ha]
        clear ia
        generalize ss.getD k ByteArray.empty = s at *
        unfold maxLen at hW
        have hwr2 : IntKind.i64.wrap (x - (s.size : Int)) = x - (s.size : Int) := wrap_id _ (by omega) (by omega)
        by_cases c2 : x < (s.size : Int)
        · go_wp2
          go_ret
          exact ⟨⟨-1, rfl, .inl (by omega)⟩, rfl⟩
        · have H1 : Hid _ := HN.out (by omega)
          go_wp2
          go_round
          case rel => exact ⟨k + 1, x - (s.size : Int), by omega, by go_num, rfl, by omega, by omega, H1.out⟩
          case measure => simp [intOf]; omega
      · have hle : (ss.length : Int) ≤ (k : Int) := by omega
        have HE : Hid (∀ s ∈ ss, s.size ≤ 2000000) := by
          have := HA.out
          rw [List.take_of_length_le (by omega)] at this
          exact this
        go_wp2
        go_ret
        exact ⟨⟨x, rfl, .inr ⟨hx2, hx3, HE.out⟩⟩, rfl⟩


theorem strInfo : (Try.prog.info? 9).map (fun i => (i.zero, i.size, i.bytes)) = some (some (.string ⟨#[]⟩), 1, 16) := by kernel_rfl
theorem makeStrs (m n : Nat) (hm : m ≤ n) (hn : n ≤ 100000000) (w : World) :
    (Instr.makeSlice 37 (.int .i64 (m : Int)) (.int .i64 (n : Int))).run Try.prog w = .ok (.slice (some ⟨w.heap.size, 0, none⟩) m n) (w.alloc (.cells (madeCells #[.string ⟨#[]⟩] n) 9)) := by
  obtain ⟨i, hi, hzz⟩ := Option.map_eq_some_iff.1 strInfo
  simp only [Prod.mk.injEq] at hzz
  obtain ⟨hz, hs, hb⟩ := hzz
  have hr := run_make (P := Try.prog) w 37 9 i _ Try.underlying37 hi hz .i64 .i64 (m : Int) (n : Int) (by omega) (by omega) (by rw [hb]; omega) (by omega)
  simp only [Int.toNat_natCast, hs, Nat.mul_one] at hr
  exact hr
theorem strs_made (w : World) (n : Nat) : (w.alloc (.cells (madeCells #[.string ⟨#[]⟩] n) 9)).rowIs w.heap.size 9 n (fun _ => .string ⟨#[]⟩) := by
  refine ⟨_, heapNew _ _, size_madeCells _ _, fun i hi => ?_⟩
  have h1 : i % 1 = 0 := Nat.mod_one i
  simp [madeCells, hi, h1]

def strFill (ss : List ByteArray) (k j : Nat) : Value := if j < k then .string (ss.getD j ByteArray.empty) else .string ⟨#[]⟩
theorem strsAt_of {w : World} {b : Nat} {ss : List ByteArray} (h : w.rowIs b 9 ss.length (strFill ss ss.length)) : StrsAt w b 0 ss := fun i hi => by
  rw [h.cell (i := 0 + i) (by omega)]; unfold strFill; rw [if_pos (by omega), Nat.zero_add]


set_option maxHeartbeats 1000000 in
theorem toStrs_any (a : Option Addr) (cap : Nat) (ss : List ByteArray) (hn : ss.length ≤ 1048576) (w : World) (hr : ReadsS w.heap.size w a ss) :
    Calls Try.prog 81 #[.slice a ss.length cap] w fun e w' => e = .returned (.slice (some ⟨w.heap.size, 0, none⟩) ss.length ss.length) ∧ Below w.heap.size w w' ∧ w.heap.size < w'.heap.size ∧ StrsAt w' w.heap.size 0 ss ∧ ∀ j, w'.frozen? ⟨w.heap.size, j, none⟩ = false := by
  have hmk := fun w => makeStrs ss.length ss.length (Nat.le_refl _) (by omega) w
  have HM : Hid ((w.alloc (.cells (madeCells #[.string ⟨#[]⟩] ss.length) 9)).rowIs w.heap.size 9 ss.length (fun _ => .string ⟨#[]⟩)) := strs_made w ss.length
  have HR : Hid (ReadsS w.heap.size w a ss) := hr
  clear hr
  go_enter Try.func81, Try.ntmps81
  go_wp2
  go_loopw [4] (fun i wr => ∃ k : Nat, k ≤ ss.length ∧ i = .int .i64 (k : Int) ∧ Below w.heap.size w wr ∧ wr.rowIs w.heap.size 9 ss.length (strFill ss k)) (fun i _ => ss.length - (intOf i).toNat)
  case atStart => exact ⟨0, Nat.zero_le _, rfl, below_alloc _ _, HM.out.congr (fun i hi => by unfold strFill; rw [if_neg (by omega)])⟩
  case round =>
    obtain ⟨k, hk, rfl, hb, hrow⟩ := hrel
    have HB : Hid (Below w.heap.size w wr) := hb
    have HW : Hid (wr.rowIs w.heap.size 9 ss.length (strFill ss k)) := hrow
    clear hb hrow
    by_cases hlt : k < ss.length
    · have hlt' : (k : Int) < (ss.length : Int) := by omega
      rcases HR.out with h | ⟨b0, o0, ha, hB0, ia⟩
      · rw [h] at hlt; simp at hlt
      have c0 := (ia.below HB.out hB0) k hlt
      have c1 := HW.out.cell (i := k) hlt
      have f1 := HW.out.frozen k
      have HN : Hid ((wr.setCell ⟨w.heap.size, k, none⟩ (.string (ss.getD k ByteArray.empty))).rowIs w.heap.size 9 ss.length (strFill ss (k + 1))) := by
        refine (HW.out.set k _).congr fun j hj => ?_
        unfold strFill
        by_cases e : j = k
        · rw [if_pos e, if_pos (by omega), e]
        · rw [if_neg e]
          by_cases h : j < k
          · rw [if_pos h, if_pos (by omega)]
          · rw [if_neg h, if_neg (by omega)]
      have HB2 : Hid (Below w.heap.size w (wr.setCell ⟨w.heap.size, k, none⟩ (.string (ss.getD k ByteArray.empty)))) := HB.out.setCell (Nat.le_refl _) _
      rw [ha]
      clear ia
      generalize ss.getD k ByteArray.empty = s at *
      go_wp2
      go_roundw
      case rel => exact ⟨k + 1, by omega, by go_num, HB2.out, HN.out⟩
      case measure => simp [intOf]; omega
    · obtain rfl : k = ss.length := by omega
      go_wp2
      go_ret
      exact ⟨rfl, HB.out, HW.out.lt, strsAt_of HW.out, fun j => HW.out.frozen j⟩



theorem beq_self (s : ByteArray) : (s.toList == s.toList) = true := by simp
set_option maxHeartbeats 1000000 in
theorem eqStrs_any (a b : Option Addr) (ca cb : Nat) (ss : List ByteArray) (hn : ss.length ≤ 1048576) (w : World) (ra : ReadsS w.heap.size w a ss) (rb : ReadsS w.heap.size w b ss) :
    Calls Try.prog 83 #[.slice a ss.length ca, .slice b ss.length cb] w fun e w' => e = .returned (.bool true) ∧ Below w.heap.size w w' := by
  have HA : Hid (ReadsS w.heap.size w a ss) := ra
  have HBb : Hid (ReadsS w.heap.size w b ss) := rb
  clear ra rb
  go_enter Try.func83, Try.ntmps83
  go_wp2
  go_loopw [5] (fun i wr => ∃ k : Nat, k ≤ ss.length ∧ i = .int .i64 (k : Int) ∧ Below w.heap.size w wr) (fun i _ => ss.length - (intOf i).toNat)
  case atStart => exact ⟨0, Nat.zero_le _, rfl, Below.refl _ _⟩
  case round =>
    obtain ⟨k, hk, rfl, hb⟩ := hrel
    have HB : Hid (Below w.heap.size w wr) := hb
    clear hb
    by_cases hlt : k < ss.length
    · have hlt' : (k : Int) < (ss.length : Int) := by omega
      rcases HA.out with h | ⟨b0, o0, ha, hB0, ia⟩
      · rw [h] at hlt; simp at hlt
      rcases HBb.out with h | ⟨b1, o1, hbb, hB1, ib⟩
      · rw [h] at hlt; simp at hlt
      have c0 := (ia.below HB.out hB0) k hlt
      have d0 := (ib.below HB.out hB1) k hlt
      rw [ha, hbb]
      clear ia ib
      generalize ss.getD k ByteArray.empty = s at *
      have hs := beq_self s
      go_wp2
      go_quiet (fail)
      go_wp2
      go_roundw
      case rel => exact ⟨k + 1, by omega, by go_num, by first | exact HB.out | exact HB.out.drew | exact chain HB.out ⟨rfl, rfl, rfl, Nat.le_refl _, fun _ _ => rfl⟩⟩
      case measure => simp [intOf]; omega
    · go_wp2
      go_ret
      exact ⟨rfl, HB.out⟩

end Go.Proofs.Ytbijgoaanphojaa

/-
  Lists of deals in memory, each with its list of articles; the laws' own szDealS.
-/
namespace Go.Proofs.Ytbijgoaanphojaa
open Go.ChangeShapes Go.WideShapes Go.ChangeAt Go.RowKit Go.Deep
set_option linter.unusedVariables false

structure CDl where
  nm : ByteArray
  kd : Int
  arts : List ByteArray
  nd : Int
  vl : Int
  on : Bool
def zDl : CDl := ⟨ByteArray.empty, 0, [], 0, 0, false⟩
/-- One lies in block b from off on, six cells; h and cp are where its list of articles is. -/
def DlAt (w : World) (b off : Nat) (h : Option Addr) (cp : Nat) (c : CDl) : Prop :=
  w.cell? ⟨b, off, none⟩ = some (.string c.nm) ∧ w.cell? ⟨b, off + 1, none⟩ = some (.int .i64 c.kd) ∧ w.cell? ⟨b, off + 2, none⟩ = some (.slice h c.arts.length cp) ∧ w.cell? ⟨b, off + 3, none⟩ = some (.int .i64 c.nd) ∧ w.cell? ⟨b, off + 4, none⟩ = some (.int .i64 c.vl) ∧ w.cell? ⟨b, off + 5, none⟩ = some (.bool c.on)
theorem DlAt.below {B : Nat} {w w' : World} {b off : Nat} {h : Option Addr} {cp : Nat} {c : CDl} (k : DlAt w b off h cp c) (hb : Below B w w') (hB : b < B) : DlAt w' b off h cp c := by
  obtain ⟨h0, h1, h2, h3, h4, h5⟩ := k
  exact ⟨(hb.cell (p := ⟨b, off, none⟩) hB).trans h0, (hb.cell (p := ⟨b, off + 1, none⟩) hB).trans h1, (hb.cell (p := ⟨b, off + 2, none⟩) hB).trans h2, (hb.cell (p := ⟨b, off + 3, none⟩) hB).trans h3, (hb.cell (p := ⟨b, off + 4, none⟩) hB).trans h4, (hb.cell (p := ⟨b, off + 5, none⟩) hB).trans h5⟩
def DlsAt (B : Nat) (w : World) (b off : Nat) (cs : List CDl) : Prop := ∀ i, i < cs.length → ∃ h cp, DlAt w b (off + i * 6) h cp (cs.getD i zDl) ∧ (cs.getD i zDl).arts.length ≤ cp ∧ ReadsS B w h (cs.getD i zDl).arts
def ReadsDl (B : Nat) (w : World) (a : Option Addr) (cs : List CDl) : Prop := cs = [] ∨ ∃ b off, a = some ⟨b, off, none⟩ ∧ b < B ∧ DlsAt B w b off cs
theorem DlsAt.below {B D : Nat} {w w' : World} {b off : Nat} {cs : List CDl} (h : DlsAt B w b off cs) (hb : Below D w w') (hB : b < D) (hD : B ≤ D) : DlsAt B w' b off cs := fun i hi => by
  obtain ⟨h', cp, k, k', k''⟩ := h i hi
  exact ⟨h', cp, k.below hb hB, k', k''.below (hb.mono hD)⟩
theorem DlsAt.mono {B B' : Nat} {w : World} {b off : Nat} {cs : List CDl} (h : DlsAt B w b off cs) (hb : B ≤ B') : DlsAt B' w b off cs := fun i hi => by
  obtain ⟨h', cp, k, k', k''⟩ := h i hi
  exact ⟨h', cp, k, k', k''.mono hb⟩
theorem ReadsDl.below {B : Nat} {w w' : World} {a : Option Addr} {cs : List CDl} (h : ReadsDl B w a cs) (hb : Below B w w') : ReadsDl B w' a cs := by
  rcases h with h | ⟨b, off, ha, hB, hi⟩
  · exact .inl h
  · exact .inr ⟨b, off, ha, hB, hi.below hb hB (Nat.le_refl _)⟩
theorem ReadsDl.mono {B B' : Nat} {w : World} {a : Option Addr} {cs : List CDl} (h : ReadsDl B w a cs) (hb : B ≤ B') : ReadsDl B' w a cs := by
  rcases h with h | ⟨b, off, ha, hB, hi⟩
  · exact .inl h
  · exact .inr ⟨b, off, ha, by omega, hi.mono hb⟩
theorem ReadsDl.later {w w' : World} {a : Option Addr} {cs : List CDl} (h : ReadsDl w.heap.size w a cs) (hb : Below w.heap.size w w') : ReadsDl w'.heap.size w' a cs := (h.below hb).mono hb.size
theorem getDl {p : CDl → Prop} {cs : List CDl} (h : ∀ r ∈ cs, p r) {k : Nat} (hk : k < cs.length) : p (cs.getD k zDl) := by
  have e : cs.getD k zDl = cs[k] := by simp [List.getD_eq_getElem?_getD, hk]
  rw [e]; exact h _ (List.getElem_mem _)
theorem take_nextDl {p : CDl → Prop} {rs : List CDl} {k : Nat} (h : k < rs.length) (ha : ∀ r ∈ rs.take k, p r) (hk : p (rs.getD k zDl)) : ∀ r ∈ rs.take (k + 1), p r := fun r hr => by
  rw [List.take_succ_eq_append_getElem h] at hr
  rcases List.mem_append.mp hr with h' | h'
  · exact ha r h'
  · simp at h'
    have e : rs.getD k zDl = rs[k] := by simp [List.getD_eq_getElem?_getD, h]
    rw [h', ← e]; exact hk
def DlOK (c : CDl) : Prop := c.nm.size ≤ 2000000 ∧ c.arts.length ≤ 1048576 ∧ ∀ s ∈ c.arts, s.size ≤ 2000000
def DlWide (c : CDl) : Prop := c.nm.size ≤ maxLen ∧ c.arts.length ≤ maxLen ∧ ∀ s ∈ c.arts, s.size ≤ maxLen

def totD (cs : List CDl) : Nat := (cs.map (fun r => r.arts.length)).sum

def SzD (c : CDl) (x0 x : Int) : Prop := x < 0 ∨ (0 ≤ x ∧ x + (c.arts.length : Int) ≤ x0 ∧ DlOK c)
set_option maxHeartbeats 1000000 in
theorem szDl_any (c : CDl) (h : Option Addr) (cp : Nat) (hW : DlWide c) (l : Int) (hl : 0 ≤ l) (hl' : l ≤ 1048576) (w : World) (hr : ReadsS w.heap.size w h c.arts) :
    Calls Try.prog 35 #[.agg #[.string c.nm, .int .i64 c.kd, .slice h c.arts.length cp, .int .i64 c.nd, .int .i64 c.vl, .bool c.on], .int .i64 l] w fun e w' => (∃ x : Int, e = .returned (.int .i64 x) ∧ SzD c l x) ∧ Below w.heap.size w w' := by
  obtain ⟨h1, h2, h3⟩ := hW
  have HR : Hid (ReadsS w.heap.size w h c.arts) := hr
  have HZ : Hid (∀ x0 w, 0 ≤ x0 → x0 ≤ 1048576 → ReadsS w.heap.size w h c.arts → Calls Try.prog 77 #[.slice h c.arts.length cp, .int .i64 x0] w fun e w' => (∃ x : Int, e = .returned (.int .i64 x) ∧ SzS c.arts x0 x) ∧ w' = w) := fun x0 w p q r => szStrs_any h cp c.arts h2 h3 x0 p q w r
  have HO : Hid (∀ x y : Int, 0 ≤ y → y ≤ 1048576 → (c.nm.size : Int) ≤ 1048576 → 0 ≤ x → SzS c.arts y x → x + (c.arts.length : Int) ≤ y ∧ DlOK c) := fun x y a1 a2 a3 a4 a5 => by
    rcases a5 with a5 | ⟨b1, b2, b4⟩
    · omega
    · exact ⟨b2, by omega, by omega, b4⟩
  clear hr h2 h3
  obtain ⟨nm, kd, arts, nd, vl, on⟩ := c
  dsimp only at *
  generalize hN : arts.length = n at *
  unfold maxLen at h1
  have hwr : IntKind.i64.wrap (l - (nm.size : Int)) = l - (nm.size : Int) := wrap_id _ (by omega) (by omega)
  by_cases c1 : l < (nm.size : Int)
  · go_enter Try.func35, Try.ntmps35
    go_wp2
    go_ret
    exact ⟨⟨-1, rfl, .inl (by omega)⟩, below_alloc _ _⟩
  · go_enter Try.func35, Try.ntmps35
    go_wp2_with (go_at_call 77; refine (HZ.out _ _ (by omega) (by omega) (HR.out.later (below_alloc _ _))).mono ?_; rintro e w1 ⟨⟨x, rfl, hx⟩, rfl⟩; have HX : Hid _ := hx; clear hx)
    · go_ret
      exact ⟨⟨-1, rfl, .inl (by omega)⟩, below_alloc _ _⟩
    · have hx0 : 0 ≤ x := by omega
      obtain ⟨k1, k2⟩ := HO.out x _ (by omega) (by omega) (by omega) hx0 HX.out
      have K2 : Hid (DlOK _) := k2
      clear k2
      go_wp2
      go_ret
      exact ⟨⟨x, rfl, .inr ⟨hx0, by show x + (arts.length : Int) ≤ l; rw [hN]; omega, K2.out⟩⟩, below_alloc _ _⟩

def SzDs (cs : List CDl) (w : World) (e : Ending) (w' : World) : Prop := ∃ x : Int, e = .returned (.int .i64 x) ∧ (x < 0 ∨ (0 ≤ x ∧ x ≤ 1048576 ∧ cs.length ≤ 1048576 ∧ totD cs ≤ 1048576 ∧ ∀ r ∈ cs, DlOK r)) ∧ Below w.heap.size w w'
set_option maxHeartbeats 1000000 in
theorem szDls_any (a : Option Addr) (cap : Nat) (cs : List CDl) (hl : cs.length ≤ maxLen) (hp : ∀ r ∈ cs, DlWide r) (x0 : Int) (hx0 : 0 ≤ x0) (hx1 : x0 ≤ 1048576) (w : World) (hr : ReadsDl w.heap.size w a cs) :
    Calls Try.prog 10 #[.slice a cs.length cap, .int .i64 x0] w (SzDs cs w) := by
  have HR : Hid (ReadsDl w.heap.size w a cs) := hr
  have HP : Hid (∀ r ∈ cs, DlWide r) := hp
  clear hr hp
  unfold maxLen at hl
  have hwr : IntKind.i64.wrap (x0 - (cs.length : Int)) = x0 - (cs.length : Int) := wrap_id _ (by omega) (by omega)
  by_cases c1 : x0 < (cs.length : Int)
  · go_enter Try.func10, Try.ntmps10
    go_wp2
    go_ret
    exact ⟨-1, rfl, .inl (by omega), Below.refl _ _⟩
  · go_enter Try.func10, Try.ntmps10
    go_wp2
    go_loopw [1, 5] (fun l c wr => ∃ (k : Nat) (x : Int), k ≤ cs.length ∧ c = .int .i64 (k : Int) ∧ l = .int .i64 x ∧ 0 ≤ x ∧ x + (totD (cs.take k) : Int) ≤ 1048576 ∧ (∀ r ∈ cs.take k, DlOK r) ∧ Below w.heap.size w wr) (fun _ c _ => cs.length - (intOf c).toNat)
    case atStart => exact ⟨0, x0 - (cs.length : Int), Nat.zero_le _, rfl, rfl, by omega, by simp [totD]; omega, by simp, Below.refl _ _⟩
    case round =>
      obtain ⟨k, x, hk, rfl, rfl, hx0, hx2, hall, hb⟩ := hrel
      have hx1 : x ≤ 1048576 := by omega
      have HX2 : Hid (x + (totD (cs.take k) : Int) ≤ 1048576) := hx2
      clear hx2
      have HA : Hid (∀ r ∈ cs.take k, DlOK r) := hall
      have HB : Hid (Below w.heap.size w wr) := hb
      clear hall hb
      by_cases hlt : k < cs.length
      · have hlt' : (k : Int) < (cs.length : Int) := by omega
        rcases HR.out with h | ⟨b0, o0, ha, hB0, ia⟩
        · rw [h] at hlt; simp at hlt
        obtain ⟨h, cp, ⟨c0, c1', c2, c3, c4, c5⟩, _, hS⟩ := (ia.below HB.out hB0 (Nat.le_refl _)) k hlt
        have HN : Hid (DlOK (cs.getD k zDl) → ∀ r ∈ cs.take (k + 1), DlOK r) := fun q => take_nextDl hlt HA.out q
        have HS : Hid (ReadsS w.heap.size wr h (cs.getD k zDl).arts) := hS
        have HSum : Hid (totD (cs.take (k + 1)) = totD (cs.take k) + (cs.getD k zDl).arts.length) := by
          have e : cs.getD k zDl = cs[k] := by simp [List.getD_eq_getElem?_getD, hlt]
          show _ = _
          unfold totD
          rw [List.take_succ_eq_append_getElem hlt, e, List.map_append, List.sum_append]; simp only [List.map_cons, List.map_nil, List.sum_cons, List.sum_nil, Nat.add_zero]
        have hsz := szDl_any (cs.getD k zDl) h cp (getDl HP.out hlt) x hx0 hx1 wr (HS.out.mono HB.out.size)
        rw [ha]
        clear ia hS
        generalize cs.getD k zDl = r at *
        obtain ⟨nm, kd, arts, nd, vl, on⟩ := r
        dsimp only at c0 c1' c2 c3 c4 c5 HN hsz HSum
        have HY2 : Hid (∀ y : Int, SzD ⟨nm, kd, arts, nd, vl, on⟩ x y → y < 0 ∨ (0 ≤ y ∧ y ≤ x ∧ y + (totD (cs.take (k + 1)) : Int) ≤ 1048576 ∧ DlOK ⟨nm, kd, arts, nd, vl, on⟩)) := fun y h => by
          rcases h with h | ⟨h1, h2, h3⟩
          · exact .inl h
          · dsimp only at h2
            have := HX2.out
            have := HSum.out
            exact .inr ⟨h1, by omega, by omega, h3⟩
        clear HSum
        generalize arts.length = n at *
        go_wp2_with (go_at_call 35; refine hsz.mono ?_; rintro e w2 ⟨⟨y, rfl, hy⟩, hb2⟩; have HY : Hid _ := hy; have HB2 : Hid (Below w.heap.size w w2) := chain HB.out hb2; clear hy hb2)
        · go_ret
          exact ⟨-1, rfl, .inl (by omega), HB2.out⟩
        · rcases HY2.out y HY.out with h | ⟨y0, y1, y2, z⟩
          · omega
          have HN1 : Hid (∀ r ∈ cs.take (k + 1), DlOK r) := HN.out z
          have HN2 : Hid (y + (totD (cs.take (k + 1)) : Int) ≤ 1048576) := y2
          clear z y2
          go_roundw
          case rel => exact ⟨k + 1, y, by omega, by go_num, rfl, by omega, HN2.out, HN1.out, HB2.out⟩
          case measure => simp [intOf]; omega
      · have hle : (cs.length : Int) ≤ (k : Int) := by omega
        have HE : Hid (∀ r ∈ cs, DlOK r) := by
          have := HA.out
          rw [List.take_of_length_le (by omega)] at this
          exact this
        have HE2 : Hid (totD cs ≤ 1048576) := by
          have := HX2.out
          rw [List.take_of_length_le (by omega)] at this
          show _ ≤ _
          omega
        go_wp2
        go_ret
        exact ⟨x, rfl, .inr ⟨hx0, hx1, by omega, HE2.out, HE.out⟩, HB.out⟩

end Go.Proofs.Ytbijgoaanphojaa
