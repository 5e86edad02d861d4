/-
  The laws' own helpers on lists of packs (szPackS, toPackS, eqPackS, markPackS).
-/
import Derived.Test.YtaledfdhiimhdajPackB
import Derived.Test.YtaledfdhiimhdajMarkText
namespace Go.Proofs.Ytaledfdhiimhdaj
open Go.ChangeShapes Go.WideShapes Go.ChangeAt Go.RowKit
set_option linter.unusedVariables false

def pkV (p : Pk) : Value := .agg #[.string p.name, .string p.of, .int .i64 p.count]

/-- What is left behind a pack's texts. -/
def szP (p : Pk) (l : Int) : Int := if l < (p.name.size : Int) then -1 else if l - (p.name.size : Int) < (p.of.size : Int) then -1 else l - (p.name.size : Int) - (p.of.size : Int)
theorem szPack_any (p : Pk) (h1 : p.name.size ≤ maxLen) (h2 : p.of.size ≤ maxLen) (l : Int) (hl : 0 ≤ l) (hl' : l ≤ 1048576) (w : World) :
    Calls Try.prog 31 #[.agg #[.string p.name, .string p.of, .int .i64 p.count], .int .i64 l] w fun e w' => e = .returned (.int .i64 (szP p l)) ∧ Below w.heap.size w w' := by
  obtain ⟨nm, ofn, cnt⟩ := p
  simp only [] at h1 h2
  unfold maxLen at h1 h2
  unfold szP
  by_cases c1 : l < (nm.size : Int)
  · simp only [if_pos c1]
    go_enter Try.func31, Try.ntmps31
    go_wp2
    go_ret
    exact ⟨rfl, below_alloc _ _⟩
  · by_cases c2 : l - (nm.size : Int) < (ofn.size : Int)
    · simp only [if_neg c1, if_pos c2]
      go_enter Try.func31, Try.ntmps31
      go_wp2
      go_ret
      exact ⟨rfl, below_alloc _ _⟩
    · simp only [if_neg c1, if_neg c2]
      go_enter Try.func31, Try.ntmps31
      go_wp2
      go_ret
      exact ⟨rfl, below_alloc _ _⟩

/-- A list of packs whose texts are texts of Go. -/
def PkWide (p : Pk) : Prop := p.name.size ≤ maxLen ∧ p.of.size ≤ maxLen

def SzPost (ps : List Pk) (w : World) (e : Ending) (w' : World) : Prop := ∃ x : Int, e = .returned (.int .i64 x) ∧ (x < 0 ∨ (0 ≤ x ∧ ps.length ≤ 1048576 ∧ ∀ p ∈ ps, PkOK p)) ∧ Below w.heap.size w w'
theorem szP_ok {p : Pk} {l : Int} (h : 0 ≤ szP p l) (hl : l ≤ 1048576) (h1 : p.name.size ≤ maxLen) (h2 : p.of.size ≤ maxLen) : PkOK p ∧ szP p l ≤ 1048576 := by
  unfold szP at h ⊢
  by_cases c1 : l < (p.name.size : Int)
  · rw [if_pos c1] at h; omega
  · rw [if_neg c1] at h ⊢
    by_cases c2 : l - (p.name.size : Int) < (p.of.size : Int)
    · rw [if_pos c2] at h; omega
    · rw [if_neg c2] at h ⊢
      exact ⟨⟨by omega, by omega⟩, by omega⟩
theorem take_next_all {P : Pk → Prop} {ps : List Pk} {k : Nat} (h : k < ps.length) (ha : ∀ p ∈ ps.take k, P p) (hk : P (ps.getD k pk0)) : ∀ p ∈ ps.take (k + 1), P p := fun p hp => by
  rw [List.take_succ_eq_append_getElem h] at hp
  rcases List.mem_append.mp hp with h' | h'
  · exact ha p h'
  · simp at h'
    have e : ps.getD k pk0 = ps[k] := by simp [List.getD_eq_getElem?_getD, h]
    rw [h', ← e]; exact hk
theorem getD_all {P : Pk → Prop} {ps : List Pk} {k : Nat} (h : k < ps.length) (ha : ∀ p ∈ ps, P p) : P (ps.getD k pk0) := by
  have e : ps.getD k pk0 = ps[k] := by simp [List.getD_eq_getElem?_getD, h]
  rw [e]; exact ha _ (List.getElem_mem _)

set_option maxHeartbeats 1000000 in
theorem szPacks_any (a : Option Addr) (cap : Nat) (ps : List Pk) (hl : ps.length ≤ maxLen) (hp : ∀ p ∈ ps, PkWide p) (w : World) (hr : ReadsP w.heap.size w a ps) :
    Calls Try.prog 8 #[.slice a ps.length cap, .int .i64 1048576] w (SzPost ps w) := by
  have HR : Hid (ReadsP w.heap.size w a ps) := hr
  have HP : Hid (∀ p ∈ ps, PkWide p) := hp
  clear hr hp
  unfold maxLen at hl
  by_cases c1 : (1048576 : Int) < (ps.length : Int)
  · go_enter Try.func8, Try.ntmps8
    go_wp2
    go_ret
    exact ⟨-1, rfl, .inl (by omega), Below.refl _ _⟩
  · go_enter Try.func8, Try.ntmps8
    go_wp2
    go_loopw [1, 5] (fun l c wr => ∃ (k : Nat) (x : Int), k ≤ ps.length ∧ c = .int .i64 (k : Int) ∧ l = .int .i64 x ∧ 0 ≤ x ∧ x ≤ 1048576 ∧ (∀ p ∈ ps.take k, PkOK p) ∧ Below w.heap.size w wr) (fun _ c _ => ps.length - (intOf c).toNat)
    case atStart => exact ⟨0, 1048576 - (ps.length : Int), Nat.zero_le _, rfl, rfl, by omega, by omega, by simp, Below.refl _ _⟩
    case round =>
      obtain ⟨k, x, hk, rfl, rfl, hx0, hx1, hall, hb⟩ := hrel
      have HA : Hid (∀ p ∈ ps.take k, PkOK p) := hall
      have HB : Hid (Below w.heap.size w wr) := hb
      clear hall hb
      by_cases hlt : k < ps.length
      · have hlt' : (k : Int) < (ps.length : Int) := by omega
        rcases HR.out with h | ⟨b0, o0, ha, hB0, ia⟩
        · rw [h] at hlt; simp at hlt
        obtain ⟨c0, c1', c2⟩ := (ia.below HB.out hB0) k hlt
        have hW : PkWide (ps.getD k pk0) := getD_all hlt HP.out
        have hsz := fun w => szPack_any (ps.getD k pk0) hW.1 hW.2 x hx0 hx1 w
        have HN : Hid (0 ≤ szP (ps.getD k pk0) x → (∀ p ∈ ps.take (k + 1), PkOK p) ∧ szP (ps.getD k pk0) x ≤ 1048576) := fun h => ⟨take_next_all hlt HA.out (szP_ok h hx1 hW.1 hW.2).1, (szP_ok h hx1 hW.1 hW.2).2⟩
        rw [ha]
        clear ia hW
        generalize (ps.getD k pk0).name = nm at *
        generalize (ps.getD k pk0).of = ofn at *
        generalize (ps.getD k pk0).count = cnt at *
        generalize szP (ps.getD k pk0) x = y at *
        by_cases hy : y < 0
        · go_wp2_with (go_at_call 31; refine (hsz _).mono ?_; rintro e w2 ⟨rfl, hb2⟩; have HB2 : Hid (Below w.heap.size w w2) := chain HB.out hb2)
          go_ret
          exact ⟨-1, rfl, .inl (by omega), HB2.out⟩
        · obtain ⟨hn1, hn2⟩ := HN.out (by omega)
          have HN1 : Hid (∀ p ∈ ps.take (k + 1), PkOK p) := hn1
          clear hn1
          go_wp2_with (go_at_call 31; refine (hsz _).mono ?_; rintro e w2 ⟨rfl, hb2⟩; have HB2 : Hid (Below w.heap.size w w2) := chain HB.out hb2)
          go_roundw
          case rel => exact ⟨k + 1, y, by omega, by go_num, rfl, by omega, hn2, HN1.out, HB2.out⟩
          case measure => simp [intOf]; omega
      · have hle : (ps.length : Int) ≤ (k : Int) := by omega
        have HE : Hid (∀ p ∈ ps, PkOK p) := by
          have := HA.out
          rw [List.take_of_length_le (by omega)] at this
          exact this
        go_wp2
        go_ret
        exact ⟨x, rfl, .inr ⟨hx0, by omega, HE.out⟩, HB.out⟩

/-! ### toPackS -/
theorem toPack_any (n o : ByteArray) (c : Int) (w : World) :
    Calls Try.prog 35 #[.agg #[.string n, .string o, .int .i64 c]] w fun e w' => e = .returned (.agg #[.string n, .string o, .int .i64 c]) ∧ Below w.heap.size w w' := by
  have l1 : ∀ n : Nat, n < n + 1 + 1 := fun n => by omega
  have l2 : ∀ n : Nat, n < n + 2 := fun n => by omega
  go_enter Try.func35, Try.ntmps35
  go_wp2
  refine bodyPost_ret (v := .agg #[.string n, .string o, .int .i64 c]) (by simp [results, Try.results35, go_sem]) rfl ⟨rfl, chain (chain (below_alloc _ _) (below_alloc _ _)) (below_alloc _ _)⟩

/-- Cell j of a row of packs. -/
def pkCell (p : Pk) (j : Nat) : Value := if j = 0 then .string p.name else if j = 1 then .string p.of else .int .i64 p.count
theorem packInfo : (Try.prog.info? 61).map (fun i => (i.zero, i.size, i.bytes)) = some (some (.agg #[.string ⟨#[]⟩, .string ⟨#[]⟩, .int .i64 0]), 3, 40) := by kernel_rfl
theorem make_packs (n : Nat) (hn : n ≤ 100000000) (w : World) :
    (Instr.makeSlice 27 (.int .i64 (n : Int)) (.int .i64 (n : Int))).run Try.prog w = .ok (.slice (some ⟨w.heap.size, 0, none⟩) n n) (w.alloc (.cells (madeCells #[.string ⟨#[]⟩, .string ⟨#[]⟩, .int .i64 0] (n * 3)) 61)) := by
  obtain ⟨i, hi, hzz⟩ := Option.map_eq_some_iff.1 packInfo
  simp only [Prod.mk.injEq] at hzz
  obtain ⟨hz, hs, hb⟩ := hzz
  have hr := run_make (P := Try.prog) w 27 61 i _ Try.underlying27 hi hz .i64 .i64 (n : Int) (n : Int) (by omega) (Int.le_refl _) (by rw [hb]; omega) (by omega)
  simp only [Int.toNat_natCast, hs] at hr
  exact hr
theorem packs_made (w : World) (n : Nat) : (w.alloc (.cells (madeCells #[.string ⟨#[]⟩, .string ⟨#[]⟩, .int .i64 0] (n * 3)) 61)).rowIs w.heap.size 61 (n * 3) (fun j => pkCell pk0 (j % 3)) := by
  refine ⟨_, heapNew _ _, size_madeCells _ _, fun i hi => ?_⟩
  have h3 : i % 3 = 0 ∨ i % 3 = 1 ∨ i % 3 = 2 := by omega
  unfold pkCell pk0
  rcases h3 with h | h | h <;> simp [madeCells, hi, h] <;> rfl

/-- A row of packs of its own: the first k as in ps, zero behind. -/
def pkFill (ps : List Pk) (k j : Nat) : Value := pkCell (if j / 3 < k then ps.getD (j / 3) pk0 else pk0) (j % 3)
theorem pkFill_set {w : World} {b : Nat} {ps : List Pk} {n k : Nat} (h : w.rowIs b 61 (n * 3) (pkFill ps k)) :
    (((w.setCell ⟨b, k * 3, none⟩ (.string (ps.getD k pk0).name)).setCell ⟨b, k * 3 + 1, none⟩ (.string (ps.getD k pk0).of)).setCell ⟨b, k * 3 + 2, none⟩ (.int .i64 (ps.getD k pk0).count)).rowIs b 61 (n * 3) (pkFill ps (k + 1)) := by
  refine (((h.set (k * 3) _).set (k * 3 + 1) _).set (k * 3 + 2) _).congr fun j hj => ?_
  unfold pkFill
  by_cases e2 : j = k * 3 + 2
  · rw [if_pos e2, if_pos (by omega), show j / 3 = k by omega, show j % 3 = 2 by omega]; rfl
  · rw [if_neg e2]
    by_cases e1 : j = k * 3 + 1
    · rw [if_pos e1, if_pos (by omega), show j / 3 = k by omega, show j % 3 = 1 by omega]; rfl
    · rw [if_neg e1]
      by_cases e0 : j = k * 3
      · rw [if_pos e0, if_pos (by omega), show j / 3 = k by omega, show j % 3 = 0 by omega]; rfl
      · rw [if_neg e0]
        by_cases h : j / 3 < k
        · rw [if_pos h, if_pos (by omega)]
        · rw [if_neg h, if_neg (by omega)]
def FreeP (w : World) (b n : Nat) : Prop := ∀ j, j < n * 3 → w.frozen? ⟨b, j, none⟩ = false
theorem packsAt_of {w : World} {b : Nat} {ps : List Pk} (h : w.rowIs b 61 (ps.length * 3) (pkFill ps ps.length)) : PacksAt w b 0 ps := fun i hi => by
  refine ⟨?_, ?_, ?_⟩
  · rw [h.cell (i := 0 + i * 3) (by omega)]; unfold pkFill; rw [if_pos (by omega), show (0 + i * 3) / 3 = i by omega, show (0 + i * 3) % 3 = 0 by omega]; rfl
  · rw [h.cell (i := 0 + i * 3 + 1) (by omega)]; unfold pkFill; rw [if_pos (by omega), show (0 + i * 3 + 1) / 3 = i by omega, show (0 + i * 3 + 1) % 3 = 1 by omega]; rfl
  · rw [h.cell (i := 0 + i * 3 + 2) (by omega)]; unfold pkFill; rw [if_pos (by omega), show (0 + i * 3 + 2) / 3 = i by omega, show (0 + i * 3 + 2) % 3 = 2 by omega]; rfl

set_option maxHeartbeats 2000000 in
theorem toPacks_any (a : Option Addr) (cap : Nat) (ps : List Pk) (hn : ps.length ≤ 1048576) (w : World) (hr : ReadsP w.heap.size w a ps) :
    Calls Try.prog 10 #[.slice a ps.length cap] w fun e w' => e = .returned (.slice (some ⟨w.heap.size, 0, none⟩) ps.length ps.length) ∧ Below w.heap.size w w' ∧ w.heap.size < w'.heap.size ∧ PacksAt w' w.heap.size 0 ps ∧ FreeP w' w.heap.size ps.length := by
  have hmk := fun w => make_packs ps.length (by omega) w
  have HM : Hid ((w.alloc (.cells (madeCells #[.string ⟨#[]⟩, .string ⟨#[]⟩, .int .i64 0] (ps.length * 3)) 61)).rowIs w.heap.size 61 (ps.length * 3) (fun j => pkCell pk0 (j % 3))) := packs_made w ps.length
  have HR : Hid (ReadsP w.heap.size w a ps) := hr
  clear hr
  go_enter Try.func10, Try.ntmps10
  go_wp2
  go_loopw [4] (fun i wr => ∃ k : Nat, k ≤ ps.length ∧ i = .int .i64 (k : Int) ∧ Below w.heap.size w wr ∧ wr.rowIs w.heap.size 61 (ps.length * 3) (pkFill ps k)) (fun i _ => ps.length - (intOf i).toNat)
  case atStart => exact ⟨0, Nat.zero_le _, rfl, below_alloc _ _, HM.out.congr (fun i hi => by unfold pkFill; rw [if_neg (by omega)])⟩
  case round =>
    obtain ⟨k, hk, rfl, hb, hrow⟩ := hrel
    have HB : Hid (Below w.heap.size w wr) := hb
    have HW : Hid (wr.rowIs w.heap.size 61 (ps.length * 3) (pkFill ps k)) := hrow
    clear hb hrow
    by_cases hlt : k < ps.length
    · have hlt' : (k : Int) < (ps.length : Int) := by omega
      rcases HR.out with h | ⟨b0, o0, ha, hB0, ia⟩
      · rw [h] at hlt; simp at hlt
      obtain ⟨c0, c1, c2⟩ := (ia.below HB.out hB0) k hlt
      have HN : Hid (∀ w2, Below wr.heap.size wr w2 → (((w2.setCell ⟨w.heap.size, k * 3, none⟩ (.string (ps.getD k pk0).name)).setCell ⟨w.heap.size, k * 3 + 1, none⟩ (.string (ps.getD k pk0).of)).setCell ⟨w.heap.size, k * 3 + 2, none⟩ (.int .i64 (ps.getD k pk0).count)).rowIs w.heap.size 61 (ps.length * 3) (pkFill ps (k + 1)) ∧ Below w.heap.size w (((w2.setCell ⟨w.heap.size, k * 3, none⟩ (.string (ps.getD k pk0).name)).setCell ⟨w.heap.size, k * 3 + 1, none⟩ (.string (ps.getD k pk0).of)).setCell ⟨w.heap.size, k * 3 + 2, none⟩ (.int .i64 (ps.getD k pk0).count)) ∧ (w2.cell? ⟨w.heap.size, k * 3, none⟩).isSome = true ∧ (w2.cell? ⟨w.heap.size, k * 3 + 1, none⟩).isSome = true ∧ (w2.cell? ⟨w.heap.size, k * 3 + 2, none⟩).isSome = true ∧ w2.frozen? ⟨w.heap.size, k * 3, none⟩ = false ∧ w2.frozen? ⟨w.heap.size, k * 3 + 1, none⟩ = false ∧ w2.frozen? ⟨w.heap.size, k * 3 + 2, none⟩ = false) := fun w2 hb2 => by
        have hw2 := HW.out.of_block (hb2.block _ HW.out.lt)
        refine ⟨pkFill_set hw2, ((((HB.out.trans (hb2.mono HB.out.size)).setCell (Nat.le_refl _) _).setCell (Nat.le_refl _) _).setCell (Nat.le_refl _) _), ?_, ?_, ?_, hw2.frozen _, hw2.frozen _, hw2.frozen _⟩
        · rw [hw2.cell (by omega)]; rfl
        · rw [hw2.cell (by omega)]; rfl
        · rw [hw2.cell (by omega)]; rfl
      rw [ha]
      clear ia
      generalize (ps.getD k pk0).name = nm at *
      generalize (ps.getD k pk0).of = ofn at *
      generalize (ps.getD k pk0).count = cnt at *
      go_wp2_with (go_at_call 35; refine (toPack_any _ _ _ _).mono ?_; rintro e w2 ⟨rfl, hb2⟩; obtain ⟨n1, n2, n3, n4, n5, n6, n7, n8⟩ := HN.out w2 hb2; have N1 : Hid (_) := n1; have N2 : Hid (_) := n2; obtain ⟨v3, hv3⟩ := Option.isSome_iff_exists.mp n3; obtain ⟨v4, hv4⟩ := Option.isSome_iff_exists.mp n4; obtain ⟨v5, hv5⟩ := Option.isSome_iff_exists.mp n5; clear n1 n2 n3 n4 n5)
      go_roundw
      case rel => exact ⟨k + 1, by omega, by go_num, N2.out, N1.out⟩
      case measure => simp [intOf]; omega
    · obtain rfl : k = ps.length := by omega
      go_wp2
      go_ret
      exact ⟨rfl, HB.out, HW.out.lt, packsAt_of HW.out, fun j hj => HW.out.frozen j⟩
end Go.Proofs.Ytaledfdhiimhdaj
