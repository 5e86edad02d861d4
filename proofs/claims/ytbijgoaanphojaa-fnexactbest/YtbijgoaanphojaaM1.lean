/-
  Texts of this claim laid together: Base, Lists0, Lists.
-/
import Derived.Test.YtbijgoaanphojaaRows
import Derived.WalkKit
import Derived.ProofKit
import Derived.OpenShut
import Derived.ShutString
import Derived.ChangeOld
import Derived.Below
import Derived.Lib.SmallJoins
import Derived.LoopTactic
import Derived.Deep.OwnRows
import Derived.Deep.Light
import Derived.BigQuiet
import Derived.Deep.QuietTactic
import Derived.WalkLawsBesides
import Derived.WalkSmall
import Derived.Deep.RegionHeld3
/-
  Small lemmas on worlds, rows and endings that the other texts lean on; nothing of the program is in them.
-/
namespace Go.Proofs.Ytbijgoaanphojaa
open Go.ChangeShapes Go.WideShapes Go.ChangeAt Go.RowKit
set_option linter.unusedVariables false

def inB (n lo hi : Int) : Bool := decide (lo ≤ n ∧ n ≤ hi)
def rateB (n d : Int) : Bool := decide ((0 ≤ n ∧ n ≤ 10000) ∧ 1 ≤ d ∧ d ≤ 10000)

theorem ret_bool {a b : Bool} (h : a = b) : Ending.returned (.bool a) = .returned (.bool b) := by rw [h]

theorem bfacts {W w1 : World} (hb : Below W.heap.size W w1) : (∀ b o, b < W.heap.size → w1.cell? ⟨b, o, none⟩ = W.cell? ⟨b, o, none⟩) ∧ (∀ b o, b < W.heap.size → w1.frozen? ⟨b, o, none⟩ = W.frozen? ⟨b, o, none⟩) ∧ (∀ k, k < W.heap.size → k < w1.heap.size) :=
  ⟨fun b o h => hb.cell (p := ⟨b, o, none⟩) h, fun b o h => hb.frozen (p := ⟨b, o, none⟩) h, fun k h => Nat.lt_of_lt_of_le h hb.size⟩

theorem chain {w a b : World} (h : Below w.heap.size w a) (k : Below a.heap.size a b) : Below w.heap.size w b := h.trans (k.mono h.size)
theorem below_alloc (w : World) (o : Obj) : Below w.heap.size w (w.alloc o) := (Below.refl _ _).alloc (Nat.le_refl _) _
theorem below_drew (w : World) : Below w.heap.size w w.drew := (Below.refl _ _).drew

/-- What a walk is told of a slice of integers that came in: it is nil, or it leads to a row of 'cap' cells, the numbers 'zs'. -/
def IsRow (k : IntKind) (w : World) (a : Option Addr) (len cap : Nat) (zs : List Int) : Prop :=
  (a = none ∧ len = 0 ∧ cap = 0 ∧ zs = []) ∨
  ∃ x, a = some x ∧ len ≤ cap ∧ cap ≤ maxLen ∧ zs.length = cap ∧ (∀ i, i < zs.length → w.cell? (x.add i) = some (.int k (zs.getD i 0))) ∧ ∀ n ∈ zs, (Lit.int k n).wf = true

theorem in_ways (n lo hi : Int) : n < lo ∨ (lo ≤ n ∧ hi < n) ∨ (lo ≤ n ∧ n ≤ hi) := by omega
theorem rate_ways (n d : Int) : n < 0 ∨ (0 ≤ n ∧ 10000 < n) ∨ (0 ≤ n ∧ n ≤ 10000 ∧ d < 1) ∨ (0 ≤ n ∧ n ≤ 10000 ∧ 1 ≤ d ∧ 10000 < d) ∨ (0 ≤ n ∧ n ≤ 10000 ∧ 1 ≤ d ∧ d ≤ 10000) := by omega

theorem ret_int {k : IntKind} {a b : Int} (h : a = b) : Ending.returned (.int k a) = .returned (.int k b) := by rw [h]
theorem ret_two {a b c d : Int} (h : a = b) (k : c = d) : Ending.returned (.tuple #[.int .i64 a, .int .i64 c]) = .returned (.tuple #[.int .i64 b, .int .i64 d]) := by rw [h, k]
theorem wrap_id (x : Int) (h : -9223372036854775808 ≤ x) (h' : x ≤ 9223372036854775807) : IntKind.i64.wrap x = x := by
  rw [IntKind.wrap_i64]; omega
end Go.Proofs.Ytbijgoaanphojaa

/-
  Lists of numbers in memory: where they lie, what stays of them; nothing of the program is in it.
-/
namespace Go.Proofs.Ytbijgoaanphojaa
open Go.ChangeShapes Go.WideShapes Go.ChangeAt Go.RowKit
set_option linter.unusedVariables false

theorem heapNew (w : World) (o : Obj) : (w.alloc o).heap[w.heap.size]? = some o := by
  show (w.heap.push o)[w.heap.size]? = _
  simp
/-- The numbers xs lie in block b from off on. -/
def IntsAt (w : World) (b off : Nat) (xs : List Int) : Prop := ∀ i, i < xs.length → w.cell? ⟨b, off + i, none⟩ = some (.int .i64 (xs.getD i 0))
def FreeAt (w : World) (b off n : Nat) : Prop := ∀ i, i < n → w.frozen? ⟨b, off + i, none⟩ = false
/-- A slice that can be read: its numbers are xs; its block lies below B. -/
def Reads (B : Nat) (w : World) (a : Option Addr) (xs : List Int) : Prop := xs = [] ∨ ∃ b off, a = some ⟨b, off, none⟩ ∧ b < B ∧ IntsAt w b off xs

theorem IntsAt.below {B : Nat} {w w' : World} {b off : Nat} {xs : List Int} (h : IntsAt w b off xs) (hb : Below B w w') (hB : b < B) : IntsAt w' b off xs := fun i hi => (hb.cell (p := ⟨b, off + i, none⟩) hB).trans (h i hi)
theorem FreeAt.below {B : Nat} {w w' : World} {b off n : Nat} (h : FreeAt w b off n) (hb : Below B w w') (hB : b < B) : FreeAt w' b off n := fun i hi => (hb.frozen (p := ⟨b, off + i, none⟩) hB).trans (h i hi)
theorem Reads.below {B : Nat} {w w' : World} {a : Option Addr} {xs : List Int} (h : Reads B w a xs) (hb : Below B w w') : Reads B w' a xs := by
  rcases h with h | ⟨b, off, ha, hB, hi⟩
  · exact .inl h
  · exact .inr ⟨b, off, ha, hB, hi.below hb hB⟩
theorem Reads.mono {B B' : Nat} {w : World} {a : Option Addr} {xs : List Int} (h : Reads B w a xs) (hb : B ≤ B') : Reads B' w a xs := by
  rcases h with h | ⟨b, off, ha, hB, hi⟩
  · exact .inl h
  · exact .inr ⟨b, off, ha, by omega, hi⟩

theorem intInfo : (Try.prog.info? 3).map (fun i => (i.zero, i.size, i.bytes)) = some (some (.int .i64 0), 1, 8) := by kernel_rfl

theorem take_next {xs ys : List Int} {k : Nat} (hx : k < xs.length) (hy : k < ys.length) (h : xs.take k = ys.take k) (he : xs.getD k 0 = ys.getD k 0) : xs.take (k + 1) = ys.take (k + 1) := by
  rw [List.take_succ_eq_append_getElem hx, List.take_succ_eq_append_getElem hy, h]
  have e1 : xs.getD k 0 = xs[k] := by simp [List.getD_eq_getElem?_getD, hx]
  have e2 : ys.getD k 0 = ys[k] := by simp [List.getD_eq_getElem?_getD, hy]
  rw [← e1, ← e2, he]

theorem getD_bound {L : List Int} {lo hi : Int} (h : ∀ x ∈ L, lo ≤ x ∧ x ≤ hi) (i : Nat) (hi' : i < L.length) : lo ≤ L.getD i 0 ∧ L.getD i 0 ≤ hi := by
  have e : L.getD i 0 = L[i] := by simp [List.getD_eq_getElem?_getD, hi']
  rw [e]; exact h _ (List.getElem_mem _)
/-- Of what was there block b alone may have turned, and no mark. -/
def Others (b : Nat) (w w' : World) : Prop := (∀ c o, c ≠ b → w'.cell? ⟨c, o, none⟩ = w.cell? ⟨c, o, none⟩) ∧ (∀ c o, w'.frozen? ⟨c, o, none⟩ = w.frozen? ⟨c, o, none⟩) ∧ w'.heap.size = w.heap.size ∧ ∀ B, B ≤ b → Below B w w'
theorem Others.refl (b : Nat) (w : World) : Others b w w := ⟨fun _ _ _ => rfl, fun _ _ => rfl, rfl, fun _ _ => Below.refl _ _⟩
theorem Others.set {b : Nat} {w wr : World} (h : Others b w wr) (o : Nat) (v : Value) : Others b w (wr.setCell ⟨b, o, none⟩ v) := by
  obtain ⟨h1, h2, h3, h4⟩ := h
  refine ⟨fun c o' hc => ?_, fun c o' => ?_, ?_, fun B hB => (h4 B hB).setCell hB _⟩
  · rw [World.cell?_setCell_far _ _ _ _ (Ne.symm hc)]; exact h1 c o' hc
  · rw [World.frozen?_setCell]; exact h2 c o'
  · rw [World.size_setCell]; exact h3
theorem Others.ints {b c : Nat} {w w' : World} (h : Others b w w') (hc : c ≠ b) {off : Nat} {xs : List Int} (hi : IntsAt w c off xs) : IntsAt w' c off xs := fun i hk => (h.1 c (off + i) hc).trans (hi i hk)
theorem Others.free {b c : Nat} {w w' : World} (h : Others b w w') {off n : Nat} (hi : FreeAt w c off n) : FreeAt w' c off n := fun i hk => (h.2.1 c (off + i)).trans (hi i hk)

/-- k, k + 1, .. -/
def marks (k : Int) (n : Nat) : List Int := (List.range n).map fun (i : Nat) => k + (i : Int)
theorem marks_length (k : Int) (n : Nat) : (marks k n).length = n := by simp [marks]
theorem marks_getD (k : Int) (n i : Nat) (h : i < n) : (marks k n).getD i 0 = k + (i : Int) := by simp [marks, List.getD_eq_getElem?_getD, h]

/-- The numbers L lie at the head of a block of their own, not below B. -/
def Own2 (B : Nat) (w : World) (g : Option Addr) (L : List Int) : Prop := L = [] ∨ ∃ b, g = some ⟨b, 0, none⟩ ∧ B ≤ b ∧ b < w.heap.size ∧ IntsAt w b 0 L ∧ FreeAt w b 0 L.length

theorem Own2.reads {B : Nat} {w : World} {g : Option Addr} {L : List Int} (h : Own2 B w g L) : Reads w.heap.size w g L := by
  rcases h with h | ⟨b, hg, _, hlt, hi, _⟩
  · exact .inl h
  · exact .inr ⟨b, 0, hg, hlt, hi⟩
theorem Own2.below {B D : Nat} {w w' : World} {g : Option Addr} {L : List Int} (h : Own2 B w g L) (hb : Below D w w') (hD : w.heap.size ≤ D) : Own2 B w' g L := by
  rcases h with h | ⟨b, hg, hB, hlt, hi, hf⟩
  · exact .inl h
  · exact .inr ⟨b, hg, hB, Nat.lt_of_lt_of_le hlt hb.size, hi.below hb (Nat.lt_of_lt_of_le hlt hD), hf.below hb (Nat.lt_of_lt_of_le hlt hD)⟩
/-- Only one block was written: not this one. -/
theorem Own2.others {B b : Nat} {w w' : World} {g : Option Addr} {L : List Int} (h : Own2 B w g L) (ho : Others b w w') (hne : ∀ c, g = some ⟨c, 0, none⟩ → c ≠ b ∨ L = []) : Own2 B w' g L := by
  rcases h with h | ⟨c, hg, hB, hlt, hi, hf⟩
  · exact .inl h
  · rcases hne c hg with h | h
    · exact .inr ⟨c, hg, hB, by rw [ho.2.2.1]; exact hlt, ho.ints h hi, ho.free hf⟩
    · exact .inl h

theorem reads_of_row {w : World} {a : Option Addr} {len cap : Nat} {zs : List Int} (h : IsRow .i64 w a len cap zs) : (zs.take len).length = len ∧ len ≤ cap ∧ cap ≤ maxLen ∧ Reads w.heap.size w a (zs.take len) := by
  rcases h with ⟨rfl, rfl, rfl, rfl⟩ | ⟨x, rfl, hl, hm, hz, hc, _⟩
  · exact ⟨rfl, Nat.le_refl _, by unfold maxLen; omega, .inl rfl⟩
  · have hlen : (zs.take len).length = len := by rw [List.length_take]; omega
    refine ⟨hlen, hl, hm, ?_⟩
    by_cases h0 : len = 0
    · exact .inl (by rw [h0]; rfl)
    · obtain ⟨b, off, rfl, hc'⟩ := ints_at hc (by omega)
      refine .inr ⟨b, off, rfl, World.block_lt_of_cell? _ _ (hc' 0 (by omega)), fun i hi => ?_⟩
      have hi' : i < len := by omega
      rw [hc' i (by omega)]
      congr 2
      simp [List.getD_eq_getElem?_getD, hi']
end Go.Proofs.Ytbijgoaanphojaa

/-
  Contracts of the laws' own helpers on lists of numbers (toIntS, eqIntS, markIntS, heldIntS).
-/
namespace Go.Proofs.Ytbijgoaanphojaa
open Go.ChangeShapes Go.WideShapes Go.ChangeAt Go.RowKit
set_option linter.unusedVariables false

theorem eqInts_any (B : Nat) (a b : Option Addr) (ca cb : Nat) (xs ys : List Int) (hx : xs.length ≤ 100000000) (hy : ys.length ≤ 100000000) (w : World) (ra : Reads B w a xs) (rb : Reads B w b ys) :
    Calls Try.prog 97 #[.slice a xs.length ca, .slice b ys.length cb] w fun e w' => e = .returned (.bool (decide (xs = ys))) ∧ Below B w w' := by
  by_cases hl : xs.length = ys.length
  · have hl' : ((xs.length : Int) != (ys.length : Int)) = false := by rw [hl]; simp
    have HL : Hid (xs.length = ys.length) := hl
    have hll : (ys.length : Int) ≤ (xs.length : Int) ∧ (xs.length : Int) ≤ (ys.length : Int) := by omega
    obtain ⟨hl1, hl2⟩ := hll
    clear hl
    go_enter Try.func97, Try.ntmps97
    go_wp2
    go_loopw [5] (fun i wr => ∃ k : Nat, k ≤ xs.length ∧ i = .int .i64 (k : Int) ∧ xs.take k = ys.take k ∧ Below B w wr) (fun i _ => xs.length - (intOf i).toNat)
    case atStart => exact ⟨0, Nat.zero_le _, rfl, rfl, Below.refl _ _⟩
    case round =>
      obtain ⟨k, hk, rfl, ht, hb⟩ := hrel
      have HT : Hid (xs.take k = ys.take k) := ht
      clear ht
      by_cases hlt : k < xs.length
      · rcases ra with h | ⟨b0, o0, ha, hB0, ia⟩
        · rw [h] at hlt; simp at hlt
        rcases rb with h | ⟨b1, o1, hbb, hB1, ib⟩
        · rw [HL.out, h] at hlt; simp at hlt
        have c0 := (ia.below hb hB0) k hlt
        have c1 := (ib.below hb hB1) k (by omega)
        have hlt1 : (k : Int) < (xs.length : Int) := by omega
        have hlt2 : (k : Int) < (ys.length : Int) := by omega
        rw [ha, hbb]
        generalize hx0 : xs.getD k 0 = p at *
        generalize hy0 : ys.getD k 0 = q at *
        have HX : Hid (xs.getD k 0 = p) := hx0
        have HY : Hid (ys.getD k 0 = q) := hy0
        clear hx0 hy0 ia ib
        by_cases hpq : p = q
        · have hpq' : (p != q) = false := by rw [hpq]; simp
          have HE : Hid (p = q) := hpq
          clear hpq
          go_wp2
          go_quiet (fail)
          go_wp2
          go_roundw
          case rel => exact ⟨k + 1, by omega, by go_num, take_next (by omega) (by have := HL.out; omega) HT.out (HX.out.trans (HE.out.trans HY.out.symm)), below_drewN hb _⟩
          case measure => simp [intOf]; omega
        · have hpq' : (p != q) = true := by rw [bne_iff_ne]; exact hpq
          have HN : Hid (¬ xs = ys) := fun h => hpq (by rw [← HX.out, ← HY.out, h])
          clear hpq
          go_wp2
          go_quiet (fail)
          go_wp2
          go_ret
          exact ⟨ret_bool (decide_eq_false HN.out).symm, below_drewN hb _⟩
      · have HE : Hid (xs = ys) := by
          show xs = ys
          have h1 := HT.out
          rw [List.take_of_length_le (by omega), List.take_of_length_le (by have := HL.out; omega)] at h1
          exact h1
        go_wp2
        go_ret
        exact ⟨ret_bool (decide_eq_true HE.out).symm, hb⟩
  · have hl' : ((xs.length : Int) != (ys.length : Int)) = true := by
      rw [bne_iff_ne]; omega
    have e : decide (xs = ys) = false := decide_eq_false (fun h => hl (by rw [h]))
    rw [e]
    go_enter Try.func97, Try.ntmps97
    go_wp2
    go_ret
    exact ⟨rfl, Below.refl _ _⟩

theorem held_any (b off n cap : Nat) (hn : n ≤ 100000000) (k0 : Int) (h0 : 0 ≤ k0) (h1 : k0 ≤ 100000000) (w : World) (hi : IntsAt w b off (marks k0 n)) :
    Calls Try.prog 85 #[.slice (some ⟨b, off, none⟩) n cap, .int .i64 k0] w fun e w' => e = .returned (.int .i64 (k0 + (n : Int))) ∧ w' = w := by
  have HI : Hid (IntsAt w b off (marks k0 n)) := hi
  clear hi
  go_enter Try.func85, Try.ntmps85
  go_wp2
  go_loop [1, 5] (fun k i => ∃ j : Nat, j ≤ n ∧ i = .int .i64 (j : Int) ∧ k = .int .i64 (k0 + (j : Int))) (fun _ i => n - (intOf i).toNat)
  case atStart => exact ⟨0, Nat.zero_le _, rfl, by simp⟩
  case round =>
    obtain ⟨j, hj, rfl, rfl⟩ := hrel
    by_cases hlt : j < n
    · have hlt' : (j : Int) < (n : Int) := by omega
      have c0 : w.cell? ⟨b, off + j, none⟩ = some (.int .i64 (k0 + (j : Int))) := by
        have := HI.out j (by rw [marks_length]; exact hlt)
        rwa [marks_getD k0 n j hlt] at this
      go_wp2
      go_round
      case rel => exact ⟨j + 1, by omega, by go_num, by go_num⟩
      case measure => simp [intOf]; omega
    · have e : j = n := by omega
      have HE : Hid (j = n) := e
      clear e
      go_wp2
      go_ret
      exact ⟨ret_int (by rw [HE.out]), rfl⟩

theorem held_none (a : Option Addr) (cap : Nat) (k0 : Int) (w : World) :
    Calls Try.prog 85 #[.slice a 0 cap, .int .i64 k0] w fun e w' => e = .returned (.int .i64 k0) ∧ w' = w := by
  go_enter Try.func85, Try.ntmps85
  go_wp2
  go_loop [1, 5] (fun k i => i = .int .i64 0 ∧ k = .int .i64 k0) (fun _ i => 0)
  case atStart => exact ⟨rfl, rfl⟩
  case round =>
    obtain ⟨rfl, rfl⟩ := hrel
    go_wp2
    go_ret
    exact ⟨rfl, rfl⟩

theorem mark_any (b off n cap : Nat) (hn : n ≤ 100000000) (k0 : Int) (h0 : 0 ≤ k0) (h1 : k0 ≤ 100000000) (w : World) (hc : ∀ i, i < n → (w.cell? ⟨b, off + i, none⟩).isSome = true) (hf : FreeAt w b off n) :
    Calls Try.prog 84 #[.slice (some ⟨b, off, none⟩) n cap, .int .i64 k0] w fun e w' => e = .returned (.int .i64 (k0 + (n : Int))) ∧ Others b w w' ∧ IntsAt w' b off (marks k0 n) := by
  have HC : Hid (∀ i, i < n → (w.cell? ⟨b, off + i, none⟩).isSome = true) := hc
  have HF : Hid (FreeAt w b off n) := hf
  clear hc hf
  go_enter Try.func84, Try.ntmps84
  go_wp2
  go_loopw [1, 5] (fun k i wr => ∃ j : Nat, j ≤ n ∧ i = .int .i64 (j : Int) ∧ k = .int .i64 (k0 + (j : Int)) ∧ Others b w wr ∧ (∀ i, i < n → (wr.cell? ⟨b, off + i, none⟩).isSome = true) ∧ ∀ i, i < j → wr.cell? ⟨b, off + i, none⟩ = some (.int .i64 (k0 + (i : Int)))) (fun _ i _ => n - (intOf i).toNat)
  case atStart => exact ⟨0, Nat.zero_le _, rfl, by simp, Others.refl _ _, HC.out, fun i hi => by omega⟩
  case round =>
    obtain ⟨j, hj, rfl, rfl, ho, hs, hm⟩ := hrel
    have HO : Hid (Others b w wr) := ho
    have HS : Hid (∀ i, i < n → (wr.cell? ⟨b, off + i, none⟩).isSome = true) := hs
    have HM : Hid (∀ i, i < j → wr.cell? ⟨b, off + i, none⟩ = some (.int .i64 (k0 + (i : Int)))) := hm
    clear ho hs hm
    by_cases hlt : j < n
    · have hlt' : (j : Int) < (n : Int) := by omega
      obtain ⟨v, hv⟩ := Option.isSome_iff_exists.mp (HS.out j hlt)
      have hfz : wr.frozen? ⟨b, off + j, none⟩ = false := (HO.out.2.1 b (off + j)).trans (HF.out j hlt)
      go_wp2
      go_roundw
      case rel =>
        refine ⟨j + 1, by omega, by go_num, by go_num, HO.out.set _ _, fun i hi => ?_, fun i hi => ?_⟩
        · by_cases e : i = j
          · rw [e, World.cell?_setCell_same _ _ _ hv]; rfl
          · rw [World.cell?_setCell_other _ _ _ _ (fun h => e (by first | (simp at h; omega) | (simp at h; done) | (cases h; rfl)))]; exact HS.out i hi
        · by_cases e : i = j
          · rw [e]; exact World.cell?_setCell_same _ _ _ hv
          · rw [World.cell?_setCell_other _ _ _ _ (fun h => e (by first | (simp at h; omega) | (simp at h; done) | (cases h; rfl)))]; exact HM.out i (by omega)
      case measure => simp [intOf]; omega
    · have e : j = n := by omega
      have HE : Hid (j = n) := e
      clear e
      go_wp2
      go_ret
      refine ⟨ret_int (by rw [HE.out]), HO.out, fun i hi => ?_⟩
      rw [marks_length] at hi
      rw [marks_getD k0 n i hi]
      exact HM.out i (by have := HE.out; omega)

theorem mark_none (a : Option Addr) (cap : Nat) (k0 : Int) (w : World) :
    Calls Try.prog 84 #[.slice a 0 cap, .int .i64 k0] w fun e w' => e = .returned (.int .i64 k0) ∧ w' = w := by
  go_enter Try.func84, Try.ntmps84
  go_wp2
  go_loop [1, 5] (fun k i => i = .int .i64 0 ∧ k = .int .i64 k0) (fun _ i => 0)
  case atStart => exact ⟨rfl, rfl⟩
  case round =>
    obtain ⟨rfl, rfl⟩ := hrel
    go_wp2
    go_ret
    exact ⟨rfl, rfl⟩


end Go.Proofs.Ytbijgoaanphojaa
