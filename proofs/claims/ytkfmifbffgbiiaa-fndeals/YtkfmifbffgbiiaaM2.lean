/-
  Texts of this claim laid together: SrcApt, SrcSize, Lists0.
-/
import Derived.Test.YtkfmifbffgbiiaaM1
import Derived.LoopTactic
import Derived.Deep.OwnRows
import Derived.Deep.Light
import Derived.BigQuiet
import Derived.Deep.QuietTactic
import Derived.WalkLawsBesides
import Derived.WalkSmall
import Derived.Deep.RegionHeld3
/-
  The specification's source of choices once more: a draw turns its own block alone.
-/
namespace Go.Proofs.Ytkfmifbffgbiiaa
open Go.ChangeShapes Go.WideShapes Go.ChangeAt Go.RowKit
set_option linter.unusedVariables false

/-- Of what was there block b alone may have turned. -/
def Apt (b : Nat) (w w' : World) : Prop := ∀ k, k ≠ b → w'.heap[k]? = w.heap[k]?
theorem Apt.refl (b : Nat) (w : World) : Apt b w w := fun _ _ => rfl
theorem Apt.set {b : Nat} {w w' : World} (h : Apt b w w') (o : Nat) (v : Value) : Apt b w (w'.setCell ⟨b, o, none⟩ v) := fun k hk => (Below.heap_setCell _ _ _ _ hk).trans (h k hk)
theorem Apt.trans {b : Nat} {w w' w'' : World} (h : Apt b w w') (k : Apt b w' w'') : Apt b w w'' := fun c hc => (k c hc).trans (h c hc)
theorem Apt.drewN {b : Nat} {w w' : World} (h : Apt b w w') (n : Nat) : Apt b w (w'.drewN n) := h
theorem Apt.drew {b : Nat} {w w' : World} (h : Apt b w w') : Apt b w w'.drew := h

set_option maxHeartbeats 800000 in
theorem byte_inA (B b b0 off len cap : Nat) (at' seed c : Int) (w : World) (hB : B ≤ b) (hs : Src w b (some ⟨b0, off, none⟩) len cap at' seed)
    (hb0 : b0 < B) (a1 : at' ≤ 1000000000000) (hin : at' < len) (hlen : len ≤ maxLen) (hc : w.cell? ⟨b0, off + at'.toNat, none⟩ = some (.int .u8 c)) (c0 : 0 ≤ c) (c1 : c ≤ 255) :
    Calls Try.prog 49 #[.pointer (some ⟨b, 0, none⟩)] w fun e w' => e = .returned (.int .i64 c) ∧ Src w' b (some ⟨b0, off, none⟩) len cap (at' + 1) ((seed * 31 + c + 7) % 2147483648) ∧ Below B w w' ∧ Apt b w w' := by
  unfold maxLen at hlen
  have HS : Hid (Src w b (some ⟨b0, off, none⟩) len cap at' seed) := hs
  obtain ⟨h0, h1, h2, f1, f2, hbs, a0, s0, s1⟩ := hs
  have hne : b ≠ b0 := by omega
  have wi1 : IntKind.i64.wrap (at' + 1 - 1) = at' := by rw [IntKind.wrap_i64]; omega
  have wi2 : IntKind.i64.wrap at' = at' := by rw [IntKind.wrap_i64]; omega
  have ws1 : IntKind.i64.wrap (seed * 31) = seed * 31 := by rw [IntKind.wrap_i64]; omega
  have ws2 : IntKind.i64.wrap (seed * 31 + c) = seed * 31 + c := by rw [IntKind.wrap_i64]; omega
  have ws3 : IntKind.i64.wrap (seed * 31 + c + 7) = seed * 31 + c + 7 := by rw [IntKind.wrap_i64]; omega
  have g0 : (w.setCell ⟨b, 1, none⟩ (.int .i64 (at' + 1))).cell? ⟨b, 0, none⟩ = some (.slice (some ⟨b0, off, none⟩) len cap) := by rw [World.cell?_setCell_other _ _ _ _ (by simp)]; exact h0
  have g1 : (w.setCell ⟨b, 1, none⟩ (.int .i64 (at' + 1))).cell? ⟨b, 1, none⟩ = some (.int .i64 (at' + 1)) := World.cell?_setCell_same _ _ _ h1
  have g2 : (w.setCell ⟨b, 1, none⟩ (.int .i64 (at' + 1))).cell? ⟨b, 2, none⟩ = some (.int .i64 seed) := by rw [World.cell?_setCell_other _ _ _ _ (by simp)]; exact h2
  have gc : (w.setCell ⟨b, 1, none⟩ (.int .i64 (at' + 1))).cell? ⟨b0, off + at'.toNat, none⟩ = some (.int .u8 c) := by rw [World.cell?_setCell_far _ _ _ _ hne]; exact hc
  go_enter Try.func49, Try.ntmps49
  go_wp2
  go_quiet (fail)
  go_wp2
  generalize hw1 : (w.setCell ⟨b, 1, none⟩ (.int .i64 (at' + 1))).drewN nq = w1
  have k0 : w1.cell? ⟨b, 0, none⟩ = some (.slice (some ⟨b0, off, none⟩) len cap) := by rw [← hw1]; exact g0
  have k1 : w1.cell? ⟨b, 1, none⟩ = some (.int .i64 (at' + 1)) := by rw [← hw1]; exact g1
  have k2 : w1.cell? ⟨b, 2, none⟩ = some (.int .i64 seed) := by rw [← hw1]; exact g2
  have kc : w1.cell? ⟨b0, off + at'.toNat, none⟩ = some (.int .u8 c) := by rw [← hw1]; exact gc
  have kf : w1.frozen? ⟨b, 2, none⟩ = false := by rw [← hw1]; simpa using f2
  have HW : Hid ((w.setCell ⟨b, 1, none⟩ (.int .i64 (at' + 1))).drewN nq = w1) := hw1
  clear hw1 g0 g1 g2 gc h0 h1 h2 hc f1 f2
  go_region
  go_wp2
  go_quiet (fail)
  go_wp2
  go_ret
  refine ⟨rfl, ?_⟩
  rw [← HW.out]
  exact ⟨(((((HS.out.set1 (at' + 1) (by omega)).drewN _).set2 _ (by omega)).drew).drewN _), below_drewN ((below_drewN ((Below.refl B w).setCell hB _) _).setCell hB _).drew _, ((((Apt.refl b w).set _ _).drewN _).set _ _).drew.drewN _⟩

set_option maxHeartbeats 800000 in
theorem byte_outA (B b : Nat) (a : Option Addr) (len cap : Nat) (at' seed : Int) (w : World) (hB : B ≤ b) (hs : Src w b a len cap at' seed)
    (a1 : at' ≤ 1000000000000) (hin : ¬ at' < len) (hlen : len ≤ maxLen) :
    Calls Try.prog 49 #[.pointer (some ⟨b, 0, none⟩)] w fun e w' => ∃ x s' : Int, e = .returned (.int .i64 x) ∧ 0 ≤ x ∧ x ≤ 255 ∧ Src w' b a len cap (at' + 1) s' ∧ Below B w w' ∧ Apt b w w' := by
  unfold maxLen at hlen
  have HS : Hid (Src w b a len cap at' seed) := hs
  obtain ⟨h0, h1, h2, f1, f2, hbs, a0, s0, s1⟩ := hs
  have hnin : decide (at' + 1 ≤ (len : Int)) = false := by simp; omega
  by_cases h3 : 3000 < at' + 1
  · go_enter Try.func49, Try.ntmps49
    go_wp2
    go_quiet (fail)
    go_wp2
    go_ret
    exact ⟨0, seed, rfl, by omega, by omega, (HS.out.set1 (at' + 1) (by omega)).drewN _, below_drewN ((Below.refl B w).setCell hB _) _, ((Apt.refl b w).set _ _).drewN _⟩
  · go_enter Try.func49, Try.ntmps49
    go_wp2
    go_quiet (fail)
    go_wp2
    go_ret
    exact ⟨_, _, rfl, by omega, by omega, ((HS.out.set1 (at' + 1) (by omega)).drewN _).set2 _ (by omega), (below_drewN ((Below.refl B w).setCell hB _) _).setCell hB _, (((Apt.refl b w).set _ _).drewN _).set _ _⟩

theorem byte_anyA (B b : Nat) (a : Option Addr) (len cap : Nat) (zs : List Int) (at' seed : Int) (w : World) (hB : B ≤ b) (hs : Src w b a len cap at' seed) (hr : RowB B w a len zs) (a1 : at' ≤ 1000000000000) :
    Calls Try.prog 49 #[.pointer (some ⟨b, 0, none⟩)] w fun e w' => ∃ x s' : Int, e = .returned (.int .i64 x) ∧ 0 ≤ x ∧ x ≤ 255 ∧ Src w' b a len cap (at' + 1) s' ∧ Below B w w' ∧ Apt b w w' := by
  obtain ⟨hl, hr'⟩ := hr
  by_cases hin : at' < len
  · have h0 := hs.2.2.2.2.2.2.1
    rcases hr' with h | ⟨b0, off, rfl, hlt, hc⟩
    · omega
    · obtain ⟨c1, c2, c3⟩ := hc at'.toNat (by omega)
      exact (byte_inA B b b0 off len cap at' seed _ w hB hs hlt a1 hin hl c1 c2 c3).mono fun e w' ⟨he, h1, h2, h3⟩ => ⟨_, _, he, c2, c3, h1, h2, h3⟩
  · exact byte_outA B b a len cap at' seed w hB hs a1 hin hl

set_option maxHeartbeats 400000 in
theorem next_anyA (B b : Nat) (a : Option Addr) (len cap : Nat) (zs : List Int) (n at' seed : Int) (w : World) (hB : B ≤ b) (hs : Src w b a len cap at' seed) (hr : RowB B w a len zs) (a1 : at' ≤ 999999999000) (hn : n ≤ 256) :
    Calls Try.prog 21 #[.pointer (some ⟨b, 0, none⟩), .int .i64 n] w fun e w' => ∃ x at2 s' : Int, e = .returned (.int .i64 x) ∧ Drawn x n ∧ at' ≤ at2 ∧ at2 ≤ at' + 3 ∧ Src w' b a len cap at2 s' ∧ Below B w w' ∧ Apt b w w' := by
  have h0 := hs.2.2.2.2.2.2.1
  rcases (by omega : n ≤ 1 ∨ (1 < n ∧ n ≤ 256) ∨ (1 < n ∧ 256 < n)) with h | ⟨h1, h2⟩ | ⟨h1, h2⟩
  · go_enter Try.func21, Try.ntmps21
    go_wp2
    go_ret
    exact ⟨0, at', seed, rfl, ⟨by omega, .inr rfl⟩, by omega, by omega, hs, Below.refl _ _, Apt.refl _ _⟩
  · have hbyte := byte_anyA B b a len cap zs at' seed w hB hs hr (by omega)
    go_enter Try.func21, Try.ntmps21
    go_wp2_with (go_at_call 49; refine hbyte.mono ?_; rintro e w1 ⟨x, s', rfl, hx0, hx1, hs1, hb1, hf1⟩)
    go_ret
    exact ⟨_, _, _, rfl, drawn_mod x n hx0 h1, by omega, by omega, hs1, hb1, hf1⟩
  · omega
end Go.Proofs.Ytkfmifbffgbiiaa

/-
  Contracts of the source's size and chance.
-/
namespace Go.Proofs.Ytkfmifbffgbiiaa
open Go.ChangeShapes Go.WideShapes Go.ChangeAt Go.RowKit
set_option linter.unusedVariables false


theorem size_src (b : Nat) (a : Option Addr) (len cap : Nat) (m at' seed : Int) (w : World) (hs : Src w b a len cap at' seed) (hl : len ≤ maxLen) (hm : 1 ≤ m) (hm' : m ≤ 1000) :
    Calls Try.prog 22 #[.pointer (some ⟨b, 0, none⟩), .int .i64 m] w fun e w' => (∃ x : Int, e = .returned (.int .i64 x) ∧ 1 ≤ x ∧ x ≤ m) ∧ w' = w := by
  obtain ⟨h0, h1, h2, f1, f2, hb, x0, s0, s1⟩ := hs
  unfold maxLen at hl
  have htd : ((len : Int)).tdiv 12 = (len : Int) / 12 := Int.tdiv_eq_ediv_of_nonneg (by omega)
  go_enter Try.func22, Try.ntmps22
  go_wp2
  all_goals
    go_ret
    exact ⟨⟨_, rfl, by omega, by omega⟩, rfl⟩

end Go.Proofs.Ytkfmifbffgbiiaa

/-
  Lists of numbers in memory: where they lie, what stays of them; nothing of the program is in it.
-/
namespace Go.Proofs.Ytkfmifbffgbiiaa
open Go.ChangeShapes Go.WideShapes Go.ChangeAt Go.RowKit
set_option linter.unusedVariables false

theorem heapNew (w : World) (o : Obj) : (w.alloc o).heap[w.heap.size]? = some o := by
  show (w.heap.push o)[w.heap.size]? = _
  simp
/-- The numbers xs lie in block b from off on. -/
def IntsAt (w : World) (b off : Nat) (xs : List Int) : Prop := ∀ i, i < xs.length → w.cell? ⟨b, off + i, none⟩ = some (.int .i64 (xs.getD i 0))
def FreeAt (w : World) (b off n : Nat) : Prop := ∀ i, i < n → w.frozen? ⟨b, off + i, none⟩ = false
/-- A slice that can be read: its numbers are xs; its block lies below B. -/
def Reads (B : Nat) (w : World) (a : Option Addr) (xs : List Int) : Prop := xs = [] ∨ ∃ b off, a = some ⟨b, off, none⟩ ∧ b < B ∧ IntsAt w b off xs

theorem IntsAt.below {B : Nat} {w w' : World} {b off : Nat} {xs : List Int} (h : IntsAt w b off xs) (hb : Below B w w') (hB : b < B) : IntsAt w' b off xs := fun i hi => (hb.cell (p := ⟨b, off + i, none⟩) hB).trans (h i hi)
theorem FreeAt.below {B : Nat} {w w' : World} {b off n : Nat} (h : FreeAt w b off n) (hb : Below B w w') (hB : b < B) : FreeAt w' b off n := fun i hi => (hb.frozen (p := ⟨b, off + i, none⟩) hB).trans (h i hi)
theorem Reads.below {B : Nat} {w w' : World} {a : Option Addr} {xs : List Int} (h : Reads B w a xs) (hb : Below B w w') : Reads B w' a xs := by
  rcases h with h | ⟨b, off, ha, hB, hi⟩
  · exact .inl h
  · exact .inr ⟨b, off, ha, hB, hi.below hb hB⟩
theorem Reads.mono {B B' : Nat} {w : World} {a : Option Addr} {xs : List Int} (h : Reads B w a xs) (hb : B ≤ B') : Reads B' w a xs := by
  rcases h with h | ⟨b, off, ha, hB, hi⟩
  · exact .inl h
  · exact .inr ⟨b, off, ha, by omega, hi⟩

theorem intInfo : (Try.prog.info? 3).map (fun i => (i.zero, i.size, i.bytes)) = some (some (.int .i64 0), 1, 8) := by kernel_rfl

theorem take_next {xs ys : List Int} {k : Nat} (hx : k < xs.length) (hy : k < ys.length) (h : xs.take k = ys.take k) (he : xs.getD k 0 = ys.getD k 0) : xs.take (k + 1) = ys.take (k + 1) := by
  rw [List.take_succ_eq_append_getElem hx, List.take_succ_eq_append_getElem hy, h]
  have e1 : xs.getD k 0 = xs[k] := by simp [List.getD_eq_getElem?_getD, hx]
  have e2 : ys.getD k 0 = ys[k] := by simp [List.getD_eq_getElem?_getD, hy]
  rw [← e1, ← e2, he]

theorem getD_bound {L : List Int} {lo hi : Int} (h : ∀ x ∈ L, lo ≤ x ∧ x ≤ hi) (i : Nat) (hi' : i < L.length) : lo ≤ L.getD i 0 ∧ L.getD i 0 ≤ hi := by
  have e : L.getD i 0 = L[i] := by simp [List.getD_eq_getElem?_getD, hi']
  rw [e]; exact h _ (List.getElem_mem _)
/-- Of what was there block b alone may have turned, and no mark. -/
def Others (b : Nat) (w w' : World) : Prop := (∀ c o, c ≠ b → w'.cell? ⟨c, o, none⟩ = w.cell? ⟨c, o, none⟩) ∧ (∀ c o, w'.frozen? ⟨c, o, none⟩ = w.frozen? ⟨c, o, none⟩) ∧ w'.heap.size = w.heap.size ∧ ∀ B, B ≤ b → Below B w w'
theorem Others.refl (b : Nat) (w : World) : Others b w w := ⟨fun _ _ _ => rfl, fun _ _ => rfl, rfl, fun _ _ => Below.refl _ _⟩
theorem Others.set {b : Nat} {w wr : World} (h : Others b w wr) (o : Nat) (v : Value) : Others b w (wr.setCell ⟨b, o, none⟩ v) := by
  obtain ⟨h1, h2, h3, h4⟩ := h
  refine ⟨fun c o' hc => ?_, fun c o' => ?_, ?_, fun B hB => (h4 B hB).setCell hB _⟩
  · rw [World.cell?_setCell_far _ _ _ _ (Ne.symm hc)]; exact h1 c o' hc
  · rw [World.frozen?_setCell]; exact h2 c o'
  · rw [World.size_setCell]; exact h3
theorem Others.ints {b c : Nat} {w w' : World} (h : Others b w w') (hc : c ≠ b) {off : Nat} {xs : List Int} (hi : IntsAt w c off xs) : IntsAt w' c off xs := fun i hk => (h.1 c (off + i) hc).trans (hi i hk)
theorem Others.free {b c : Nat} {w w' : World} (h : Others b w w') {off n : Nat} (hi : FreeAt w c off n) : FreeAt w' c off n := fun i hk => (h.2.1 c (off + i)).trans (hi i hk)

/-- k, k + 1, .. -/
def marks (k : Int) (n : Nat) : List Int := (List.range n).map fun (i : Nat) => k + (i : Int)
theorem marks_length (k : Int) (n : Nat) : (marks k n).length = n := by simp [marks]
theorem marks_getD (k : Int) (n i : Nat) (h : i < n) : (marks k n).getD i 0 = k + (i : Int) := by simp [marks, List.getD_eq_getElem?_getD, h]

/-- The numbers L lie at the head of a block of their own, not below B. -/
def Own2 (B : Nat) (w : World) (g : Option Addr) (L : List Int) : Prop := L = [] ∨ ∃ b, g = some ⟨b, 0, none⟩ ∧ B ≤ b ∧ b < w.heap.size ∧ IntsAt w b 0 L ∧ FreeAt w b 0 L.length

theorem Own2.reads {B : Nat} {w : World} {g : Option Addr} {L : List Int} (h : Own2 B w g L) : Reads w.heap.size w g L := by
  rcases h with h | ⟨b, hg, _, hlt, hi, _⟩
  · exact .inl h
  · exact .inr ⟨b, 0, hg, hlt, hi⟩
theorem Own2.below {B D : Nat} {w w' : World} {g : Option Addr} {L : List Int} (h : Own2 B w g L) (hb : Below D w w') (hD : w.heap.size ≤ D) : Own2 B w' g L := by
  rcases h with h | ⟨b, hg, hB, hlt, hi, hf⟩
  · exact .inl h
  · exact .inr ⟨b, hg, hB, Nat.lt_of_lt_of_le hlt hb.size, hi.below hb (Nat.lt_of_lt_of_le hlt hD), hf.below hb (Nat.lt_of_lt_of_le hlt hD)⟩
/-- Only one block was written: not this one. -/
theorem Own2.others {B b : Nat} {w w' : World} {g : Option Addr} {L : List Int} (h : Own2 B w g L) (ho : Others b w w') (hne : ∀ c, g = some ⟨c, 0, none⟩ → c ≠ b ∨ L = []) : Own2 B w' g L := by
  rcases h with h | ⟨c, hg, hB, hlt, hi, hf⟩
  · exact .inl h
  · rcases hne c hg with h | h
    · exact .inr ⟨c, hg, hB, by rw [ho.2.2.1]; exact hlt, ho.ints h hi, ho.free hf⟩
    · exact .inl h

theorem reads_of_row {w : World} {a : Option Addr} {len cap : Nat} {zs : List Int} (h : IsRow .i64 w a len cap zs) : (zs.take len).length = len ∧ len ≤ cap ∧ cap ≤ maxLen ∧ Reads w.heap.size w a (zs.take len) := by
  rcases h with ⟨rfl, rfl, rfl, rfl⟩ | ⟨x, rfl, hl, hm, hz, hc, _⟩
  · exact ⟨rfl, Nat.le_refl _, by unfold maxLen; omega, .inl rfl⟩
  · have hlen : (zs.take len).length = len := by rw [List.length_take]; omega
    refine ⟨hlen, hl, hm, ?_⟩
    by_cases h0 : len = 0
    · exact .inl (by rw [h0]; rfl)
    · obtain ⟨b, off, rfl, hc'⟩ := ints_at hc (by omega)
      refine .inr ⟨b, off, rfl, World.block_lt_of_cell? _ _ (hc' 0 (by omega)), fun i hi => ?_⟩
      have hi' : i < len := by omega
      rw [hc' i (by omega)]
      congr 2
      simp [List.getD_eq_getElem?_getD, hi']
end Go.Proofs.Ytkfmifbffgbiiaa
