/-
  Texts of this claim laid together: DrawIt, TvI.
-/
import Derived.Test.YtabpkfhbnendjaaGreatM29
import Derived.Test.YtabpkfhbnendjaaGreatM11
import Derived.Test.YtabpkfhbnendjaaGreatM4
import Derived.Test.YtabpkfhbnendjaaGreatM1
import Derived.Deep.AppendLies
import Derived.Laws.OwnMore
import Derived.Test.YtabpkfhbnendjaaGreatM26
/-
  The specification's drawn items: the source and the items so far, each in memory of its own.
-/
namespace Go.Proofs.YtabpkfhbnendjaaGreat
open Go.ChangeShapes Go.WideShapes Go.ChangeAt Go.RowKit Go.Deep
set_option linter.unusedVariables false

/-- The cells of some items. -/
def itvCells (rs : List RIt) : List Value := rs.flatMap fun r => [.string r.cd, .int .i64 r.pr, .int .i64 r.dp, .int .i64 r.cl, .int .i64 r.ag]
theorem itvCells_append (a b : List RIt) : itvCells (a ++ b) = itvCells a ++ itvCells b := by simp [itvCells]
theorem itvCells_get : ∀ (rs : List RIt) (i : Nat), i < rs.length → (itvCells rs)[i * 5]? = some (.string (rs.getD i zIt).cd) ∧ (itvCells rs)[i * 5 + 1]? = some (.int .i64 (rs.getD i zIt).pr) ∧ (itvCells rs)[i * 5 + 2]? = some (.int .i64 (rs.getD i zIt).dp) ∧ (itvCells rs)[i * 5 + 3]? = some (.int .i64 (rs.getD i zIt).cl) ∧ (itvCells rs)[i * 5 + 4]? = some (.int .i64 (rs.getD i zIt).ag)
  | r :: rs, 0, h => ⟨rfl, rfl, rfl, rfl, rfl⟩
  | r :: rs, i + 1, h => by
    have := itvCells_get rs i (by simpa using h)
    rw [show (i + 1) * 5 = i * 5 + 1 + 1 + 1 + 1 + 1 by omega]
    exact this
theorem its_of_row {w : World} {B g cap : Nat} {rs : List RIt} (h : w.ownsRow B 60 5 (.slice (some ⟨g, 0, none⟩) rs.length cap) rs.length (itvCells rs)) : ItsAt w g 0 rs := fun i hi => by
  obtain ⟨q0, q1, q2, q3, q4⟩ := itvCells_get rs i hi
  refine ⟨?_, ?_, ?_, ?_, ?_⟩
  · rw [h.cellAt (0 + i * 5) (by omega), show 0 + i * 5 = i * 5 by omega, q0]
  · rw [h.cellAt (0 + i * 5 + 1) (by omega), show 0 + i * 5 + 1 = i * 5 + 1 by omega, q1]
  · rw [h.cellAt (0 + i * 5 + 2) (by omega), show 0 + i * 5 + 2 = i * 5 + 2 by omega, q2]
  · rw [h.cellAt (0 + i * 5 + 3) (by omega), show 0 + i * 5 + 3 = i * 5 + 3 by omega, q3]
  · rw [h.cellAt (0 + i * 5 + 4) (by omega), show 0 + i * 5 + 4 = i * 5 + 4 by omega, q4]
theorem owns_sameP {w w' : World} {B : Nat} {e : TypeId} {size : Nat} {v : Value} {n : Nat} {xs : List Value} (h : w.ownsRow B e size v n xs) (hs : ∀ k, v.ownBlock = some k → w'.heap[k]? = w.heap[k]?) : w'.ownsRow B e size v n xs := by
  obtain ⟨h1, h2⟩ := h
  refine ⟨h1, ?_⟩
  rcases h2 with h2 | ⟨g, cap, cur, e, hB, hg, r⟩
  · exact .inl h2
  · exact .inr ⟨g, cap, cur, e, hB, (hs g (by rw [e]; rfl)).trans hg, r⟩
theorem src_sameP {w w' : World} {b : Nat} {a : Option Addr} {len cap : Nat} {x s : Int} (h : Src w b a len cap x s) (e : w'.heap[b]? = w.heap[b]?) (hz : w.heap.size ≤ w'.heap.size) : Src w' b a len cap x s := by
  obtain ⟨s0, s1, s2, f1, f2, sb, r⟩ := h
  exact ⟨(World.cell?_of_block (w := w) (a := ⟨b, 0, none⟩) e).trans s0, (World.cell?_of_block (w := w) (a := ⟨b, 1, none⟩) e).trans s1, (World.cell?_of_block (w := w) (a := ⟨b, 2, none⟩) e).trans s2, (World.frozen?_of_block (w := w) (a := ⟨b, 1, none⟩) e).trans f1, (World.frozen?_of_block (w := w) (a := ⟨b, 2, none⟩) e).trans f2, Nat.lt_of_lt_of_le sb hz, r⟩
/-- The source in block b, the items drawn so far in a row of their own. -/
def ItSo (w : World) (b : Nat) (a : Option Addr) (len cap : Nat) (v : Value) (rs : List RIt) (at' sd : Int) (wr : World) : Prop :=
  wr.ownsRow (b + 1) 60 5 v rs.length (itvCells rs) ∧ b + 1 ≤ wr.heap.size ∧ Src wr b a len cap at' sd ∧ Below b w wr
theorem ItSo.draw {w : World} {b : Nat} {a : Option Addr} {len cap : Nat} {v : Value} {rs : List RIt} {at' sd at2 sd2 : Int} {wr w' : World} (h : ItSo w b a len cap v rs at' sd wr) (ha : Apt b wr w') (hb : Below b wr w') (hs : Src w' b a len cap at2 sd2) : ItSo w b a len cap v rs at2 sd2 w' := by
  obtain ⟨h1, h2, h3, h4⟩ := h
  exact ⟨owns_sameP h1 (fun k hk => ha k (by have := (h1.lt k hk).1; omega)), Nat.le_trans h2 hb.size, hs, h4.trans hb⟩
theorem ItSo.drew {w : World} {b : Nat} {a : Option Addr} {len cap : Nat} {v : Value} {rs : List RIt} {at' sd : Int} {wr : World} (h : ItSo w b a len cap v rs at' sd wr) : ItSo w b a len cap v rs at' sd wr.drew := ⟨h.1, h.2.1, h.2.2.1, h.2.2.2.drew⟩
theorem ItSo.alloc {w : World} {b : Nat} {a : Option Addr} {len cap : Nat} {v : Value} {rs : List RIt} {at' sd : Int} {wr : World} (h : ItSo w b a len cap v rs at' sd wr) (o : Obj) : ItSo w b a len cap v rs at' sd (wr.alloc o) := by
  obtain ⟨h1, h2, h3, h4⟩ := h
  exact ⟨h1.alloc _, by simp; omega, src_sameP h3 (Below.heap_alloc _ _ _ h3.2.2.2.2.2.1) (by simp), h4.alloc (by omega) _⟩
theorem ItSo.push {w : World} {b : Nat} {a : Option Addr} {len cap : Nat} {v : Value} {rs : List RIt} {at' sd : Int} {wr w' : World} {g cp : Nat} {r : RIt} (h : ItSo w b a len cap v rs at' sd wr)
    (ho : w'.ownsRow (b + 1) 60 5 (.slice (some ⟨g, 0, none⟩) (rs.length + 1) cp) (rs.length + 1) (itvCells rs ++ [.string r.cd, .int .i64 r.pr, .int .i64 r.dp, .int .i64 r.cl, .int .i64 r.ag])) (hg : wr.grownBy w' v.ownBlock) : ItSo w b a len cap (.slice (some ⟨g, 0, none⟩) (rs.length + 1) cp) (rs ++ [r]) at' sd w' := by
  obtain ⟨q1, q2, q3, q4⟩ := h
  refine ⟨?_, Nat.le_trans q2 hg.size, src_sameP q3 (hg.block b q3.2.2.2.2.2.1 (fun e => by have := (q1.lt b e.symm).1; omega)) hg.size, q4.grown hg (by omega) (fun k hk => by have := (q1.lt k hk).1; omega)⟩
  rw [List.length_append, itvCells_append]; exact ho
theorem ItSo.start {w0 w : World} {b : Nat} {a : Option Addr} {len cap : Nat} {at' sd : Int} (hs : Src w b a len cap at' sd) (hb : Below b w0 w) : ItSo w0 b a len cap (.slice (some ⟨w.heap.size, 0, none⟩) 0 0) [] at' sd (w.alloc (Obj.cells #[] 60)) := by
  have hl := hs.2.2.2.2.2.1
  exact ⟨⟨rfl, .inr ⟨w.heap.size, 0, #[], rfl, hl, heapNew w _, Nat.le_refl _, by unfold maxLen; omega, rfl, rfl⟩⟩, by simp; omega, src_sameP hs (Below.heap_alloc _ _ _ hl) (by simp), hb.alloc (by omega) _⟩
theorem itInf : (Tryz.prog.info? 60).map (fun i => (i.zero, i.size, i.bytes)) = some (some (.agg #[.string ⟨#[]⟩, .int .i64 0, .int .i64 0, .int .i64 0, .int .i64 0]), 5, 48) := by kernel_rfl
theorem dec1 (u : Nat) (h : u < 10) : decS u = ⟨#[UInt8.ofNat (48 + u)]⟩ := by
  unfold decS
  rw [Lib.decDigits, dif_pos h]
theorem dec2 (u v : Nat) (hu : 1 ≤ u ∧ u < 10) (hv : v < 10) : decS (10 * u + v) = ⟨#[UInt8.ofNat (48 + u)]⟩ ++ ⟨#[48 + UInt8.ofNat v]⟩ := by
  have := decS_step (10 * u + v) (by omega)
  rw [show (10 * u + v) / 10 = u by omega, show (10 * u + v) % 10 = v by omega, dec1 u hu.2] at this
  exact this.symm
theorem dec3 (v : Nat) (hv : v < 10) : decS (100 + v) = ⟨#[49]⟩ ++ ⟨#[48]⟩ ++ ⟨#[48 + UInt8.ofNat v]⟩ := by
  have := decS_step (100 + v) (by omega)
  rw [show (100 + v) / 10 = 10 * 1 + 0 by omega, show (100 + v) % 10 = v by omega, dec2 1 0 (by omega) (by omega)] at this
  exact this.symm
/-- The three kinds of codes that are drawn for the item of number k. -/
def cdA (k : Nat) : ByteArray := ⟨#[49, 50, 51, 52]⟩ ++ decS k
def ctB (k : Nat) : ByteArray := ⟨#[52, 48, 48, 48, 48, 48, 48, 48, 48]⟩ ++ decS (100 + k)
def cdB (k : Nat) : ByteArray := ctB k ++ decS (cd (ctB k).data.toList).toNat
def ctC (k : Nat) : ByteArray := ⟨#[53, 53, 53, 53, 53]⟩ ++ decS (10 + k)
def cdC (k : Nat) : ByteArray := ctC k ++ decS (cd (ctC k).data.toList).toNat
theorem cd_in (l : List UInt8) : 0 ≤ cd l ∧ cd l ≤ 9 := by unfold cd; omega
/-- A right code: five digits; eight or thirteen, the last their check digit, thirteen not behind a two. -/
def Good (s : ByteArray) : Prop := allD s.data.toList = true ∧ (s.size = 5 ∨ (s.size = 8 ∧ cd (s.data.toList.take 7) = ((s.data.toList.getD 7 0).toNat : Int) - 48) ∨ (s.size = 13 ∧ cd (s.data.toList.take 12) = ((s.data.toList.getD 12 0).toNat : Int) - 48 ∧ (s.data.toList.getD 0 0).toNat ≠ 50))
theorem cdA_list (k : Nat) (h : k < 10) : (cdA k).data.toList = [49, 50, 51, 52, UInt8.ofNat (48 + k)] := by
  unfold cdA; rw [dec1 k h, ByteArray.data_append]; rfl
theorem ctB_list (k : Nat) (h : k < 10) : (ctB k).data.toList = [52, 48, 48, 48, 48, 48, 48, 48, 48, 49, 48, 48 + UInt8.ofNat k] := by
  unfold ctB; rw [dec3 k h]; simp [ByteArray.data_append]
theorem ctC_list (k : Nat) (h : k < 10) : (ctC k).data.toList = [53, 53, 53, 53, 53, 49, 48 + UInt8.ofNat k] := by
  unfold ctC; rw [show 10 + k = 10 * 1 + k by omega, dec2 1 k (by omega) h]; simp [ByteArray.data_append]
theorem cd_one (l : List UInt8) : decS (cd l).toNat = ⟨#[UInt8.ofNat (48 + (cd l).toNat)]⟩ := dec1 _ (by have := cd_in l; omega)
theorem cdB_list (k : Nat) (h : k < 10) : (cdB k).data.toList = [52, 48, 48, 48, 48, 48, 48, 48, 48, 49, 48, 48 + UInt8.ofNat k] ++ [UInt8.ofNat (48 + (cd [52, 48, 48, 48, 48, 48, 48, 48, 48, 49, 48, 48 + UInt8.ofNat k]).toNat)] := by
  unfold cdB; rw [cd_one, ByteArray.data_append, Array.toList_append, ctB_list k h]
theorem cdC_list (k : Nat) (h : k < 10) : (cdC k).data.toList = [53, 53, 53, 53, 53, 49, 48 + UInt8.ofNat k] ++ [UInt8.ofNat (48 + (cd [53, 53, 53, 53, 53, 49, 48 + UInt8.ofNat k]).toNat)] := by
  unfold cdC; rw [cd_one, ByteArray.data_append, Array.toList_append, ctC_list k h]
theorem size_of_list (s : ByteArray) : s.size = s.data.toList.length := rfl
theorem six {p : Nat → Prop} (h : p 0 ∧ p 1 ∧ p 2 ∧ p 3 ∧ p 4 ∧ p 5) (k : Nat) (hk : k < 6) : p k := by
  obtain ⟨h0, h1, h2, h3, h4, h5⟩ := h
  rcases (by omega : k = 0 ∨ k = 1 ∨ k = 2 ∨ k = 3 ∨ k = 4 ∨ k = 5) with rfl | rfl | rfl | rfl | rfl | rfl
  · exact h0
  · exact h1
  · exact h2
  · exact h3
  · exact h4
  · exact h5
theorem good_A (k : Nat) (h : k < 6) : Good (cdA k) := by
  unfold Good
  rw [size_of_list, cdA_list k (by omega)]
  exact ⟨six (p := fun k => allD [49, 50, 51, 52, UInt8.ofNat (48 + k)] = true) (by decide) k h, .inl rfl⟩
theorem good_B (k : Nat) (h : k < 6) : Good (cdB k) := by
  unfold Good
  rw [size_of_list, cdB_list k (by omega)]
  exact ⟨six (p := fun k => allD ([52, 48, 48, 48, 48, 48, 48, 48, 48, 49, 48, 48 + UInt8.ofNat k] ++ [UInt8.ofNat (48 + (cd [52, 48, 48, 48, 48, 48, 48, 48, 48, 49, 48, 48 + UInt8.ofNat k]).toNat)]) = true) (by decide) k h, .inr (.inr ⟨rfl, six (p := fun k => cd (([52, 48, 48, 48, 48, 48, 48, 48, 48, 49, 48, 48 + UInt8.ofNat k] ++ [UInt8.ofNat (48 + (cd [52, 48, 48, 48, 48, 48, 48, 48, 48, 49, 48, 48 + UInt8.ofNat k]).toNat)]).take 12) = ((([52, 48, 48, 48, 48, 48, 48, 48, 48, 49, 48, 48 + UInt8.ofNat k] ++ [UInt8.ofNat (48 + (cd [52, 48, 48, 48, 48, 48, 48, 48, 48, 49, 48, 48 + UInt8.ofNat k]).toNat)] : List UInt8).getD 12 0).toNat : Int) - 48) (by decide) k h, by show (52 : UInt8).toNat ≠ 50; decide⟩)⟩
theorem good_C (k : Nat) (h : k < 6) : Good (cdC k) := by
  unfold Good
  rw [size_of_list, cdC_list k (by omega)]
  exact ⟨six (p := fun k => allD ([53, 53, 53, 53, 53, 49, 48 + UInt8.ofNat k] ++ [UInt8.ofNat (48 + (cd [53, 53, 53, 53, 53, 49, 48 + UInt8.ofNat k]).toNat)]) = true) (by decide) k h, .inr (.inl ⟨rfl, six (p := fun k => cd (([53, 53, 53, 53, 53, 49, 48 + UInt8.ofNat k] ++ [UInt8.ofNat (48 + (cd [53, 53, 53, 53, 53, 49, 48 + UInt8.ofNat k]).toNat)]).take 7) = ((([53, 53, 53, 53, 53, 49, 48 + UInt8.ofNat k] ++ [UInt8.ofNat (48 + (cd [53, 53, 53, 53, 53, 49, 48 + UInt8.ofNat k]).toNat)] : List UInt8).getD 7 0).toNat : Int) - 48) (by decide) k h⟩)⟩
theorem good_size {s : ByteArray} (h : Good s) : 5 ≤ s.size ∧ s.size ≤ 13 := by rcases h.2 with h | ⟨h, _⟩ | ⟨h, _⟩ <;> omega
theorem digits_B (k : Nat) (h : k < 6) : allD (ctB k).data.toList = true ∧ (ctB k).size = 12 := by
  rw [size_of_list, ctB_list k (by omega)]
  exact ⟨six (p := fun k => allD [52, 48, 48, 48, 48, 48, 48, 48, 48, 49, 48, 48 + UInt8.ofNat k] = true) (by decide) k h, rfl⟩
theorem digits_C (k : Nat) (h : k < 6) : allD (ctC k).data.toList = true ∧ (ctC k).size = 7 := by
  rw [size_of_list, ctC_list k (by omega)]
  exact ⟨six (p := fun k => allD [53, 53, 53, 53, 53, 49, 48 + UInt8.ofNat k] = true) (by decide) k h, rfl⟩
end Go.Proofs.YtabpkfhbnendjaaGreat

/-
  Right codes: an item with one, its numbers in their bounds, is right.
-/
namespace Go.Proofs.YtabpkfhbnendjaaGreat
open Go.ChangeShapes Go.WideShapes Go.ChangeAt Go.RowKit Go.Deep
set_option linter.unusedVariables false

theorem unit8 (s : ByteArray) (h : s.size = 8) (hd : allD s.data.toList = true) (hq : (cd (s.data.toList.take 7) != (((s[7]'(by omega)).toNat : Int) - 48)) = false) : (∀ w, Calls Tryz.prog 54 #[.string s] w fun e w' => e = scanV 1 s 0 0 ∧ Below w.heap.size w w') ∧ ∀ w, Calls Tryz.prog 51 #[.string s] w fun e w' => e = scanV 1 s 0 0 ∧ Below w.heap.size w w' := by
  have hl : s.data.toList.length = 8 := by simpa using h
  have h' : (s.size : Int) = 8 := by omega
  have hL13 : (List.replicate 5 (48 : UInt8) ++ s.data.toList).length = 13 := by simp [hl]
  have ht : (List.replicate 5 (48 : UInt8) ++ s.data.toList).take 12 = List.replicate 5 48 ++ s.data.toList.take 7 := by
    rw [List.take_append]; simp
  have hL12 : allD ((List.replicate 5 (48 : UInt8) ++ s.data.toList).take 12) = true := by
    rw [ht, allD_append, allD_take _ 7 hd]; decide
  have hc : (List.replicate 5 (48 : UInt8) ++ s.data.toList)[12]? = some (s[7]'(by omega)) := by
    rw [List.getElem?_append_right (by simp)]; simp
    rw [Array.getElem?_eq_getElem (show 7 < s.size by omega)]; rfl
  have hk := chk_iff _ hL13 _ hc
  rw [ht, cd_zeros, hq] at hk
  exact ⟨fun w => rsUnit s _ (.inl h') hd (pad8 s h) hL13 hL12 hk 48 48 rfl rfl rfl s ((5 : Nat) : Int) (by omega) (fun w => by
      have := text_of (List.replicate 5 (48 : UInt8) ++ s.data.toList) 5 13 hL13 (by omega) (by omega) w
      rwa [bytes_of s _ (by rw [List.drop_left' (by simp), List.take_of_length_le (by omega)])] at this) w, fun w => ssUnit8 s h' hd _ _ rfl rfl hq w⟩
theorem unit13 (s : ByteArray) (h : s.size = 13) (hd : allD s.data.toList = true) (hq : (cd (s.data.toList.take 12) != (((s[12]'(by omega)).toNat : Int) - 48)) = false) (h50 : ((((s[0]'(by omega)).toNat : Int)) != 50) = true) : (∀ w, Calls Tryz.prog 54 #[.string s] w fun e w' => e = scanV 1 s 0 0 ∧ Below w.heap.size w w') ∧ ∀ w, Calls Tryz.prog 51 #[.string s] w fun e w' => e = scanV 1 s 0 0 ∧ Below w.heap.size w w' := by
  have hl : s.data.toList.length = 13 := by simpa using h
  have h' : (s.size : Int) = 13 := by omega
  have hL12 : allD (s.data.toList.take 12) = true := allD_take _ 12 hd
  have hat : ∀ k (hk : k < 13), s.data.toList[k]? = some (s[k]'(by omega)) := fun k hk => by
    rw [List.getElem?_eq_getElem (by omega)]; rfl
  have hk := chk_iff _ hl _ (hat 12 (by omega))
  rw [hq] at hk
  exact ⟨fun w => rsUnit s _ (.inr h') hd (pad13 s h) hl hL12 hk _ _ (hat 0 (by omega)) (hat 1 (by omega)) h50 s ((0 : Nat) : Int) (by omega) (fun w => by
        have := text_of s.data.toList 0 13 hl (by omega) (by omega) w
        rwa [bytes_of s _ (by rw [List.drop_zero, List.take_of_length_le (by omega)])] at this) w, fun w => ssUnit13 s h' hd _ _ rfl rfl hq _ rfl h50 w⟩
theorem code_good (s : ByteArray) (h : Good s) : (∀ w, Calls Tryz.prog 36 #[.string s] w fun e w' => e = .returned (.bool true) ∧ Below w.heap.size w w') ∧ CodeWay s true := by
  obtain ⟨hd, h5 | ⟨h8, hc⟩ | ⟨h13, hc, h0⟩⟩ := h
  · have h5' : (s.size : Int) = 5 := by omega
    have hf : five s = true := by unfold five; rw [decide_eq_true h5', hd]; rfl
    refine ⟨fun w => ?_, .inl ⟨h5', hd.symm⟩⟩
    have hV := fun w => valuedArt_any s w
    rw [hf] at hV
    go_enter Tryz.func36, Tryz.ntmps36
    go_wp2_with (go_at_call 53; refine (hV _).mono ?_; rintro e w1 ⟨rfl, hb1⟩; clear hV)
    go_ret
    exact ⟨rfl, hb1⟩
  · have hf : five s = false := by unfold five; rw [decide_eq_false (by omega), Bool.false_and]
    rw [getD_byte s 7 (by omega)] at hc
    obtain ⟨hI, hS⟩ := unit8 s h8 hd (by rw [hc]; simp)
    exact ⟨code_of s 1 s 0 0 true rfl hf hI, .inr ⟨by rw [beq_eq_false_iff_ne]; omega, 1, s, 0, 0, rfl, hS⟩⟩
  · have hf : five s = false := by unfold five; rw [decide_eq_false (by omega), Bool.false_and]
    rw [getD_byte s 12 (by omega)] at hc
    rw [getD_byte s 0 (by omega)] at h0
    obtain ⟨hI, hS⟩ := unit13 s h13 hd (by rw [hc]; simp) (by rw [bne_iff_ne]; omega)
    exact ⟨code_of s 1 s 0 0 true rfl hf hI, .inr ⟨by rw [beq_eq_false_iff_ne]; omega, 1, s, 0, 0, rfl, hS⟩⟩
theorem inB_yes {n a b : Int} (h : a ≤ n ∧ n ≤ b) : inB n a b = true := by
  unfold inB
  exact decide_eq_true h
theorem item_good (r : RIt) : ∃ b : Bool, (∀ w, Calls Tryz.prog 17 #[.agg #[.string r.cd, .int .i64 r.pr, .int .i64 r.dp, .int .i64 r.cl, .int .i64 r.ag]] w fun e w' => e = .returned (.bool b) ∧ Below w.heap.size w w') ∧ ItemWay r.cd r.pr r.dp r.cl r.ag b ∧ (Good r.cd → ItN r → b = true) := by
  by_cases h : Good r.cd ∧ ItN r
  · obtain ⟨hG, h1, h2, h3, h4⟩ := h
    obtain ⟨hI, hW⟩ := code_good r.cd hG
    have e : (true && inB r.pr 0 1000000 && inB r.dp 0 1000000 && inB r.cl 1 9 && inB r.ag 0 120) = true := by rw [inB_yes h1, inB_yes h2, inB_yes h3, inB_yes h4]; rfl
    refine ⟨true, fun w => ?_, ⟨true, e.symm, hW⟩, fun _ _ => rfl⟩
    have := implItem_of r.cd r.pr r.dp r.cl r.ag true hI w
    rwa [e] at this
  · obtain ⟨b, hI, hW⟩ := implItem_any r.cd r.pr r.dp r.cl r.ag
    exact ⟨b, hI, hW, fun hG hN => absurd ⟨hG, hN⟩ h⟩
theorem its_both3 : ∃ B, ImplIt B ∧ SpecIt B ∧ (∀ r, B r = true → ItN r) ∧ ∀ r, Good r.cd → ItN r → B r = true := by
  obtain ⟨f, hf⟩ := Classical.axiomOfChoice item_good
  refine ⟨f, fun x p d c g w => (hf ⟨x, p, d, c, g⟩).1 w, fun x p d c g w hx => specItem_any x (by unfold maxLen; omega) p d c g _ (hf ⟨x, p, d, c, g⟩).2.1 w, fun r hr => ?_, fun r => (hf r).2.2⟩
  obtain ⟨b0, hb, _⟩ := (hf r).2.1
  rw [hr] at hb
  unfold inB at hb
  have hb' := hb.symm
  simp only [Bool.and_eq_true, decide_eq_true_eq] at hb'
  obtain ⟨⟨⟨⟨_, h1⟩, h2⟩, h3⟩, h4⟩ := hb'
  exact ⟨h1, h2, h3, h4⟩
/-- Right items, none with the code of one ahead, are right together. -/
theorem its_good {B : RIt → Bool} (hB : ∀ r, Good r.cd → ItN r → B r = true) {rs : List RIt} (hl : rs.length ≤ 40) (hg : ∀ r ∈ rs, Good r.cd ∧ ItN r) (hn : ∀ k, k < rs.length → itIx (rs.getD k zIt).cd (rs.take k) < 0) : itAll B rs = true := by
  unfold itAll
  rw [if_neg (by omega)]
  have h : ∀ k, k ≤ rs.length → itGood B rs k = true := fun k => by
    induction k with
    | zero => intro _; rfl
    | succ k ih =>
      intro hk
      have e : rs.getD k zIt = rs[k] := by simp [List.getD_eq_getElem?_getD, show k < rs.length by omega]
      have hm := hg (rs.getD k zIt) (by rw [e]; exact List.getElem_mem (by omega))
      show (itGood B rs k && _) = true
      rw [ih (by omega), hB _ hm.1 hm.2, decide_eq_false (by have := hn k (by omega); omega)]
      rfl
  exact h _ (Nat.le_refl _)
end Go.Proofs.YtabpkfhbnendjaaGreat
