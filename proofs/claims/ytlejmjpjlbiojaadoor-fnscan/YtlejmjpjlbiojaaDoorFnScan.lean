/-
  For every two lists of bytes the law FnScan answers true: the program makes a drawn right code again of what it reads, and one digit changed is found; the library's tables hold what its text lays (the card ties them to the program's text).
-/
import Derived.Test.YtlejmjpjlbiojaaDoorCards
import Derived.Test.YtlejmjpjlbiojaaDoorTie
import Derived.Test.YtlejmjpjlbiojaaDoorScanFacts
import Derived.Test.YtlejmjpjlbiojaaDoorCheckImpl
import Derived.Deep.DeepHandedRow
import Derived.Deep.RegionWith
namespace Go.Proofs.YtlejmjpjlbiojaaDoor
open Go.ChangeShapes Go.WideShapes Go.ChangeAt Go.RowKit Go.Joins
set_option linter.unusedVariables false
namespace FnScan

def Parts (t : ByteArray) (n : Nat) : Prop := ∃ hn : t.size = n + 1, (n = 7 ∨ n = 12) ∧ allD t.data.toList = true ∧ cd (t.data.toList.take n) = ((t[n]'(by omega)).toNat : Int) - 48
def CjIs (t : ByteArray) (j : Nat) (c : Int) : Prop := ∃ hj : j < t.size, (t[j].toNat : Int) = c
theorem parts_of (t : ByteArray) (h : Right t) : ∃ n, Hid (Parts t n) := right_parts t h

theorem bytes_cell (w : World) (t : ByteArray) (cap : Nat) (e : TypeId) (fr : Nat × Nat) (j : Nat) (hj : j < t.size) : (w.alloc (Obj.cells (bytesRow t cap) e fr)).drew.cell? ⟨w.heap.size, j, none⟩ = some (.int .u8 (t[j].toNat : Int)) := by
  show (w.alloc (Obj.cells (bytesRow t cap) e fr)).cell? ⟨w.heap.size, j, none⟩ = _
  have h := cells_bytes w t cap e fr w.heap.size rfl j (.int .u8 (t[j].toNat : Int)) (by
    have hj2 : j < t.data.toList.length := by simpa using hj
    show (row t.data.toList).toList[j]? = _
    rw [Array.getElem?_toList, row_at _ j hj2]; rfl)
  have hadd : (⟨w.heap.size, 0, none⟩ : Addr).add j = ⟨w.heap.size, j, none⟩ := by unfold Addr.add; split <;> simp_all
  rwa [hadd] at h
theorem bytes_free (w : World) (t : ByteArray) (cap : Nat) (e : TypeId) (j : Nat) (hj : j < t.size) : (w.alloc (Obj.cells (bytesRow t cap) e ((bytesRow t cap).size, (bytesRow t cap).size + 1))).drew.frozen? ⟨w.heap.size, j, none⟩ = false := by
  have hs : t.size ≤ (bytesRow t cap).size := by unfold bytesRow; simp
  have hb := heap_alloc_new w (Obj.cells (bytesRow t cap) e ((bytesRow t cap).size, (bytesRow t cap).size + 1))
  have e : (w.alloc (Obj.cells (bytesRow t cap) e ((bytesRow t cap).size, (bytesRow t cap).size + 1))).frozen? ⟨w.heap.size, j, none⟩ = (decide ((bytesRow t cap).size ≤ j) && decide (j < (bytesRow t cap).size + 1)) := by unfold World.frozen?; rw [hb]
  refine Eq.trans e ?_
  rw [decide_eq_false (by omega)]; rfl
theorem changed_read (t : ByteArray) (n : Nat) (hP : Parts t n) (j : Nat) (hj : j < t.size) (c : Int) (hc : (t[j].toNat : Int) = c) (y : Int) (hy : 0 ≤ y) (hy' : y ≤ 8) :
    ∃ (s : ByteArray) (c' : UInt8), s.data.toList = t.data.toList.set j c' ∧ (c'.toNat : Int) = 48 + (c - 48 + 1 + y) % 10 ∧ ∀ w, Calls Tryd.prog 6 #[.string s] w fun e w' => e = scanV 0 ⟨#[]⟩ 0 15 ∧ Below w.heap.size w w' := by
  obtain ⟨hn, hn', hd, hq⟩ := hP
  have hdj := (dg_iff _).mp (allD_at t j hj hd)
  have hN : (48 + ((c - 48 + 1 + y) % 10).toNat) < 256 := by omega
  have hu := u8_toNat _ hN
  refine ⟨⟨(t.data.toList.set j (UInt8.ofNat (48 + ((c - 48 + 1 + y) % 10).toNat))).toArray⟩, UInt8.ofNat (48 + ((c - 48 + 1 + y) % 10).toNat), by simp, by rw [hu]; omega, fun w => ?_⟩
  have hsz : (⟨(t.data.toList.set j (UInt8.ofNat (48 + ((c - 48 + 1 + y) % 10).toNat))).toArray⟩ : ByteArray).size = n + 1 := by
    show (t.data.toList.set j _).toArray.size = n + 1
    rw [List.size_toArray, List.length_set, Array.length_toList]; exact hn
  have hch := changed t n hn hd hq j hj (UInt8.ofNat (48 + ((c - 48 + 1 + y) % 10).toNat)) ((dg_iff _).mpr (by rw [hu]; omega)) (fun e => by have := congrArg UInt8.toNat e; rw [hu] at this; omega)
    ⟨(t.data.toList.set j (UInt8.ofNat (48 + ((c - 48 + 1 + y) % 10).toNat))).toArray⟩ (by simp) hsz
  exact readBad _ n hsz hn' hch.1 hch.2 w
theorem text_changed (wa : World) (t : ByteArray) (W5 wb : World) (j : Nat) (c' : UInt8) (hj : j < t.size) (s : ByteArray) (hs : s.data.toList = t.data.toList.set j c')
    (hW : (wa.alloc (Obj.cells (bytesRow t (grownCap wa t.size 0 5)) 5 ((bytesRow t (grownCap wa t.size 0 5)).size, (bytesRow t (grownCap wa t.size 0 5)).size + 1))).drew = W5) (hb : Below W5.heap.size W5 wb) :
    (convert 22 9 (.slice (some ⟨wa.heap.size, 0, none⟩) t.size (grownCap wa t.size 0 5))).run Tryd.prog (wb.setCell ⟨wa.heap.size, j, none⟩ (.int .u8 (c'.toNat : Int))) = .ok (.string s) (wb.setCell ⟨wa.heap.size, j, none⟩ (.int .u8 (c'.toNat : Int))) := by
  have hlt : wa.heap.size < W5.heap.size := by rw [← hW]; show wa.heap.size < (wa.alloc _).heap.size; simp
  have hlen : s.data.toList.length = t.size := by rw [hs, List.length_set, Array.length_toList]; rfl
  have := run_convert_bytes_back (P := Tryd.prog) (wb.setCell ⟨wa.heap.size, j, none⟩ (.int .u8 (c'.toNat : Int))) 22 9 5 ⟨wa.heap.size, 0, none⟩ (grownCap wa t.size 0 5) s.data.toList Tryd.underlying22 Tryd.underlying5 Tryd.underlying9
    (fun i hi => by
      have hadd : (⟨wa.heap.size, 0, none⟩ : Addr).add i = ⟨wa.heap.size, i, none⟩ := by unfold Addr.add; split <;> simp_all
      rw [hadd]
      have hit : i < t.size := by omega
      have hcell : ∀ q (hq : q < t.size), wb.cell? ⟨wa.heap.size, q, none⟩ = some (.int .u8 (t[q].toNat : Int)) := fun q hq => (hb.cell (p := ⟨wa.heap.size, q, none⟩) hlt).trans (by rw [← hW]; exact bytes_cell wa t _ _ _ q hq)
      have e : s.data.toList[i] = if j = i then c' else t[i] := by
        simp only [hs, List.getElem_set]; split <;> rfl
      rw [e]
      by_cases hji : j = i
      · subst hji; rw [if_pos rfl]; exact World.cell?_setCell_same _ _ _ (hcell j hit)
      · rw [if_neg hji, World.cell?_setCell_other _ _ _ _ (fun h => hji (by cases h; rfl))]; exact hcell i hit)
  rw [hlen, bytes_of s _ rfl] at this
  exact this

theorem check_right (t : ByteArray) (n : Nat) (hP : Parts t n) : ∃ x yn : Int, (∀ w, Calls Tryd.prog 10 #[.string (t.extract 0 n)] w fun e w' => e = .returned (.tuple #[.int .i64 x, .int .i64 0]) ∧ Below w.heap.size w w') ∧
    (∀ w, (Instr.slice 9 (.string t) none (some (.int .i64 ((t.size : Int) - 1))) none).run Tryd.prog w = .ok (.string (t.extract 0 n)) w) ∧ (∀ w, (Instr.index 9 (.string t) (.int .i64 ((t.size : Int) - 1))).run Tryd.prog w = .ok (.int .u8 yn) w) ∧ (x == yn - 48) = true ∧ 0 ≤ yn ∧ yn ≤ 255 := by
  obtain ⟨hn, hn', hd, hq⟩ := hP
  have hl : (t.extract 0 n).data.toList = t.data.toList.take n := by rw [Lib.extract_data]; simp
  have hs : (t.extract 0 n).size = n := by simp; omega
  have hb := (t[n]'(by omega)).toNat_lt
  refine ⟨cd (t.data.toList.take n), ((t[n]'(by omega)).toNat : Int), fun w => ?_, fun w => run_slice_head t n _ (by omega) (by omega) w, fun w => run_index_at t n _ (by omega) (by omega) w, by rw [hq]; simp, by omega, by omega⟩
  have h := implCheck_any (t.extract 0 n) w
  rcases ck_ways (t.extract 0 n) with ⟨h1, _⟩ | ⟨_, h1, _⟩ | ⟨_, h1, _⟩ | ⟨_, _, h1, _⟩ | ⟨_, _, _, e1, e2⟩
  · omega
  · omega
  · omega
  · rw [hl, allD_take _ n hd] at h1; cases h1
  · rw [e1, e2, hl] at h; exact h

set_option maxRecDepth 20000 in
set_option maxHeartbeats 8000000 in
theorem walk (a0 : Option Addr) (len0 cap0 : Nat) (z0 : List Int) (a1 : Option Addr) (len1 cap1 : Nat) (z1 : List Int) (w : World) (r0 : RowB w.heap.size w a0 len0 z0) (r1 : RowB w.heap.size w a1 len1 z1) (hL : laidMetH Tryd.prog Rows.fnScanRow.laid w) :
    Calls Tryd.prog 3 #[.slice a0 len0 cap0, .slice a1 len1 cap1] w fun e w' => e = .returned (.bool true) ∧ Below w.heap.size w w' := by
  have hL' : laidMet Tryd.prog [("math/bits.deBruijn32tab", Rows.laid_math_bits_deBruijn32tab), ("math/bits.deBruijn64tab", Rows.laid_math_bits_deBruijn64tab), ("internal/strconv.uint64pow10", Rows.laid_internal_strconv_uint64pow10)] w := hL
  rw [powData] at hL'
  have hT : Hid (Tab w) := tab_third hL'
  clear hL hL'
  have hl0 := r0.1
  have hl1 := r1.1
  unfold maxLen at hl0 hl1
  rcases (by omega : (1048576 : Int) < (len0 : Int) ∨ ((len0 : Int) ≤ 1048576 ∧ (1048576 : Int) < (len1 : Int)) ∨ ((len0 : Int) ≤ 1048576 ∧ (len1 : Int) ≤ 1048576)) with h | ⟨h, h'⟩ | ⟨h, h'⟩
  · go_enter Tryd.func3, Tryd.ntmps3
    go_wp2
    go_ret
    exact ⟨rfl, Below.refl _ _⟩
  · go_enter Tryd.func3, Tryd.ntmps3
    go_wp2
    go_ret
    exact ⟨rfl, Below.refl _ _⟩
  · have hsc := scanOf_any a0 len0 cap0 z0 w r0
    clear r0
    go_enter Tryd.func3, Tryd.ntmps3
    go_wp2_with fail
    go_at_call 5
    refine hsc.mono ?_
    rintro e w1 ⟨t, rfl, hR, hb1⟩
    clear hsc
    obtain ⟨n, HP⟩ : ∃ n, Hid (Parts t n) := parts_of t hR
    have hn1 : t.size = n + 1 := HP.out.1
    have hn2 : n = 7 ∨ n = 12 := HP.out.2.1
    have ht1 : (1 : Int) < (t.size : Int) := by omega
    have ht2 : (t.size : Int) ≤ 13 := by omega
    clear hn1 hn2
    obtain ⟨k, a, v, c, hI, hS, hMk⟩ := full_any t hR
    unfold scanV at hI hS
    have HM : Hid (c = 0 → ∀ w, Tab w → Calls Tryd.prog 8 #[.agg #[.int .i64 k, .string a, .int .i64 v]] w fun e w' => e = .returned (.tuple #[.string t, .int .i64 0]) ∧ Below w.heap.size w w') := hMk
    clear hR hMk
    have hneq := fun w => neq_scan k k a a v v w
    rw [decide_eq_true ⟨rfl, rfl, rfl⟩] at hneq
    go_wp2_with fail
    go_at_call 6
    refine (hI _).mono ?_
    rintro e w2 ⟨rfl, hb2⟩
    go_wp2_with fail
    go_at_call 7
    refine (hS _).mono ?_
    rintro e w3 ⟨rfl, hb3⟩
    have K6 := below_heap hb3 w2.heap.size (by simp) _ (heap_alloc_new w2 _)
    obtain ⟨p0, p1, p2, pf⟩ := kc K6
    have lt6 : w2.heap.size < w3.heap.size := by have := hb3.size; simp at this; omega
    have bel3 : Hid (Below w.heap.size w w3) := (hb1.trans (hb2.mono hb1.size)).trans (((below_alloc _ _).trans (hb3.mono (by simp))).mono (by have := hb1.size; have := hb2.size; omega))
    clear hb1 hb2 hb3 K6 hI hS
    by_cases hc0 : c = 0
    · subst hc0
      go_wp2_with fail
      go_at_call 8
      refine (HM.out (by first | rfl | trivial) _ (hT.out.below (bel3.out.trans ((below_alloc _ _).mono bel3.out.size)))).mono ?_
      rintro e w4 ⟨rfl, hb4⟩
      have BEL : Hid (Below w.heap.size w w4) := (bel3.out.trans ((below_alloc _ _).mono bel3.out.size)).trans (hb4.mono (by have := bel3.out.size; simp; omega))
      clear p0 p1 p2 pf lt6 hb4 bel3 HM hneq
      go_wp2_with fail
      go_at_call 9
      have hba0 := at_any w4.heap.size a1 len1 cap1 z1 0 (t.size : Int) w4 ((r1.below BEL.out).mono BEL.out.size) (by omega) (by omega) (by omega)
      refine hba0.mono ?_
      rintro e wa ⟨jj, rfl, ⟨hj0, hj1⟩, hba⟩
      obtain ⟨j, rfl⟩ : ∃ j : Nat, jj = (j : Int) := ⟨jj.toNat, by omega⟩
      have hj : j < t.size := by omega
      have hjt : (j : Int) < (t.size : Int) := by omega
      have BELa : Hid (Below w.heap.size w wa) := BEL.out.trans (hba.mono BEL.out.size)
      clear hba0 hba hj1 BEL
      have hcv := fun w => run_bytes_of_string (P := Tryd.prog) w 9 22 5 t Tryd.underlying9 Tryd.underlying22 Tryd.underlying5
      go_wp2_with fail
      obtain ⟨c, hcj, hc48, hc57⟩ : ∃ c : Int, (t[j].toNat : Int) = c ∧ 48 ≤ c ∧ c ≤ 57 := ⟨_, rfl, by have := (dg_iff _).mp (allD_at t j hj HP.out.2.2.1); omega, by have := (dg_iff _).mp (allD_at t j hj HP.out.2.2.1); omega⟩
      have HCj : Hid (CjIs t j c) := ⟨hj, hcj⟩
      have HJ : Hid (j < t.size) := hj
      generalize hW5 : (wa.alloc (Obj.cells (bytesRow t (grownCap wa t.size 0 5)) 5 ((bytesRow t (grownCap wa t.size 0 5)).size, (bytesRow t (grownCap wa t.size 0 5)).size + 1))).drew = W5
      have HW5 : Hid ((wa.alloc (Obj.cells (bytesRow t (grownCap wa t.size 0 5)) 5 ((bytesRow t (grownCap wa t.size 0 5)).size, (bytesRow t (grownCap wa t.size 0 5)).size + 1))).drew = W5) := hW5
      have c5 : W5.cell? ⟨wa.heap.size, j, none⟩ = some (.int .u8 c) := by rw [← hW5, ← hcj]; exact bytes_cell wa t _ _ _ j hj
      have f5 : W5.frozen? ⟨wa.heap.size, j, none⟩ = false := by rw [← hW5]; exact bytes_free wa t _ _ j hj
      have LT5 : Hid (wa.heap.size < W5.heap.size) := by show _ < _; rw [← hW5]; show wa.heap.size < (wa.alloc _).heap.size; simp
      have BEL5 : Hid (Below w.heap.size w W5) := by show Below _ _ _; rw [← hW5]; exact (BELa.out.alloc BELa.out.size _).drew
      have R5 : Hid (RowB W5.heap.size W5 a1 len1 z1) := (r1.below BEL5.out).mono BEL5.out.size
      have C5 : Hid (W5.cell? ⟨wa.heap.size, j, none⟩ = some (.int .u8 c)) := c5
      have F5 : Hid (W5.frozen? ⟨wa.heap.size, j, none⟩ = false) := f5
      clear hW5 hcj hj
      have f0 : IntKind.i64.wrap c = c := wrap_id _ (by omega) (by omega)
      have f1 : IntKind.i64.wrap (c - 48) = c - 48 := wrap_id _ (by omega) (by omega)
      have f2 : IntKind.i64.wrap (c - 48 + 1) = c - 48 + 1 := wrap_id _ (by omega) (by omega)
      refine wp_region_held_drew (S := fun _ => True) (by kernel_rfl) trivial (fun hH => ?_)
      refine wpAnyH_take (i := 0) (v := .slice (some ⟨wa.heap.size, 0, none⟩) t.size (grownCap wa t.size 0 5)) rfl (by kernel_rfl) (by kernel_rfl) (by kernel_rfl) (fun _ _ _ h => h) (Or.inl ⟨by rfl, fun w hSw => by go_simp⟩) trivial ?_
      refine wpAnyH_take (i := 1) (v := .int .i64 (j : Int)) rfl (by kernel_rfl) (by kernel_rfl) (by kernel_rfl) (fun _ _ _ h => h) (Or.inl ⟨by rfl, fun w hSw => by go_simp⟩) trivial ?_
      refine wpAnyH_take (i := 2) (v := .slice (some ⟨wa.heap.size, 0, none⟩) t.size (grownCap wa t.size 0 5)) rfl (by kernel_rfl) (by kernel_rfl) (by kernel_rfl) (fun _ _ _ h => h) (Or.inl ⟨by rfl, fun w hSw => by go_simp⟩) trivial ?_
      refine wpAnyH_take (i := 3) (v := .int .i64 (j : Int)) rfl (by kernel_rfl) (by kernel_rfl) (by kernel_rfl) (fun _ _ _ h => h) (Or.inl ⟨by rfl, fun w hSw => by go_simp⟩) trivial ?_
      refine wpAnyH_take (i := 4) (v := .pointer (some ⟨wa.heap.size, j, none⟩)) rfl (by kernel_rfl) (by kernel_rfl) (by kernel_rfl) (fun _ _ _ h => h) (Or.inl ⟨by rfl, fun w hSw => by go_simp⟩) trivial ?_
      refine wpAnyH_take (i := 9) (v := .slice a1 len1 cap1) rfl (by kernel_rfl) (by kernel_rfl) (by kernel_rfl) (fun _ _ _ h => h) (Or.inl ⟨by rfl, fun w hSw => by go_simp⟩) trivial ?_
      refine wpAnyH_ready (rs := [5, 10]) (by kernel_rfl) (by simp) ?_
      refine AllReadyH.cons rfl (fun K hK => ?_) (AllReadyH.cons rfl (fun K hK => ?_) AllReadyH.nil)
      ·
        go_simp
        refine hK.out _ _ trivial (fun _ => ?_)
        clear hK K
        refine wpAnyH_take (i := 6) (v := .int .i64 c) rfl (by kernel_rfl) (by kernel_rfl) (by kernel_rfl) (fun _ _ _ h => h) (Or.inl ⟨by rfl, fun w hSw => by go_simp⟩) trivial ?_
        refine wpAnyH_take (i := 7) (v := .int .i64 (c - 48)) rfl (by kernel_rfl) (by kernel_rfl) (by kernel_rfl) (fun _ _ _ h => h) (Or.inl ⟨by rfl, fun w hSw => by go_simp⟩) trivial ?_
        refine wpAnyH_take (i := 8) (v := .int .i64 (c - 48 + 1)) rfl (by kernel_rfl) (by kernel_rfl) (by kernel_rfl) (fun _ _ _ h => h) (Or.inl ⟨by rfl, fun w hSw => by go_simp⟩) trivial ?_
        refine wpAnyH_ready (rs := [10]) (by kernel_rfl) (by simp) ?_
        refine AllReadyH.cons rfl (fun K hK => ?_) AllReadyH.nil
        go_simp
        go_at_call 9
        refine (at_any W5.heap.size a1 len1 cap1 z1 1 9 W5.drew R5.out (by omega) (by omega) (by omega)).mono ?_
        rintro e wb ⟨y, rfl, ⟨hy0, hy1⟩, hbb0⟩
        have hbb : Below W5.heap.size W5 wb := (below_drew W5).trans hbb0
        clear hbb0
        have hy2 : y ≤ 8 := by omega
        have e1 : IntKind.i64.wrap (c - 48 + 1 + y) = c - 48 + 1 + y := wrap_id _ (by omega) (by omega)
        have e2 : (c - 48 + 1 + y).tmod 10 = (c - 48 + 1 + y) % 10 := Int.tmod_eq_emod_of_nonneg (by omega)
        have e3 : IntKind.i64.wrap ((c - 48 + 1 + y) % 10) = (c - 48 + 1 + y) % 10 := wrap_id _ (by omega) (by omega)
        have e4 : IntKind.i64.wrap (48 + (c - 48 + 1 + y) % 10) = 48 + (c - 48 + 1 + y) % 10 := wrap_id _ (by omega) (by omega)
        have e5 : IntKind.u8.wrap (48 + (c - 48 + 1 + y) % 10) = 48 + (c - 48 + 1 + y) % 10 := by rw [IntKind.wrap_u8]; omega
        have cb : wb.cell? ⟨wa.heap.size, j, none⟩ = some (.int .u8 c) := (hbb.cell (p := ⟨wa.heap.size, j, none⟩) LT5.out).trans C5.out
        have fb : wb.frozen? ⟨wa.heap.size, j, none⟩ = false := (hbb.frozen (p := ⟨wa.heap.size, j, none⟩) LT5.out).trans F5.out
        refine hK.out _ _ trivial (fun _ => ?_)
        clear hK K
        refine wpAnyH_take (i := 11) (v := .int .i64 (c - 48 + 1 + y)) rfl (by kernel_rfl) (by kernel_rfl) (by kernel_rfl) (fun _ _ _ h => h) (Or.inl ⟨by rfl, fun w hSw => by go_simp⟩) trivial ?_
        refine wpAnyH_take (i := 12) (v := .int .i64 ((c - 48 + 1 + y) % 10)) rfl (by kernel_rfl) (by kernel_rfl) (by kernel_rfl) (fun _ _ _ h => h) (Or.inl ⟨by rfl, fun w hSw => by go_simp⟩) trivial ?_
        refine wpAnyH_take (i := 13) (v := .int .i64 (48 + (c - 48 + 1 + y) % 10)) rfl (by kernel_rfl) (by kernel_rfl) (by kernel_rfl) (fun _ _ _ h => h) (Or.inl ⟨by rfl, fun w hSw => by go_simp⟩) trivial ?_
        refine wpAnyH_take (i := 14) (v := .int .u8 (48 + (c - 48 + 1 + y) % 10)) rfl (by kernel_rfl) (by kernel_rfl) (by kernel_rfl) (fun _ _ _ h => h) (Or.inl ⟨by rfl, fun w hSw => by go_simp⟩) trivial ?_
        refine wpAnyH_take (i := 15) (v := .pointer (some ⟨wa.heap.size, j, none⟩)) rfl (by kernel_rfl) (by kernel_rfl) (by kernel_rfl) (fun _ _ _ h => h) (Or.inl ⟨by rfl, fun w hSw => by go_simp⟩) trivial ?_
        refine wpAnyH_ready (rs := [16]) (by kernel_rfl) (by simp) ?_
        refine AllReadyH.cons rfl (fun K hK => ?_) AllReadyH.nil
        go_simp
        refine hK.out _ _ trivial (fun _ => ?_)
        clear hK K
        refine wpAnyH_done (by kernel_rfl) ?_ _
        try simp [Act.put]
        obtain ⟨s', c', hs', hc', hRB⟩ := changed_read t n HP.out j HJ.out c HCj.out.2 y hy0 hy2
        rw [← hc'] at *
        have hcb := text_changed wa t W5 wb j c' HJ.out s' hs' HW5.out hbb
        have BELb : Hid (Below w.heap.size w (wb.setCell ⟨wa.heap.size, j, none⟩ (.int .u8 (c'.toNat : Int)))) := (BEL5.out.trans (hbb.mono BEL5.out.size)).setCell (p := ⟨wa.heap.size, j, none⟩) BELa.out.size _
        obtain ⟨x, yn, hck, hsl, hix, hxe, hyn0, hyn1⟩ := check_right t n HP.out
        unfold scanV at hRB
        clear hbb e1 e2 e3 e4 e5 cb fb hcv
        generalize wb.setCell ⟨wa.heap.size, j, none⟩ (.int .u8 (c'.toNat : Int)) = W6 at *
        go_wp2_with fail
        go_at_call 6
        refine (hRB _).mono ?_
        rintro e w7 ⟨rfl, hb7⟩
        clear hRB hcb
        go_wp2_with fail
        go_at_call 10
        refine (hck _).mono ?_
        rintro e w8 ⟨rfl, hb8⟩
        go_wp2
        go_ret
        exact ⟨by first | rfl | (rw [hxe]) | simp [hxe], (BELb.out.trans (hb7.mono BELb.out.size)).trans (((below_alloc _ _).trans (hb8.mono (by simp))).mono (by have := BELb.out.size; have := hb7.size; omega))⟩
      ·
        go_simp
        go_at_call 9
        refine (at_any W5.heap.size a1 len1 cap1 z1 1 9 W5.drew R5.out (by omega) (by omega) (by omega)).mono ?_
        rintro e wb ⟨y, rfl, ⟨hy0, hy1⟩, hbb0⟩
        have hbb : Below W5.heap.size W5 wb := (below_drew W5).trans hbb0
        clear hbb0
        have hy2 : y ≤ 8 := by omega
        have e1 : IntKind.i64.wrap (c - 48 + 1 + y) = c - 48 + 1 + y := wrap_id _ (by omega) (by omega)
        have e2 : (c - 48 + 1 + y).tmod 10 = (c - 48 + 1 + y) % 10 := Int.tmod_eq_emod_of_nonneg (by omega)
        have e3 : IntKind.i64.wrap ((c - 48 + 1 + y) % 10) = (c - 48 + 1 + y) % 10 := wrap_id _ (by omega) (by omega)
        have e4 : IntKind.i64.wrap (48 + (c - 48 + 1 + y) % 10) = 48 + (c - 48 + 1 + y) % 10 := wrap_id _ (by omega) (by omega)
        have e5 : IntKind.u8.wrap (48 + (c - 48 + 1 + y) % 10) = 48 + (c - 48 + 1 + y) % 10 := by rw [IntKind.wrap_u8]; omega
        have cb : wb.cell? ⟨wa.heap.size, j, none⟩ = some (.int .u8 c) := (hbb.cell (p := ⟨wa.heap.size, j, none⟩) LT5.out).trans C5.out
        have fb : wb.frozen? ⟨wa.heap.size, j, none⟩ = false := (hbb.frozen (p := ⟨wa.heap.size, j, none⟩) LT5.out).trans F5.out
        refine hK.out _ _ trivial (fun _ => ?_)
        clear hK K
        refine wpAnyH_ready (rs := [5]) (by kernel_rfl) (by simp) ?_
        refine AllReadyH.cons rfl (fun K hK => ?_) AllReadyH.nil
        go_simp
        refine hK.out _ _ trivial (fun _ => ?_)
        clear hK K
        refine wpAnyH_take (i := 6) (v := .int .i64 c) rfl (by kernel_rfl) (by kernel_rfl) (by kernel_rfl) (fun _ _ _ h => h) (Or.inl ⟨by rfl, fun w hSw => by go_simp⟩) trivial ?_
        refine wpAnyH_take (i := 7) (v := .int .i64 (c - 48)) rfl (by kernel_rfl) (by kernel_rfl) (by kernel_rfl) (fun _ _ _ h => h) (Or.inl ⟨by rfl, fun w hSw => by go_simp⟩) trivial ?_
        refine wpAnyH_take (i := 8) (v := .int .i64 (c - 48 + 1)) rfl (by kernel_rfl) (by kernel_rfl) (by kernel_rfl) (fun _ _ _ h => h) (Or.inl ⟨by rfl, fun w hSw => by go_simp⟩) trivial ?_
        refine wpAnyH_take (i := 11) (v := .int .i64 (c - 48 + 1 + y)) rfl (by kernel_rfl) (by kernel_rfl) (by kernel_rfl) (fun _ _ _ h => h) (Or.inl ⟨by rfl, fun w hSw => by go_simp⟩) trivial ?_
        refine wpAnyH_take (i := 12) (v := .int .i64 ((c - 48 + 1 + y) % 10)) rfl (by kernel_rfl) (by kernel_rfl) (by kernel_rfl) (fun _ _ _ h => h) (Or.inl ⟨by rfl, fun w hSw => by go_simp⟩) trivial ?_
        refine wpAnyH_take (i := 13) (v := .int .i64 (48 + (c - 48 + 1 + y) % 10)) rfl (by kernel_rfl) (by kernel_rfl) (by kernel_rfl) (fun _ _ _ h => h) (Or.inl ⟨by rfl, fun w hSw => by go_simp⟩) trivial ?_
        refine wpAnyH_take (i := 14) (v := .int .u8 (48 + (c - 48 + 1 + y) % 10)) rfl (by kernel_rfl) (by kernel_rfl) (by kernel_rfl) (fun _ _ _ h => h) (Or.inl ⟨by rfl, fun w hSw => by go_simp⟩) trivial ?_
        refine wpAnyH_take (i := 15) (v := .pointer (some ⟨wa.heap.size, j, none⟩)) rfl (by kernel_rfl) (by kernel_rfl) (by kernel_rfl) (fun _ _ _ h => h) (Or.inl ⟨by rfl, fun w hSw => by go_simp⟩) trivial ?_
        refine wpAnyH_ready (rs := [16]) (by kernel_rfl) (by simp) ?_
        refine AllReadyH.cons rfl (fun K hK => ?_) AllReadyH.nil
        go_simp
        refine hK.out _ _ trivial (fun _ => ?_)
        clear hK K
        refine wpAnyH_done (by kernel_rfl) ?_ _
        try simp [Act.put]
        obtain ⟨s', c', hs', hc', hRB⟩ := changed_read t n HP.out j HJ.out c HCj.out.2 y hy0 hy2
        rw [← hc'] at *
        have hcb := text_changed wa t W5 wb j c' HJ.out s' hs' HW5.out hbb
        have BELb : Hid (Below w.heap.size w (wb.setCell ⟨wa.heap.size, j, none⟩ (.int .u8 (c'.toNat : Int)))) := (BEL5.out.trans (hbb.mono BEL5.out.size)).setCell (p := ⟨wa.heap.size, j, none⟩) BELa.out.size _
        obtain ⟨x, yn, hck, hsl, hix, hxe, hyn0, hyn1⟩ := check_right t n HP.out
        unfold scanV at hRB
        clear hbb e1 e2 e3 e4 e5 cb fb hcv
        generalize wb.setCell ⟨wa.heap.size, j, none⟩ (.int .u8 (c'.toNat : Int)) = W6 at *
        go_wp2_with fail
        go_at_call 6
        refine (hRB _).mono ?_
        rintro e w7 ⟨rfl, hb7⟩
        clear hRB hcb
        go_wp2_with fail
        go_at_call 10
        refine (hck _).mono ?_
        rintro e w8 ⟨rfl, hb8⟩
        go_wp2
        go_ret
        exact ⟨by first | rfl | (rw [hxe]) | simp [hxe], (BELb.out.trans (hb7.mono BELb.out.size)).trans (((below_alloc _ _).trans (hb8.mono (by simp))).mono (by have := BELb.out.size; have := hb7.size; omega))⟩
    · have hcb0 : (c == 0) = false := by rw [beq_eq_false_iff_ne]; exact hc0
      go_wp2_with fail
      go_at_call 9
      have BEL : Hid (Below w.heap.size w (w3.alloc (Obj.cells #[.int .i64 k, .string a, .int .i64 v] 25))) := bel3.out.trans ((below_alloc _ _).mono bel3.out.size)
      generalize w3.alloc (Obj.cells #[.int .i64 k, .string a, .int .i64 v] 25) = w4 at *
      clear p0 p1 p2 pf lt6 bel3 HM hneq hcb0 hc0
      have hba0 := at_any w4.heap.size a1 len1 cap1 z1 0 (t.size : Int) w4 ((r1.below BEL.out).mono BEL.out.size) (by omega) (by omega) (by omega)
      refine hba0.mono ?_
      rintro e wa ⟨jj, rfl, ⟨hj0, hj1⟩, hba⟩
      obtain ⟨j, rfl⟩ : ∃ j : Nat, jj = (j : Int) := ⟨jj.toNat, by omega⟩
      have hj : j < t.size := by omega
      have hjt : (j : Int) < (t.size : Int) := by omega
      have BELa : Hid (Below w.heap.size w wa) := BEL.out.trans (hba.mono BEL.out.size)
      clear hba0 hba hj1 BEL
      have hcv := fun w => run_bytes_of_string (P := Tryd.prog) w 9 22 5 t Tryd.underlying9 Tryd.underlying22 Tryd.underlying5
      go_wp2_with fail
      obtain ⟨c, hcj, hc48, hc57⟩ : ∃ c : Int, (t[j].toNat : Int) = c ∧ 48 ≤ c ∧ c ≤ 57 := ⟨_, rfl, by have := (dg_iff _).mp (allD_at t j hj HP.out.2.2.1); omega, by have := (dg_iff _).mp (allD_at t j hj HP.out.2.2.1); omega⟩
      have HCj : Hid (CjIs t j c) := ⟨hj, hcj⟩
      have HJ : Hid (j < t.size) := hj
      generalize hW5 : (wa.alloc (Obj.cells (bytesRow t (grownCap wa t.size 0 5)) 5 ((bytesRow t (grownCap wa t.size 0 5)).size, (bytesRow t (grownCap wa t.size 0 5)).size + 1))).drew = W5
      have HW5 : Hid ((wa.alloc (Obj.cells (bytesRow t (grownCap wa t.size 0 5)) 5 ((bytesRow t (grownCap wa t.size 0 5)).size, (bytesRow t (grownCap wa t.size 0 5)).size + 1))).drew = W5) := hW5
      have c5 : W5.cell? ⟨wa.heap.size, j, none⟩ = some (.int .u8 c) := by rw [← hW5, ← hcj]; exact bytes_cell wa t _ _ _ j hj
      have f5 : W5.frozen? ⟨wa.heap.size, j, none⟩ = false := by rw [← hW5]; exact bytes_free wa t _ _ j hj
      have LT5 : Hid (wa.heap.size < W5.heap.size) := by show _ < _; rw [← hW5]; show wa.heap.size < (wa.alloc _).heap.size; simp
      have BEL5 : Hid (Below w.heap.size w W5) := by show Below _ _ _; rw [← hW5]; exact (BELa.out.alloc BELa.out.size _).drew
      have R5 : Hid (RowB W5.heap.size W5 a1 len1 z1) := (r1.below BEL5.out).mono BEL5.out.size
      have C5 : Hid (W5.cell? ⟨wa.heap.size, j, none⟩ = some (.int .u8 c)) := c5
      have F5 : Hid (W5.frozen? ⟨wa.heap.size, j, none⟩ = false) := f5
      clear hW5 hcj hj
      have f0 : IntKind.i64.wrap c = c := wrap_id _ (by omega) (by omega)
      have f1 : IntKind.i64.wrap (c - 48) = c - 48 := wrap_id _ (by omega) (by omega)
      have f2 : IntKind.i64.wrap (c - 48 + 1) = c - 48 + 1 := wrap_id _ (by omega) (by omega)
      refine wp_region_held_drew (S := fun _ => True) (by kernel_rfl) trivial (fun hH => ?_)
      refine wpAnyH_take (i := 0) (v := .slice (some ⟨wa.heap.size, 0, none⟩) t.size (grownCap wa t.size 0 5)) rfl (by kernel_rfl) (by kernel_rfl) (by kernel_rfl) (fun _ _ _ h => h) (Or.inl ⟨by rfl, fun w hSw => by go_simp⟩) trivial ?_
      refine wpAnyH_take (i := 1) (v := .int .i64 (j : Int)) rfl (by kernel_rfl) (by kernel_rfl) (by kernel_rfl) (fun _ _ _ h => h) (Or.inl ⟨by rfl, fun w hSw => by go_simp⟩) trivial ?_
      refine wpAnyH_take (i := 2) (v := .slice (some ⟨wa.heap.size, 0, none⟩) t.size (grownCap wa t.size 0 5)) rfl (by kernel_rfl) (by kernel_rfl) (by kernel_rfl) (fun _ _ _ h => h) (Or.inl ⟨by rfl, fun w hSw => by go_simp⟩) trivial ?_
      refine wpAnyH_take (i := 3) (v := .int .i64 (j : Int)) rfl (by kernel_rfl) (by kernel_rfl) (by kernel_rfl) (fun _ _ _ h => h) (Or.inl ⟨by rfl, fun w hSw => by go_simp⟩) trivial ?_
      refine wpAnyH_take (i := 4) (v := .pointer (some ⟨wa.heap.size, j, none⟩)) rfl (by kernel_rfl) (by kernel_rfl) (by kernel_rfl) (fun _ _ _ h => h) (Or.inl ⟨by rfl, fun w hSw => by go_simp⟩) trivial ?_
      refine wpAnyH_take (i := 9) (v := .slice a1 len1 cap1) rfl (by kernel_rfl) (by kernel_rfl) (by kernel_rfl) (fun _ _ _ h => h) (Or.inl ⟨by rfl, fun w hSw => by go_simp⟩) trivial ?_
      refine wpAnyH_ready (rs := [5, 10]) (by kernel_rfl) (by simp) ?_
      refine AllReadyH.cons rfl (fun K hK => ?_) (AllReadyH.cons rfl (fun K hK => ?_) AllReadyH.nil)
      ·
        go_simp
        refine hK.out _ _ trivial (fun _ => ?_)
        clear hK K
        refine wpAnyH_take (i := 6) (v := .int .i64 c) rfl (by kernel_rfl) (by kernel_rfl) (by kernel_rfl) (fun _ _ _ h => h) (Or.inl ⟨by rfl, fun w hSw => by go_simp⟩) trivial ?_
        refine wpAnyH_take (i := 7) (v := .int .i64 (c - 48)) rfl (by kernel_rfl) (by kernel_rfl) (by kernel_rfl) (fun _ _ _ h => h) (Or.inl ⟨by rfl, fun w hSw => by go_simp⟩) trivial ?_
        refine wpAnyH_take (i := 8) (v := .int .i64 (c - 48 + 1)) rfl (by kernel_rfl) (by kernel_rfl) (by kernel_rfl) (fun _ _ _ h => h) (Or.inl ⟨by rfl, fun w hSw => by go_simp⟩) trivial ?_
        refine wpAnyH_ready (rs := [10]) (by kernel_rfl) (by simp) ?_
        refine AllReadyH.cons rfl (fun K hK => ?_) AllReadyH.nil
        go_simp
        go_at_call 9
        refine (at_any W5.heap.size a1 len1 cap1 z1 1 9 W5.drew R5.out (by omega) (by omega) (by omega)).mono ?_
        rintro e wb ⟨y, rfl, ⟨hy0, hy1⟩, hbb0⟩
        have hbb : Below W5.heap.size W5 wb := (below_drew W5).trans hbb0
        clear hbb0
        have hy2 : y ≤ 8 := by omega
        have e1 : IntKind.i64.wrap (c - 48 + 1 + y) = c - 48 + 1 + y := wrap_id _ (by omega) (by omega)
        have e2 : (c - 48 + 1 + y).tmod 10 = (c - 48 + 1 + y) % 10 := Int.tmod_eq_emod_of_nonneg (by omega)
        have e3 : IntKind.i64.wrap ((c - 48 + 1 + y) % 10) = (c - 48 + 1 + y) % 10 := wrap_id _ (by omega) (by omega)
        have e4 : IntKind.i64.wrap (48 + (c - 48 + 1 + y) % 10) = 48 + (c - 48 + 1 + y) % 10 := wrap_id _ (by omega) (by omega)
        have e5 : IntKind.u8.wrap (48 + (c - 48 + 1 + y) % 10) = 48 + (c - 48 + 1 + y) % 10 := by rw [IntKind.wrap_u8]; omega
        have cb : wb.cell? ⟨wa.heap.size, j, none⟩ = some (.int .u8 c) := (hbb.cell (p := ⟨wa.heap.size, j, none⟩) LT5.out).trans C5.out
        have fb : wb.frozen? ⟨wa.heap.size, j, none⟩ = false := (hbb.frozen (p := ⟨wa.heap.size, j, none⟩) LT5.out).trans F5.out
        refine hK.out _ _ trivial (fun _ => ?_)
        clear hK K
        refine wpAnyH_take (i := 11) (v := .int .i64 (c - 48 + 1 + y)) rfl (by kernel_rfl) (by kernel_rfl) (by kernel_rfl) (fun _ _ _ h => h) (Or.inl ⟨by rfl, fun w hSw => by go_simp⟩) trivial ?_
        refine wpAnyH_take (i := 12) (v := .int .i64 ((c - 48 + 1 + y) % 10)) rfl (by kernel_rfl) (by kernel_rfl) (by kernel_rfl) (fun _ _ _ h => h) (Or.inl ⟨by rfl, fun w hSw => by go_simp⟩) trivial ?_
        refine wpAnyH_take (i := 13) (v := .int .i64 (48 + (c - 48 + 1 + y) % 10)) rfl (by kernel_rfl) (by kernel_rfl) (by kernel_rfl) (fun _ _ _ h => h) (Or.inl ⟨by rfl, fun w hSw => by go_simp⟩) trivial ?_
        refine wpAnyH_take (i := 14) (v := .int .u8 (48 + (c - 48 + 1 + y) % 10)) rfl (by kernel_rfl) (by kernel_rfl) (by kernel_rfl) (fun _ _ _ h => h) (Or.inl ⟨by rfl, fun w hSw => by go_simp⟩) trivial ?_
        refine wpAnyH_take (i := 15) (v := .pointer (some ⟨wa.heap.size, j, none⟩)) rfl (by kernel_rfl) (by kernel_rfl) (by kernel_rfl) (fun _ _ _ h => h) (Or.inl ⟨by rfl, fun w hSw => by go_simp⟩) trivial ?_
        refine wpAnyH_ready (rs := [16]) (by kernel_rfl) (by simp) ?_
        refine AllReadyH.cons rfl (fun K hK => ?_) AllReadyH.nil
        go_simp
        refine hK.out _ _ trivial (fun _ => ?_)
        clear hK K
        refine wpAnyH_done (by kernel_rfl) ?_ _
        try simp [Act.put]
        obtain ⟨s', c', hs', hc', hRB⟩ := changed_read t n HP.out j HJ.out c HCj.out.2 y hy0 hy2
        rw [← hc'] at *
        have hcb := text_changed wa t W5 wb j c' HJ.out s' hs' HW5.out hbb
        have BELb : Hid (Below w.heap.size w (wb.setCell ⟨wa.heap.size, j, none⟩ (.int .u8 (c'.toNat : Int)))) := (BEL5.out.trans (hbb.mono BEL5.out.size)).setCell (p := ⟨wa.heap.size, j, none⟩) BELa.out.size _
        obtain ⟨x, yn, hck, hsl, hix, hxe, hyn0, hyn1⟩ := check_right t n HP.out
        unfold scanV at hRB
        clear hbb e1 e2 e3 e4 e5 cb fb hcv
        generalize wb.setCell ⟨wa.heap.size, j, none⟩ (.int .u8 (c'.toNat : Int)) = W6 at *
        go_wp2_with fail
        go_at_call 6
        refine (hRB _).mono ?_
        rintro e w7 ⟨rfl, hb7⟩
        clear hRB hcb
        go_wp2_with fail
        go_at_call 10
        refine (hck _).mono ?_
        rintro e w8 ⟨rfl, hb8⟩
        go_wp2
        go_ret
        exact ⟨by first | rfl | (rw [hxe]) | simp [hxe], (BELb.out.trans (hb7.mono BELb.out.size)).trans (((below_alloc _ _).trans (hb8.mono (by simp))).mono (by have := BELb.out.size; have := hb7.size; omega))⟩
      ·
        go_simp
        go_at_call 9
        refine (at_any W5.heap.size a1 len1 cap1 z1 1 9 W5.drew R5.out (by omega) (by omega) (by omega)).mono ?_
        rintro e wb ⟨y, rfl, ⟨hy0, hy1⟩, hbb0⟩
        have hbb : Below W5.heap.size W5 wb := (below_drew W5).trans hbb0
        clear hbb0
        have hy2 : y ≤ 8 := by omega
        have e1 : IntKind.i64.wrap (c - 48 + 1 + y) = c - 48 + 1 + y := wrap_id _ (by omega) (by omega)
        have e2 : (c - 48 + 1 + y).tmod 10 = (c - 48 + 1 + y) % 10 := Int.tmod_eq_emod_of_nonneg (by omega)
        have e3 : IntKind.i64.wrap ((c - 48 + 1 + y) % 10) = (c - 48 + 1 + y) % 10 := wrap_id _ (by omega) (by omega)
        have e4 : IntKind.i64.wrap (48 + (c - 48 + 1 + y) % 10) = 48 + (c - 48 + 1 + y) % 10 := wrap_id _ (by omega) (by omega)
        have e5 : IntKind.u8.wrap (48 + (c - 48 + 1 + y) % 10) = 48 + (c - 48 + 1 + y) % 10 := by rw [IntKind.wrap_u8]; omega
        have cb : wb.cell? ⟨wa.heap.size, j, none⟩ = some (.int .u8 c) := (hbb.cell (p := ⟨wa.heap.size, j, none⟩) LT5.out).trans C5.out
        have fb : wb.frozen? ⟨wa.heap.size, j, none⟩ = false := (hbb.frozen (p := ⟨wa.heap.size, j, none⟩) LT5.out).trans F5.out
        refine hK.out _ _ trivial (fun _ => ?_)
        clear hK K
        refine wpAnyH_ready (rs := [5]) (by kernel_rfl) (by simp) ?_
        refine AllReadyH.cons rfl (fun K hK => ?_) AllReadyH.nil
        go_simp
        refine hK.out _ _ trivial (fun _ => ?_)
        clear hK K
        refine wpAnyH_take (i := 6) (v := .int .i64 c) rfl (by kernel_rfl) (by kernel_rfl) (by kernel_rfl) (fun _ _ _ h => h) (Or.inl ⟨by rfl, fun w hSw => by go_simp⟩) trivial ?_
        refine wpAnyH_take (i := 7) (v := .int .i64 (c - 48)) rfl (by kernel_rfl) (by kernel_rfl) (by kernel_rfl) (fun _ _ _ h => h) (Or.inl ⟨by rfl, fun w hSw => by go_simp⟩) trivial ?_
        refine wpAnyH_take (i := 8) (v := .int .i64 (c - 48 + 1)) rfl (by kernel_rfl) (by kernel_rfl) (by kernel_rfl) (fun _ _ _ h => h) (Or.inl ⟨by rfl, fun w hSw => by go_simp⟩) trivial ?_
        refine wpAnyH_take (i := 11) (v := .int .i64 (c - 48 + 1 + y)) rfl (by kernel_rfl) (by kernel_rfl) (by kernel_rfl) (fun _ _ _ h => h) (Or.inl ⟨by rfl, fun w hSw => by go_simp⟩) trivial ?_
        refine wpAnyH_take (i := 12) (v := .int .i64 ((c - 48 + 1 + y) % 10)) rfl (by kernel_rfl) (by kernel_rfl) (by kernel_rfl) (fun _ _ _ h => h) (Or.inl ⟨by rfl, fun w hSw => by go_simp⟩) trivial ?_
        refine wpAnyH_take (i := 13) (v := .int .i64 (48 + (c - 48 + 1 + y) % 10)) rfl (by kernel_rfl) (by kernel_rfl) (by kernel_rfl) (fun _ _ _ h => h) (Or.inl ⟨by rfl, fun w hSw => by go_simp⟩) trivial ?_
        refine wpAnyH_take (i := 14) (v := .int .u8 (48 + (c - 48 + 1 + y) % 10)) rfl (by kernel_rfl) (by kernel_rfl) (by kernel_rfl) (fun _ _ _ h => h) (Or.inl ⟨by rfl, fun w hSw => by go_simp⟩) trivial ?_
        refine wpAnyH_take (i := 15) (v := .pointer (some ⟨wa.heap.size, j, none⟩)) rfl (by kernel_rfl) (by kernel_rfl) (by kernel_rfl) (fun _ _ _ h => h) (Or.inl ⟨by rfl, fun w hSw => by go_simp⟩) trivial ?_
        refine wpAnyH_ready (rs := [16]) (by kernel_rfl) (by simp) ?_
        refine AllReadyH.cons rfl (fun K hK => ?_) AllReadyH.nil
        go_simp
        refine hK.out _ _ trivial (fun _ => ?_)
        clear hK K
        refine wpAnyH_done (by kernel_rfl) ?_ _
        try simp [Act.put]
        obtain ⟨s', c', hs', hc', hRB⟩ := changed_read t n HP.out j HJ.out c HCj.out.2 y hy0 hy2
        rw [← hc'] at *
        have hcb := text_changed wa t W5 wb j c' HJ.out s' hs' HW5.out hbb
        have BELb : Hid (Below w.heap.size w (wb.setCell ⟨wa.heap.size, j, none⟩ (.int .u8 (c'.toNat : Int)))) := (BEL5.out.trans (hbb.mono BEL5.out.size)).setCell (p := ⟨wa.heap.size, j, none⟩) BELa.out.size _
        obtain ⟨x, yn, hck, hsl, hix, hxe, hyn0, hyn1⟩ := check_right t n HP.out
        unfold scanV at hRB
        clear hbb e1 e2 e3 e4 e5 cb fb hcv
        generalize wb.setCell ⟨wa.heap.size, j, none⟩ (.int .u8 (c'.toNat : Int)) = W6 at *
        go_wp2_with fail
        go_at_call 6
        refine (hRB _).mono ?_
        rintro e w7 ⟨rfl, hb7⟩
        clear hRB hcb
        go_wp2_with fail
        go_at_call 10
        refine (hck _).mono ?_
        rintro e w8 ⟨rfl, hb8⟩
        go_wp2
        go_ret
        exact ⟨by first | rfl | (rw [hxe]) | simp [hxe], (BELb.out.trans (hb7.mono BELb.out.size)).trans (((below_alloc _ _).trans (hb8.mono (by simp))).mono (by have := BELb.out.size; have := hb7.size; omega))⟩

theorem own : ownKnob Tryd.prog.godebug = none := by kernel_rfl
theorem laidOut : laidOutB Tryd.prog = true := by kernel_rfl

set_option maxRecDepth 100000 in
theorem contract (H : Type) (enc : TypeId × Value → H) (W : World) (base : Nat) (args : Array Value) (ds gs : List (DataW H)) (before : List MemPlace)
    (hval : ∀ (j : Nat) t v, Tryd.f3.params[j]? = some t → args[j]? = some v → Value.okWide Tryd.prog W .any base t v)
    (hW : DataW.Whole enc Tryd.prog Tryd.f3.params.toList Rows.fnScanSpec.vars false W args.toList ds gs before) (hL : laidMetH Tryd.prog Rows.fnScanRow.laid W) :
    Calls Tryd.prog 3 args W fun e W' => ∃ v, e = .returned v ∧ Rows.fnScanSpec.post enc Tryd.prog Tryd.f3 false true false false W args v W' := by
  have hW' := hW
  obtain ⟨p, q, hA0, hV, rfl, hfz, hnd⟩ := hW
  have hA : DataW.TrodAll enc Tryd.prog W 0 (fun _ => true) true Tryd.f3.params.toList args.toList ds p := hA0
  rw [Tryd.params3] at hA hval
  obtain ⟨v0, vs0, d0, ds0, p0, q0, hargs, rfl, rfl, h0, r0⟩ := trodAll_cons hA
  obtain ⟨v1, vs1, d1, ds1, p1, q1, rfl, rfl, rfl, h1, r1⟩ := trodAll_cons r0
  obtain ⟨rfl, rfl, rfl⟩ := trodAll_nil r1
  obtain rfl : args = #[v0, v1] := by cases args; simp_all
  obtain ⟨rfl, rfl⟩ := trodVars_none hV
  have k0 := h0
  have lt0 : ∀ x ∈ p0, x.block < W.heap.size := by obtain ⟨m, hm⟩ := k0; exact DataW.trod_lt m _ _ _ hm
  have k1 := h1
  have lt1 : ∀ x ∈ p1, x.block < W.heap.size := by obtain ⟨m, hm⟩ := k1; exact DataW.trod_lt m _ _ _ hm
  obtain ⟨a0, len0, cap0, rfl⟩ := okWide_slice Tryd.underlying22 (hval 0 22 v0 rfl rfl)
  obtain ⟨z0, w0⟩ : ∃ zs, IsRow .u8 W a0 len0 cap0 zs := by
    obtain ⟨fuel, hf⟩ := h0
    rcases open_ints Tryd.underlying22 Tryd.underlying5 (by kernel_rfl) hf with ⟨hcs, _⟩ | ⟨x, l, c, zs, hcs, _, hl, hm, hz, _, hcell, hwz⟩
    · simp [Value.cells] at hcs
      obtain ⟨rfl, rfl, rfl⟩ := hcs
      exact ⟨[], .inl ⟨rfl, rfl, rfl, rfl⟩⟩
    · simp [Value.cells] at hcs
      obtain ⟨rfl, rfl, rfl⟩ := hcs
      exact ⟨zs, .inr ⟨_, rfl, hl, hm, by simpa using hz, hcell, hwz⟩⟩
  obtain ⟨a1, len1, cap1, rfl⟩ := okWide_slice Tryd.underlying22 (hval 1 22 v1 rfl rfl)
  obtain ⟨z1, w1⟩ : ∃ zs, IsRow .u8 W a1 len1 cap1 zs := by
    obtain ⟨fuel, hf⟩ := h1
    rcases open_ints Tryd.underlying22 Tryd.underlying5 (by kernel_rfl) hf with ⟨hcs, _⟩ | ⟨x, l, c, zs, hcs, _, hl, hm, hz, _, hcell, hwz⟩
    · simp [Value.cells] at hcs
      obtain ⟨rfl, rfl, rfl⟩ := hcs
      exact ⟨[], .inl ⟨rfl, rfl, rfl, rfl⟩⟩
    · simp [Value.cells] at hcs
      obtain ⟨rfl, rfl, rfl⟩ := hcs
      exact ⟨zs, .inr ⟨_, rfl, hl, hm, by simpa using hz, hcell, hwz⟩⟩
  clear hA0
  refine (walk a0 len0 cap0 z0 a1 len1 cap1 z1 W (rowB_of _ _ _ _ _ w0) (rowB_of _ _ _ _ _ w1) hL).mono fun e W' ⟨he, bel⟩ => ?_
  subst he
  exact ⟨_, rfl, _, _, _, [], _, [], hW', trodAll_mk1 (shut_bool Tryd.underlying4 _), (trodAll_cons_mk (Below.trod laidOut (by kernel_rfl) (of_decide_eq_true (by kernel_rfl)) k0 bel lt0) (trodAll_cons_mk (Below.trod laidOut (by kernel_rfl) (of_decide_eq_true (by kernel_rfl)) k1 bel lt1) trodAll_mk0)), rfl, bel.frame _, fun h => by cases h⟩


def valsOf (d : DataW Unit) : Array Value := match d with
  | .agg l => (l.map fun | .lit (.int k n) => Value.int k n | _ => .int .i64 0).toArray
  | _ => #[]
theorem laid_met (os : Os) : laidMet Tryd.prog Rows.fnScanRow.laid (({ (World.holding Tryd.prog os ⟨#[], #[], []⟩) with heap := ((((World.holding Tryd.prog os ⟨#[], #[], []⟩).heap.modify 2 fun | .cells _ t frozen => .cells (valsOf Rows.laid_math_bits_deBruijn32tab) t frozen | o => o).modify 3 fun | .cells _ t frozen => .cells (valsOf Rows.laid_math_bits_deBruijn64tab) t frozen | o => o).modify 1 fun | .cells _ t frozen => .cells (valsOf Rows.laid_internal_strconv_uint64pow10) t frozen | o => o) }).forCall (fun _ _ => 0) ⟨#[], #[.slice none 0 0, .slice none 0 0], []⟩).memory :=
  laidMet_of_run' 8 (by kernel_rfl) (by kernel_rfl)
theorem reads (os : Os) {H : Type} (enc : TypeId × Value → H) : ∃ places, DataW.whole enc Tryd.prog (({ (World.holding Tryd.prog os ⟨#[], #[], []⟩) with heap := ((((World.holding Tryd.prog os ⟨#[], #[], []⟩).heap.modify 2 fun | .cells _ t frozen => .cells (valsOf Rows.laid_math_bits_deBruijn32tab) t frozen | o => o).modify 3 fun | .cells _ t frozen => .cells (valsOf Rows.laid_math_bits_deBruijn64tab) t frozen | o => o).modify 1 fun | .cells _ t frozen => .cells (valsOf Rows.laid_internal_strconv_uint64pow10) t frozen | o => o) }).forCall (fun _ _ => 0) ⟨#[], #[.slice none 0 0, .slice none 0 0], []⟩).memory Tryd.f3.params.toList Rows.fnScanSpec.vars false #[.slice none 0 0, .slice none 0 0].toList 8 = some ([.nil, .nil], [], places) :=
  ⟨[], by kernel_rfl⟩

set_option maxRecDepth 100000 in
theorem lifted (os : Os) (started : os.Started) (H : Type) (enc : TypeId × Value → H) (F : Stop.Interp) :
    ReturnsInHanded {} Tryd.checked os 3 .any ((OpenSpec.ofChange Rows.fnScanSpec).preRow enc Tryd.prog Tryd.f3 Rows.fnScanRow.domain false Rows.fnScanRow.laid) (((OpenSpec.ofChange Rows.fnScanSpec).at F).post enc Tryd.prog Tryd.f3 false true false false) := by
  obtain ⟨places, hx⟩ := reads os enc
  refine returnsInHanded_of_row (C := Tryd.checked) (s := OpenSpec.ofChange Rows.fnScanSpec) own started (by kernel_rfl) Tryd.func3
    (witness_row_at (enc := enc) (C := Tryd.checked) false ({ (World.holding Tryd.prog os ⟨#[], #[], []⟩) with heap := ((((World.holding Tryd.prog os ⟨#[], #[], []⟩).heap.modify 2 fun | .cells _ t frozen => .cells (valsOf Rows.laid_math_bits_deBruijn32tab) t frozen | o => o).modify 3 fun | .cells _ t frozen => .cells (valsOf Rows.laid_math_bits_deBruijn64tab) t frozen | o => o).modify 1 fun | .cells _ t frozen => .cells (valsOf Rows.laid_internal_strconv_uint64pow10) t frozen | o => o) }) #[.slice none 0 0, .slice none 0 0] rfl (by kernel_rfl) (by kernel_rfl) (by kernel_rfl)
      (OpenSpec.preRow_of_cond 8 hx (by kernel_rfl) (fun k hk => by cases hk) (by kernel_rfl) (laid_met os))) ?_
  intro W base args ds gs before hval hW _ _ _ hL _ _
  exact contract H enc W base args ds gs before hval hW hL

theorem said : Rows.FnScanSaid :=
  OpenClaim.holds_of_cond 3 Tryd.f3 rfl rfl rfl rfl rfl rfl rfl ⟨rfl, rfl, rfl, rfl, rfl⟩ rfl rfl rfl rfl rfl (by kernel_rfl) Tryd.func3 (by kernel_rfl)
    (of_decide_eq_true (by kernel_rfl)) (by unfold Func.isWrapper; first | (rw [if_pos (by decide +kernel)]; kernel_rfl) | (rw [if_neg (by decide +kernel)]; exact ⟨rfl, rfl⟩))
    (fun os started H enc _ F => by rw [OpenClaim.pre_eq_preRow]; exact lifted os started H enc F)

theorem plain (f : FuncId) (fn : Func) (hf : Tryd.pinned.checked.prog.funcNamed "loop.example/g00067/laws.FnScan" = some f) (hfn : Tryd.pinned.checked.prog.funcs[f]? = some fn) :
    false = Tryd.pinned.checked.prog.looks [] ∧ ∀ (j : Nat) t, fn.params[j]? = some t → Tryd.pinned.checked.prog.wantsStandIn t = false := by
  obtain rfl : f = 3 := Option.some.inj ((show Tryd.prog.funcNamed "loop.example/g00067/laws.FnScan" = some 3 by kernel_rfl).symm.trans hf) |>.symm
  obtain rfl : fn = Tryd.f3 := (Option.some.inj (Tryd.func3.symm.trans hfn)).symm
  refine ⟨by kernel_rfl, fun j t ht => ?_⟩
  rw [Tryd.params3] at ht
  have ht' : t = 22 ∨ t = 22 := by simpa using Array.mem_of_getElem? ht
  rcases ht' with rfl | rfl
  all_goals first | exact (show Tryd.prog.wantsStandIn 22 = false by kernel_rfl)

theorem card : Rows.FnScanCardSaid :=
  Claim7.holds_tied_plain_at .later [] _ _ _ _ said (fun _ h => by cases h) (by kernel_rfl) (fun _ h => by cases h) fnScan_row_tie rfl ⟨rfl, rfl⟩ (by kernel_rfl) rfl plain (by kernel_rfl)
end FnScan

theorem fnScan_holds : Rows.FnScanCardSaid := FnScan.card
end Go.Proofs.YtlejmjpjlbiojaaDoor
