/-
  For every two lists of bytes the law FnSmooth answers true: each level of the program lies between the one ahead and the sales, hangs on none that come later, and with the whole share is the sales themselves; with no condition.
-/
import Derived.Test.YtjdjopikljdigaaQsB
import Derived.Test.YtjdjopikljdigaaQdB
import Derived.Test.YtjdjopikljdigaaLwSame
namespace Go.Proofs.Ytjdjopikljdigaa
open Go.ChangeShapes Go.WideShapes Go.ChangeAt Go.RowKit Go.Joins Go.Deep
set_option linter.unusedVariables false

theorem lv_whole {den : Int} (h : 1 ≤ den) (xs : List Int) : ∀ k, lvN den den xs k = 64 * xs.getD k 0
  | 0 => rfl
  | k + 1 => by
    show lvN den den xs k + (64 * xs.getD (k + 1) 0 - lvN den den xs k) * den / den = _
    rw [Int.mul_ediv_cancel _ (by omega)]
    omega
theorem lv_take (num den : Int) (xs : List Int) {k : Nat} : ∀ i, i < k → lvN num den (xs.take k) i = lvN num den xs i
  | 0, h => by
    show 64 * (xs.take k).getD 0 0 = 64 * xs.getD 0 0
    rw [List.getD_eq_getElem?_getD, List.getElem?_take_of_lt h, ← List.getD_eq_getElem?_getD]
  | i + 1, h => by
    show lvS num den (lvN num den (xs.take k) i) (64 * (xs.take k).getD (i + 1) 0) = lvS num den (lvN num den xs i) (64 * xs.getD (i + 1) 0)
    rw [lv_take num den xs i (by omega), List.getD_eq_getElem?_getD, List.getElem?_take_of_lt h, ← List.getD_eq_getElem?_getD]
theorem lvL_take (num den : Int) (xs : List Int) {k n : Nat} (h : k ≤ n) : lvL num den (xs.take k) k = (lvL num den xs n).take k := by
  refine List.ext_getElem (by rw [List.length_take, lvL_length, lvL_length]; omega) (fun i h1 h2 => ?_)
  rw [lvL_length] at h1
  simp only [lvL, List.getElem_map, List.getElem_range, List.getElem_take]
  exact lv_take num den xs i h1
theorem sm_right {xs : List Int} {num den : Int} (hl : xs.length ≤ 4096) (ha : ∀ x ∈ xs, 0 ≤ x ∧ x ≤ 100000) (hd : 1 ≤ den ∧ den ≤ 1000) (hn : 0 ≤ num ∧ num ≤ den) : smC xs num den = 0 ∧ smL xs num den = lvL num den xs xs.length := by
  have hb : smB xs num den = true := by
    unfold smB
    rw [al_of ha, pt_of ⟨hd, hn⟩]; rfl
  rcases sm_ways xs num den with ⟨h1, _⟩ | ⟨_, h0, _⟩ | ⟨_, _, h2, h3⟩
  · omega
  · rw [hb] at h0; cases h0
  · exact ⟨h2, h3⟩
theorem own_cell {B : Nat} {w : World} {g : Option Addr} {L : List Int} (h : Own2 B w g L) (h1 : 1 ≤ L.length) : ∃ b, g = some ⟨b, 0, none⟩ ∧ ∀ W k, Below w.heap.size w W → k < L.length → W.cell? ⟨b, k, none⟩ = some (.int .i64 (L.getD k 0)) := by
  rcases h with h | ⟨b, hg, hB, hlt, hi, hf⟩
  · rw [h] at h1; simp at h1
  · refine ⟨b, hg, fun W k hW hk => ?_⟩
    have := hi k hk
    rw [Nat.zero_add] at this
    exact (hW.cell (p := ⟨b, k, none⟩) hlt).trans this
theorem read_cell {w : World} {b : Nat} {L : List Int} (h : Reads w.heap.size w (some ⟨b, 0, none⟩) L) (h1 : 1 ≤ L.length) : ∀ W k, Below w.heap.size w W → k < L.length → W.cell? ⟨b, k, none⟩ = some (.int .i64 (L.getD k 0)) := by
  rcases h with h | ⟨b', o, hg, hlt, hi⟩
  · rw [h] at h1; simp at h1
  · cases hg
    intro W k hW hk
    have := hi k hk
    rw [Nat.zero_add] at this
    exact (hW.cell (p := ⟨b, k, none⟩) hlt).trans this
theorem Reads.later {w W : World} {a : Option Addr} {L : List Int} (h : Reads w.heap.size w a L) (hb : Below w.heap.size w W) : Reads W.heap.size W a L := (h.below hb).mono hb.size
theorem Reads.takeQ {B : Nat} {w : World} {b : Nat} {L : List Int} (h : Reads B w (some ⟨b, 0, none⟩) L) (k : Nat) (hk : k ≤ L.length) : Reads B w (some ⟨b, 0, none⟩) (L.take k) := by
  rcases h with h | ⟨b', o, hg, hlt, hi⟩
  · exact .inl (by rw [h]; simp)
  · refine .inr ⟨b', o, hg, hlt, fun i h => ?_⟩
    rw [List.length_take] at h
    rw [List.getD_eq_getElem?_getD, List.getElem?_take_of_lt (by omega), ← List.getD_eq_getElem?_getD]
    exact hi i (by omega)

namespace FnSmooth
set_option maxHeartbeats 16000000 in
set_option maxRecDepth 8000 in
theorem walk' (a0 : Option Addr) (len0 cap0 : Nat) (a1 : Option Addr) (len1 cap1 : Nat) (w : World) (h0 : (len0 : Int) ≤ 1048576) (h1 : (len1 : Int) ≤ 1048576)
    (hS : Calls Try.prog 9 #[.slice a0 len0 cap0] w (PostSalesOf w))
    (hA : ∀ (n : Int) (W : World), n ≤ 100 → Below w.heap.size w W → Calls Try.prog 11 #[.slice a1 len1 cap1, .int .i64 0, .int .i64 n] W fun e w' => ∃ x : Int, e = .returned (.int .i64 x) ∧ Drawn x n ∧ Below W.heap.size W w') :
    Calls Try.prog 3 #[.slice a0 len0 cap0, .slice a1 len1 cap1] w fun e w' => e = .returned (.bool true) ∧ Below w.heap.size w w' := by
  have HA : Hid (∀ (n : Int) (W : World), n ≤ 100 → Below w.heap.size w W → Calls Try.prog 11 #[.slice a1 len1 cap1, .int .i64 0, .int .i64 n] W fun e w' => ∃ x : Int, e = .returned (.int .i64 x) ∧ Drawn x n ∧ Below W.heap.size W w') := hA
  clear hA
  go_enter Try.func3, Try.ntmps3
  go_wp2_with fail
  (first | go_at_call 9 | skip)
  refine hS.mono ?_
  rintro e w1 ⟨L, num, den, gl, cl, rfl, ⟨hL1, hL2⟩, hdr, ⟨hd1, hd2⟩, ⟨hn1, hn2⟩, hcl, hrd, hb1⟩
  have HRd : Hid (Reads w1.heap.size w1 (some ⟨gl, 0, none⟩) L) := hrd
  have HB1 : Hid (Below w.heap.size w w1) := hb1
  have HX : Hid (∀ x ∈ L, 0 ≤ x ∧ x ≤ 100000) := fun x hx => by have := hdr.2 x hx; omega
  have hX := HX.out
  clear hS hrd hb1 hdr
  have R1 := sm_right (xs := L) (num := num) (den := den) (by omega) hX ⟨hd1, by omega⟩ ⟨hn1, hn2⟩
  have R2 := sm_right (xs := L) (num := den) (den := den) (by omega) hX ⟨hd1, by omega⟩ ⟨by omega, by omega⟩
  have HS1 : Hid (∀ W, Below w1.heap.size w1 W → Calls Try.prog 10 #[.slice (some ⟨gl, 0, none⟩) L.length cl, .int .i64 num, .int .i64 den] W (AnsLC W (lvL num den L L.length) 0)) := fun W hW => by
    have := implSmooth_cap (some ⟨gl, 0, none⟩) cl L num den (by omega) W (HRd.out.later hW)
    rwa [R1.1, R1.2] at this
  have HS2 : Hid (∀ W, Below w1.heap.size w1 W → Calls Try.prog 10 #[.slice (some ⟨gl, 0, none⟩) L.length cl, .int .i64 den, .int .i64 den] W (AnsLC W (lvL den den L L.length) 0)) := fun W hW => by
    have := implSmooth_cap (some ⟨gl, 0, none⟩) cl L den den (by omega) W (HRd.out.later hW)
    rwa [R2.1, R2.2] at this
  have HS3 : Hid (∀ (k : Nat) W, k ≤ L.length → Below w1.heap.size w1 W → Calls Try.prog 10 #[.slice (some ⟨gl, 0, none⟩) k cl, .int .i64 num, .int .i64 den] W (AnsLC W (lvL num den (L.take k) k) 0)) := fun k W hk hW => by
    have hlt : (L.take k).length = k := by rw [List.length_take]; omega
    have R3 := sm_right (xs := L.take k) (num := num) (den := den) (by omega) (fun x hx => hX x (List.mem_of_mem_take hx)) ⟨hd1, by omega⟩ ⟨hn1, hn2⟩
    have := implSmooth_cap (some ⟨gl, 0, none⟩) cl (L.take k) num den (by omega) W ((HRd.out.later hW).takeQ k hk)
    rwa [R3.1, R3.2, hlt] at this
  have HTk : Hid (∀ k, k ≤ L.length → lvL num den (L.take k) k = (lvL num den L L.length).take k) := fun k hk => lvL_take num den L hk
  have HLn1 : Hid ((lvL num den L L.length).length = L.length) := lvL_length _ _ _ _
  have HLn2 : Hid ((lvL den den L L.length).length = L.length) := lvL_length _ _ _ _
  have HAt1 : Hid (∀ k, k < L.length → (lvL num den L L.length).getD k 0 = lvN num den L k) := fun k hk => lvL_at _ _ _ hk
  have HAt2 : Hid (∀ k, k < L.length → (lvL den den L L.length).getD k 0 = 64 * L.getD k 0) := fun k hk => by rw [lvL_at _ _ _ hk, lv_whole hd1]
  have HBw : Hid (∀ k, lvN num den L (k + 1) < min (lvN num den L k) (64 * L.getD (k + 1) 0) ∨ max (lvN num den L k) (64 * L.getD (k + 1) 0) < lvN num den L (k + 1) → False) := fun k => by
    obtain ⟨a, b⟩ := lv_between (p := lvN num den L k) (x := 64 * L.getD (k + 1) 0) hd1 hn1 hn2
    have e : lvN num den L (k + 1) = lvS num den (lvN num den L k) (64 * L.getD (k + 1) 0) := rfl
    rw [← e] at a b
    omega
  have HZ0 : Hid (lvN num den L 0 = 64 * L.getD 0 0) := rfl
  have HXk : Hid (∀ k, 0 ≤ L.getD k 0 ∧ L.getD k 0 ≤ 100000) := fun k => al_getD (al_of hX) (by omega) k
  have HLst : Hid (∀ W k, Below w1.heap.size w1 W → k < L.length → W.cell? ⟨gl, k, none⟩ = some (.int .i64 (L.getD k 0))) := read_cell HRd.out hL1
  clear R1 R2 hX HX HRd
  go_wp2_with fail
  (first | go_at_call 10 | skip)
  refine (HS1.out w1 (Below.refl _ _)).mono ?_
  rintro e w2 ⟨g1, c1, rfl, ho2, hb2, hc1⟩
  rw [HLn1.out]
  rw [HLn1.out] at hc1
  have HO1 : Hid (Own2 w1.heap.size w2 g1 (lvL num den L L.length)) := ho2
  have HB2 : Hid (Below w1.heap.size w1 w2) := hb2
  clear ho2 hb2 HS1
  go_wp2_with fail
  (first | go_at_call 10 | skip)
  refine (HS2.out w2 HB2.out).mono ?_
  rintro e w3 ⟨g2, c2, rfl, ho3, hb3, hc2⟩
  rw [HLn2.out]
  clear hc2
  have HO2 : Hid (Own2 w2.heap.size w3 g2 (lvL den den L L.length)) := ho3
  have HB3 : Hid (Below w2.heap.size w2 w3) := hb3
  clear ho3 hb3 HS2
  obtain ⟨b1, hg1, hc1'⟩ := own_cell HO1.out (by rw [HLn1.out]; exact hL1)
  obtain ⟨b2, hg2, hc2'⟩ := own_cell HO2.out (by rw [HLn2.out]; exact hL1)
  subst hg1 hg2
  have HC1 : Hid (∀ W k, Below w3.heap.size w3 W → k < L.length → W.cell? ⟨b1, k, none⟩ = some (.int .i64 (lvN num den L k))) := fun W k hW hk => by
    rw [hc1' W k (chain HB3.out hW) (by rw [HLn1.out]; exact hk), HAt1.out k hk]
  have HC2 : Hid (∀ W k, Below w3.heap.size w3 W → k < L.length → W.cell? ⟨b2, k, none⟩ = some (.int .i64 (64 * L.getD k 0))) := fun W k hW hk => by
    rw [hc2' W k hW (by rw [HLn2.out]; exact hk), HAt2.out k hk]
  have HC3 : Hid (∀ W k, Below w3.heap.size w3 W → k < L.length → W.cell? ⟨gl, k, none⟩ = some (.int .i64 (L.getD k 0))) := fun W k hW hk => HLst.out W k (chain HB2.out (chain HB3.out hW)) hk
  clear hc1' hc2' HO2 HAt1 HAt2 HLst HLn2
  have hnn : ((L.length : Int) != (L.length : Int)) = false := by simp
  go_wp2_with fail
  go_loopw [12, 13] (fun c _ wr => ∃ k : Nat, k ≤ L.length ∧ c = .int .i64 (k : Int) ∧ Below w3.heap.size w3 wr) (fun c _ _ => L.length - (intOf c).toNat)
  case atStart => exact ⟨0, Nat.zero_le _, rfl, Below.refl _ _⟩
  case round =>
    obtain ⟨k, hk, rfl, hb⟩ := hrel
    have HB : Hid (Below w3.heap.size w3 wr) := hb
    clear hb
    by_cases hlt : k < L.length
    · have hlt' : (k : Int) < (L.length : Int) := by omega
      have hxk := HXk.out k
      have HQ : Hid (∀ W, Below wr.heap.size wr W → W.cell? ⟨gl, k, none⟩ = some (.int .i64 (L.getD k 0)) ∧ W.cell? ⟨b2, k, none⟩ = some (.int .i64 (64 * L.getD k 0)) ∧ W.cell? ⟨b1, k, none⟩ = some (.int .i64 (lvN num den L k))) := fun W hW => ⟨HC3.out W k (chain HB.out hW) hlt, HC2.out W k (chain HB.out hW) hlt, HC1.out W k (chain HB.out hW) hlt⟩
      obtain ⟨d0, d1, d2⟩ := HQ.out wr (Below.refl _ _)
      have e0 : IntKind.i64.wrap (64 * L.getD k 0) = 64 * L.getD k 0 := wrap_id _ (by omega) (by omega)
      by_cases hk0 : k = 0
      · subst hk0
        rw [HZ0.out] at d2
        have hxx : ∀ x : Int, (x != x) = false := fun x => by simp
        have hx0 := hxx (64 * L.getD 0 0)
        clear hxx HQ
        generalize L.getD 0 0 = x at *
        go_upto_region 14 with fail
        clear d0 d1 d2
        refine wp_region_held_drew (S := fun W' => Below wr.heap.size wr W') (by kernel_rfl) (below_drew _) (fun hH => ?_)
        refine wpAnyH_take (i := 0) (v := .int .i64 0) rfl (by kernel_rfl) (by kernel_rfl) (by kernel_rfl) (fun _ _ _ h => h) (Or.inl ⟨by rfl, fun w hSw => by clear hSw; go_simp⟩) hH ?_
        refine wpAnyH_take (i := 1) (v := .bool false) rfl (by kernel_rfl) (by kernel_rfl) (by kernel_rfl) (fun _ _ _ h => h) (Or.inl ⟨by rfl, fun w hSw => by clear hSw; go_simp⟩) hH ?_
        try simp only [Act.put, List.setIfInBounds_toArray, List.set_cons_zero, List.set_cons_succ, List.getElem_toArray, List.getElem_cons_succ, List.getElem_cons_zero]
        refine wpAnyH_take (i := 2) (v := .bool false) rfl (by kernel_rfl) (by kernel_rfl) (by kernel_rfl) (fun _ _ _ h => h) (Or.inl ⟨by rfl, fun w hSw => by clear hSw; go_simp⟩) hH ?_
        try simp only [Act.put, List.setIfInBounds_toArray, List.set_cons_zero, List.set_cons_succ, List.getElem_toArray, List.getElem_cons_succ, List.getElem_cons_zero]
        refine wpAnyH_take (i := 3) (v := undef) rfl (by kernel_rfl) (by kernel_rfl) (by kernel_rfl) (fun _ _ _ h => h) (Or.inr ⟨by rfl, rfl⟩) hH ?_
        try simp only [Act.put, List.setIfInBounds_toArray, List.set_cons_zero, List.set_cons_succ, List.getElem_toArray, List.getElem_cons_succ, List.getElem_cons_zero]
        refine wpAnyH_take (i := 4) (v := undef) rfl (by kernel_rfl) (by kernel_rfl) (by kernel_rfl) (fun _ _ _ h => h) (Or.inr ⟨by rfl, rfl⟩) hH ?_
        try simp only [Act.put, List.setIfInBounds_toArray, List.set_cons_zero, List.set_cons_succ, List.getElem_toArray, List.getElem_cons_succ, List.getElem_cons_zero]
        refine wpAnyH_take (i := 5) (v := undef) rfl (by kernel_rfl) (by kernel_rfl) (by kernel_rfl) (fun _ _ _ h => h) (Or.inr ⟨by rfl, rfl⟩) hH ?_
        try simp only [Act.put, List.setIfInBounds_toArray, List.set_cons_zero, List.set_cons_succ, List.getElem_toArray, List.getElem_cons_succ, List.getElem_cons_zero]
        refine wpAnyH_take (i := 6) (v := undef) rfl (by kernel_rfl) (by kernel_rfl) (by kernel_rfl) (fun _ _ _ h => h) (Or.inr ⟨by rfl, rfl⟩) hH ?_
        try simp only [Act.put, List.setIfInBounds_toArray, List.set_cons_zero, List.set_cons_succ, List.getElem_toArray, List.getElem_cons_succ, List.getElem_cons_zero]
        refine wpAnyH_take (i := 7) (v := undef) rfl (by kernel_rfl) (by kernel_rfl) (by kernel_rfl) (fun _ _ _ h => h) (Or.inr ⟨by rfl, rfl⟩) hH ?_
        try simp only [Act.put, List.setIfInBounds_toArray, List.set_cons_zero, List.set_cons_succ, List.getElem_toArray, List.getElem_cons_succ, List.getElem_cons_zero]
        refine wpAnyH_take (i := 8) (v := undef) rfl (by kernel_rfl) (by kernel_rfl) (by kernel_rfl) (fun _ _ _ h => h) (Or.inr ⟨by rfl, rfl⟩) hH ?_
        try simp only [Act.put, List.setIfInBounds_toArray, List.set_cons_zero, List.set_cons_succ, List.getElem_toArray, List.getElem_cons_succ, List.getElem_cons_zero]
        refine wpAnyH_take (i := 9) (v := undef) rfl (by kernel_rfl) (by kernel_rfl) (by kernel_rfl) (fun _ _ _ h => h) (Or.inr ⟨by rfl, rfl⟩) hH ?_
        try simp only [Act.put, List.setIfInBounds_toArray, List.set_cons_zero, List.set_cons_succ, List.getElem_toArray, List.getElem_cons_succ, List.getElem_cons_zero]
        refine wpAnyH_take (i := 10) (v := undef) rfl (by kernel_rfl) (by kernel_rfl) (by kernel_rfl) (fun _ _ _ h => h) (Or.inr ⟨by rfl, rfl⟩) hH ?_
        try simp only [Act.put, List.setIfInBounds_toArray, List.set_cons_zero, List.set_cons_succ, List.getElem_toArray, List.getElem_cons_succ, List.getElem_cons_zero]
        refine wpAnyH_take (i := 11) (v := undef) rfl (by kernel_rfl) (by kernel_rfl) (by kernel_rfl) (fun _ _ _ h => h) (Or.inr ⟨by rfl, rfl⟩) hH ?_
        try simp only [Act.put, List.setIfInBounds_toArray, List.set_cons_zero, List.set_cons_succ, List.getElem_toArray, List.getElem_cons_succ, List.getElem_cons_zero]
        refine wpAnyH_take (i := 12) (v := undef) rfl (by kernel_rfl) (by kernel_rfl) (by kernel_rfl) (fun _ _ _ h => h) (Or.inr ⟨by rfl, rfl⟩) hH ?_
        try simp only [Act.put, List.setIfInBounds_toArray, List.set_cons_zero, List.set_cons_succ, List.getElem_toArray, List.getElem_cons_succ, List.getElem_cons_zero]
        refine wpAnyH_take (i := 13) (v := undef) rfl (by kernel_rfl) (by kernel_rfl) (by kernel_rfl) (fun _ _ _ h => h) (Or.inr ⟨by rfl, rfl⟩) hH ?_
        try simp only [Act.put, List.setIfInBounds_toArray, List.set_cons_zero, List.set_cons_succ, List.getElem_toArray, List.getElem_cons_succ, List.getElem_cons_zero]
        refine wpAnyH_take (i := 14) (v := undef) rfl (by kernel_rfl) (by kernel_rfl) (by kernel_rfl) (fun _ _ _ h => h) (Or.inr ⟨by rfl, rfl⟩) hH ?_
        try simp only [Act.put, List.setIfInBounds_toArray, List.set_cons_zero, List.set_cons_succ, List.getElem_toArray, List.getElem_cons_succ, List.getElem_cons_zero]
        refine wpAnyH_take (i := 15) (v := undef) rfl (by kernel_rfl) (by kernel_rfl) (by kernel_rfl) (fun _ _ _ h => h) (Or.inr ⟨by rfl, rfl⟩) hH ?_
        try simp only [Act.put, List.setIfInBounds_toArray, List.set_cons_zero, List.set_cons_succ, List.getElem_toArray, List.getElem_cons_succ, List.getElem_cons_zero]
        refine wpAnyH_take (i := 16) (v := undef) rfl (by kernel_rfl) (by kernel_rfl) (by kernel_rfl) (fun _ _ _ h => h) (Or.inr ⟨by rfl, rfl⟩) hH ?_
        try simp only [Act.put, List.setIfInBounds_toArray, List.set_cons_zero, List.set_cons_succ, List.getElem_toArray, List.getElem_cons_succ, List.getElem_cons_zero]
        refine wpAnyH_take (i := 17) (v := undef) rfl (by kernel_rfl) (by kernel_rfl) (by kernel_rfl) (fun _ _ _ h => h) (Or.inr ⟨by rfl, rfl⟩) hH ?_
        try simp only [Act.put, List.setIfInBounds_toArray, List.set_cons_zero, List.set_cons_succ, List.getElem_toArray, List.getElem_cons_succ, List.getElem_cons_zero]
        refine wpAnyH_take (i := 18) (v := undef) rfl (by kernel_rfl) (by kernel_rfl) (by kernel_rfl) (fun _ _ _ h => h) (Or.inr ⟨by rfl, rfl⟩) hH ?_
        try simp only [Act.put, List.setIfInBounds_toArray, List.set_cons_zero, List.set_cons_succ, List.getElem_toArray, List.getElem_cons_succ, List.getElem_cons_zero]
        refine wpAnyH_take (i := 19) (v := undef) rfl (by kernel_rfl) (by kernel_rfl) (by kernel_rfl) (fun _ _ _ h => h) (Or.inr ⟨by rfl, rfl⟩) hH ?_
        try simp only [Act.put, List.setIfInBounds_toArray, List.set_cons_zero, List.set_cons_succ, List.getElem_toArray, List.getElem_cons_succ, List.getElem_cons_zero]
        refine wpAnyH_take (i := 20) (v := undef) rfl (by kernel_rfl) (by kernel_rfl) (by kernel_rfl) (fun _ _ _ h => h) (Or.inr ⟨by rfl, rfl⟩) hH ?_
        try simp only [Act.put, List.setIfInBounds_toArray, List.set_cons_zero, List.set_cons_succ, List.getElem_toArray, List.getElem_cons_succ, List.getElem_cons_zero]
        refine wpAnyH_take (i := 21) (v := undef) rfl (by kernel_rfl) (by kernel_rfl) (by kernel_rfl) (fun _ _ _ h => h) (Or.inr ⟨by rfl, rfl⟩) hH ?_
        try simp only [Act.put, List.setIfInBounds_toArray, List.set_cons_zero, List.set_cons_succ, List.getElem_toArray, List.getElem_cons_succ, List.getElem_cons_zero]
        refine wpAnyH_take (i := 22) (v := undef) rfl (by kernel_rfl) (by kernel_rfl) (by kernel_rfl) (fun _ _ _ h => h) (Or.inr ⟨by rfl, rfl⟩) hH ?_
        try simp only [Act.put, List.setIfInBounds_toArray, List.set_cons_zero, List.set_cons_succ, List.getElem_toArray, List.getElem_cons_succ, List.getElem_cons_zero]
        refine wpAnyH_take (i := 23) (v := undef) rfl (by kernel_rfl) (by kernel_rfl) (by kernel_rfl) (fun _ _ _ h => h) (Or.inr ⟨by rfl, rfl⟩) hH ?_
        try simp only [Act.put, List.setIfInBounds_toArray, List.set_cons_zero, List.set_cons_succ, List.getElem_toArray, List.getElem_cons_succ, List.getElem_cons_zero]
        refine wpAnyH_take (i := 24) (v := undef) rfl (by kernel_rfl) (by kernel_rfl) (by kernel_rfl) (fun _ _ _ h => h) (Or.inr ⟨by rfl, rfl⟩) hH ?_
        try simp only [Act.put, List.setIfInBounds_toArray, List.set_cons_zero, List.set_cons_succ, List.getElem_toArray, List.getElem_cons_succ, List.getElem_cons_zero]
        refine wpAnyH_take (i := 25) (v := undef) rfl (by kernel_rfl) (by kernel_rfl) (by kernel_rfl) (fun _ _ _ h => h) (Or.inr ⟨by rfl, rfl⟩) hH ?_
        try simp only [Act.put, List.setIfInBounds_toArray, List.set_cons_zero, List.set_cons_succ, List.getElem_toArray, List.getElem_cons_succ, List.getElem_cons_zero]
        refine wpAnyH_take (i := 26) (v := undef) rfl (by kernel_rfl) (by kernel_rfl) (by kernel_rfl) (fun _ _ _ h => h) (Or.inr ⟨by rfl, rfl⟩) hH ?_
        try simp only [Act.put, List.setIfInBounds_toArray, List.set_cons_zero, List.set_cons_succ, List.getElem_toArray, List.getElem_cons_succ, List.getElem_cons_zero]
        refine wpAnyH_take (i := 27) (v := undef) rfl (by kernel_rfl) (by kernel_rfl) (by kernel_rfl) (fun _ _ _ h => h) (Or.inr ⟨by rfl, rfl⟩) hH ?_
        try simp only [Act.put, List.setIfInBounds_toArray, List.set_cons_zero, List.set_cons_succ, List.getElem_toArray, List.getElem_cons_succ, List.getElem_cons_zero]
        refine wpAnyH_take (i := 28) (v := undef) rfl (by kernel_rfl) (by kernel_rfl) (by kernel_rfl) (fun _ _ _ h => h) (Or.inr ⟨by rfl, rfl⟩) hH ?_
        try simp only [Act.put, List.setIfInBounds_toArray, List.set_cons_zero, List.set_cons_succ, List.getElem_toArray, List.getElem_cons_succ, List.getElem_cons_zero]
        refine wpAnyH_take (i := 29) (v := .bool false) rfl (by kernel_rfl) (by kernel_rfl) (by kernel_rfl) (fun _ _ _ h => h) (Or.inl ⟨by rfl, fun w hSw => by clear hSw; go_simp⟩) hH ?_
        try simp only [Act.put, List.setIfInBounds_toArray, List.set_cons_zero, List.set_cons_succ, List.getElem_toArray, List.getElem_cons_succ, List.getElem_cons_zero]
        refine wpAnyH_done (by kernel_rfl) ?_ _
        go_wp2_with fail
        exact ⟨⟨0 + 1, by omega, by go_num, chain HB.out hH⟩, by simp [intOf]; omega⟩
      · obtain ⟨m, rfl⟩ : ∃ m, k = m + 1 := ⟨k - 1, by omega⟩
        have hz0 : ¬ ((m + 1 : Nat) : Int) = 0 := by omega
        have hz1 : (0 : Int) < ((m + 1 : Nat) : Int) := by omega
        have hmk : (m : Int) < (L.length : Int) := by omega
        have hxx : ∀ x : Int, (x != x) = false := fun x => by simp
        have hx0 := hxx (64 * L.getD (m + 1) 0)
        have hwm : IntKind.i64.wrap (((m + 1 : Nat) : Int) - 1) = (m : Int) := by rw [wrap_id _ (by omega) (by omega)]; omega
        have HQ2 : Hid (∀ W, Below wr.heap.size wr W → W.cell? ⟨b1, m + 1, none⟩ = some (.int .i64 (lvN num den L (m + 1))) ∧ W.cell? ⟨b1, m, none⟩ = some (.int .i64 (lvN num den L m))) := fun W hW => ⟨(HQ.out W hW).2.2, HC1.out W m (chain HB.out hW) (by omega)⟩
        have hbw := HBw.out m
        have hn1 : decide (lvN num den L (m + 1) < min (lvN num den L m) (64 * L.getD (m + 1) 0)) = false := decide_eq_false (fun h => hbw (.inl h))
        have hn2 : decide (max (lvN num den L m) (64 * L.getD (m + 1) 0) < lvN num den L (m + 1)) = false := decide_eq_false (fun h => hbw (.inr h))
        have HN1 : Hid (decide (lvN num den L (m + 1) < min (lvN num den L m) (64 * L.getD (m + 1) 0)) = false) := hn1
        have HN2 : Hid (decide (max (lvN num den L m) (64 * L.getD (m + 1) 0) < lvN num den L (m + 1)) = false) := hn2
        clear hxx HQ hbw hn1 hn2 hk0
        generalize lvN num den L (m + 1) = y at *
        generalize lvN num den L m = p at *
        obtain ⟨x64, hx64⟩ : ∃ z, z = 64 * L.getD (m + 1) 0 := ⟨_, rfl⟩
        rw [← hx64] at d1 hx0 HN1 HN2
        have e1 : IntKind.i64.wrap (64 * L.getD (m + 1) 0) = x64 := by rw [hx64]; exact e0
        clear hx64 e0
        generalize L.getD (m + 1) 0 = x at *
        generalize hm1 : m + 1 = k at *
        go_upto_region 14 with fail
        clear d0 d1 d2 e1 hx0
        refine wp_region_held_drew (S := fun W' => Below wr.heap.size wr W') (by kernel_rfl) (below_drew _) (fun hH => ?_)
        refine wpAnyH_take (i := 0) (v := .int .i64 (k : Int)) rfl (by kernel_rfl) (by kernel_rfl) (by kernel_rfl) (fun _ _ _ h => h) (Or.inl ⟨by rfl, fun w hSw => by clear hSw; go_simp⟩) hH ?_
        refine wpAnyH_take (i := 1) (v := .bool true) rfl (by kernel_rfl) (by kernel_rfl) (by kernel_rfl) (fun _ _ _ h => h) (Or.inl ⟨by rfl, fun w hSw => by have f0 : 0 < k := (by omega); clear hSw; go_simp⟩) hH ?_
        try simp only [Act.put, List.setIfInBounds_toArray, List.set_cons_zero, List.set_cons_succ, List.getElem_toArray, List.getElem_cons_succ, List.getElem_cons_zero]
        refine wpAnyH_take (i := 2) (v := .bool true) rfl (by kernel_rfl) (by kernel_rfl) (by kernel_rfl) (fun _ _ _ h => h) (Or.inl ⟨by rfl, fun w hSw => by clear hSw; go_simp⟩) hH ?_
        try simp only [Act.put, List.setIfInBounds_toArray, List.set_cons_zero, List.set_cons_succ, List.getElem_toArray, List.getElem_cons_succ, List.getElem_cons_zero]
        refine wpAnyH_take (i := 3) (v := .slice (some ⟨b1, 0, none⟩) L.length c1) rfl (by kernel_rfl) (by kernel_rfl) (by kernel_rfl) (fun _ _ _ h => h) (Or.inl ⟨by rfl, fun w hSw => by clear hSw; go_simp⟩) hH ?_
        try simp only [Act.put, List.setIfInBounds_toArray, List.set_cons_zero, List.set_cons_succ, List.getElem_toArray, List.getElem_cons_succ, List.getElem_cons_zero]
        refine wpAnyH_take (i := 4) (v := .int .i64 (k : Int)) rfl (by kernel_rfl) (by kernel_rfl) (by kernel_rfl) (fun _ _ _ h => h) (Or.inl ⟨by rfl, fun w hSw => by clear hSw; go_simp⟩) hH ?_
        try simp only [Act.put, List.setIfInBounds_toArray, List.set_cons_zero, List.set_cons_succ, List.getElem_toArray, List.getElem_cons_succ, List.getElem_cons_zero]
        refine wpAnyH_take (i := 5) (v := .pointer (some ⟨b1, k, none⟩)) rfl (by kernel_rfl) (by kernel_rfl) (by kernel_rfl) (fun _ _ _ h => h) (Or.inl ⟨by rfl, fun w hSw => by clear hSw; go_simp⟩) hH ?_
        try simp only [Act.put, List.setIfInBounds_toArray, List.set_cons_zero, List.set_cons_succ, List.getElem_toArray, List.getElem_cons_succ, List.getElem_cons_zero]
        refine wpAnyH_take (i := 6) (v := .int .i64 y) rfl (by kernel_rfl) (by kernel_rfl) (by kernel_rfl) (fun _ _ _ h => h) (Or.inl ⟨by rfl, fun w hSw => by have f0 := (HQ2.out w hSw).1; clear hSw; go_simp⟩) hH ?_
        try simp only [Act.put, List.setIfInBounds_toArray, List.set_cons_zero, List.set_cons_succ, List.getElem_toArray, List.getElem_cons_succ, List.getElem_cons_zero]
        refine wpAnyH_take (i := 7) (v := .slice (some ⟨b1, 0, none⟩) L.length c1) rfl (by kernel_rfl) (by kernel_rfl) (by kernel_rfl) (fun _ _ _ h => h) (Or.inl ⟨by rfl, fun w hSw => by clear hSw; go_simp⟩) hH ?_
        try simp only [Act.put, List.setIfInBounds_toArray, List.set_cons_zero, List.set_cons_succ, List.getElem_toArray, List.getElem_cons_succ, List.getElem_cons_zero]
        refine wpAnyH_take (i := 8) (v := .int .i64 (k : Int)) rfl (by kernel_rfl) (by kernel_rfl) (by kernel_rfl) (fun _ _ _ h => h) (Or.inl ⟨by rfl, fun w hSw => by clear hSw; go_simp⟩) hH ?_
        try simp only [Act.put, List.setIfInBounds_toArray, List.set_cons_zero, List.set_cons_succ, List.getElem_toArray, List.getElem_cons_succ, List.getElem_cons_zero]
        refine wpAnyH_take (i := 9) (v := .int .i64 (m : Int)) rfl (by kernel_rfl) (by kernel_rfl) (by kernel_rfl) (fun _ _ _ h => h) (Or.inl ⟨by rfl, fun w hSw => by clear hSw; go_simp⟩) hH ?_
        try simp only [Act.put, List.setIfInBounds_toArray, List.set_cons_zero, List.set_cons_succ, List.getElem_toArray, List.getElem_cons_succ, List.getElem_cons_zero]
        refine wpAnyH_take (i := 10) (v := .pointer (some ⟨b1, m, none⟩)) rfl (by kernel_rfl) (by kernel_rfl) (by kernel_rfl) (fun _ _ _ h => h) (Or.inl ⟨by rfl, fun w hSw => by clear hSw; go_simp⟩) hH ?_
        try simp only [Act.put, List.setIfInBounds_toArray, List.set_cons_zero, List.set_cons_succ, List.getElem_toArray, List.getElem_cons_succ, List.getElem_cons_zero]
        refine wpAnyH_take (i := 11) (v := .int .i64 p) rfl (by kernel_rfl) (by kernel_rfl) (by kernel_rfl) (fun _ _ _ h => h) (Or.inl ⟨by rfl, fun w hSw => by have f0 := (HQ2.out w hSw).2; clear hSw; go_simp⟩) hH ?_
        try simp only [Act.put, List.setIfInBounds_toArray, List.set_cons_zero, List.set_cons_succ, List.getElem_toArray, List.getElem_cons_succ, List.getElem_cons_zero]
        refine wpAnyH_take (i := 12) (v := .int .i64 x64) rfl (by kernel_rfl) (by kernel_rfl) (by kernel_rfl) (fun _ _ _ h => h) (Or.inl ⟨by rfl, fun w hSw => by clear hSw; go_simp⟩) hH ?_
        try simp only [Act.put, List.setIfInBounds_toArray, List.set_cons_zero, List.set_cons_succ, List.getElem_toArray, List.getElem_cons_succ, List.getElem_cons_zero]
        refine wpAnyH_take (i := 13) (v := .int .i64 (min p x64)) rfl (by kernel_rfl) (by kernel_rfl) (by kernel_rfl) (fun _ _ _ h => h) (Or.inl ⟨by rfl, fun w hSw => by have f0 : (if x64 < p then x64 else p) = min p x64 := (by split <;> omega); clear hSw; go_simp⟩) hH ?_
        try simp only [Act.put, List.setIfInBounds_toArray, List.set_cons_zero, List.set_cons_succ, List.getElem_toArray, List.getElem_cons_succ, List.getElem_cons_zero]
        refine wpAnyH_take (i := 14) (v := .bool false) rfl (by kernel_rfl) (by kernel_rfl) (by kernel_rfl) (fun _ _ _ h => h) (Or.inl ⟨by rfl, fun w hSw => by have f0 := HN1.out; clear hSw; go_simp⟩) hH ?_
        try simp only [Act.put, List.setIfInBounds_toArray, List.set_cons_zero, List.set_cons_succ, List.getElem_toArray, List.getElem_cons_succ, List.getElem_cons_zero]
        refine wpAnyH_take (i := 15) (v := .bool false) rfl (by kernel_rfl) (by kernel_rfl) (by kernel_rfl) (fun _ _ _ h => h) (Or.inl ⟨by rfl, fun w hSw => by clear hSw; go_simp⟩) hH ?_
        try simp only [Act.put, List.setIfInBounds_toArray, List.set_cons_zero, List.set_cons_succ, List.getElem_toArray, List.getElem_cons_succ, List.getElem_cons_zero]
        refine wpAnyH_take (i := 16) (v := .slice (some ⟨b1, 0, none⟩) L.length c1) rfl (by kernel_rfl) (by kernel_rfl) (by kernel_rfl) (fun _ _ _ h => h) (Or.inl ⟨by rfl, fun w hSw => by clear hSw; go_simp⟩) hH ?_
        try simp only [Act.put, List.setIfInBounds_toArray, List.set_cons_zero, List.set_cons_succ, List.getElem_toArray, List.getElem_cons_succ, List.getElem_cons_zero]
        refine wpAnyH_take (i := 17) (v := .int .i64 (k : Int)) rfl (by kernel_rfl) (by kernel_rfl) (by kernel_rfl) (fun _ _ _ h => h) (Or.inl ⟨by rfl, fun w hSw => by clear hSw; go_simp⟩) hH ?_
        try simp only [Act.put, List.setIfInBounds_toArray, List.set_cons_zero, List.set_cons_succ, List.getElem_toArray, List.getElem_cons_succ, List.getElem_cons_zero]
        refine wpAnyH_take (i := 18) (v := .pointer (some ⟨b1, k, none⟩)) rfl (by kernel_rfl) (by kernel_rfl) (by kernel_rfl) (fun _ _ _ h => h) (Or.inl ⟨by rfl, fun w hSw => by clear hSw; go_simp⟩) hH ?_
        try simp only [Act.put, List.setIfInBounds_toArray, List.set_cons_zero, List.set_cons_succ, List.getElem_toArray, List.getElem_cons_succ, List.getElem_cons_zero]
        refine wpAnyH_take (i := 19) (v := .int .i64 y) rfl (by kernel_rfl) (by kernel_rfl) (by kernel_rfl) (fun _ _ _ h => h) (Or.inl ⟨by rfl, fun w hSw => by have f0 := (HQ2.out w hSw).1; clear hSw; go_simp⟩) hH ?_
        try simp only [Act.put, List.setIfInBounds_toArray, List.set_cons_zero, List.set_cons_succ, List.getElem_toArray, List.getElem_cons_succ, List.getElem_cons_zero]
        refine wpAnyH_take (i := 20) (v := .slice (some ⟨b1, 0, none⟩) L.length c1) rfl (by kernel_rfl) (by kernel_rfl) (by kernel_rfl) (fun _ _ _ h => h) (Or.inl ⟨by rfl, fun w hSw => by clear hSw; go_simp⟩) hH ?_
        try simp only [Act.put, List.setIfInBounds_toArray, List.set_cons_zero, List.set_cons_succ, List.getElem_toArray, List.getElem_cons_succ, List.getElem_cons_zero]
        refine wpAnyH_take (i := 21) (v := .int .i64 (k : Int)) rfl (by kernel_rfl) (by kernel_rfl) (by kernel_rfl) (fun _ _ _ h => h) (Or.inl ⟨by rfl, fun w hSw => by clear hSw; go_simp⟩) hH ?_
        try simp only [Act.put, List.setIfInBounds_toArray, List.set_cons_zero, List.set_cons_succ, List.getElem_toArray, List.getElem_cons_succ, List.getElem_cons_zero]
        refine wpAnyH_take (i := 22) (v := .int .i64 (m : Int)) rfl (by kernel_rfl) (by kernel_rfl) (by kernel_rfl) (fun _ _ _ h => h) (Or.inl ⟨by rfl, fun w hSw => by clear hSw; go_simp⟩) hH ?_
        try simp only [Act.put, List.setIfInBounds_toArray, List.set_cons_zero, List.set_cons_succ, List.getElem_toArray, List.getElem_cons_succ, List.getElem_cons_zero]
        refine wpAnyH_take (i := 23) (v := .pointer (some ⟨b1, m, none⟩)) rfl (by kernel_rfl) (by kernel_rfl) (by kernel_rfl) (fun _ _ _ h => h) (Or.inl ⟨by rfl, fun w hSw => by clear hSw; go_simp⟩) hH ?_
        try simp only [Act.put, List.setIfInBounds_toArray, List.set_cons_zero, List.set_cons_succ, List.getElem_toArray, List.getElem_cons_succ, List.getElem_cons_zero]
        refine wpAnyH_take (i := 24) (v := .int .i64 p) rfl (by kernel_rfl) (by kernel_rfl) (by kernel_rfl) (fun _ _ _ h => h) (Or.inl ⟨by rfl, fun w hSw => by have f0 := (HQ2.out w hSw).2; clear hSw; go_simp⟩) hH ?_
        try simp only [Act.put, List.setIfInBounds_toArray, List.set_cons_zero, List.set_cons_succ, List.getElem_toArray, List.getElem_cons_succ, List.getElem_cons_zero]
        refine wpAnyH_take (i := 25) (v := .int .i64 x64) rfl (by kernel_rfl) (by kernel_rfl) (by kernel_rfl) (fun _ _ _ h => h) (Or.inl ⟨by rfl, fun w hSw => by clear hSw; go_simp⟩) hH ?_
        try simp only [Act.put, List.setIfInBounds_toArray, List.set_cons_zero, List.set_cons_succ, List.getElem_toArray, List.getElem_cons_succ, List.getElem_cons_zero]
        refine wpAnyH_take (i := 26) (v := .int .i64 (max p x64)) rfl (by kernel_rfl) (by kernel_rfl) (by kernel_rfl) (fun _ _ _ h => h) (Or.inl ⟨by rfl, fun w hSw => by have f0 : (if p < x64 then x64 else p) = max p x64 := (by split <;> omega); clear hSw; go_simp⟩) hH ?_
        try simp only [Act.put, List.setIfInBounds_toArray, List.set_cons_zero, List.set_cons_succ, List.getElem_toArray, List.getElem_cons_succ, List.getElem_cons_zero]
        refine wpAnyH_take (i := 27) (v := .bool false) rfl (by kernel_rfl) (by kernel_rfl) (by kernel_rfl) (fun _ _ _ h => h) (Or.inl ⟨by rfl, fun w hSw => by have f0 := HN2.out; clear hSw; go_simp⟩) hH ?_
        try simp only [Act.put, List.setIfInBounds_toArray, List.set_cons_zero, List.set_cons_succ, List.getElem_toArray, List.getElem_cons_succ, List.getElem_cons_zero]
        refine wpAnyH_take (i := 28) (v := .bool false) rfl (by kernel_rfl) (by kernel_rfl) (by kernel_rfl) (fun _ _ _ h => h) (Or.inl ⟨by rfl, fun w hSw => by clear hSw; go_simp⟩) hH ?_
        try simp only [Act.put, List.setIfInBounds_toArray, List.set_cons_zero, List.set_cons_succ, List.getElem_toArray, List.getElem_cons_succ, List.getElem_cons_zero]
        refine wpAnyH_take (i := 29) (v := .bool false) rfl (by kernel_rfl) (by kernel_rfl) (by kernel_rfl) (fun _ _ _ h => h) (Or.inl ⟨by rfl, fun w hSw => by clear hSw; go_simp⟩) hH ?_
        try simp only [Act.put, List.setIfInBounds_toArray, List.set_cons_zero, List.set_cons_succ, List.getElem_toArray, List.getElem_cons_succ, List.getElem_cons_zero]
        refine wpAnyH_done (by kernel_rfl) ?_ _
        go_wp2_with fail
        exact ⟨⟨k + 1, by omega, by go_num, chain HB.out hH⟩, by simp [intOf]; omega⟩
    · have hle : (L.length : Int) ≤ (k : Int) := by omega
      clear HC2 HC3 HBw HZ0 HXk
      have HBw1 : Hid (Below w1.heap.size w1 wr) := chain HB2.out (chain HB3.out HB.out)
      go_wp2_with fail
      (first | go_at_call 11 | skip)
      refine (HA.out (L.length : Int) wr (by omega) (chain HB1.out HBw1.out)).mono ?_
      rintro e w5 ⟨x, rfl, hx, hb5⟩
      obtain ⟨q, hq⟩ : ∃ q : Nat, (q : Int) = 1 + x := ⟨(1 + x).toNat, by have := hx.1; omega⟩
      have hq1 : 1 ≤ q ∧ q ≤ L.length := by obtain ⟨u1, u2⟩ := hx; omega
      obtain ⟨hq1, hq2⟩ := hq1
      have hwx : IntKind.i64.wrap (1 + x) = (q : Int) := by rw [wrap_id _ (by omega) (by omega)]; exact hq.symm
      have HB5 : Hid (Below w1.heap.size w1 w5) := chain HBw1.out hb5
      have HB35 : Hid (Below w3.heap.size w3 w5) := chain HB.out hb5
      clear hx hq hb5 HA
      have hq3 : (q : Int) ≤ (cl : Int) := by omega
      have hq4 : (q : Int) ≤ (c1 : Int) := by omega
      have hq5 : (0 : Int) ≤ (q : Int) := by omega
      go_wp2_with fail
      (first | go_at_call 10 | skip)
      refine (HS3.out q w5 hq2 HB5.out).mono ?_
      rintro e w6 ⟨g6, c6, rfl, ho6, hb6, hc6⟩
      have hlq : (lvL num den (L.take q) q).length = q := lvL_length _ _ _ _
      have HSm : Hid (∀ W, W = w6 → Calls Try.prog 12 #[.slice g6 q c6, .slice (some ⟨b1, 0, none⟩) q c1] W fun e w' => e = .returned (.bool true) ∧ Below W.heap.size W w') := fun W hW => by
        subst hW
        have r1 : Reads W.heap.size W (some ⟨b1, 0, none⟩) (lvL num den (L.take q) q) := by
          rw [HTk.out q hq2]
          have h2 := HO1.out.below (chain HB3.out (chain HB35.out hb6)) (Nat.le_refl _)
          exact h2.reads.takeQ q (by rw [HLn1.out]; exact hq2)
        have := sameInts_any g6 (some ⟨b1, 0, none⟩) c6 c1 (lvL num den (L.take q) q) (by omega) W ho6.reads r1
        rwa [hlq] at this
      have HB6 : Hid (Below w.heap.size w w6) := chain HB1.out (chain HB5.out hb6)
      rw [hlq]
      clear ho6 hb6 hc6 hlq HS3 HTk
      go_wp2_with (go_at_call 12; refine (HSm.out _ rfl).mono ?_; rintro e w7 ⟨rfl, hb7⟩)
      go_ret
      exact ⟨rfl, chain HB6.out hb7⟩
theorem walk (a0 : Option Addr) (len0 cap0 : Nat) (z0 : List Int) (a1 : Option Addr) (len1 cap1 : Nat) (z1 : List Int) (w : World) (r0 : RowB w.heap.size w a0 len0 z0) (r1 : RowB w.heap.size w a1 len1 z1) :
    Calls Try.prog 3 #[.slice a0 len0 cap0, .slice a1 len1 cap1] w fun e w' => e = .returned (.bool true) ∧ Below w.heap.size w w' := by
  by_cases hbig : (1048576 : Int) < (len0 : Int)
  · clear r0 r1
    go_enter Try.func3, Try.ntmps3
    go_wp2
    go_ret
    exact ⟨rfl, Below.refl _ _⟩
  by_cases hbig1 : (1048576 : Int) < (len1 : Int)
  · clear r0 r1
    go_enter Try.func3, Try.ntmps3
    go_wp2
    go_ret
    exact ⟨rfl, Below.refl _ _⟩
  · exact walk' a0 len0 cap0 a1 len1 cap1 w (by omega) (by omega) (SalesOf_any a0 len0 cap0 z0 w r0) (fun n W hn hW => by
      have hr := r1.below hW
      exact at_any W.heap.size a1 len1 cap1 z1 0 n W ⟨hr.1, hr.2.imp id (fun ⟨b0, off, e, hb, hc⟩ => ⟨b0, off, e, by have := hW.size; omega, hc⟩)⟩ (by omega) (by omega) (by omega))

theorem own : ownKnob Try.prog.godebug = none := by kernel_rfl
theorem laidOut : laidOutB Try.prog = true := by kernel_rfl

set_option maxRecDepth 100000 in
theorem lifted (os : Os) (started : os.Started) (H : Type) (enc : TypeId × Value → H) :
    ReturnsInHanded {} Try.checked os 3 .any (Rows.fnSmoothSpec.pre6 enc Try.prog Try.f3 Rows.fnSmoothRow.domain false) (Rows.fnSmoothSpec.post enc Try.prog Try.f3 false true false false) := by
  refine returnsInHanded_of_change (C := Try.checked) own started (by kernel_rfl) Try.func3
    (ChangeSpec.witness6 (enc := enc) (C := Try.checked) false ⟨#[], #[.slice none 0 0, .slice none 0 0], []⟩ 8 (by kernel_rfl) (by kernel_rfl) (by kernel_rfl) (by kernel_rfl)) ?_
  intro W base args ds gs before hval0 hW hcnd _
  have hval : ∀ (j : Nat) t v, Try.f3.params[j]? = some t → args[j]? = some v → Value.okWide Try.prog W .any base t v := hval0
  have hW' := hW
  obtain ⟨p, q, hA0, hV, rfl, hfz, hnd⟩ := hW
  have hA : DataW.TrodAll enc Try.prog W 0 (fun _ => true) true Try.f3.params.toList args.toList ds p := hA0
  rw [Try.params3] at hA hval
  obtain ⟨v0, vs0, d0, ds0, p0, q0, hargs, rfl, rfl, h0, r0⟩ := trodAll_cons hA
  obtain ⟨v1, vs1, d1, ds1, p1, q1, rfl, rfl, rfl, h1, r1⟩ := trodAll_cons r0
  obtain ⟨rfl, rfl, rfl⟩ := trodAll_nil r1
  obtain rfl : args = #[v0, v1] := by cases args; simp_all
  obtain ⟨rfl, rfl⟩ := trodVars_none hV
  have k0 := h0
  have lt0 : ∀ x ∈ p0, x.block < W.heap.size := by obtain ⟨m, hm⟩ := k0; exact DataW.trod_lt m _ _ _ hm
  have k1 := h1
  have lt1 : ∀ x ∈ p1, x.block < W.heap.size := by obtain ⟨m, hm⟩ := k1; exact DataW.trod_lt m _ _ _ hm
  obtain ⟨a0, len0, cap0, rfl⟩ := okWide_slice Try.underlying22 (hval 0 22 v0 rfl rfl)
  obtain ⟨z0, w0⟩ : ∃ zs, IsRow .u8 W a0 len0 cap0 zs := by
    obtain ⟨fuel, hf⟩ := h0
    rcases open_ints Try.underlying22 Try.underlying5 (by kernel_rfl) hf with ⟨hcs, _⟩ | ⟨x, l, c, zs, hcs, _, hl, hm, hz, _, hcell, hwz⟩
    · simp [Value.cells] at hcs
      obtain ⟨rfl, rfl, rfl⟩ := hcs
      exact ⟨[], .inl ⟨rfl, rfl, rfl, rfl⟩⟩
    · simp [Value.cells] at hcs
      obtain ⟨rfl, rfl, rfl⟩ := hcs
      exact ⟨zs, .inr ⟨_, rfl, hl, hm, by simpa using hz, hcell, hwz⟩⟩
  obtain ⟨a1, len1, cap1, rfl⟩ := okWide_slice Try.underlying22 (hval 1 22 v1 rfl rfl)
  obtain ⟨z1, w1⟩ : ∃ zs, IsRow .u8 W a1 len1 cap1 zs := by
    obtain ⟨fuel, hf⟩ := h1
    rcases open_ints Try.underlying22 Try.underlying5 (by kernel_rfl) hf with ⟨hcs, _⟩ | ⟨x, l, c, zs, hcs, _, hl, hm, hz, _, hcell, hwz⟩
    · simp [Value.cells] at hcs
      obtain ⟨rfl, rfl, rfl⟩ := hcs
      exact ⟨[], .inl ⟨rfl, rfl, rfl, rfl⟩⟩
    · simp [Value.cells] at hcs
      obtain ⟨rfl, rfl, rfl⟩ := hcs
      exact ⟨zs, .inr ⟨_, rfl, hl, hm, by simpa using hz, hcell, hwz⟩⟩
  clear hA0 hval0
  refine (walk a0 len0 cap0 z0 a1 len1 cap1 z1 W (rowB_of _ _ _ _ _ w0) (rowB_of _ _ _ _ _ w1)).mono fun e W' ⟨he, bel⟩ => ?_
  subst he
  exact ⟨_, rfl, _, _, _, [], _, [], hW', trodAll_mk1 (shut_bool Try.underlying4 _), (trodAll_cons_mk (Below.trod laidOut (by kernel_rfl) (of_decide_eq_true (by kernel_rfl)) k0 bel lt0) (trodAll_cons_mk (Below.trod laidOut (by kernel_rfl) (of_decide_eq_true (by kernel_rfl)) k1 bel lt1) trodAll_mk0)), rfl, bel.frame _, fun h => by cases h⟩

theorem over : Rows.fnSmoothRow.holds Try.pinned (OpenSpec.ofChange Rows.fnSmoothSpec) :=
  OpenClaim.holds_of_wide 3 Try.f3 rfl rfl rfl rfl rfl rfl rfl ⟨rfl, rfl, rfl, rfl, rfl⟩ rfl rfl rfl rfl rfl (by kernel_rfl) Try.func3 (by kernel_rfl)
    (of_decide_eq_true (by kernel_rfl)) (by unfold Func.isWrapper; first | (rw [if_pos (by decide +kernel)]; kernel_rfl) | (rw [if_neg (by decide +kernel)]; exact ⟨rfl, rfl⟩))
    (fun os started H enc _ => lifted os started H enc)
end FnSmooth

theorem fnSmooth_holds : Rows.FnSmoothSaid := FnSmooth.over
end Go.Proofs.Ytjdjopikljdigaa
