/-
  Lists that have each number below n once: contracts of the program's eachOnce (with numbersBelow and the library's slices.Equal) and of the specification's l19Order.
-/
import Derived.Test.YthmhpgbkapjjkaaPlV
import Derived.Test.YthmhpgbkapjjkaaRow1
import Derived.Test.YthmhpgbkapjjkaaRate
import Derived.Test.YthmhpgbkapjjkaaCellNo
import Derived.Deep.OwnRows
namespace Go.Proofs.Ythmhpgbkapjjkaa
open Go.ChangeShapes Go.WideShapes Go.ChangeAt Go.RowKit Go.Joins Go.Deep
set_option linter.unusedVariables false

def numZ (k : Nat) : List Int := (List.range k).map fun (i : Nat) => (i : Int)
theorem numZ_next (k : Nat) : numZ k ++ [(k : Int)] = numZ (k + 1) := by simp [numZ, List.range_succ]
theorem numZ_length (k : Nat) : (numZ k).length = k := by simp [numZ]
theorem numZ_get (n k : Nat) (h : k < n) : (numZ n).getD k 0 = (k : Int) := by simp [numZ, List.getD_eq_getElem?_getD, h]
theorem numZ_mem (n : Nat) (x : Int) : x ∈ numZ n ↔ 0 ≤ x ∧ x < (n : Int) := by
  unfold numZ
  rw [List.mem_map]
  constructor
  · rintro ⟨k, hk, rfl⟩
    rw [List.mem_range] at hk
    omega
  · rintro ⟨h1, h2⟩
    exact ⟨x.toNat, List.mem_range.2 (by omega), by omega⟩
theorem numZ_nodup (n : Nat) : (numZ n).Nodup := by
  unfold numZ
  rw [List.Nodup, List.pairwise_map]
  exact (List.nodup_range (n := n)).imp (fun h e => h (by omega))
/-- Each number below n once. -/
def onB (L : List Int) (n : Nat) : Bool := L.mergeSort leI' == numZ n
/-- The same, as it is checked number by number. -/
structure OnP (L : List Int) (n : Nat) : Prop where
  len : L.length = n
  inn : ∀ x ∈ L, 0 ≤ x ∧ x ≤ (n : Int) - 1
  one : L.Nodup
theorem rise_ge {L : List Int} (h : L.Pairwise (· < ·)) : ∀ i (hi : i < L.length), ∀ j (hj : j < L.length), i ≤ j → L[i] + ((j - i : Nat) : Int) ≤ L[j] := by
  intro i hi j hj hij
  induction j with
  | zero => have : i = 0 := by omega
            subst this; simp
  | succ j ih =>
    by_cases e : i = j + 1
    · subst e; simp
    · have h1 := ih (by omega) (by omega)
      have h2 : L[j] < L[j + 1] := (List.pairwise_iff_getElem.1 h) j (j + 1) (by omega) hj (by omega)
      omega
theorem le_tr : ∀ a b c : Int, leI' a b = true → leI' b c = true → leI' a c = true := fun a b c h1 h2 => by simp only [leI', decide_eq_true_eq] at *; exact Int.le_trans h1 h2
theorem le_to : ∀ a b : Int, (leI' a b || leI' b a) = true := fun a b => by simp only [leI', Bool.or_eq_true, decide_eq_true_eq]; exact Int.le_total a b
theorem on_iff (L : List Int) (n : Nat) : onB L n = true ↔ OnP L n := by
  have hp := List.mergeSort_perm L leI'
  unfold onB
  rw [beq_iff_eq]
  constructor
  · intro h
    rw [h] at hp
    refine ⟨by rw [← hp.length_eq, numZ_length], fun x hx => ?_, ?_⟩
    · have := (numZ_mem n x).1 (hp.mem_iff.2 hx)
      omega
    · exact hp.nodup_iff.1 (numZ_nodup n)
  · intro h
    have hs := List.pairwise_mergeSort le_tr le_to L
    have hn : (L.mergeSort leI').Nodup := hp.nodup_iff.2 h.one
    have hr : (L.mergeSort leI').Pairwise (· < ·) := (hs.and hn).imp (fun {a b} q => by
      have h1 : a ≤ b := by simpa [leI'] using q.1
      have h2 : a ≠ b := q.2
      omega)
    have hl : (L.mergeSort leI').length = n := by rw [hp.length_eq, h.len]
    have hb : ∀ x ∈ L.mergeSort leI', 0 ≤ x ∧ x ≤ (n : Int) - 1 := fun x hx => h.inn x (hp.mem_iff.1 hx)
    generalize L.mergeSort leI' = S at hr hl hb
    refine List.ext_getElem (by rw [hl, numZ_length]) (fun i h1 h2 => ?_)
    have e1 := rise_ge hr 0 (by omega) i h1 (by omega)
    have e2 := rise_ge hr i h1 (n - 1) (by omega) (by omega)
    have b1 := hb _ (List.getElem_mem (l := S) (n := 0) (by omega))
    have b2 := hb _ (List.getElem_mem (l := S) (n := n - 1) (by omega))
    have e3 : (numZ n)[i] = (i : Int) := by simp [numZ]
    rw [e3]
    omega
theorem on_false {L : List Int} {n : Nat} (h : ¬ OnP L n) : onB L n = false := by
  cases e : onB L n
  · rfl
  · exact absurd ((on_iff L n).1 e) h
theorem nodup_snoc {L : List Int} {x : Int} (h : L.Nodup) (hx : x ∉ L) : (L ++ [x]).Nodup := by
  rw [List.nodup_append]
  exact ⟨h, by simp, fun a ha b hb e => by simp at hb; subst hb; subst e; exact hx ha⟩
set_option maxHeartbeats 2000000 in
set_option maxRecDepth 4000 in
theorem numBelow_any (n : Nat) (hn : n ≤ 1000000) (w : World) :
    Calls Try.prog 58 #[.int .i64 (n : Int)] w fun e w' => ∃ g cp, e = .returned (.slice g n cp) ∧ Own2 w.heap.size w' g (numZ n) ∧ Below w.heap.size w w' := by
  have hmk := fun w => run_make_cap n (by omega) w
  obtain ⟨i0, hi, hzz⟩ := Option.map_eq_some_iff.1 intInfo1
  simp only [Prod.mk.injEq] at hzz
  obtain ⟨hi0, hi1, hi2⟩ := hzz
  have H0 : Hid (One w w.heap.size (.slice (some ⟨w.heap.size, 0, none⟩) 0 n) [] (w.alloc (Obj.cells (madeCells #[.int .i64 0] n) 3))) := One.made w _ rfl n (by omega)
  go_enter Try.func58, Try.ntmps58
  go_wp2
  go_loopw [3, 4, 8] (fun v _ c wr => ∃ k : Nat, k ≤ n ∧ c = .int .i64 (k : Int) ∧ One w w.heap.size v (numZ k) wr) (fun _ _ c _ => n - (intOf c).toNat)
  case atStart => exact ⟨0, Nat.zero_le _, rfl, H0.out⟩
  case round =>
    clear H0
    obtain ⟨k, hk, rfl, hO⟩ := hrel
    obtain ⟨gv, cv, rfl⟩ := row_slice hO.1
    have HO : Hid (One w w.heap.size (.slice gv (numZ k).length cv) (numZ k) wr) := hO
    clear hO
    by_cases hlt : k < n
    · have hlt' : (k : Int) < (n : Int) := by omega
      have HN : Hid (numZ k ++ [(k : Int)] = numZ (k + 1)) := numZ_next k
      have HL : Hid ((numZ k).length = k) := numZ_length k
      generalize numZ k = L at *
      go_wp2_with (at_builtin; refine wpList_append_lies _ rfl _ _ 26 rfl w.heap.size 3 i0 (.int .i64 0) 1 8 Try.underlying26 hi hi0 hi1 hi2 rfl (by decide) _ _ _ rfl (HO.out.alloc _).1 ⟨wr.heap.size, 0, none⟩ 1 1 [.int .i64 (k : Int)] rfl rfl (newsOne wr _ _) (by intro u hu; simp at hu; subst hu; rfl) (by omega) (by unfold maxLen; have := HL.out; omega) (by have := HL.out; omega) (HO.out.alloc _).2.1 _ rfl ?_; intro g1 cp1 w5 hown1 hgrow1 hat1 hglt1; have HT5 : Hid _ := (HO.out.alloc _).push hown1 hgrow1; clear hown1 hgrow1 hat1 hglt1)
      exact ⟨⟨k + 1, by omega, by go_num, by rw [← HN.out]; exact HT5.out⟩, by simp [intOf]; omega⟩
    · have hle : (n : Int) ≤ (k : Int) := by omega
      obtain rfl : k = n := by omega
      go_wp2
      go_ret
      exact ⟨gv, cv, congrArg (fun n => Ending.returned (Value.slice gv n cv)) (numZ_length k), HO.out.own2 rfl, HO.out.2.2⟩
def eqL (xs ys : List Int) : Bool := xs == ys
theorem eqL_true {xs ys : List Int} (h : xs.length = ys.length) (ht : xs.take xs.length = ys.take xs.length) : eqL xs ys = true := by
  rw [List.take_length, h, List.take_length] at ht
  rw [ht]; simp [eqL]
theorem eqL_len {xs ys : List Int} (h : ¬ xs.length = ys.length) : eqL xs ys = false := by
  unfold eqL
  rw [beq_eq_false_iff_ne]
  intro e; rw [e] at h; exact h rfl
theorem eqL_at {xs ys : List Int} {k : Nat} (h : ¬ xs.getD k 0 = ys.getD k 0) : eqL xs ys = false := by
  unfold eqL
  rw [beq_eq_false_iff_ne]
  intro e; rw [e] at h; exact h rfl
set_option maxHeartbeats 4000000 in
theorem equal_any (a b : Option Addr) (ca cb : Nat) (xs ys : List Int) (hl : xs.length ≤ 100000000) (hl2 : ys.length ≤ 100000000) (w : World) (ha : Reads w.heap.size w a xs) (hb : Reads w.heap.size w b ys) :
    Calls Try.prog 55 #[.slice a xs.length ca, .slice b ys.length cb] w fun e w' => e = .returned (.bool (eqL xs ys)) ∧ Below w.heap.size w w' := by
  have HA : Hid (Reads w.heap.size w a xs) := ha
  have HB : Hid (Reads w.heap.size w b ys) := hb
  clear ha hb
  by_cases hle : xs.length = ys.length
  · have hne : ((xs.length : Int) != (ys.length : Int)) = false := by simp [hle]
    have HT : Hid (xs.take xs.length = ys.take xs.length → eqL xs ys = true) := fun h => eqL_true hle h
    have HF : Hid (∀ k, ¬ xs.getD k 0 = ys.getD k 0 → eqL xs ys = false) := fun k h => eqL_at h
    have HLe : Hid (xs.length = ys.length) := hle
    clear hle
    generalize eqL xs ys = r at *
    go_enter Try.func55, Try.ntmps55
    go_wp2
    go_loopw [5, 13] (fun _ c wr => ∃ k : Nat, k ≤ xs.length ∧ c = .int .i64 (k : Int) ∧ xs.take k = ys.take k ∧ Below w.heap.size w wr) (fun _ c _ => xs.length - (intOf c).toNat)
    case atStart => exact ⟨0, Nat.zero_le _, rfl, by simp, Below.refl _ _⟩
    case round =>
      obtain ⟨k, hk, rfl, ht, hbl⟩ := hrel
      have HK : Hid (xs.take k = ys.take k) := ht
      have HBl : Hid (Below w.heap.size w wr) := hbl
      clear ht hbl
      by_cases hlt : k < xs.length
      · have hlt' : (k : Int) < (xs.length : Int) := by omega
        have hky : k < ys.length := by have := HLe.out; omega
        rcases HA.out with h | ⟨b0, o0, ha, hB0, ia⟩
        · rw [h] at hlt; simp at hlt
        rcases HB.out with h | ⟨b1, o1, hb, hB1, ib⟩
        · rw [h] at hky; simp at hky
        subst ha hb
        have HC : Hid (∀ W, Below wr.heap.size wr W → W.cell? ⟨b0, o0 + k, none⟩ = some (.int .i64 (xs.getD k 0)) ∧ W.cell? ⟨b1, o1 + k, none⟩ = some (.int .i64 (ys.getD k 0))) := fun W hW => ⟨(ia.below (chain HBl.out hW) hB0) k hlt, (ib.below (chain HBl.out hW) hB1) k hky⟩
        have HF2 := HF.out k
        have HF3 : Hid (¬ xs.getD k 0 = ys.getD k 0 → r = false) := HF2
        have HN : Hid (xs.getD k 0 = ys.getD k 0 → xs.take (k + 1) = ys.take (k + 1)) := fun h => by
          rw [List.take_succ_eq_append_getElem hlt, List.take_succ_eq_append_getElem hky, HK.out]
          simp only [List.getD_eq_getElem?_getD, hlt, hky, List.getElem?_eq_getElem, Option.getD_some] at h
          rw [h]
        clear ia ib HF2
        generalize xs.getD k 0 = x at *
        generalize ys.getD k 0 = y at *
        obtain ⟨nb, hnb⟩ : ∃ nb, (x != y) = nb := ⟨_, rfl⟩
        have HNb : Hid ((x != y) = nb) := hnb
        go_wp2_with fail
        refine wp_region_held_drew (S := fun W' => Below wr.heap.size wr W') (by kernel_rfl) (below_drew _) (fun hH => ?_)
        refine wpAnyH_take (i := 0) (v := .slice (some ⟨b0, o0, none⟩) xs.length ca) rfl (by kernel_rfl) (by kernel_rfl) (by kernel_rfl) (fun _ _ _ h => h) (Or.inl ⟨by rfl, fun w hSw => by clear hSw; go_simp⟩) hH ?_
        refine wpAnyH_take (i := 1) (v := .int .i64 (k : Int)) rfl (by kernel_rfl) (by kernel_rfl) (by kernel_rfl) (fun _ _ _ h => h) (Or.inl ⟨by rfl, fun w hSw => by clear hSw; go_simp⟩) hH ?_
        try simp only [Act.put, List.setIfInBounds_toArray, List.set_cons_zero, List.set_cons_succ, List.getElem_toArray, List.getElem_cons_succ, List.getElem_cons_zero]
        refine wpAnyH_take (i := 2) (v := .pointer (some ⟨b0, o0 + k, none⟩)) rfl (by kernel_rfl) (by kernel_rfl) (by kernel_rfl) (fun _ _ _ h => h) (Or.inl ⟨by rfl, fun w hSw => by clear hSw; go_simp⟩) hH ?_
        try simp only [Act.put, List.setIfInBounds_toArray, List.set_cons_zero, List.set_cons_succ, List.getElem_toArray, List.getElem_cons_succ, List.getElem_cons_zero]
        refine wpAnyH_take (i := 3) (v := .int .i64 x) rfl (by kernel_rfl) (by kernel_rfl) (by kernel_rfl) (fun _ _ _ h => h) (Or.inl ⟨by rfl, fun w hSw => by obtain ⟨f0, f1⟩ := HC.out w hSw; clear hSw; go_simp⟩) hH ?_
        try simp only [Act.put, List.setIfInBounds_toArray, List.set_cons_zero, List.set_cons_succ, List.getElem_toArray, List.getElem_cons_succ, List.getElem_cons_zero]
        refine wpAnyH_take (i := 4) (v := .slice (some ⟨b1, o1, none⟩) ys.length cb) rfl (by kernel_rfl) (by kernel_rfl) (by kernel_rfl) (fun _ _ _ h => h) (Or.inl ⟨by rfl, fun w hSw => by clear hSw; go_simp⟩) hH ?_
        try simp only [Act.put, List.setIfInBounds_toArray, List.set_cons_zero, List.set_cons_succ, List.getElem_toArray, List.getElem_cons_succ, List.getElem_cons_zero]
        refine wpAnyH_take (i := 5) (v := .int .i64 (k : Int)) rfl (by kernel_rfl) (by kernel_rfl) (by kernel_rfl) (fun _ _ _ h => h) (Or.inl ⟨by rfl, fun w hSw => by clear hSw; go_simp⟩) hH ?_
        try simp only [Act.put, List.setIfInBounds_toArray, List.set_cons_zero, List.set_cons_succ, List.getElem_toArray, List.getElem_cons_succ, List.getElem_cons_zero]
        refine wpAnyH_take (i := 6) (v := .pointer (some ⟨b1, o1 + k, none⟩)) rfl (by kernel_rfl) (by kernel_rfl) (by kernel_rfl) (fun _ _ _ h => h) (Or.inl ⟨by rfl, fun w hSw => by clear hSw; go_simp⟩) hH ?_
        try simp only [Act.put, List.setIfInBounds_toArray, List.set_cons_zero, List.set_cons_succ, List.getElem_toArray, List.getElem_cons_succ, List.getElem_cons_zero]
        refine wpAnyH_take (i := 7) (v := .int .i64 y) rfl (by kernel_rfl) (by kernel_rfl) (by kernel_rfl) (fun _ _ _ h => h) (Or.inl ⟨by rfl, fun w hSw => by obtain ⟨f0, f1⟩ := HC.out w hSw; clear hSw; go_simp⟩) hH ?_
        try simp only [Act.put, List.setIfInBounds_toArray, List.set_cons_zero, List.set_cons_succ, List.getElem_toArray, List.getElem_cons_succ, List.getElem_cons_zero]
        refine wpAnyH_take (i := 8) (v := .bool nb) rfl (by kernel_rfl) (by kernel_rfl) (by kernel_rfl) (fun _ _ _ h => h) (Or.inl ⟨by rfl, fun w hSw => by clear hSw; go_simp⟩) hH ?_
        try simp only [Act.put, List.setIfInBounds_toArray, List.set_cons_zero, List.set_cons_succ, List.getElem_toArray, List.getElem_cons_succ, List.getElem_cons_zero]
        refine wpAnyH_done (by kernel_rfl) ?_ _
        clear hH hnb
        have HB9 : Hid (Below w.heap.size w wr.drew) := chain HBl.out (below_drew _)
        generalize wr.drew = w9 at *
        cases nb
        · have hxy : x = y := by simpa using HNb.out
          have HN2 := HN.out hxy
          clear hxy HNb HF3 HC HN
          go_wp2
          exact ⟨⟨k + 1, by omega, by go_num, HN2, HB9.out⟩, by simp [intOf]; omega⟩
        · have hxy : ¬ x = y := by simpa using HNb.out
          have HR : Hid (r = false) := HF3.out hxy
          clear hxy HNb HF3 HC HN
          go_wp2
          go_ret
          exact ⟨ret_bool HR.out.symm, HB9.out⟩
      · have hle' : (xs.length : Int) ≤ (k : Int) := by omega
        have HR : Hid (r = true) := HT.out (by have := HK.out; rwa [show k = xs.length by omega] at this)
        go_wp2
        go_ret
        exact ⟨ret_bool HR.out.symm, HBl.out⟩
  · have hne : ((xs.length : Int) != (ys.length : Int)) = true := by simp; omega
    have e0 : eqL xs ys = false := eqL_len hle
    rw [e0]
    clear hle e0
    go_enter Try.func55, Try.ntmps55
    go_wp2
    go_ret
    exact ⟨rfl, Below.refl _ _⟩
theorem once_any (a : Option Addr) (cap : Nat) (L : List Int) (n : Nat) (hn : n ≤ 1000000) (hl : L.length ≤ 100000000) (w : World) (hr : Reads w.heap.size w a L) :
    Calls Try.prog 39 #[.slice a L.length cap, .int .i64 (n : Int)] w fun e w' => e = .returned (.bool (onB L n)) ∧ Below w.heap.size w w' := by
  have HV : Hid (Calls Try.prog 57 #[.slice a L.length cap] w fun e w' => e = .returned (.func (.func 76) #[] #[.pointer (some ⟨w.heap.size, 0, none⟩)]) ∧ w' = w.alloc (Obj.cells #[.slice a L.length cap] 26)) := values_any a L.length cap w
  have HS : Hid (∀ W, W = w.alloc (Obj.cells #[.slice a L.length cap] 26) → Calls Try.prog 56 #[.func (.func 76) #[] #[.pointer (some ⟨w.heap.size, 0, none⟩)]] W fun e w' => ∃ g cp, e = .returned (.slice g L.length cp) ∧ Reads w'.heap.size w' g (L.mergeSort leI') ∧ Below w.heap.size w w') := fun W hW => by
    subst hW
    refine (sortedI_any w.heap.size cap a L hl _ (by simp) (cellNew _ _ _ _ rfl rfl) ((hr.below (below_alloc _ _)).mono (by simp))).mono ?_
    rintro e w' ⟨g, cp, rfl, h1, h2⟩
    exact ⟨g, cp, rfl, h1, chain (below_alloc _ _) h2⟩
  have HN : Hid (∀ W, Calls Try.prog 58 #[.int .i64 (n : Int)] W fun e w' => ∃ g cp, e = .returned (.slice g n cp) ∧ Own2 W.heap.size w' g (numZ n) ∧ Below W.heap.size W w') := fun W => numBelow_any n hn W
  have HQ : Hid (∀ (g1 g2 : Option Addr) (c1 c2 : Nat) (W : World), Reads W.heap.size W g1 (L.mergeSort leI') → Reads W.heap.size W g2 (numZ n) → Calls Try.prog 55 #[.slice g1 L.length c1, .slice g2 n c2] W fun e w' => e = .returned (.bool (onB L n)) ∧ Below W.heap.size W w') := fun g1 g2 c1 c2 W h1 h2 => by
    have := equal_any g1 g2 c1 c2 (L.mergeSort leI') (numZ n) (by simpa using hl) (by rw [numZ_length]; omega) W h1 h2
    rw [List.length_mergeSort, numZ_length] at this
    exact this
  clear hr
  generalize onB L n = r at *
  go_enter Try.func39, Try.ntmps39
  go_wp2_with fail
  (first | go_at_call 57 | skip)
  refine HV.out.mono ?_
  rintro e w2 ⟨rfl, hw2⟩
  have HS2 := HS.out w2 hw2
  clear hw2 HS
  go_wp2_with fail
  (first | go_at_call 56 | skip)
  refine HS2.mono ?_
  rintro e w3 ⟨g3, c3, rfl, h3, hb3⟩
  have H3 : Hid (Reads w3.heap.size w3 g3 (L.mergeSort leI') ∧ Below w.heap.size w w3) := ⟨h3, hb3⟩
  clear h3 hb3 HS2
  go_wp2_with fail
  (first | go_at_call 58 | skip)
  refine (HN.out w3).mono ?_
  rintro e w4 ⟨g4, c4, rfl, h4, hb4⟩
  have HQ4 := HQ.out g3 g4 c3 c4 w4 ((H3.out.1.below hb4).mono hb4.size) h4.reads
  have HB4 : Hid (Below w.heap.size w w4) := chain H3.out.2 hb4
  clear h4 hb4 H3
  go_wp2_with fail
  (first | go_at_call 55 | skip)
  refine HQ4.mono ?_
  rintro e w5 ⟨rfl, hb5⟩
  go_wp2
  go_ret
  exact ⟨rfl, chain HB4.out hb5⟩
/-- Which numbers have been seen. -/
def snB (L : List Int) (j : Nat) : Bool := L.contains (j : Int)
theorem sn_snoc (L : List Int) (m j : Nat) : snB (L ++ [(m : Int)]) j = if j = m then true else snB L j := by
  unfold snB
  rw [Bool.eq_iff_iff]
  simp only [List.contains_iff_mem, List.mem_append, List.mem_singleton]
  by_cases h : j = m
  · subst h; simp
  · rw [if_neg h, List.contains_iff_mem]
    constructor
    · rintro (h1 | h1)
      · exact h1
      · omega
    · exact fun h1 => .inl h1
theorem plBoolInfo : (Try.prog.info? 4).map (fun i => (i.zero, i.size, i.bytes)) = some (some (.bool false), 1, 1) := by kernel_rfl
end Go.Proofs.Ythmhpgbkapjjkaa
