/-
  Contract of the specification's l06Least.
-/
import Derived.Test.YthkmgccmeoigpaaRcA
namespace Go.Proofs.Ythkmgccmeoigpaa
open Go.ChangeShapes Go.WideShapes Go.ChangeAt Go.RowKit Go.Deep
set_option linter.unusedVariables false

def lowsL (ts : List RTm) (k : Nat) : List Int := (List.range k).map fun (i : Nat) => if i = 0 then 0 else lowT (i : Int) ts
theorem lowsL_one (ts : List RTm) : lowsL ts 1 = [0] := rfl
theorem lowsL_next (ts : List RTm) (k : Nat) (h : 1 ≤ k) : lowsL ts k ++ [lowT (k : Int) ts] = lowsL ts (k + 1) := by
  unfold lowsL
  rw [List.range_succ, List.map_append]
  simp [show k ≠ 0 by omega]
theorem lowsL_length (ts : List RTm) (k : Nat) : (lowsL ts k).length = k := by simp [lowsL]
theorem lowsL_at (ts : List RTm) (i : Nat) (h : 1 ≤ i) (h' : i ≤ 5) : (lowsL ts 6).getD i 0 = lowT (i : Int) ts := by
  unfold lowsL
  simp [List.getD_eq_getElem?_getD, show i < 6 by omega, show i ≠ 0 by omega]
/-- No field below k is empty. -/
def canN (ts : List RTm) (k : Nat) : Prop := ∀ i : Nat, 1 ≤ i → i < k → lowT (i : Int) ts ≤ highT (i : Int) ts
theorem canT_six {ts : List RTm} (h : canN ts 6) : canT ts = true := by
  unfold canT
  rw [emptyL_rm]
  have h1 := h 1 (by omega) (by omega)
  have h2 := h 2 (by omega) (by omega)
  have h3 := h 3 (by omega) (by omega)
  have h4 := h 4 (by omega) (by omega)
  have h5 := h 5 (by omega) (by omega)
  simp only [Bool.not_eq_true', Bool.or_eq_false_iff, decide_eq_false_iff_not]
  refine ⟨?_, ?_, ?_, ?_, ?_⟩ <;> (intro q; simp at *; omega)
theorem canT_no {ts : List RTm} {k : Nat} (h : 1 ≤ k) (h' : k ≤ 5) (hq : highT (k : Int) ts < lowT (k : Int) ts) : canT ts = false := by
  unfold canT
  rw [emptyL_rm]
  rcases (by omega : k = 1 ∨ k = 2 ∨ k = 3 ∨ k = 4 ∨ k = 5) with rfl | rfl | rfl | rfl | rfl <;> simp at hq <;> simp [hq]
/-- What l06Least answers. -/
def leastV (ts : List RTm) : Array Value := if canT ts = true then factsV (rm ts) else #[.int .i64 0, .int .i64 0, .int .i64 0, .int .i64 0, .int .i64 0]
theorem leastV_yes {ts : List RTm} (h : canT ts = true) : leastV ts = #[.int .i64 (lowT 1 ts), .int .i64 (lowT 2 ts), .int .i64 (lowT 3 ts), .int .i64 (lowT 4 ts), .int .i64 (lowT 5 ts)] := by
  unfold leastV; rw [if_pos h]; rfl
theorem leastV_no {ts : List RTm} (h : canT ts = false) : leastV ts = #[.int .i64 0, .int .i64 0, .int .i64 0, .int .i64 0, .int .i64 0] := by
  unfold leastV; rw [if_neg (by rw [h]; simp)]
set_option maxHeartbeats 8000000 in
set_option maxRecDepth 4000 in
theorem least_any (a : Option Addr) (cap : Nat) (ts : List RTm) (hl : ts.length ≤ 100000000) (w : World) (hr : ReadsTm w.heap.size w a ts) :
    Calls Try.prog 44 #[.slice a ts.length cap] w fun e w' => e = .returned (.tuple #[.agg (leastV ts), .bool (canT ts)]) ∧ Below w.heap.size w w' := by
  have HR : Hid (ReadsTm w.heap.size w a ts) := hr
  have HNo : Hid (canT ts = false → leastV ts = #[.int .i64 0, .int .i64 0, .int .i64 0, .int .i64 0, .int .i64 0]) := leastV_no
  have HYes : Hid (canT ts = true → leastV ts = #[.int .i64 (lowT 1 ts), .int .i64 (lowT 2 ts), .int .i64 (lowT 3 ts), .int .i64 (lowT 4 ts), .int .i64 (lowT 5 ts)]) := leastV_yes
  clear hr
  generalize leastV ts = lv at *
  generalize hcb : canT ts = cb
  have HCB : Hid (canT ts = cb) := hcb
  clear hcb
  obtain ⟨i0, hi, hzz⟩ := Option.map_eq_some_iff.1 intInfo1
  simp only [Prod.mk.injEq] at hzz
  obtain ⟨hi0, hi1, hi2⟩ := hzz
  have H0 : Hid (One (w.alloc (Obj.cells #[.int .i64 0, .int .i64 0, .int .i64 0, .int .i64 0, .int .i64 0] 28)) (w.heap.size + 1) (.slice (some ⟨w.heap.size + 1, 0, none⟩) 1 1) [0] ((w.alloc (Obj.cells #[.int .i64 0, .int .i64 0, .int .i64 0, .int .i64 0, .int .i64 0] 28)).alloc (Obj.cells #[.int .i64 0] 3))) := by
    have e : (w.alloc (Obj.cells #[.int .i64 0, .int .i64 0, .int .i64 0, .int .i64 0, .int .i64 0] 28)).heap.size = w.heap.size + 1 := by simp
    refine ⟨⟨rfl, .inr ⟨w.heap.size + 1, 1, #[.int .i64 0], rfl, Nat.le_refl _, ?_, Nat.le_refl _, by unfold maxLen; omega, rfl, rfl⟩⟩, by simp, ?_⟩
    · rw [← e]; exact heapNew _ _
    · rw [← e]; exact below_alloc _ _
  go_enter Try.func44, Try.ntmps44
  go_wp2
  go_loopw [4, 5, 6, 7] (fun v c _ _ wr => ∃ (k g cp : Nat), (1 ≤ k ∧ k ≤ 6) ∧ c = .int .i64 (k : Int) ∧ v = .slice (some ⟨g, 0, none⟩) k cp ∧ One (w.alloc (Obj.cells #[.int .i64 0, .int .i64 0, .int .i64 0, .int .i64 0, .int .i64 0] 28)) (w.heap.size + 1) (.slice (some ⟨g, 0, none⟩) k cp) (lowsL ts k) wr ∧ canN ts k) (fun _ c _ _ _ => 6 - (intOf c).toNat)
  case atStart => exact ⟨1, w.heap.size + 1, 1, by omega, rfl, rfl, H0.out, fun i h1 h2 => by omega⟩
  case round =>
    clear H0
    obtain ⟨k, g, cp, hk, rfl, rfl, hO, hC⟩ := hrel
    have HO : Hid (One (w.alloc (Obj.cells #[.int .i64 0, .int .i64 0, .int .i64 0, .int .i64 0, .int .i64 0] 28)) (w.heap.size + 1) (.slice (some ⟨g, 0, none⟩) k cp) (lowsL ts k) wr) := hO
    have HC : Hid (canN ts k) := hC
    have HB : Hid (Below w.heap.size w wr) := (below_alloc _ _).trans (hO.2.2.mono (by omega))
    have HZ : Hid (∀ W, Below (w.heap.size + 1) wr W → (∀ j, j < 5 → ∃ v, W.cell? ⟨w.heap.size, j, none⟩ = some v) ∧ ∀ j, W.frozen? ⟨w.heap.size, j, none⟩ = false) := fun W hW => by
      have hb := hO.2.2.trans hW
      refine ⟨fun j hj => ?_, fun j => (hb.frozen (p := ⟨w.heap.size, j, none⟩) (by simp)).trans (frozenNew _ _ _ rfl)⟩
      rcases (by omega : j = 0 ∨ j = 1 ∨ j = 2 ∨ j = 3 ∨ j = 4) with rfl | rfl | rfl | rfl | rfl <;> exact ⟨_, (hb.cell (p := ⟨w.heap.size, _, none⟩) (by simp)).trans (cellNew _ _ _ _ rfl rfl)⟩
    have hwB : w.heap.size + 1 ≤ wr.heap.size := hO.2.1
    clear hO hC
    by_cases hlt : k ≤ 5
    · have hlt' : (k : Int) ≤ 5 := by omega
      have hb5 := fun W (hb : Below wr.heap.size wr W) => bounds_any a cap ts hl k hk.1 hlt W ((HR.out.later HB.out).later hb)
      have HBd : Hid _ := hb5
      have HN : Hid (lowsL ts k ++ [lowT (k : Int) ts] = lowsL ts (k + 1)) := lowsL_next ts k hk.1
      have HY : Hid (¬ highT (k : Int) ts < lowT (k : Int) ts → canN ts (k + 1)) := fun h i h1 h2 => by
        rcases (by omega : i < k ∨ i = k) with q | rfl
        · exact HC.out i h1 q
        · omega
      have HX : Hid (highT (k : Int) ts < lowT (k : Int) ts → cb = false) := fun h => HCB.out.symm.trans (canT_no hk.1 hlt h)
      have hlen : (lowsL ts k).length = k := lowsL_length ts k
      clear hb5
      generalize lowT (k : Int) ts = lo at *
      generalize highT (k : Int) ts = hi' at *
      by_cases hq : hi' < lo
      · obtain rfl : cb = false := HX.out hq
        obtain rfl := HNo.out HCB.out
        clear HY HX HN HO
        go_wp2_with (go_at_call 72; refine (HBd.out _ (Below.refl _ _)).mono ?_; rintro e w2 ⟨rfl, hb2⟩; obtain ⟨z1, z2⟩ := HZ.out w2 (hb2.mono hwB); obtain ⟨v0, y0⟩ := z1 0 (by omega); obtain ⟨v1, y1⟩ := z1 1 (by omega); obtain ⟨v2, y2⟩ := z1 2 (by omega); obtain ⟨v3, y3⟩ := z1 3 (by omega); obtain ⟨v4, y4⟩ := z1 4 (by omega); have y5 := z2 0; have y6 := z2 1; have y7 := z2 2; have y8 := z2 3; have y9 := z2 4; clear z1 z2)
        refine bodyPost_ret (v := .tuple #[.agg #[.int .i64 0, .int .i64 0, .int .i64 0, .int .i64 0, .int .i64 0], .bool false]) (by simp [results, Try.results44, go_sem, y0, y1, y2, y3, y4]) rfl ⟨rfl, ?_⟩
        repeat refine Below.setCell ?_ (by dsimp only; omega) _
        exact chain HB.out hb2
      · have H1 : Hid _ := HY.out hq
        clear HY HX HNo HYes
        generalize lowsL ts k = L at *
        obtain rfl : L.length = k := hlen
        go_wp2_with (first | (go_at_call 72; refine (HBd.out _ (Below.refl _ _)).mono ?_; rintro e w2 ⟨rfl, hb2⟩; have HO2 : Hid (One (w.alloc (Obj.cells #[.int .i64 0, .int .i64 0, .int .i64 0, .int .i64 0, .int .i64 0] 28)) (w.heap.size + 1) (.slice (some ⟨g, 0, none⟩) L.length cp) L w2) := HO.out.later hb2; clear hb2) | (at_builtin; refine wpList_append_lies _ rfl _ _ 29 rfl (w.heap.size + 1) 3 i0 (.int .i64 0) 1 8 Try.underlying29 hi hi0 hi1 hi2 rfl (by decide) _ _ _ rfl (HO2.out.alloc _).1 ⟨w2.heap.size, 0, none⟩ 1 1 [.int .i64 lo] rfl rfl (newsOne w2 _ _) (by intro u hu; simp at hu; subst hu; rfl) (by omega) (by unfold maxLen; omega) (by omega) (HO2.out.alloc _).2.1 _ rfl ?_; intro g1 cp1 w3 hown1 hgrow1 hat1 hglt1; have HO3 : Hid (One (w.alloc (Obj.cells #[.int .i64 0, .int .i64 0, .int .i64 0, .int .i64 0, .int .i64 0] 28)) (w.heap.size + 1) (.slice (some ⟨g1, 0, none⟩) (L.length + 1) cp1) (L ++ [lo]) w3) := (HO2.out.alloc _).push hown1 hgrow1; clear hown1 hgrow1 hat1 hglt1))
        have HO4 : Hid (One (w.alloc (Obj.cells #[.int .i64 0, .int .i64 0, .int .i64 0, .int .i64 0, .int .i64 0] 28)) (w.heap.size + 1) (.slice (some ⟨g1, 0, none⟩) (L.length + 1) cp1) (lowsL ts (L.length + 1)) w3) := HN.out ▸ HO3.out
        go_roundw
        case rel => exact ⟨L.length + 1, g1, cp1, by omega, by go_num, rfl, HO4.out, H1.out⟩
        case measure => simp [intOf]; omega
    · obtain rfl : k = 6 := by omega
      obtain rfl : cb = true := HCB.out.symm.trans (canT_six HC.out)
      obtain rfl := HYes.out HCB.out
      have hcell : ∀ i : Nat, 1 ≤ i → i ≤ 5 → wr.cell? ⟨g, i, none⟩ = some (.int .i64 (lowT (i : Int) ts)) := fun i h1 h2 => by
        have hm := HO.out
        rcases hm.own2 (lowsL_length ts 6).symm with q | ⟨b, hb, _, _, hi, _⟩
        · have := lowsL_length ts 6; rw [q] at this; simp at this
        · simp at hb
          subst hb
          have := hi i (by rw [lowsL_length]; omega)
          rw [Nat.zero_add, lowsL_at ts i h1 h2] at this
          exact this
      have t1 : wr.cell? ⟨g, 1, none⟩ = some (.int .i64 (lowT 1 ts)) := hcell 1 (by omega) (by omega)
      have t2 : wr.cell? ⟨g, 2, none⟩ = some (.int .i64 (lowT 2 ts)) := hcell 2 (by omega) (by omega)
      have t3 : wr.cell? ⟨g, 3, none⟩ = some (.int .i64 (lowT 3 ts)) := hcell 3 (by omega) (by omega)
      have t4 : wr.cell? ⟨g, 4, none⟩ = some (.int .i64 (lowT 4 ts)) := hcell 4 (by omega) (by omega)
      have t5 : wr.cell? ⟨g, 5, none⟩ = some (.int .i64 (lowT 5 ts)) := hcell 5 (by omega) (by omega)
      obtain ⟨z1, z2⟩ := HZ.out wr (Below.refl _ _)
      have hg : w.heap.size ≠ g := by
        rcases HO.out.1.form (by rw [lowsL_length]; omega) with ⟨g', c', e, hB, _⟩
        simp at e
        omega
      obtain ⟨v0, y0⟩ := z1 0 (by omega)
      obtain ⟨v1, y1⟩ := z1 1 (by omega)
      obtain ⟨v2, y2⟩ := z1 2 (by omega)
      obtain ⟨v3, y3⟩ := z1 3 (by omega)
      obtain ⟨v4, y4⟩ := z1 4 (by omega)
      have u0 := z2 0
      have u1 := z2 1
      have u2 := z2 2
      have u3 := z2 3
      have u4 := z2 4
      clear hcell HZ z1 z2 HO HC HNo HYes HCB
      generalize hq1 : lowT 1 ts = l1 at *
      have HQ1 : Hid (lowT 1 ts = l1) := hq1
      clear hq1
      generalize hq2 : lowT 2 ts = l2 at *
      have HQ2 : Hid (lowT 2 ts = l2) := hq2
      clear hq2
      generalize hq3 : lowT 3 ts = l3 at *
      have HQ3 : Hid (lowT 3 ts = l3) := hq3
      clear hq3
      generalize hq4 : lowT 4 ts = l4 at *
      have HQ4 : Hid (lowT 4 ts = l4) := hq4
      clear hq4
      generalize hq5 : lowT 5 ts = l5 at *
      have HQ5 : Hid (lowT 5 ts = l5) := hq5
      clear hq5
      go_wp2
      refine wp_region_held_drew (S := fun W => W.cell? ⟨g, 1, none⟩ = some (.int .i64 l1) ∧ W.cell? ⟨g, 2, none⟩ = some (.int .i64 l2) ∧ W.cell? ⟨g, 3, none⟩ = some (.int .i64 l3) ∧ W.cell? ⟨g, 4, none⟩ = some (.int .i64 l4) ∧ W.cell? ⟨g, 5, none⟩ = some (.int .i64 l5)) (by kernel_rfl) ⟨t1, t2, t3, t4, t5⟩ (fun hH => ?_)
      refine wpAnyH_take (i := 0) (v := .slice (some ⟨g, 0, none⟩) 6 cp) rfl (by kernel_rfl) (by kernel_rfl) (by kernel_rfl) (fun _ _ _ h => h) (Or.inl ⟨by rfl, fun w hSw => by go_simp⟩) hH ?_
      refine wpAnyH_take (i := 1) (v := .pointer (some ⟨g, 1, none⟩)) rfl (by kernel_rfl) (by kernel_rfl) (by kernel_rfl) (fun _ _ _ h => h) (Or.inl ⟨by rfl, fun w hSw => by go_simp⟩) hH ?_
      try simp only [Act.put, List.setIfInBounds_toArray, List.set_cons_zero, List.set_cons_succ, List.getElem_toArray, List.getElem_cons_succ, List.getElem_cons_zero]
      refine wpAnyH_take (i := 2) (v := .int .i64 l1) rfl (by kernel_rfl) (by kernel_rfl) (by kernel_rfl) (fun _ _ _ h => h) (Or.inl ⟨by rfl, fun w hSw => by obtain ⟨s1, s2, s3, s4, s5⟩ := hSw; go_simp⟩) hH ?_
      try simp only [Act.put, List.setIfInBounds_toArray, List.set_cons_zero, List.set_cons_succ, List.getElem_toArray, List.getElem_cons_succ, List.getElem_cons_zero]
      refine wpAnyH_take (i := 3) (v := .slice (some ⟨g, 0, none⟩) 6 cp) rfl (by kernel_rfl) (by kernel_rfl) (by kernel_rfl) (fun _ _ _ h => h) (Or.inl ⟨by rfl, fun w hSw => by go_simp⟩) hH ?_
      try simp only [Act.put, List.setIfInBounds_toArray, List.set_cons_zero, List.set_cons_succ, List.getElem_toArray, List.getElem_cons_succ, List.getElem_cons_zero]
      refine wpAnyH_take (i := 4) (v := .pointer (some ⟨g, 2, none⟩)) rfl (by kernel_rfl) (by kernel_rfl) (by kernel_rfl) (fun _ _ _ h => h) (Or.inl ⟨by rfl, fun w hSw => by go_simp⟩) hH ?_
      try simp only [Act.put, List.setIfInBounds_toArray, List.set_cons_zero, List.set_cons_succ, List.getElem_toArray, List.getElem_cons_succ, List.getElem_cons_zero]
      refine wpAnyH_take (i := 5) (v := .int .i64 l2) rfl (by kernel_rfl) (by kernel_rfl) (by kernel_rfl) (fun _ _ _ h => h) (Or.inl ⟨by rfl, fun w hSw => by obtain ⟨s1, s2, s3, s4, s5⟩ := hSw; go_simp⟩) hH ?_
      try simp only [Act.put, List.setIfInBounds_toArray, List.set_cons_zero, List.set_cons_succ, List.getElem_toArray, List.getElem_cons_succ, List.getElem_cons_zero]
      refine wpAnyH_take (i := 6) (v := .slice (some ⟨g, 0, none⟩) 6 cp) rfl (by kernel_rfl) (by kernel_rfl) (by kernel_rfl) (fun _ _ _ h => h) (Or.inl ⟨by rfl, fun w hSw => by go_simp⟩) hH ?_
      try simp only [Act.put, List.setIfInBounds_toArray, List.set_cons_zero, List.set_cons_succ, List.getElem_toArray, List.getElem_cons_succ, List.getElem_cons_zero]
      refine wpAnyH_take (i := 7) (v := .pointer (some ⟨g, 3, none⟩)) rfl (by kernel_rfl) (by kernel_rfl) (by kernel_rfl) (fun _ _ _ h => h) (Or.inl ⟨by rfl, fun w hSw => by go_simp⟩) hH ?_
      try simp only [Act.put, List.setIfInBounds_toArray, List.set_cons_zero, List.set_cons_succ, List.getElem_toArray, List.getElem_cons_succ, List.getElem_cons_zero]
      refine wpAnyH_take (i := 8) (v := .int .i64 l3) rfl (by kernel_rfl) (by kernel_rfl) (by kernel_rfl) (fun _ _ _ h => h) (Or.inl ⟨by rfl, fun w hSw => by obtain ⟨s1, s2, s3, s4, s5⟩ := hSw; go_simp⟩) hH ?_
      try simp only [Act.put, List.setIfInBounds_toArray, List.set_cons_zero, List.set_cons_succ, List.getElem_toArray, List.getElem_cons_succ, List.getElem_cons_zero]
      refine wpAnyH_take (i := 9) (v := .slice (some ⟨g, 0, none⟩) 6 cp) rfl (by kernel_rfl) (by kernel_rfl) (by kernel_rfl) (fun _ _ _ h => h) (Or.inl ⟨by rfl, fun w hSw => by go_simp⟩) hH ?_
      try simp only [Act.put, List.setIfInBounds_toArray, List.set_cons_zero, List.set_cons_succ, List.getElem_toArray, List.getElem_cons_succ, List.getElem_cons_zero]
      refine wpAnyH_take (i := 10) (v := .pointer (some ⟨g, 4, none⟩)) rfl (by kernel_rfl) (by kernel_rfl) (by kernel_rfl) (fun _ _ _ h => h) (Or.inl ⟨by rfl, fun w hSw => by go_simp⟩) hH ?_
      try simp only [Act.put, List.setIfInBounds_toArray, List.set_cons_zero, List.set_cons_succ, List.getElem_toArray, List.getElem_cons_succ, List.getElem_cons_zero]
      refine wpAnyH_take (i := 11) (v := .int .i64 l4) rfl (by kernel_rfl) (by kernel_rfl) (by kernel_rfl) (fun _ _ _ h => h) (Or.inl ⟨by rfl, fun w hSw => by obtain ⟨s1, s2, s3, s4, s5⟩ := hSw; go_simp⟩) hH ?_
      try simp only [Act.put, List.setIfInBounds_toArray, List.set_cons_zero, List.set_cons_succ, List.getElem_toArray, List.getElem_cons_succ, List.getElem_cons_zero]
      refine wpAnyH_take (i := 12) (v := .slice (some ⟨g, 0, none⟩) 6 cp) rfl (by kernel_rfl) (by kernel_rfl) (by kernel_rfl) (fun _ _ _ h => h) (Or.inl ⟨by rfl, fun w hSw => by go_simp⟩) hH ?_
      try simp only [Act.put, List.setIfInBounds_toArray, List.set_cons_zero, List.set_cons_succ, List.getElem_toArray, List.getElem_cons_succ, List.getElem_cons_zero]
      refine wpAnyH_take (i := 13) (v := .pointer (some ⟨g, 5, none⟩)) rfl (by kernel_rfl) (by kernel_rfl) (by kernel_rfl) (fun _ _ _ h => h) (Or.inl ⟨by rfl, fun w hSw => by go_simp⟩) hH ?_
      try simp only [Act.put, List.setIfInBounds_toArray, List.set_cons_zero, List.set_cons_succ, List.getElem_toArray, List.getElem_cons_succ, List.getElem_cons_zero]
      refine wpAnyH_take (i := 14) (v := .int .i64 l5) rfl (by kernel_rfl) (by kernel_rfl) (by kernel_rfl) (fun _ _ _ h => h) (Or.inl ⟨by rfl, fun w hSw => by obtain ⟨s1, s2, s3, s4, s5⟩ := hSw; go_simp⟩) hH ?_
      try simp only [Act.put, List.setIfInBounds_toArray, List.set_cons_zero, List.set_cons_succ, List.getElem_toArray, List.getElem_cons_succ, List.getElem_cons_zero]
      refine wpAnyH_take (i := 15) (v := .agg #[.int .i64 l1, .int .i64 l2, .int .i64 l3, .int .i64 l4, .int .i64 l5]) rfl (by kernel_rfl) (by kernel_rfl) (by kernel_rfl) (fun _ _ _ h => h) (Or.inl ⟨by rfl, fun w hSw => by go_simp⟩) hH ?_
      try simp only [Act.put, List.setIfInBounds_toArray, List.set_cons_zero, List.set_cons_succ, List.getElem_toArray, List.getElem_cons_succ, List.getElem_cons_zero]
      refine wpAnyH_ready (rs := [16]) (by kernel_rfl) (by simp) ?_
      refine AllReadyH.cons rfl (fun K hK => ?_) AllReadyH.nil
      go_simp
      obtain ⟨W5, hW5⟩ : ∃ W5, W5 = ((((wr.setCell ⟨w.heap.size, 0, none⟩ (.int .i64 l1)).setCell ⟨w.heap.size, 1, none⟩ (.int .i64 l2)).setCell ⟨w.heap.size, 2, none⟩ (.int .i64 l3)).setCell ⟨w.heap.size, 3, none⟩ (.int .i64 l4)).setCell ⟨w.heap.size, 4, none⟩ (.int .i64 l5) := ⟨_, rfl⟩
      have far : ∀ j, W5.cell? ⟨g, j, none⟩ = wr.cell? ⟨g, j, none⟩ := fun j => by
        rw [hW5]
        exact (((((World.cell?_setCell_far _ _ _ _ hg).trans (World.cell?_setCell_far _ _ _ _ hg)).trans (World.cell?_setCell_far _ _ _ _ hg)).trans (World.cell?_setCell_far _ _ _ _ hg)).trans (World.cell?_setCell_far _ _ _ _ hg))
      have B5 : Hid (Below w.heap.size w W5.drew) := by
        rw [hW5]
        refine chain ?_ (below_drew _)
        exact ((((HB.out.setCell (Nat.le_refl _) _).setCell (Nat.le_refl _) _).setCell (Nat.le_refl _) _).setCell (Nat.le_refl _) _).setCell (Nat.le_refl _) _
      have p0 : W5.drew.cell? ⟨w.heap.size, 0, none⟩ = some (.int .i64 l1) := by rw [hW5]; simp [go_sem, y0]
      have p1 : W5.drew.cell? ⟨w.heap.size, 1, none⟩ = some (.int .i64 l2) := by rw [hW5]; simp [go_sem, y1]
      have p2 : W5.drew.cell? ⟨w.heap.size, 2, none⟩ = some (.int .i64 l3) := by rw [hW5]; simp [go_sem, y2]
      have p3 : W5.drew.cell? ⟨w.heap.size, 3, none⟩ = some (.int .i64 l4) := by rw [hW5]; simp [go_sem, y3]
      have p4 : W5.drew.cell? ⟨w.heap.size, 4, none⟩ = some (.int .i64 l5) := by rw [hW5]; simp [go_sem, y4]
      have hS5 := And.intro ((far 1).trans t1) (And.intro ((far 2).trans t2) (And.intro ((far 3).trans t3) (And.intro ((far 4).trans t4) ((far 5).trans t5))))
      rw [← hW5]
      refine hK.out _ _ hS5 (fun _ => ?_)
      clear hK K
      try simp only [Act.put, List.setIfInBounds_toArray, List.set_cons_zero, List.set_cons_succ, List.getElem_toArray, List.getElem_cons_succ, List.getElem_cons_zero]
      clear y0 y1 y2 y3 y4 u0 u1 u2 u3 u4 hW5 far t1 t2 t3 t4 t5 hg HB
      refine wpAnyH_take (i := 17) (v := .bool true) rfl (by kernel_rfl) (by kernel_rfl) (by kernel_rfl) (fun _ _ _ h => h) (Or.inl ⟨by rfl, fun w hSw => by go_simp⟩) hS5 ?_
      try simp only [Act.put, List.setIfInBounds_toArray, List.set_cons_zero, List.set_cons_succ, List.getElem_toArray, List.getElem_cons_succ, List.getElem_cons_zero]
      clear hS5 hH
      refine wpAnyH_done (by kernel_rfl) ?_ _
      try simp
      generalize W5.drew = W6 at *
      go_wp2
      refine bodyPost_ret (v := .tuple #[.agg #[.int .i64 l1, .int .i64 l2, .int .i64 l3, .int .i64 l4, .int .i64 l5], .bool true]) (by simp [results, Try.results44, go_sem, p0, p1, p2, p3, p4]) rfl ⟨by rw [HQ1.out, HQ2.out, HQ3.out, HQ4.out, HQ5.out], B5.out⟩
end Go.Proofs.Ythkmgccmeoigpaa
