/-
  Texts of this claim laid together: TlA, TlB.
-/
import Derived.Test.YtabpkfhbnendjaaGreatM1
/-
  Lines and baskets: what they come to (the program's due, empty, total; the specification's l08Total).
-/
namespace Go.Proofs.YtabpkfhbnendjaaGreat
open Go.ChangeShapes Go.WideShapes Go.ChangeAt Go.RowKit Go.Deep
set_option linter.unusedVariables false

def dueL (l : RLi) : Int := l.am + l.dp
def totL (ls : List RLi) : Int := (ls.map dueL).sum
/-- A line whose numbers are not below 0. -/
def LiN (l : RLi) : Prop := 0 ≤ l.am ∧ 0 ≤ l.dp ∧ l.am ≤ 1000000000 ∧ l.dp ≤ 1000000000
theorem totL_nil : totL [] = 0 := rfl
theorem totL_append (a b : List RLi) : totL (a ++ b) = totL a + totL b := by unfold totL; rw [List.map_append, List.sum_append]
theorem totL_one (l : RLi) : totL [l] = l.am + l.dp := by simp [totL, dueL]
theorem totL_next (ls : List RLi) (k : Nat) (h : k < ls.length) : totL (ls.take (k + 1)) = totL (ls.take k) + ((ls.getD k zLi).am + (ls.getD k zLi).dp) := by
  have e : ls.getD k zLi = ls[k] := by simp [List.getD_eq_getElem?_getD, h]
  rw [List.take_succ_eq_append_getElem h, totL_append, totL_one, e]
theorem totL_nn {ls : List RLi} (h : ∀ l ∈ ls, LiN l) : 0 ≤ totL ls ∧ totL ls ≤ 2000000000 * (ls.length : Int) := by
  induction ls with
  | nil => exact ⟨Int.le_refl _, by simp [totL]⟩
  | cons l r ih =>
    obtain ⟨h1, h2⟩ := ih (fun x hx => h x (List.mem_cons_of_mem _ hx))
    obtain ⟨k1, k2, k3, k4⟩ := h l List.mem_cons_self
    have e : totL (l :: r) = l.am + l.dp + totL r := by unfold totL; rw [List.map_cons, List.sum_cons]; rfl
    rw [e, List.length_cons]
    omega
theorem totL_take {ls : List RLi} (h : ∀ l ∈ ls, LiN l) (k : Nat) : 0 ≤ totL (ls.take k) ∧ totL (ls.take k) ≤ 2000000000 * (k : Int) := by
  have q := totL_nn (ls := ls.take k) (fun l hl => h l (List.mem_of_mem_take hl))
  have : ((ls.take k).length : Int) ≤ (k : Int) := by rw [List.length_take]; omega
  omega
theorem readsLi_later {w w' : World} {a : Option Addr} {rs : List RLi} (h : ReadsLi w.heap.size w a rs) (hb : Below w.heap.size w w') : ReadsLi w'.heap.size w' a rs := (h.below hb).mono hb.size
theorem due_any (a b c d : Int) (h : -2000000000 ≤ c ∧ c ≤ 2000000000 ∧ -2000000000 ≤ d ∧ d ≤ 2000000000) (w : World) :
    Calls Tryz.prog 44 #[.agg #[.int .i64 a, .int .i64 b, .int .i64 c, .int .i64 d]] w fun e w' => e = .returned (.int .i64 (c + d)) ∧ Below w.heap.size w w' := by
  have hw : IntKind.i64.wrap (c + d) = c + d := wrap_id _ (by omega) (by omega)
  go_enter Tryz.func44, Tryz.ntmps44
  go_wp2
  go_ret
  exact ⟨rfl, below_alloc _ _⟩
theorem empty_any (a : Option Addr) (n cap : Nat) (sh : Int) (w : World) :
    Calls Tryz.prog 112 #[.agg #[.slice a n cap, .int .i64 sh]] w fun e w' => e = .returned (.bool ((n : Int) == 0)) ∧ Below w.heap.size w w' := by
  go_enter Tryz.func112, Tryz.ntmps112
  go_wp2
  go_ret
  exact ⟨rfl, below_alloc _ _⟩
set_option maxHeartbeats 4000000 in
theorem total_any (a : Option Addr) (cap : Nat) (ls : List RLi) (hn : ∀ l ∈ ls, LiN l) (hl : ls.length ≤ 1000) (sh : Int) (w : World) (hr : ReadsLi w.heap.size w a ls) :
    Calls Tryz.prog 48 #[.agg #[.slice a ls.length cap, .int .i64 sh]] w fun e w' => e = .returned (.int .i64 (totL ls)) ∧ Below w.heap.size w w' := by
  have HR : Hid (ReadsLi w.heap.size w a ls) := hr
  have HNn : Hid (∀ l ∈ ls, LiN l) := hn
  clear hr hn
  generalize htot : totL ls = tot
  have HTot : Hid (totL ls = tot) := htot
  clear htot
  go_enter Tryz.func48, Tryz.ntmps48
  go_wp2
  go_loopw [3, 5, 9] (fun s _ i wr => ∃ k : Nat, k ≤ ls.length ∧ i = .int .i64 (k : Int) ∧ s = .int .i64 (totL (ls.take k)) ∧ Below w.heap.size w wr) (fun _ _ i _ => ls.length - (intOf i).toNat)
  case atStart => exact ⟨0, Nat.zero_le _, rfl, rfl, below_alloc _ _⟩
  case round =>
    obtain ⟨k, hk, rfl, rfl, hb⟩ := hrel
    have HB : Hid (Below w.heap.size w wr) := hb
    clear hb
    by_cases hlt : k < ls.length
    · have hlt' : (k : Int) < (ls.length : Int) := by omega
      rcases HR.out with h | ⟨b0, o0, ha, hB0, ia⟩
      · rw [h] at hlt; simp at hlt
      obtain ⟨c0, c1, c2, c3⟩ := (ia.below HB.out hB0) k hlt
      obtain ⟨n1, n2, n3, n4⟩ := getLi HNn.out hlt
      obtain ⟨t1, t2⟩ := totL_take HNn.out k
      have HX : Hid (totL (ls.take k) + ((ls.getD k zLi).am + (ls.getD k zLi).dp) = totL (ls.take (k + 1))) := (totL_next ls k hlt).symm
      subst ha
      clear ia
      generalize totL (ls.take k) = s at *
      generalize ls.getD k zLi = q at *
      obtain ⟨x1, x2, x3, x4⟩ := q
      dsimp only at c0 c1 c2 c3 n1 n2 n3 n4 HX
      have hD := fun w => due_any x1 x2 x3 x4 ⟨by omega, by omega, by omega, by omega⟩ w
      have hw : IntKind.i64.wrap (s + (x3 + x4)) = s + (x3 + x4) := wrap_id _ (by omega) (by omega)
      go_wp2_with (go_at_call 44; refine (hD _).mono ?_; rintro e w2 ⟨rfl, hb2⟩)
      exact ⟨⟨k + 1, by omega, by go_num, by rw [← HX.out], chain (chain HB.out (below_alloc _ _)) hb2⟩, by simp [intOf]; omega⟩
    · have hle : (ls.length : Int) ≤ (k : Int) := by omega
      have HE : Hid (totL (ls.take k) = tot) := by have := HTot.out; rwa [List.take_of_length_le (by omega)]
      go_wp2
      go_ret
      exact ⟨ret_int HE.out, HB.out⟩
set_option maxHeartbeats 4000000 in
theorem specTotal_any (a : Option Addr) (cap : Nat) (ls : List RLi) (hn : ∀ l ∈ ls, LiN l) (hl : ls.length ≤ 1000) (sh : Int) (w : World) (hr : ReadsLi w.heap.size w a ls) :
    Calls Tryz.prog 34 #[.agg #[.slice a ls.length cap, .int .i64 sh]] w fun e w' => e = .returned (.int .i64 (totL ls)) ∧ Below w.heap.size w w' := by
  have HR : Hid (ReadsLi w.heap.size w a ls) := hr
  have HNn : Hid (∀ l ∈ ls, LiN l) := hn
  clear hr hn
  generalize htot : totL ls = tot
  have HTot : Hid (totL ls = tot) := htot
  clear htot
  go_enter Tryz.func34, Tryz.ntmps34
  go_wp2
  go_loopw [3, 4] (fun s i wr => ∃ k : Nat, k ≤ ls.length ∧ i = .int .i64 (k : Int) ∧ s = .int .i64 (totL (ls.take k)) ∧ wr.cell? ⟨w.heap.size, 0, none⟩ = some (.slice a ls.length cap) ∧ w.heap.size < wr.heap.size ∧ Below w.heap.size w wr) (fun _ i _ => ls.length - (intOf i).toNat)
  case atStart => exact ⟨0, Nat.zero_le _, rfl, rfl, cellNew _ _ _ _ rfl rfl, by simp, below_alloc _ _⟩
  case round =>
    obtain ⟨k, hk, rfl, rfl, hc, hsz, hb⟩ := hrel
    have HB : Hid (Below w.heap.size w wr) := hb
    clear hb
    by_cases hlt : k < ls.length
    · have hlt' : (k : Int) < (ls.length : Int) := by omega
      rcases HR.out with h | ⟨b0, o0, ha, hB0, ia⟩
      · rw [h] at hlt; simp at hlt
      obtain ⟨c0, c1, c2, c3⟩ := (ia.below HB.out hB0) k hlt
      obtain ⟨n1, n2, n3, n4⟩ := getLi HNn.out hlt
      obtain ⟨t1, t2⟩ := totL_take HNn.out k
      have HX : Hid (totL (ls.take k) + ((ls.getD k zLi).am + (ls.getD k zLi).dp) = totL (ls.take (k + 1))) := (totL_next ls k hlt).symm
      subst ha
      clear ia
      generalize totL (ls.take k) = s at *
      generalize ls.getD k zLi = q at *
      obtain ⟨x1, x2, x3, x4⟩ := q
      dsimp only at c0 c1 c2 c3 n1 n2 n3 n4 HX
      have hw0 : IntKind.i64.wrap (x3 + x4) = x3 + x4 := wrap_id _ (by omega) (by omega)
      have hw : IntKind.i64.wrap (s + (x3 + x4)) = s + (x3 + x4) := wrap_id _ (by omega) (by omega)
      have HQ : Hid (∀ W, Below wr.heap.size wr W → W.cell? ⟨w.heap.size, 0, none⟩ = some (.slice (some ⟨b0, o0, none⟩) ls.length cap) ∧ W.cell? ⟨b0, o0 + k * 4 + 2, none⟩ = some (.int .i64 x3) ∧ W.cell? ⟨b0, o0 + k * 4 + 3, none⟩ = some (.int .i64 x4)) := fun W hW => by
        have hlt0 : b0 < wr.heap.size := World.block_lt_of_cell? _ _ c0
        exact ⟨(hW.cell (p := ⟨w.heap.size, 0, none⟩) hsz).trans hc, (hW.cell (p := ⟨b0, o0 + k * 4 + 2, none⟩) hlt0).trans c2, (hW.cell (p := ⟨b0, o0 + k * 4 + 3, none⟩) hlt0).trans c3⟩
      have HX2 : Hid (wr.cell? ⟨w.heap.size, 0, none⟩ = some (.slice (some ⟨b0, o0, none⟩) ls.length cap) ∧ w.heap.size < wr.heap.size) := ⟨hc, hsz⟩
      clear c0 c1 c2 c3
      go_wp2_with fail
      clear hc hsz
      refine wp_region_held_drew (S := fun W => Below wr.heap.size wr W) (by kernel_rfl) (below_drew _) (fun hH => ?_)
      refine wpAnyH_take (i := 0) (v := .int .i64 s) rfl (by kernel_rfl) (by kernel_rfl) (by kernel_rfl) (fun _ _ _ h => h) (Or.inl ⟨by rfl, fun w hSw => by go_simp⟩) hH ?_
      refine wpAnyH_take (i := 1) (v := .pointer (some ⟨w.heap.size, 0, none⟩)) rfl (by kernel_rfl) (by kernel_rfl) (by kernel_rfl) (fun _ _ _ h => h) (Or.inl ⟨by rfl, fun w hSw => by go_simp⟩) hH ?_
      try simp only [Act.put, List.setIfInBounds_toArray, List.set_cons_zero, List.set_cons_succ, List.getElem_toArray, List.getElem_cons_succ, List.getElem_cons_zero]
      refine wpAnyH_take (i := 2) (v := .slice (some ⟨b0, o0, none⟩) ls.length cap) rfl (by kernel_rfl) (by kernel_rfl) (by kernel_rfl) (fun _ _ _ h => h) (Or.inl ⟨by rfl, fun w hSw => by obtain ⟨q0, q1, q2⟩ := HQ.out w hSw; go_simp⟩) hH ?_
      try simp only [Act.put, List.setIfInBounds_toArray, List.set_cons_zero, List.set_cons_succ, List.getElem_toArray, List.getElem_cons_succ, List.getElem_cons_zero]
      refine wpAnyH_take (i := 3) (v := .int .i64 (k : Int)) rfl (by kernel_rfl) (by kernel_rfl) (by kernel_rfl) (fun _ _ _ h => h) (Or.inl ⟨by rfl, fun w hSw => by go_simp⟩) hH ?_
      try simp only [Act.put, List.setIfInBounds_toArray, List.set_cons_zero, List.set_cons_succ, List.getElem_toArray, List.getElem_cons_succ, List.getElem_cons_zero]
      refine wpAnyH_take (i := 4) (v := .pointer (some ⟨b0, o0 + k * 4, none⟩)) rfl (by kernel_rfl) (by kernel_rfl) (by kernel_rfl) (fun _ _ _ h => h) (Or.inl ⟨by rfl, fun w hSw => by go_simp⟩) hH ?_
      try simp only [Act.put, List.setIfInBounds_toArray, List.set_cons_zero, List.set_cons_succ, List.getElem_toArray, List.getElem_cons_succ, List.getElem_cons_zero]
      refine wpAnyH_take (i := 5) (v := .pointer (some ⟨b0, o0 + k * 4 + 2, none⟩)) rfl (by kernel_rfl) (by kernel_rfl) (by kernel_rfl) (fun _ _ _ h => h) (Or.inl ⟨by rfl, fun w hSw => by go_simp⟩) hH ?_
      try simp only [Act.put, List.setIfInBounds_toArray, List.set_cons_zero, List.set_cons_succ, List.getElem_toArray, List.getElem_cons_succ, List.getElem_cons_zero]
      refine wpAnyH_take (i := 6) (v := .int .i64 x3) rfl (by kernel_rfl) (by kernel_rfl) (by kernel_rfl) (fun _ _ _ h => h) (Or.inl ⟨by rfl, fun w hSw => by obtain ⟨q0, q1, q2⟩ := HQ.out w hSw; go_simp⟩) hH ?_
      try simp only [Act.put, List.setIfInBounds_toArray, List.set_cons_zero, List.set_cons_succ, List.getElem_toArray, List.getElem_cons_succ, List.getElem_cons_zero]
      refine wpAnyH_take (i := 7) (v := .pointer (some ⟨w.heap.size, 0, none⟩)) rfl (by kernel_rfl) (by kernel_rfl) (by kernel_rfl) (fun _ _ _ h => h) (Or.inl ⟨by rfl, fun w hSw => by go_simp⟩) hH ?_
      try simp only [Act.put, List.setIfInBounds_toArray, List.set_cons_zero, List.set_cons_succ, List.getElem_toArray, List.getElem_cons_succ, List.getElem_cons_zero]
      refine wpAnyH_take (i := 8) (v := .slice (some ⟨b0, o0, none⟩) ls.length cap) rfl (by kernel_rfl) (by kernel_rfl) (by kernel_rfl) (fun _ _ _ h => h) (Or.inl ⟨by rfl, fun w hSw => by obtain ⟨q0, q1, q2⟩ := HQ.out w hSw; go_simp⟩) hH ?_
      try simp only [Act.put, List.setIfInBounds_toArray, List.set_cons_zero, List.set_cons_succ, List.getElem_toArray, List.getElem_cons_succ, List.getElem_cons_zero]
      refine wpAnyH_take (i := 9) (v := .int .i64 (k : Int)) rfl (by kernel_rfl) (by kernel_rfl) (by kernel_rfl) (fun _ _ _ h => h) (Or.inl ⟨by rfl, fun w hSw => by go_simp⟩) hH ?_
      try simp only [Act.put, List.setIfInBounds_toArray, List.set_cons_zero, List.set_cons_succ, List.getElem_toArray, List.getElem_cons_succ, List.getElem_cons_zero]
      refine wpAnyH_take (i := 10) (v := .pointer (some ⟨b0, o0 + k * 4, none⟩)) rfl (by kernel_rfl) (by kernel_rfl) (by kernel_rfl) (fun _ _ _ h => h) (Or.inl ⟨by rfl, fun w hSw => by go_simp⟩) hH ?_
      try simp only [Act.put, List.setIfInBounds_toArray, List.set_cons_zero, List.set_cons_succ, List.getElem_toArray, List.getElem_cons_succ, List.getElem_cons_zero]
      refine wpAnyH_take (i := 11) (v := .pointer (some ⟨b0, o0 + k * 4 + 3, none⟩)) rfl (by kernel_rfl) (by kernel_rfl) (by kernel_rfl) (fun _ _ _ h => h) (Or.inl ⟨by rfl, fun w hSw => by go_simp⟩) hH ?_
      try simp only [Act.put, List.setIfInBounds_toArray, List.set_cons_zero, List.set_cons_succ, List.getElem_toArray, List.getElem_cons_succ, List.getElem_cons_zero]
      refine wpAnyH_take (i := 12) (v := .int .i64 x4) rfl (by kernel_rfl) (by kernel_rfl) (by kernel_rfl) (fun _ _ _ h => h) (Or.inl ⟨by rfl, fun w hSw => by obtain ⟨q0, q1, q2⟩ := HQ.out w hSw; go_simp⟩) hH ?_
      try simp only [Act.put, List.setIfInBounds_toArray, List.set_cons_zero, List.set_cons_succ, List.getElem_toArray, List.getElem_cons_succ, List.getElem_cons_zero]
      refine wpAnyH_take (i := 13) (v := .int .i64 (x3 + x4)) rfl (by kernel_rfl) (by kernel_rfl) (by kernel_rfl) (fun _ _ _ h => h) (Or.inl ⟨by rfl, fun w hSw => by go_simp⟩) hH ?_
      try simp only [Act.put, List.setIfInBounds_toArray, List.set_cons_zero, List.set_cons_succ, List.getElem_toArray, List.getElem_cons_succ, List.getElem_cons_zero]
      refine wpAnyH_take (i := 14) (v := .int .i64 (s + (x3 + x4))) rfl (by kernel_rfl) (by kernel_rfl) (by kernel_rfl) (fun _ _ _ h => h) (Or.inl ⟨by rfl, fun w hSw => by go_simp⟩) hH ?_
      try simp only [Act.put, List.setIfInBounds_toArray, List.set_cons_zero, List.set_cons_succ, List.getElem_toArray, List.getElem_cons_succ, List.getElem_cons_zero]
      refine wpAnyH_take (i := 15) (v := .int .i64 (s + (x3 + x4))) rfl (by kernel_rfl) (by kernel_rfl) (by kernel_rfl) (fun _ _ _ h => h) (Or.inl ⟨by rfl, fun w hSw => by go_simp⟩) hH ?_
      try simp only [Act.put, List.setIfInBounds_toArray, List.set_cons_zero, List.set_cons_succ, List.getElem_toArray, List.getElem_cons_succ, List.getElem_cons_zero]
      refine wpAnyH_done (by kernel_rfl) ?_ _
      try simp
      go_wp2
      exact ⟨⟨k + 1, by omega, by go_num, by rw [← HX.out], (HQ.out _ hH).1, Nat.lt_of_lt_of_le HX2.out.2 hH.size, chain HB.out hH⟩, by simp [intOf]; omega⟩
    · have hle : (ls.length : Int) ≤ (k : Int) := by omega
      have HE : Hid (totL (ls.take k) = tot) := by have := HTot.out; rwa [List.take_of_length_le (by omega)]
      go_wp2
      go_ret
      exact ⟨ret_int HE.out, HB.out⟩
end Go.Proofs.YtabpkfhbnendjaaGreat

/-
  What stands against an act (the program's six against methods).
-/
namespace Go.Proofs.YtabpkfhbnendjaaGreat
open Go.ChangeShapes Go.WideShapes Go.ChangeAt Go.RowKit Go.Deep
set_option linter.unusedVariables false

def scanC (ls : List RLi) (sh : Int) (am dp age : Int) : Int := if sh < age then 16 else if (ls.length : Int) = 50 then 14 else if 1000000000 < totL ls + (am + dp) then 11 else 0
def voidC (ls : List RLi) (n : Int) : Int := if 0 ≤ n ∧ n < (ls.length : Int) then 0 else 8
def showC (n : Int) : Int := if 0 ≤ n ∧ n ≤ 120 then 0 else 5
def suspC (ls : List RLi) (kn : Nat) : Int := if (ls.length : Int) = 0 then 12 else if (kn : Int) = 5 then 14 else 0
def resC (ls : List RLi) (kn : Nat) (n : Int) : Int := if 0 ≤ n ∧ n < (kn : Int) then (if (ls.length : Int) = 0 then 0 else 12) else 8
def payC (ls : List RLi) (n : Int) : Int := if (ls.length : Int) = 0 then 12 else if n < totL ls then 19 else if 1000000000 < n then 5 else 0
theorem showAgainst_any (n : Int) (la : Option Addr) (lc : Nat) (ls : List RLi) (sh : Int) (iv kv : Value) (sl tk dp c0 c1 c2 c3 c4 c5 c6 c7 c8 : Int) (w : World) :
    Calls Tryz.prog 116 #[.agg #[.int .i64 n], .agg #[.slice la ls.length lc, .int .i64 sh, iv, kv, .int .i64 sl, .int .i64 tk, .int .i64 dp, .int .i64 c0, .int .i64 c1, .int .i64 c2, .int .i64 c3, .int .i64 c4, .int .i64 c5, .int .i64 c6, .int .i64 c7, .int .i64 c8]] w fun e w' => e = .returned (.int .i64 (showC n)) ∧ Below w.heap.size w w' := by
  have l1 : ∀ n : Nat, n < n + 1 + 1 := fun n => by omega
  rcases (by omega : n < 0 ∨ (0 ≤ n ∧ 120 < n) ∨ (0 ≤ n ∧ n ≤ 120)) with h | ⟨h, h'⟩ | ⟨h, h'⟩
  · have e : showC n = 5 := by unfold showC; rw [if_neg (by omega)]
    rw [e]
    clear e
    go_enter Tryz.func116, Tryz.ntmps116
    go_wp2
    go_ret
    exact ⟨rfl, chain (below_alloc _ _) (below_alloc _ _)⟩
  · have e : showC n = 5 := by unfold showC; rw [if_neg (by omega)]
    rw [e]
    clear e
    go_enter Tryz.func116, Tryz.ntmps116
    go_wp2
    go_ret
    exact ⟨rfl, chain (below_alloc _ _) (below_alloc _ _)⟩
  · have e : showC n = 0 := by unfold showC; rw [if_pos (by omega)]
    rw [e]
    clear e
    go_enter Tryz.func116, Tryz.ntmps116
    go_wp2
    go_ret
    exact ⟨rfl, chain (below_alloc _ _) (below_alloc _ _)⟩
theorem voidAgainst_any (n : Int) (la : Option Addr) (lc : Nat) (ls : List RLi) (sh : Int) (iv kv : Value) (sl tk dp c0 c1 c2 c3 c4 c5 c6 c7 c8 : Int) (hl : ls.length ≤ 1000) (w : World) :
    Calls Tryz.prog 115 #[.agg #[.int .i64 n], .agg #[.slice la ls.length lc, .int .i64 sh, iv, kv, .int .i64 sl, .int .i64 tk, .int .i64 dp, .int .i64 c0, .int .i64 c1, .int .i64 c2, .int .i64 c3, .int .i64 c4, .int .i64 c5, .int .i64 c6, .int .i64 c7, .int .i64 c8]] w fun e w' => e = .returned (.int .i64 (voidC ls n)) ∧ Below w.heap.size w w' := by
  have l1 : ∀ n : Nat, n < n + 1 + 1 := fun n => by omega
  unfold voidC
  generalize ls.length = m at *
  rcases (by omega : n < 0 ∨ (0 ≤ n ∧ (m : Int) ≤ n) ∨ (0 ≤ n ∧ n < (m : Int))) with h | ⟨h, h'⟩ | ⟨h, h'⟩
  · rw [if_neg (by omega)]
    go_enter Tryz.func115, Tryz.ntmps115
    go_wp2
    go_ret
    exact ⟨rfl, chain (below_alloc _ _) (below_alloc _ _)⟩
  · rw [if_neg (by omega)]
    go_enter Tryz.func115, Tryz.ntmps115
    go_wp2
    go_ret
    exact ⟨rfl, chain (below_alloc _ _) (below_alloc _ _)⟩
  · rw [if_pos (by omega)]
    go_enter Tryz.func115, Tryz.ntmps115
    go_wp2
    go_ret
    exact ⟨rfl, chain (below_alloc _ _) (below_alloc _ _)⟩
/-- The cells of the register that an act looks at, in block b. -/
def RegAt (W : World) (b : Nat) (la : Option Addr) (n lc : Nat) (sh : Int) (kv : Value) : Prop := W.cell? ⟨b, 0, none⟩ = some (.slice la n lc) ∧ W.cell? ⟨b, 1, none⟩ = some (.int .i64 sh) ∧ W.cell? ⟨b, 3, none⟩ = some kv
theorem regAt {w : World} {V : Array Value} {o : Obj} {t : TypeId} {la : Option Addr} {n lc : Nat} {sh : Int} {kv : Value} (h0 : V[0]? = some (.slice la n lc)) (h1 : V[1]? = some (.int .i64 sh)) (h3 : V[3]? = some kv) {W : World} (hW : Below ((w.alloc o).alloc (Obj.cells V t)).heap.size ((w.alloc o).alloc (Obj.cells V t)) W) : RegAt W (w.heap.size + 1) la n lc sh kv := by
  have q : ∀ j v, V[j]? = some v → W.cell? ⟨w.heap.size + 1, j, none⟩ = some v := fun j v hv => (hW.cell (p := ⟨w.heap.size + 1, j, none⟩) (by simp)).trans (cellNew _ _ _ _ (by simp) hv)
  exact ⟨q _ _ h0, q _ _ h1, q _ _ h3⟩
set_option maxHeartbeats 2000000 in
theorem suspAgainst_any (la : Option Addr) (lc : Nat) (ls : List RLi) (sh : Int) (iv : Value) (ka : Option Addr) (kn kc : Nat) (sl tk dp c0 c1 c2 c3 c4 c5 c6 c7 c8 : Int) (w : World) :
    Calls Tryz.prog 117 #[.agg #[], .agg #[.slice la ls.length lc, .int .i64 sh, iv, .slice ka kn kc, .int .i64 sl, .int .i64 tk, .int .i64 dp, .int .i64 c0, .int .i64 c1, .int .i64 c2, .int .i64 c3, .int .i64 c4, .int .i64 c5, .int .i64 c6, .int .i64 c7, .int .i64 c8]] w fun e w' => e = .returned (.int .i64 (suspC ls kn)) ∧ Below w.heap.size w w' := by
  unfold suspC
  have hE := fun w => empty_any la ls.length lc sh w
  generalize ls.length = n at *
  have HRg : Hid (∀ W, Below ((w.alloc (Obj.cells #[] 99)).alloc (Obj.cells #[.slice la n lc, .int .i64 sh, iv, .slice ka kn kc, .int .i64 sl, .int .i64 tk, .int .i64 dp, .int .i64 c0, .int .i64 c1, .int .i64 c2, .int .i64 c3, .int .i64 c4, .int .i64 c5, .int .i64 c6, .int .i64 c7, .int .i64 c8] 51)).heap.size ((w.alloc (Obj.cells #[] 99)).alloc (Obj.cells #[.slice la n lc, .int .i64 sh, iv, .slice ka kn kc, .int .i64 sl, .int .i64 tk, .int .i64 dp, .int .i64 c0, .int .i64 c1, .int .i64 c2, .int .i64 c3, .int .i64 c4, .int .i64 c5, .int .i64 c6, .int .i64 c7, .int .i64 c8] 51)) W → RegAt W (w.heap.size + 1) la n lc sh (.slice ka kn kc)) := fun W hW => regAt rfl rfl rfl hW
  by_cases h0 : (n : Int) = 0
  · rw [if_pos h0]
    have hb : ((n : Int) == 0) = true := by simpa using h0
    rw [hb] at hE
    go_enter Tryz.func117, Tryz.ntmps117
    go_wp2_with (go_at_call 112; refine (hE _).mono ?_; rintro e w2 ⟨rfl, hb2⟩)
    go_ret
    exact ⟨rfl, chain (chain (below_alloc _ _) (below_alloc _ _)) hb2⟩
  · rw [if_neg h0]
    have hb : ((n : Int) == 0) = false := by simpa using h0
    rw [hb] at hE
    by_cases h5 : (kn : Int) = 5
    · rw [if_pos h5]
      go_enter Tryz.func117, Tryz.ntmps117
      go_wp2_with (go_at_call 112; refine (hE _).mono ?_; rintro e w2 ⟨rfl, hb2⟩; obtain ⟨q0, q1, q3⟩ := HRg.out w2 hb2)
      go_ret
      exact ⟨rfl, chain (chain (below_alloc _ _) (below_alloc _ _)) hb2⟩
    · rw [if_neg h5]
      have h5' : ((kn : Int) == 5) = false := by simpa using h5
      go_enter Tryz.func117, Tryz.ntmps117
      go_wp2_with (go_at_call 112; refine (hE _).mono ?_; rintro e w2 ⟨rfl, hb2⟩; obtain ⟨q0, q1, q3⟩ := HRg.out w2 hb2)
      go_ret
      exact ⟨rfl, chain (chain (below_alloc _ _) (below_alloc _ _)) hb2⟩
set_option maxHeartbeats 2000000 in
theorem resAgainst_any (r : Int) (la : Option Addr) (lc : Nat) (ls : List RLi) (sh : Int) (iv : Value) (ka : Option Addr) (kn kc : Nat) (sl tk dp c0 c1 c2 c3 c4 c5 c6 c7 c8 : Int) (w : World) :
    Calls Tryz.prog 118 #[.agg #[.int .i64 r], .agg #[.slice la ls.length lc, .int .i64 sh, iv, .slice ka kn kc, .int .i64 sl, .int .i64 tk, .int .i64 dp, .int .i64 c0, .int .i64 c1, .int .i64 c2, .int .i64 c3, .int .i64 c4, .int .i64 c5, .int .i64 c6, .int .i64 c7, .int .i64 c8]] w fun e w' => e = .returned (.int .i64 (resC ls kn r)) ∧ Below w.heap.size w w' := by
  unfold resC
  have l1 : ∀ n : Nat, n < n + 1 + 1 := fun n => by omega
  have hE := fun w => empty_any la ls.length lc sh w
  generalize ls.length = n at *
  rcases (by omega : r < 0 ∨ (0 ≤ r ∧ (kn : Int) ≤ r) ∨ (0 ≤ r ∧ r < (kn : Int))) with h | ⟨h, h'⟩ | ⟨h, h'⟩
  · rw [if_neg (by omega)]
    go_enter Tryz.func118, Tryz.ntmps118
    go_wp2
    go_ret
    exact ⟨rfl, chain (below_alloc _ _) (below_alloc _ _)⟩
  · rw [if_neg (by omega)]
    go_enter Tryz.func118, Tryz.ntmps118
    go_wp2
    go_ret
    exact ⟨rfl, chain (below_alloc _ _) (below_alloc _ _)⟩
  · rw [if_pos (by omega)]
    by_cases h0 : (n : Int) = 0
    · rw [if_pos h0]
      have hb : ((n : Int) == 0) = true := by simpa using h0
      rw [hb] at hE
      go_enter Tryz.func118, Tryz.ntmps118
      go_wp2_with (go_at_call 112; refine (hE _).mono ?_; rintro e w2 ⟨rfl, hb2⟩)
      go_ret
      exact ⟨rfl, chain (chain (below_alloc _ _) (below_alloc _ _)) hb2⟩
    · rw [if_neg h0]
      have hb : ((n : Int) == 0) = false := by simpa using h0
      rw [hb] at hE
      go_enter Tryz.func118, Tryz.ntmps118
      go_wp2_with (go_at_call 112; refine (hE _).mono ?_; rintro e w2 ⟨rfl, hb2⟩)
      go_ret
      exact ⟨rfl, chain (chain (below_alloc _ _) (below_alloc _ _)) hb2⟩
end Go.Proofs.YtabpkfhbnendjaaGreat
