/-
  The number of the first item with a code: the specification's l08Find, the program's itemCoded.
-/
import Derived.Test.YtnjciehnlemmlaaItB
namespace Go.Proofs.Ytnjciehnlemmlaa
open Go.ChangeShapes Go.WideShapes Go.ChangeAt Go.RowKit Go.Deep
set_option linter.unusedVariables false

def itEq (c : ByteArray) (r : RIt) : Bool := r.cd.toList == c.toList
/-- The number of the first item whose code is c, -1 if there is none. -/
def itIx (c : ByteArray) : List RIt → Int
  | [] => -1
  | r :: rs => if itEq c r = true then 0 else if itIx c rs < 0 then -1 else itIx c rs + 1
theorem itIx_at (c : ByteArray) : ∀ (rs : List RIt) (k : Nat), k < rs.length → (rs.take k).all (fun r => !itEq c r) = true → itEq c (rs.getD k zIt) = true → itIx c rs = (k : Int)
  | [], k, h, _, _ => by simp at h
  | r :: rs, 0, _, _, h => by
    have : itEq c r = true := by simpa using h
    unfold itIx; rw [if_pos this]; rfl
  | r :: rs, k + 1, h, h1, h2 => by
    have hc : itEq c r = false := by simp at h1; exact h1.1
    have ih := itIx_at c rs k (by simpa using h) (by simp at h1; simpa using h1.2) (by simpa using h2)
    unfold itIx
    rw [if_neg (by rw [hc]; simp), ih, if_neg (by omega)]
    omega
theorem itIx_none (c : ByteArray) : ∀ (rs : List RIt), rs.all (fun r => !itEq c r) = true → itIx c rs = -1
  | [], _ => rfl
  | r :: rs, h => by
    have hc : itEq c r = false := by simp at h; exact h.1
    have ih := itIx_none c rs (by simp at h; simpa using h.2)
    unfold itIx
    rw [if_neg (by rw [hc]; simp), ih, if_pos (by omega)]
theorem its_take (p : RIt → Bool) (rs : List RIt) (k : Nat) (h : k < rs.length) : (rs.take (k + 1)).all p = ((rs.take k).all p && p (rs.getD k zIt)) := by
  rw [List.take_succ_eq_append_getElem h, List.all_append]
  simp [List.getD_eq_getElem?_getD, h]
theorem itIx_range (c : ByteArray) : ∀ rs : List RIt, -1 ≤ itIx c rs ∧ itIx c rs < (rs.length : Int)
  | [] => by unfold itIx; simp
  | r :: rs => by
    have ih := itIx_range c rs
    unfold itIx
    rw [List.length_cons]
    split
    · omega
    · split <;> omega
set_option maxHeartbeats 2000000 in
theorem find8_any (a : Option Addr) (cap : Nat) (rs : List RIt) (hl : rs.length ≤ 100000000) (c : ByteArray) (w : World) (hr : ReadsIt w.heap.size w a rs) :
    Calls Try.prog 11 #[.slice a rs.length cap, .string c] w fun e w' => e = .returned (.int .i64 (itIx c rs)) ∧ w' = w := by
  have HR : Hid (ReadsIt w.heap.size w a rs) := hr
  clear hr
  generalize hfx : itIx c rs = fx
  have HFX : Hid (itIx c rs = fx) := hfx
  clear hfx
  go_enter Try.func11, Try.ntmps11
  go_wp2
  go_loop [5] (fun i => ∃ k : Nat, k ≤ rs.length ∧ i = .int .i64 (k : Int) ∧ (rs.take k).all (fun r => !itEq c r) = true) (fun i => rs.length - (intOf i).toNat)
  case atStart => exact ⟨0, Nat.zero_le _, rfl, rfl⟩
  case round =>
    obtain ⟨k, hk, rfl, hf⟩ := hrel
    have HF : Hid ((rs.take k).all (fun r => !itEq c r) = true) := hf
    clear hf
    by_cases hlt : k < rs.length
    · have hlt' : (k : Int) < (rs.length : Int) := by omega
      rcases HR.out with h | ⟨b0, o0, ha, hB0, ia⟩
      · rw [h] at hlt; simp at hlt
      obtain ⟨c0, _⟩ := ia k hlt
      have HX : Hid (((rs.getD k zIt).cd.toList == c.toList) = true → fx = (k : Int)) := fun h => HFX.out.symm.trans (itIx_at _ rs k hlt HF.out h)
      have HN : Hid (((rs.getD k zIt).cd.toList == c.toList) = false → (rs.take (k + 1)).all (fun r => !itEq c r) = true) := fun h => by
        have h' : itEq c (rs.getD k zIt) = false := h
        rw [its_take _ rs k hlt, HF.out, h']; rfl
      rw [ha]
      clear ia
      generalize (rs.getD k zIt).cd = s at *
      cases hq : (s.toList == c.toList)
      · have H1 : Hid _ := HN.out hq
        go_wp2
        go_round
        case rel => exact ⟨k + 1, by omega, by go_num, H1.out⟩
        case measure => simp [intOf]; omega
      · have H1 : Hid _ := HX.out hq
        go_wp2
        go_ret
        exact ⟨ret_int H1.out.symm, rfl⟩
    · have hle : (rs.length : Int) ≤ (k : Int) := by omega
      have HE : Hid (fx = -1) := HFX.out.symm.trans <| itIx_none _ rs (by have := HF.out; rwa [List.take_of_length_le (by omega)] at this)
      go_wp2
      go_ret
      exact ⟨ret_int HE.out.symm, rfl⟩
theorem codedFn_any (x : ByteArray) (p d cl g : Int) (fb : Nat) (c : ByteArray) (w : World) (hf : w.cell? ⟨fb, 0, none⟩ = some (.string c)) :
    Calls Try.prog 23 #[.agg #[.string x, .int .i64 p, .int .i64 d, .int .i64 cl, .int .i64 g], .pointer (some ⟨fb, 0, none⟩)] w fun e w' => e = .returned (.bool (x.toList == c.toList)) ∧ Below w.heap.size w w' := by
  have hlt : fb < w.heap.size := World.block_lt_of_cell? _ _ hf
  have hf' : (w.alloc (Obj.cells #[.string x, .int .i64 p, .int .i64 d, .int .i64 cl, .int .i64 g] 33)).cell? ⟨fb, 0, none⟩ = some (.string c) := (cellOld _ _ hlt).trans hf
  go_enter Try.func23, Try.ntmps23
  go_wp2
  go_ret
  exact ⟨rfl, below_alloc _ _⟩
set_option maxHeartbeats 4000000 in
theorem itIndex_any (a : Option Addr) (cap : Nat) (rs : List RIt) (hl : rs.length ≤ 100000000) (fb : Nat) (c : ByteArray) (w : World) (hr : ReadsIt w.heap.size w a rs) (hf : w.cell? ⟨fb, 0, none⟩ = some (.string c)) :
    Calls Try.prog 22 #[.slice a rs.length cap, .func (.func 23) #[] #[.pointer (some ⟨fb, 0, none⟩)]] w fun e w' => e = .returned (.int .i64 (itIx c rs)) ∧ Below w.heap.size w w' := by
  have HR : Hid (ReadsIt w.heap.size w a rs) := hr
  have hfl : fb < w.heap.size := World.block_lt_of_cell? _ _ hf
  have HFc : Hid (w.cell? ⟨fb, 0, none⟩ = some (.string c)) := hf
  clear hr hf
  generalize hfx : itIx c rs = fx
  have HFX : Hid (itIx c rs = fx) := hfx
  clear hfx
  go_enter Try.func22, Try.ntmps22
  go_wp2
  go_loopw [5, 8] (fun _ i wr => ∃ k : Nat, k ≤ rs.length ∧ i = .int .i64 (k : Int) ∧ (rs.take k).all (fun r => !itEq c r) = true ∧ Below w.heap.size w wr) (fun _ i _ => rs.length - (intOf i).toNat)
  case atStart => exact ⟨0, Nat.zero_le _, rfl, rfl, Below.refl _ _⟩
  case round =>
    obtain ⟨k, hk, rfl, hf, hb⟩ := hrel
    have HF : Hid ((rs.take k).all (fun r => !itEq c r) = true) := hf
    have HB : Hid (Below w.heap.size w wr) := hb
    clear hf hb
    by_cases hlt : k < rs.length
    · have hlt' : (k : Int) < (rs.length : Int) := by omega
      rcases HR.out with h | ⟨b0, o0, ha, hB0, ia⟩
      · rw [h] at hlt; simp at hlt
      obtain ⟨c0, c1, c2, c3, c4⟩ := (ia.below HB.out hB0) k hlt
      have HX : Hid (((rs.getD k zIt).cd.toList == c.toList) = true → fx = (k : Int)) := fun h => HFX.out.symm.trans (itIx_at _ rs k hlt HF.out h)
      have HN : Hid (((rs.getD k zIt).cd.toList == c.toList) = false → (rs.take (k + 1)).all (fun r => !itEq c r) = true) := fun h => by
        have h' : itEq c (rs.getD k zIt) = false := h
        rw [its_take _ rs k hlt, HF.out, h']; rfl
      rw [ha]
      clear ia
      generalize rs.getD k zIt = q at *
      obtain ⟨x, p, d, cl, g⟩ := q
      dsimp only at c0 c1 c2 c3 c4 HX HN
      have hm := codedFn_any x p d cl g fb c wr ((HB.out.cell (p := ⟨fb, 0, none⟩) hfl).trans HFc.out)
      cases hq : (x.toList == c.toList)
      · have H1 : Hid _ := HN.out hq
        rw [hq] at hm
        go_wp2_with (go_at_call 23; refine hm.mono ?_; rintro e w2 ⟨rfl, hb2⟩)
        exact ⟨⟨k + 1, by omega, by go_num, H1.out, chain HB.out hb2⟩, by simp [intOf]; omega⟩
      · have H1 : Hid (fx = (k : Int)) := HX.out hq
        rw [hq] at hm
        go_wp2_with (go_at_call 23; refine hm.mono ?_; rintro e w2 ⟨rfl, hb2⟩)
        go_ret
        exact ⟨ret_int H1.out.symm, chain HB.out hb2⟩
    · have hle : (rs.length : Int) ≤ (k : Int) := by omega
      have HE : Hid (fx = -1) := HFX.out.symm.trans <| itIx_none _ rs (by have := HF.out; rwa [List.take_of_length_le (by omega)] at this)
      go_wp2
      go_ret
      exact ⟨ret_int HE.out.symm, HB.out⟩
theorem itemCoded_any (a : Option Addr) (cap : Nat) (rs : List RIt) (hl : rs.length ≤ 100000000) (c : ByteArray) (w : World) (hr : ReadsIt w.heap.size w a rs) :
    Calls Try.prog 14 #[.slice a rs.length cap, .string c] w fun e w' => e = .returned (.int .i64 (itIx c rs)) ∧ Below w.heap.size w w' := by
  have hi := itIndex_any a cap rs hl w.heap.size c (w.alloc (Obj.cells #[.string c] 9)) ((hr.below (below_alloc _ _)).mono (below_alloc w (Obj.cells #[.string c] 9)).size) (cellNew _ _ _ _ rfl rfl)
  clear hr
  go_enter Try.func14, Try.ntmps14
  go_wp2_with (go_at_call 22; refine hi.mono ?_; rintro e w2 ⟨rfl, hb2⟩)
  go_ret
  exact ⟨rfl, chain (below_alloc _ _) hb2⟩
end Go.Proofs.Ytnjciehnlemmlaa
