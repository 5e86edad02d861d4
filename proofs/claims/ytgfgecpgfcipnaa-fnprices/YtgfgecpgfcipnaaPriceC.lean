/-
  Contract of the program's PricesOK, for every list of rows.
-/
import Derived.Test.YtgfgecpgfcipnaaPriceB
namespace Go.Proofs.Ytgfgecpgfcipnaa
open Go.ChangeShapes Go.WideShapes Go.ChangeAt Go.RowKit
set_option linter.unusedVariables false

theorem prs_take (p : RPr → Bool) (rs : List RPr) (k : Nat) (h : k < rs.length) : (rs.take (k + 1)).all p = ((rs.take k).all p && p (rs.getD k zPr)) := by
  rw [List.take_succ_eq_append_getElem h, List.all_append]
  have e : rs.getD k zPr = rs[k] := by simp [List.getD_eq_getElem?_getD, h]
  rw [e]; simp
theorem prs_fail {p : RPr → Bool} {rs : List RPr} {k : Nat} (h : k < rs.length) (hp : p (rs.getD k zPr) = false) : rs.all p = false := by
  have e : rs.getD k zPr = rs[k] := by simp [List.getD_eq_getElem?_getD, h]
  rw [e] at hp
  rw [List.all_eq_false]
  exact ⟨rs[k], List.getElem_mem _, by simp [hp]⟩

theorem prNot_any (a z : ByteArray) (l f t m : Int) (ha : a.size ≤ 2000000) (hz : z.size ≤ 2000000) (w : World) :
    Calls Try.prog 17 #[.agg #[.string a, .string z, .int .i64 l, .int .i64 f, .int .i64 t, .int .i64 m]] w fun e w' => e = .returned (.bool (!prOne ⟨a, z, l, f, t, m⟩)) ∧ Below w.heap.size w w' := by
  have h := fun w => prRowOK_any a z l f t m ha hz w
  generalize prOne ⟨a, z, l, f, t, m⟩ = b at *
  go_enter Try.func17, Try.ntmps17
  go_wp2_with (go_at_call 18; refine (h _).mono ?_; rintro e w2 ⟨rfl, hb2⟩)
  go_ret
  exact ⟨rfl, by repeat (first | exact Below.refl _ _ | refine chain ?_ (by assumption) | refine chain ?_ (below_alloc _ _) | refine chain ?_ (below_drew _))⟩

set_option maxHeartbeats 2000000 in
theorem prIndex_any (a : Option Addr) (cap : Nat) (rs : List RPr) (hl : rs.length ≤ 100000000) (hp : ∀ r ∈ rs, PrOK r) (w : World) (hr : ReadsPr w.heap.size w a rs) :
    Calls Try.prog 30 #[.slice a rs.length cap, .func (.func 17) #[] #[]] w fun e w' => (∃ x : Int, e = .returned (.int .i64 x) ∧ decide (0 ≤ x) = !rs.all prOne) ∧ Below w.heap.size w w' := by
  have HR : Hid (ReadsPr w.heap.size w a rs) := hr
  have HOK : Hid (∀ r ∈ rs, PrOK r) := hp
  clear hr hp
  go_enter Try.func30, Try.ntmps30
  go_wp2
  go_loopw [5, 8] (fun _ c wr => ∃ k : Nat, k ≤ rs.length ∧ c = .int .i64 (k : Int) ∧ (rs.take k).all prOne = true ∧ Below w.heap.size w wr) (fun _ c _ => rs.length - (intOf c).toNat)
  case atStart => exact ⟨0, Nat.zero_le _, rfl, rfl, Below.refl _ _⟩
  case round =>
    obtain ⟨k, hk, rfl, hf, hb⟩ := hrel
    have HF : Hid ((rs.take k).all prOne = true) := hf
    have HB : Hid (Below w.heap.size w wr) := hb
    clear hf hb
    by_cases hlt : k < rs.length
    · have hlt' : (k : Int) < (rs.length : Int) := by omega
      rcases HR.out with h | ⟨b0, o0, ha, hB0, ia⟩
      · rw [h] at hlt; simp at hlt
      obtain ⟨c0, c1, c2, c3, c4, c5⟩ := (ia.below HB.out hB0) k hlt
      have hW : PrOK (rs.getD k zPr) := getPr HOK.out hlt
      have HX : Hid (prOne (rs.getD k zPr) = false → rs.all prOne = false) := fun h => prs_fail hlt h
      have HN : Hid ((rs.take (k + 1)).all prOne = ((rs.take k).all prOne && prOne (rs.getD k zPr))) := prs_take prOne rs k hlt
      rw [ha]
      clear ia
      generalize rs.getD k zPr = q at *
      obtain ⟨qa, qz, ql, qf, qt, qm⟩ := q
      dsimp only at c0 c1 c2 c3 c4 c5
      have hm := prNot_any qa qz ql qf qt qm hW.1 hW.2 wr
      clear hW
      generalize prOne ⟨qa, qz, ql, qf, qt, qm⟩ = mb at *
      cases mb
      · go_wp2_with (go_at_call 17; refine hm.mono ?_; rintro e w2 ⟨rfl, hb2⟩)
        go_ret
        exact ⟨⟨(k : Int), rfl, by rw [HX.out trivial]; exact decide_eq_true (by omega)⟩, chain HB.out hb2⟩
      · go_wp2_with (go_at_call 17; refine hm.mono ?_; rintro e w2 ⟨rfl, hb2⟩)
        exact ⟨⟨k + 1, by omega, by go_num, by rw [HN.out, HF.out]; rfl, chain HB.out hb2⟩, by simp [intOf]; omega⟩
    · have hle : (rs.length : Int) ≤ (k : Int) := by omega
      have HE : Hid (rs.all prOne = true) := by have := HF.out; rwa [List.take_of_length_le (by omega)] at this
      go_wp2
      go_ret
      exact ⟨⟨-1, rfl, by rw [HE.out]; rfl⟩, HB.out⟩

theorem prContains_any (a : Option Addr) (cap : Nat) (rs : List RPr) (hl : rs.length ≤ 100000000) (hp : ∀ r ∈ rs, PrOK r) (w : World) (hr : ReadsPr w.heap.size w a rs) :
    Calls Try.prog 16 #[.slice a rs.length cap, .func (.func 17) #[] #[]] w fun e w' => e = .returned (.bool (!rs.all prOne)) ∧ Below w.heap.size w w' := by
  have hi := prIndex_any a cap rs hl hp w hr
  clear hr hp
  go_enter Try.func16, Try.ntmps16
  go_wp2_with (go_at_call 30; refine hi.mono ?_; rintro e w2 ⟨⟨x, rfl, hx⟩, hb2⟩; have HX : Hid (decide (0 ≤ x) = !rs.all prOne) := hx; clear hx)
  go_ret
  exact ⟨ret_bool HX.out, hb2⟩

theorem implPrices_any (a : Option Addr) (cap : Nat) (rs : List RPr) (hl : rs.length ≤ 100000000) (hp : ∀ r ∈ rs, PrOK r) (w : World) (hr : ReadsPr w.heap.size w a rs) :
    Calls Try.prog 7 #[.slice a rs.length cap] w fun e w' => e = .returned (.bool (prAll rs)) ∧ Below w.heap.size w w' := by
  have hi := prContains_any a cap rs hl hp w hr
  clear hr hp
  by_cases h80 : (80 : Int) < (rs.length : Int)
  · have HA : Hid (prAll rs = false) := by show _ = _; unfold prAll; rw [if_pos (by omega)]
    go_enter Try.func7, Try.ntmps7
    go_wp2
    go_ret
    exact ⟨ret_bool HA.out.symm, Below.refl _ _⟩
  · have HA : Hid (prAll rs = rs.all prOne) := by show _ = _; unfold prAll; rw [if_neg (by omega)]
    generalize rs.all prOne = b at *
    go_enter Try.func7, Try.ntmps7
    go_wp2_with (go_at_call 16; refine hi.mono ?_; rintro e w2 ⟨rfl, hb2⟩)
    go_ret
    exact ⟨ret_bool (by first | exact HA.out.symm | (rw [HA.out]; done) | (rw [HA.out]; cases b <;> rfl)), hb2⟩

end Go.Proofs.Ytgfgecpgfcipnaa
