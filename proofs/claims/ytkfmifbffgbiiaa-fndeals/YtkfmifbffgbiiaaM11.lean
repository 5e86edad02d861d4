/-
  Texts of this claim laid together: BgB.
-/
import Derived.Test.YtkfmifbffgbiiaaM9
import Derived.Test.YtkfmifbffgbiiaaM10
/-
  Contracts of the program's pricesOf, wants, unitsOK, basketFault, of the library's slices.Clone at numbers.
-/
namespace Go.Proofs.Ytkfmifbffgbiiaa
open Go.ChangeShapes Go.WideShapes Go.ChangeAt Go.RowKit
set_option linter.unusedVariables false

def unOne (u : RUn) : Bool := nameB u.art && inB u.pr 0 100000000
def unAll (us : List RUn) : Bool := decide (us.length ≤ 8) && us.all unOne
theorem ReadsUn.later {w w' : World} {a : Option Addr} {rs : List RUn} (h : ReadsUn w.heap.size w a rs) (hb : Below w.heap.size w w') : ReadsUn w'.heap.size w' a rs := (h.below hb).mono hb.size
theorem uns_take (p : RUn → Bool) (rs : List RUn) (k : Nat) (h : k < rs.length) : (rs.take (k + 1)).all p = ((rs.take k).all p && p (rs.getD k zUn)) := by
  rw [List.take_succ_eq_append_getElem h, List.all_append]
  have e : rs.getD k zUn = rs[k] := by simp [List.getD_eq_getElem?_getD, h]
  rw [e]; simp
theorem uns_fail {p : RUn → Bool} {rs : List RUn} {k : Nat} (h : k < rs.length) (hp : p (rs.getD k zUn) = false) : rs.all p = false := by
  have e : rs.getD k zUn = rs[k] := by simp [List.getD_eq_getElem?_getD, h]
  rw [e] at hp
  rw [List.all_eq_false]
  exact ⟨rs[k], List.getElem_mem _, by simp [hp]⟩
theorem unOne_ways (a : ByteArray) (p : Int) : (nameB a = false ∧ unOne ⟨a, p⟩ = false) ∨ (nameB a = true ∧ p < 0 ∧ inB p 0 100000000 = false ∧ unOne ⟨a, p⟩ = false) ∨ (nameB a = true ∧ 0 ≤ p ∧ 100000000 < p ∧ inB p 0 100000000 = false ∧ unOne ⟨a, p⟩ = false) ∨ (nameB a = true ∧ 0 ≤ p ∧ p ≤ 100000000 ∧ inB p 0 100000000 = true ∧ unOne ⟨a, p⟩ = true) := by
  have e : unOne ⟨a, p⟩ = (nameB a && inB p 0 100000000) := rfl
  rw [e]
  cases h : nameB a
  · exact .inl ⟨rfl, rfl⟩
  · rcases (by omega : p < 0 ∨ (0 ≤ p ∧ 100000000 < p) ∨ (0 ≤ p ∧ p ≤ 100000000)) with q | ⟨q, q'⟩ | ⟨q, q'⟩
    · have : inB p 0 100000000 = false := decide_eq_false (by omega)
      exact .inr (.inl ⟨rfl, q, this, by rw [this]; rfl⟩)
    · have : inB p 0 100000000 = false := decide_eq_false (by omega)
      exact .inr (.inr (.inl ⟨rfl, q, q', this, by rw [this]; rfl⟩))
    · have : inB p 0 100000000 = true := decide_eq_true (by omega)
      exact .inr (.inr (.inr ⟨rfl, q, q', this, by rw [this]; rfl⟩))


set_option maxHeartbeats 2000000 in
theorem unNot_any (a : ByteArray) (p : Int) (ha : a.size ≤ 2000000) (w : World) :
    Calls Try.prog 54 #[.agg #[.string a, .int .i64 p]] w fun e w' => e = .returned (.bool (!unOne ⟨a, p⟩)) ∧ Below w.heap.size w w' := by
  have HN : Hid (∀ b, nameB a = b → ∀ w, Calls Try.prog 45 #[.string a] w fun e w' => e = .returned (.bool b) ∧ Below w.heap.size w w') := fun b h w => h ▸ implName_any a (by unfold maxLen; omega) w
  rcases unOne_ways a p with ⟨h1, hE⟩ | ⟨h1, h2, _, hE⟩ | ⟨h1, h2, h3, _, hE⟩ | ⟨h1, h2, h3, _, hE⟩
  all_goals
    rw [hE]
    clear hE
    have H1 : Hid _ := HN.out _ h1
    clear h1 HN
    go_enter Try.func54, Try.ntmps54
    go_wp2_with fail
    (first | go_at_call 45 | skip)
    refine (H1.out _).mono ?_
    rintro e w1 ⟨rfl, hb1⟩
    have c1 : w1.cell? ⟨w.heap.size, 1, none⟩ = some (.int .i64 p) := (hb1.cell (p := ⟨w.heap.size, 1, none⟩) (by simp)).trans (cellNew _ _ _ _ rfl rfl)
    have HB1 : Hid (Below w.heap.size w w1) := chain (below_alloc _ _) hb1
    clear hb1 H1
    go_wp2
    go_ret
    exact ⟨ret_bool (by first | rfl | (simp; done) | (simp; omega)), HB1.out⟩
set_option maxHeartbeats 2000000 in
theorem unIndex_any (a : Option Addr) (cap : Nat) (rs : List RUn) (hl : rs.length ≤ 100000000) (hp : ∀ r ∈ rs, UnOK r) (w : World) (hr : ReadsUn w.heap.size w a rs) :
    Calls Try.prog 62 #[.slice a rs.length cap, .func (.func 54) #[] #[]] w fun e w' => (∃ x : Int, e = .returned (.int .i64 x) ∧ decide (0 ≤ x) = !rs.all unOne) ∧ Below w.heap.size w w' := by
  have HR : Hid (ReadsUn w.heap.size w a rs) := hr
  have HOK : Hid (∀ r ∈ rs, UnOK r) := hp
  clear hr hp
  go_enter Try.func62, Try.ntmps62
  go_wp2
  go_loopw [5, 8] (fun _ c wr => ∃ k : Nat, k ≤ rs.length ∧ c = .int .i64 (k : Int) ∧ (rs.take k).all unOne = true ∧ Below w.heap.size w wr) (fun _ c _ => rs.length - (intOf c).toNat)
  case atStart => exact ⟨0, Nat.zero_le _, rfl, rfl, Below.refl _ _⟩
  case round =>
    obtain ⟨k, hk, rfl, hf, hb⟩ := hrel
    have HF : Hid ((rs.take k).all unOne = true) := hf
    have HB : Hid (Below w.heap.size w wr) := hb
    clear hf hb
    by_cases hlt : k < rs.length
    · have hlt' : (k : Int) < (rs.length : Int) := by omega
      rcases HR.out with h | ⟨b0, o0, ha, hB0, ia⟩
      · rw [h] at hlt; simp at hlt
      obtain ⟨c0, c1⟩ := (ia.below HB.out hB0) k hlt
      have hW : UnOK (rs.getD k zUn) := getUn HOK.out hlt
      have HX : Hid (unOne (rs.getD k zUn) = false → rs.all unOne = false) := fun h => uns_fail hlt h
      have HN : Hid ((rs.take (k + 1)).all unOne = ((rs.take k).all unOne && unOne (rs.getD k zUn))) := uns_take unOne rs k hlt
      rw [ha]
      clear ia
      generalize rs.getD k zUn = q at *
      obtain ⟨qa, qp⟩ := q
      dsimp only at c0 c1
      have hm := unNot_any qa qp hW wr
      clear hW
      generalize unOne ⟨qa, qp⟩ = mb at *
      cases mb
      · go_wp2_with (go_at_call 54; refine hm.mono ?_; rintro e w2 ⟨rfl, hb2⟩)
        go_ret
        exact ⟨⟨(k : Int), rfl, by rw [HX.out trivial]; exact decide_eq_true (by omega)⟩, chain HB.out hb2⟩
      · go_wp2_with (go_at_call 54; refine hm.mono ?_; rintro e w2 ⟨rfl, hb2⟩)
        exact ⟨⟨k + 1, by omega, by go_num, by rw [HN.out, HF.out]; rfl, chain HB.out hb2⟩, by simp [intOf]; omega⟩
    · have hle : (rs.length : Int) ≤ (k : Int) := by omega
      have HE : Hid (rs.all unOne = true) := by have := HF.out; rwa [List.take_of_length_le (by omega)] at this
      go_wp2
      go_ret
      exact ⟨⟨-1, rfl, by rw [HE.out]; rfl⟩, HB.out⟩
theorem unContains_any (a : Option Addr) (cap : Nat) (rs : List RUn) (hl : rs.length ≤ 100000000) (hp : ∀ r ∈ rs, UnOK r) (w : World) (hr : ReadsUn w.heap.size w a rs) :
    Calls Try.prog 53 #[.slice a rs.length cap, .func (.func 54) #[] #[]] w fun e w' => e = .returned (.bool (!rs.all unOne)) ∧ Below w.heap.size w w' := by
  have hi := unIndex_any a cap rs hl hp w hr
  clear hr hp
  go_enter Try.func53, Try.ntmps53
  go_wp2_with (go_at_call 62; refine hi.mono ?_; rintro e w2 ⟨⟨x, rfl, hx⟩, hb2⟩; have HX : Hid (decide (0 ≤ x) = !rs.all unOne) := hx; clear hx)
  go_ret
  exact ⟨ret_bool HX.out, hb2⟩
theorem unitsOK_any (a : Option Addr) (cap : Nat) (rs : List RUn) (hl : rs.length ≤ 100000000) (hp : ∀ r ∈ rs, UnOK r) (w : World) (hr : ReadsUn w.heap.size w a rs) :
    Calls Try.prog 32 #[.slice a rs.length cap] w fun e w' => e = .returned (.bool (unAll rs)) ∧ Below w.heap.size w w' := by
  have hi := unContains_any a cap rs hl hp w hr
  clear hr hp
  by_cases h8 : (rs.length : Int) ≤ 8
  · have HA : Hid (unAll rs = rs.all unOne) := by show _ = _; unfold unAll; rw [decide_eq_true (by omega)]; rfl
    generalize rs.all unOne = b at *
    go_enter Try.func32, Try.ntmps32
    go_wp2_with (go_at_call 53; refine hi.mono ?_; rintro e w2 ⟨rfl, hb2⟩)
    go_ret
    exact ⟨ret_bool (by first | exact HA.out.symm | (rw [HA.out]; done) | (rw [HA.out]; cases b <;> simp; omega) | (rw [HA.out]; cases b <;> simp)), hb2⟩
  · have HA : Hid (unAll rs = false) := by show _ = _; unfold unAll; rw [decide_eq_false (by omega)]; rfl
    have h8' : (8 : Int) < (rs.length : Int) := by omega
    go_enter Try.func32, Try.ntmps32
    go_wp2
    go_ret
    exact ⟨ret_bool (by first | exact HA.out.symm | (rw [HA.out]; done) | (rw [HA.out]; simp; omega) | (rw [HA.out]; simp)), Below.refl _ _⟩

def faultOf (us : List RUn) (ds : List CDl) : Int := if 4096 < us.length ∨ 4096 < ds.length then 2 else if (unAll us && dlAll ds) = true then 0 else 1
theorem fault_ways (us : List RUn) (ds : List CDl) : ((4096 : Int) < (us.length : Int) ∧ faultOf us ds = 2) ∨ ((us.length : Int) ≤ 4096 ∧ (4096 : Int) < (ds.length : Int) ∧ faultOf us ds = 2) ∨ ((us.length : Int) ≤ 4096 ∧ (ds.length : Int) ≤ 4096 ∧ unAll us = false ∧ faultOf us ds = 1) ∨ ((us.length : Int) ≤ 4096 ∧ (ds.length : Int) ≤ 4096 ∧ unAll us = true ∧ dlAll ds = false ∧ faultOf us ds = 1) ∨ ((us.length : Int) ≤ 4096 ∧ (ds.length : Int) ≤ 4096 ∧ unAll us = true ∧ dlAll ds = true ∧ faultOf us ds = 0) := by
  unfold faultOf
  by_cases h1 : 4096 < us.length
  · exact .inl ⟨by omega, by rw [if_pos (.inl h1)]⟩
  · by_cases h2 : 4096 < ds.length
    · exact .inr (.inl ⟨by omega, by omega, by rw [if_pos (.inr h2)]⟩)
    · rw [if_neg (by omega)]
      cases h3 : unAll us
      · exact .inr (.inr (.inl ⟨by omega, by omega, rfl, rfl⟩))
      · cases h4 : dlAll ds
        · exact .inr (.inr (.inr (.inl ⟨by omega, by omega, rfl, rfl, rfl⟩)))
        · exact .inr (.inr (.inr (.inr ⟨by omega, by omega, rfl, rfl, rfl⟩)))

set_option maxHeartbeats 2000000 in
theorem fault_any (a : Option Addr) (cap : Nat) (us : List RUn) (hl : us.length ≤ 100000000) (hp : ∀ r ∈ us, UnOK r) (b : Option Addr) (cb : Nat) (ds : List CDl) (hd : ds.length ≤ 100000000) (hq : ∀ r ∈ ds, DlOK r) (w : World) (hr : ReadsUn w.heap.size w a us) (ks : ReadsDl w.heap.size w b ds) :
    Calls Try.prog 13 #[.slice a us.length cap, .slice b ds.length cb] w fun e w' => e = .returned (.int .i64 (faultOf us ds)) ∧ Below w.heap.size w w' := by
  have HU : Hid (∀ q, unAll us = q → ∀ W, Below w.heap.size w W → Calls Try.prog 32 #[.slice a us.length cap] W fun e w' => e = .returned (.bool q) ∧ Below W.heap.size W w') := fun q e W hb => e ▸ unitsOK_any a cap us hl hp W (hr.later hb)
  have HD : Hid (∀ q, dlAll ds = q → ∀ W, Below w.heap.size w W → Calls Try.prog 7 #[.slice b ds.length cb] W fun e w' => e = .returned (.bool q) ∧ Below W.heap.size W w') := fun q e W hb => e ▸ implDeals_any b cb ds hd hq W (ks.later hb)
  clear hr ks hp hq
  rcases fault_ways us ds with ⟨h1, hE⟩ | ⟨h1, h2, hE⟩ | ⟨h1, h2, h3, hE⟩ | ⟨h1, h2, h3, h4, hE⟩ | ⟨h1, h2, h3, h4, hE⟩
  · rw [hE]; clear hE
    go_enter Try.func13, Try.ntmps13
    go_wp2
    go_ret
    exact ⟨rfl, Below.refl _ _⟩
  · rw [hE]; clear hE
    go_enter Try.func13, Try.ntmps13
    go_wp2
    go_ret
    exact ⟨rfl, Below.refl _ _⟩
  · rw [hE]; clear hE
    have H3 : Hid _ := HU.out _ h3
    clear h3
    go_enter Try.func13, Try.ntmps13
    go_wp2_with (first | (go_at_call 32; refine (H3.out _ (Below.refl _ _)).mono ?_; rintro e w2 ⟨rfl, hb2⟩))
    go_ret
    exact ⟨rfl, hb2⟩
  · rw [hE]; clear hE
    have H3 : Hid _ := HU.out _ h3
    have H4 : Hid _ := HD.out _ h4
    clear h3 h4
    go_enter Try.func13, Try.ntmps13
    go_wp2_with (first | (go_at_call 32; refine (H3.out _ (Below.refl _ _)).mono ?_; rintro e w2 ⟨rfl, hb2⟩) | (go_at_call 7; refine (H4.out _ hb2).mono ?_; rintro e w3 ⟨rfl, hb3⟩))
    go_ret
    exact ⟨rfl, chain hb2 hb3⟩
  · rw [hE]; clear hE
    have H3 : Hid _ := HU.out _ h3
    have H4 : Hid _ := HD.out _ h4
    clear h3 h4
    go_enter Try.func13, Try.ntmps13
    go_wp2_with (first | (go_at_call 32; refine (H3.out _ (Below.refl _ _)).mono ?_; rintro e w2 ⟨rfl, hb2⟩) | (go_at_call 7; refine (H4.out _ hb2).mono ?_; rintro e w3 ⟨rfl, hb3⟩))
    go_ret
    exact ⟨rfl, chain hb2 hb3⟩

end Go.Proofs.Ytkfmifbffgbiiaa
