/-
  Contracts of PriceAt (the program's and the specification's), for every list of rows, article, zone and minute.
-/
import Derived.Test.YtgfgecpgfcipnaaPriceCS
import Derived.Test.YtgfgecpgfcipnaaPriceDS
import Derived.Test.YtgfgecpgfcipnaaPriceJ
namespace Go.Proofs.Ytgfgecpgfcipnaa
open Go.ChangeShapes Go.WideShapes Go.ChangeAt Go.RowKit
set_option linter.unusedVariables false

/-- Is something too long? -/
def pLong (n : Nat) (art zn : ByteArray) : Bool := decide (4096 < n ∨ 65536 < art.size ∨ 65536 < zn.size)
/-- The fault that is looked for first. -/
def pfCode (rs : List RPr) (art zn : ByteArray) : Int := if pLong rs.length art zn = true then 2 else if prAll rs = true then 0 else 1
def paAm (rs : List RPr) (art zn : ByteArray) (m : Int) : Int := if pfCode rs art zn = 0 ∧ 0 ≤ atAll rs art zn m then (rs.getD (atAll rs art zn m).toNat zPr).am else 0
def paRow (rs : List RPr) (art zn : ByteArray) (m : Int) : Int := if pfCode rs art zn = 0 ∧ 0 ≤ atAll rs art zn m then atAll rs art zn m else 0
def paCode (rs : List RPr) (art zn : ByteArray) (m : Int) : Int := if pfCode rs art zn = 0 then (if 0 ≤ atAll rs art zn m then 0 else 8) else pfCode rs art zn

theorem long_ways (n : Nat) (art zn : ByteArray) : ((4096 : Int) < (n : Int) ∧ pLong n art zn = true) ∨ ((n : Int) ≤ 4096 ∧ (65536 : Int) < (art.size : Int) ∧ pLong n art zn = true) ∨ ((n : Int) ≤ 4096 ∧ (art.size : Int) ≤ 65536 ∧ (65536 : Int) < (zn.size : Int) ∧ pLong n art zn = true) ∨ ((n : Int) ≤ 4096 ∧ (art.size : Int) ≤ 65536 ∧ (zn.size : Int) ≤ 65536 ∧ pLong n art zn = false) := by
  rcases (by omega : (4096 : Int) < (n : Int) ∨ ((n : Int) ≤ 4096 ∧ (65536 : Int) < (art.size : Int)) ∨ ((n : Int) ≤ 4096 ∧ (art.size : Int) ≤ 65536 ∧ (65536 : Int) < (zn.size : Int)) ∨ ((n : Int) ≤ 4096 ∧ (art.size : Int) ≤ 65536 ∧ (zn.size : Int) ≤ 65536)) with h | ⟨h, h'⟩ | ⟨h, h', h''⟩ | ⟨h, h', h''⟩
  · exact .inl ⟨h, decide_eq_true (by omega)⟩
  · exact .inr (.inl ⟨h, h', decide_eq_true (by omega)⟩)
  · exact .inr (.inr (.inl ⟨h, h', h'', decide_eq_true (by omega)⟩))
  · exact .inr (.inr (.inr ⟨h, h', h'', decide_eq_false (by omega)⟩))
theorem long_any (a : Option Addr) (n cap : Nat) (hl : n ≤ 100000000) (art zn : ByteArray) (ha : art.size ≤ 100000000) (hz : zn.size ≤ 100000000) (w : World) :
    Calls Try.prog 19 #[.slice a n cap, .string art, .string zn] w fun e w' => e = .returned (.bool (pLong n art zn)) ∧ w' = w := by
  rcases long_ways n art zn with ⟨h1, hE⟩ | ⟨h1, h2, hE⟩ | ⟨h1, h2, h3, hE⟩ | ⟨h1, h2, h3, hE⟩
  all_goals
    rw [hE]
    clear hE
    go_enter Try.func19, Try.ntmps19
    go_wp2
    go_ret
    exact ⟨ret_bool (by first | rfl | exact decide_eq_true (by omega) | exact decide_eq_false (by omega) | (simp; omega) | (simp; done)), rfl⟩

theorem fault_any (a : Option Addr) (cap : Nat) (rs : List RPr) (hl : rs.length ≤ 100000000) (hp : ∀ r ∈ rs, PrOK r) (art zn : ByteArray) (ha : art.size ≤ 100000000) (hz : zn.size ≤ 100000000) (w : World) (hr : ReadsPr w.heap.size w a rs) :
    Calls Try.prog 12 #[.slice a rs.length cap, .string art, .string zn] w fun e w' => e = .returned (.int .i64 (pfCode rs art zn)) ∧ Below w.heap.size w w' := by
  have hi := implPrices_any a cap rs hl hp w hr
  clear hr hp
  unfold pfCode
  rcases long_ways rs.length art zn with ⟨h1, hE⟩ | ⟨h1, h2, hE⟩ | ⟨h1, h2, h3, hE⟩ | ⟨h1, h2, h3, hE⟩
  · rw [if_pos hE]
    clear hE
    go_enter Try.func12, Try.ntmps12
    go_wp2
    go_ret
    exact ⟨rfl, Below.refl _ _⟩
  · rw [if_pos hE]
    clear hE
    go_enter Try.func12, Try.ntmps12
    go_wp2
    go_ret
    exact ⟨rfl, Below.refl _ _⟩
  · rw [if_pos hE]
    clear hE
    go_enter Try.func12, Try.ntmps12
    go_wp2
    go_ret
    exact ⟨rfl, Below.refl _ _⟩
  · rw [if_neg (by rw [hE]; simp)]
    clear hE
    generalize prAll rs = b at *
    cases b
    all_goals
      go_enter Try.func12, Try.ntmps12
      go_wp2_with (go_at_call 7; refine hi.mono ?_; rintro e w2 ⟨rfl, hb2⟩)
      go_ret
      exact ⟨rfl, hb2⟩
theorem pf_ways (rs : List RPr) (art zn : ByteArray) : (pfCode rs art zn = 2 ∧ pLong rs.length art zn = true) ∨ (pfCode rs art zn = 1 ∧ pLong rs.length art zn = false ∧ prAll rs = false) ∨ (pfCode rs art zn = 0 ∧ pLong rs.length art zn = false ∧ prAll rs = true) := by
  unfold pfCode
  cases h : pLong rs.length art zn
  · cases h' : prAll rs
    · exact .inr (.inl ⟨rfl, rfl, rfl⟩)
    · exact .inr (.inr ⟨rfl, rfl, rfl⟩)
  · exact .inl ⟨rfl, rfl⟩
theorem at_ways (rs : List RPr) (art zn : ByteArray) (m : Int) : atAll rs art zn m = -1 ∨ ∃ j : Nat, j < rs.length ∧ atAll rs art zn m = (j : Int) := atN_ways rs art zn m rs.length
/-- The ways of an answer. -/
theorem pa_ways (rs : List RPr) (art zn : ByteArray) (m : Int) :
    (pfCode rs art zn ≠ 0 ∧ paAm rs art zn m = 0 ∧ paRow rs art zn m = 0 ∧ paCode rs art zn m = pfCode rs art zn) ∨ (pfCode rs art zn = 0 ∧ atAll rs art zn m = -1 ∧ paAm rs art zn m = 0 ∧ paRow rs art zn m = 0 ∧ paCode rs art zn m = 8) ∨
    (pfCode rs art zn = 0 ∧ ∃ j : Nat, j < rs.length ∧ atAll rs art zn m = (j : Int) ∧ paAm rs art zn m = (rs.getD j zPr).am ∧ paRow rs art zn m = (j : Int) ∧ paCode rs art zn m = 0) := by
  unfold paAm paRow paCode
  by_cases h : pfCode rs art zn = 0
  · rcases at_ways rs art zn m with hx | ⟨j, hj, hx⟩
    · refine .inr (.inl ⟨h, hx, ?_, ?_, ?_⟩)
      · rw [if_neg (by rw [hx]; omega)]
      · rw [if_neg (by rw [hx]; omega)]
      · rw [if_pos h, if_neg (by rw [hx]; omega)]
    · refine .inr (.inr ⟨h, j, hj, hx, ?_, ?_, ?_⟩)
      · rw [if_pos ⟨h, by rw [hx]; omega⟩, hx, Int.toNat_natCast]
      · rw [if_pos ⟨h, by rw [hx]; omega⟩, hx]
      · rw [if_pos h, if_pos (by rw [hx]; omega)]
  · exact .inl ⟨h, if_neg (fun q => h q.1), if_neg (fun q => h q.1), if_neg h⟩

set_option maxHeartbeats 1000000 in
theorem implPriceAt_any (a : Option Addr) (cap : Nat) (rs : List RPr) (hl : rs.length ≤ 100000000) (hp : ∀ r ∈ rs, PrOK r) (art zn : ByteArray) (ha : art.size ≤ 100000000) (hz : zn.size ≤ 100000000) (m : Int) (w : World) (hr : ReadsPr w.heap.size w a rs) :
    Calls Try.prog 8 #[.slice a rs.length cap, .string art, .string zn, .int .i64 m] w fun e w' => e = .returned (.tuple #[.int .i64 (paAm rs art zn m), .int .i64 (paRow rs art zn m), .int .i64 (paCode rs art zn m)]) ∧ Below w.heap.size w w' := by
  have hf := fault_any a cap rs hl hp art zn ha hz w hr
  have HM : Hid (∀ W, Calls Try.prog 13 #[.slice a rs.length cap, .string art, .string zn] W fun e w' => ∃ p1 p2 p3, e = .returned (.func (.func 28) #[] #[.pointer (some ⟨p1, 0, none⟩), .pointer (some ⟨p2, 0, none⟩), .pointer (some ⟨p3, 0, none⟩)]) ∧ CtEnv w' a rs.length cap art zn p1 p2 p3 ∧ Below W.heap.size W w') := fun W => countingRows_make a rs.length cap art zn W
  have HA : Hid (∀ W p1 p2 p3, ReadsPr W.heap.size W a rs → CtEnv W a rs.length cap art zn p1 p2 p3 → Calls Try.prog 28 #[.int .i64 m, .pointer (some ⟨p1, 0, none⟩), .pointer (some ⟨p2, 0, none⟩), .pointer (some ⟨p3, 0, none⟩)] W fun e w' => e = .returned (.int .i64 (atAll rs art zn m)) ∧ Below W.heap.size W w') := fun W p1 p2 p3 h he => countingRows_any a cap rs hl art zn m p1 p2 p3 W h he
  have HR : Hid (ReadsPr w.heap.size w a rs) := hr
  clear hr hp
  rcases pa_ways rs art zn m with ⟨h, e1, e2, e3⟩ | ⟨h, hx, e1, e2, e3⟩ | ⟨h, j, hj, hx, e1, e2, e3⟩
  · rw [e1, e2, e3]
    clear e1 e2 e3 HM HA
    have h' : (pfCode rs art zn != 0) = true := by simp [h]
    generalize pfCode rs art zn = c at *
    go_enter Try.func8, Try.ntmps8
    go_wp2_with (go_at_call 12; refine hf.mono ?_; rintro e w2 ⟨rfl, hb2⟩)
    refine bodyPost_ret (v := .tuple #[.int .i64 0, .int .i64 0, .int .i64 c]) (by simp [results, Try.results8, go_sem]) rfl ?_
    exact ⟨rfl, hb2⟩
  · rw [e1, e2, e3]
    rw [h] at hf
    rw [hx] at HA
    clear e1 e2 e3 h hx
    go_enter Try.func8, Try.ntmps8
    go_wp2_with (first
      | (go_at_call 12; refine hf.mono ?_; rintro e w2 ⟨rfl, hb2⟩; have B2 : Hid (Below w.heap.size w w2) := hb2; clear hb2)
      | (go_at_call 13; refine (HM.out _).mono ?_; rintro e w3 ⟨p1, p2, p3, rfl, he, hb3⟩; have B3 : Hid (Below w.heap.size w w3) := chain B2.out hb3; have HE : Hid (CtEnv w3 a rs.length cap art zn p1 p2 p3) := he; clear he hb3)
      | (go_at_call 28; refine (HA.out _ _ _ _ ((HR.out.below B3.out).mono B3.out.size) HE.out).mono ?_; rintro e w4 ⟨rfl, hb4⟩; have B4 : Hid (Below w.heap.size w w4) := chain B3.out hb4; clear hb4))
    refine bodyPost_ret (v := .tuple #[.int .i64 0, .int .i64 0, .int .i64 8]) (by simp [results, Try.results8, go_sem]) rfl ?_
    exact ⟨rfl, B4.out⟩
  · rw [e1, e2, e3]
    rw [h] at hf
    rw [hx] at HA
    rcases HR.out with h0 | ⟨b0, o0, ha, hB0, ia⟩
    · rw [h0] at hj; simp at hj
    have HJ : Hid (∀ W, Below w.heap.size w W → W.cell? ⟨b0, o0 + j * 6 + 5, none⟩ = some (.int .i64 (rs.getD j zPr).am)) := fun W hW => ((ia j hj).below hW hB0).2.2.2.2.2
    have hjl : (j : Int) < (rs.length : Int) := by omega
    have hd : ((j : Int) == -1) = false := by first | (simp; done) | (simp; omega)
    clear e1 e2 e3 h hx ia
    subst ha
    generalize (rs.getD j zPr).am = x at *
    go_enter Try.func8, Try.ntmps8
    go_wp2_with (first
      | (go_at_call 12; refine hf.mono ?_; rintro e w2 ⟨rfl, hb2⟩; have B2 : Hid (Below w.heap.size w w2) := hb2; clear hb2)
      | (go_at_call 13; refine (HM.out _).mono ?_; rintro e w3 ⟨p1, p2, p3, rfl, he, hb3⟩; have B3 : Hid (Below w.heap.size w w3) := chain B2.out hb3; have HE : Hid (CtEnv w3 (some ⟨b0, o0, none⟩) rs.length cap art zn p1 p2 p3) := he; clear he hb3)
      | (go_at_call 28; refine (HA.out _ _ _ _ ((HR.out.below B3.out).mono B3.out.size) HE.out).mono ?_; rintro e w4 ⟨rfl, hb4⟩; have B4 : Hid (Below w.heap.size w w4) := chain B3.out hb4; have hcj := HJ.out w4 B4.out; clear hb4))
    refine bodyPost_ret (v := .tuple #[.int .i64 x, .int .i64 (j : Int), .int .i64 0]) (by simp [results, Try.results8, go_sem]) rfl ?_
    exact ⟨rfl, B4.out⟩

set_option maxHeartbeats 1000000 in
theorem specPriceAt_any (a : Option Addr) (cap : Nat) (rs : List RPr) (hl : rs.length ≤ 100000000) (hp : ∀ r ∈ rs, PrOK r) (art zn : ByteArray) (ha : art.size ≤ 100000000) (hz : zn.size ≤ 100000000) (m : Int) (w : World) (hr : ReadsPr w.heap.size w a rs) :
    Calls Try.prog 9 #[.slice a rs.length cap, .string art, .string zn, .int .i64 m] w fun e w' => e = .returned (.tuple #[.int .i64 (paAm rs art zn m), .int .i64 (paRow rs art zn m), .int .i64 (paCode rs art zn m)]) ∧ Below w.heap.size w w' := by
  have hL := fun w => long_any a rs.length cap hl art zn ha hz w
  have hS := specPrices_any a cap rs hl hp w hr
  have HA : Hid (∀ W, ReadsPr W.heap.size W a rs → Calls Try.prog 21 #[.slice a rs.length cap, .string art, .string zn, .int .i64 m] W fun e w' => e = .returned (.int .i64 (atAll rs art zn m)) ∧ Below W.heap.size W w') := fun W h => specAt_any a cap rs hl art zn m W h
  have HR : Hid (ReadsPr w.heap.size w a rs) := hr
  clear hr hp
  rcases pa_ways rs art zn m with ⟨h, e1, e2, e3⟩ | ⟨h, hx, e1, e2, e3⟩ | ⟨h, j, hj, hx, e1, e2, e3⟩
  · rw [e1, e2, e3]
    clear e1 e2 e3 HA
    rcases pf_ways rs art zn with ⟨f, g⟩ | ⟨f, g, g'⟩ | ⟨f, g, g'⟩
    · rw [f]
      rw [g] at hL
      clear f g h
      go_enter Try.func9, Try.ntmps9
      go_wp2_with (go_at_call 19; refine (hL _).mono ?_; rintro e w2 ⟨rfl, rfl⟩)
      refine bodyPost_ret (v := .tuple #[.int .i64 0, .int .i64 0, .int .i64 2]) (by simp [results, Try.results9, go_sem]) rfl ?_
      exact ⟨rfl, Below.refl _ _⟩
    · rw [f]
      rw [g] at hL
      rw [g'] at hS
      clear f g g' h
      go_enter Try.func9, Try.ntmps9
      go_wp2_with (first
        | (go_at_call 19; refine (hL _).mono ?_; rintro e w1 ⟨rfl, h1⟩; rw [h1]; clear h1 w1)
        | (go_at_call 20; refine hS.mono ?_; rintro e w2 ⟨rfl, hb2⟩))
      refine bodyPost_ret (v := .tuple #[.int .i64 0, .int .i64 0, .int .i64 1]) (by simp [results, Try.results9, go_sem]) rfl ?_
      exact ⟨rfl, hb2⟩
    · exact absurd f h
  · rw [e1, e2, e3]
    rw [hx] at HA
    rcases pf_ways rs art zn with ⟨f, _⟩ | ⟨f, _, _⟩ | ⟨_, g, g'⟩
    · rw [h] at f; omega
    · rw [h] at f; omega
    rw [g] at hL
    rw [g'] at hS
    clear e1 e2 e3 h hx g g'
    go_enter Try.func9, Try.ntmps9
    go_wp2_with (first
      | (go_at_call 19; refine (hL _).mono ?_; rintro e w1 ⟨rfl, h1⟩; rw [h1]; clear h1 w1)
      | (go_at_call 20; refine hS.mono ?_; rintro e w2 ⟨rfl, hb2⟩; have B2 : Hid (Below w.heap.size w w2) := hb2; clear hb2)
      | (go_at_call 21; refine (HA.out _ ((HR.out.below B2.out).mono B2.out.size)).mono ?_; rintro e w4 ⟨rfl, hb4⟩; have B4 : Hid (Below w.heap.size w w4) := chain B2.out hb4; clear hb4))
    refine bodyPost_ret (v := .tuple #[.int .i64 0, .int .i64 0, .int .i64 8]) (by simp [results, Try.results9, go_sem]) rfl ?_
    exact ⟨rfl, B4.out⟩
  · rw [e1, e2, e3]
    rw [hx] at HA
    rcases pf_ways rs art zn with ⟨f, _⟩ | ⟨f, _, _⟩ | ⟨_, g, g'⟩
    · rw [h] at f; omega
    · rw [h] at f; omega
    rw [g] at hL
    rw [g'] at hS
    rcases HR.out with h0 | ⟨b0, o0, ha, hB0, ia⟩
    · rw [h0] at hj; simp at hj
    have HJ : Hid (∀ W, Below w.heap.size w W → W.cell? ⟨b0, o0 + j * 6 + 5, none⟩ = some (.int .i64 (rs.getD j zPr).am)) := fun W hW => ((ia j hj).below hW hB0).2.2.2.2.2
    have hjl : (j : Int) < (rs.length : Int) := by omega
    have hd : decide ((j : Int) < 0) = false := decide_eq_false (by omega)
    clear e1 e2 e3 h hx ia g g'
    subst ha
    generalize (rs.getD j zPr).am = x at *
    go_enter Try.func9, Try.ntmps9
    go_wp2_with (first
      | (go_at_call 19; refine (hL _).mono ?_; rintro e w1 ⟨rfl, h1⟩; rw [h1]; clear h1 w1)
      | (go_at_call 20; refine hS.mono ?_; rintro e w2 ⟨rfl, hb2⟩; have B2 : Hid (Below w.heap.size w w2) := hb2; clear hb2)
      | (go_at_call 21; refine (HA.out _ ((HR.out.below B2.out).mono B2.out.size)).mono ?_; rintro e w4 ⟨rfl, hb4⟩; have B4 : Hid (Below w.heap.size w w4) := chain B2.out hb4; have hcj := HJ.out w4 B4.out; clear hb4))
    refine bodyPost_ret (v := .tuple #[.int .i64 x, .int .i64 (j : Int), .int .i64 0]) (by simp [results, Try.results9, go_sem]) rfl ?_
    exact ⟨rfl, B4.out⟩
end Go.Proofs.Ytgfgecpgfcipnaa
