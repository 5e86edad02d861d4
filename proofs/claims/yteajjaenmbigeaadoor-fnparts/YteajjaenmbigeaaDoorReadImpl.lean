/-
  Contract of the program's ReadMoney: for every text.
-/
import Derived.Test.YteajjaenmbigeaaDoorCut
import Derived.Test.YteajjaenmbigeaaDoorReadMath
import Derived.Test.YteajjaenmbigeaaDoorTold
namespace Go.Proofs.YteajjaenmbigeaaDoor
open Go.ChangeShapes Go.WideShapes Go.ChangeAt Go.RowKit
set_option linter.unusedVariables false

def signV (x : Int) (b : Bool) : Int := if b = true then -x else x
theorem signed_any (x : Int) (b : Bool) (w : World) (h1 : -9000000000000000000 ≤ x) (h2 : x ≤ 9000000000000000000) :
    Calls Tryd.prog 31 #[.int .i64 x, .bool b] w fun e w' => e = .returned (.int .i64 (signV x b)) ∧ w' = w := by
  cases b
  all_goals
    go_enter Tryd.func31, Tryd.ntmps31
    go_wp2
    go_ret
    exact ⟨rfl, rfl⟩

def rmOK (L : List UInt8) : Bool := okU (strip L) && !(negL L && decide (valU (strip L) = 0))
def rmV (L : List UInt8) : Int := signV (valU (strip L)) (negL L)
/-- What ReadMoney answers: the amount, the code. -/
def rm1 (L : List UInt8) : Int := if 65536 < L.length then 0 else if rmOK L = true then told1 (rmV L) else 0
def rm2 (L : List UInt8) : Int := if 65536 < L.length then 2 else if rmOK L = true then told2 (rmV L) else 4

theorem rm_small {L : List UInt8} (h : L.length ≤ 65536) : rm1 L = (if rmOK L = true then told1 (rmV L) else 0) ∧ rm2 L = (if rmOK L = true then told2 (rmV L) else 4) := by
  have : ¬ 65536 < L.length := by omega
  constructor
  · unfold rm1; exact if_neg this
  · unfold rm2; exact if_neg this

set_option maxHeartbeats 1600000 in
/-- The program's ReadMoney, behind the sign. -/
theorem implRead_cut (s u : ByteArray) (b : Bool) (hs : (s.size : Int) ≤ 65536) (hu : u.size ≤ 65536)
    (hcd : ∀ w, Calls Tryd.prog 26 #[.string s, .string ⟨#[45]⟩] w fun e w' => e = .returned (.tuple #[.string u, .bool b]) ∧ w' = w) (w : World) :
    Calls Tryd.prog 9 #[.string s] w fun e w' => e = .returned (if (okU u.data.toList && !(b && decide (valU u.data.toList = 0))) = true then .tuple #[.int .i64 (told1 (signV (valU u.data.toList) b)), .int .i64 (told2 (signV (valU u.data.toList) b))] else .tuple #[.int .i64 0, .int .i64 4]) ∧ Below w.heap.size w w' := by
  have hum : u.size ≤ maxLen := by unfold maxLen; omega
  have hul : u.data.toList.length = u.size := by simp
  have hge := Lib.indexByte_ge u.data.toList 46
  by_cases hn : Lib.indexByte u.data.toList 46 = -1
  · have hno := Lib.indexByte_none hn
    have hok : okU u.data.toList = false := cut_none _ fun k hk h46 => hno k (by
      rw [List.getElem?_eq_getElem hk, ← getD_lt hk]
      exact congrArg some (UInt8.toNat_inj.mp h46))
    have hcp := fun w => cutPoint_none u hn w
    rw [hok]
    simp only [Bool.false_and, Bool.false_eq_true, if_false]
    clear hok hno hn hge
    go_enter Tryd.func9, Tryd.ntmps9
    go_wp2_with (first | (go_at_call 26; refine (hcd _).mono ?_; rintro e w' ⟨rfl, rfl⟩) | (go_at_call 27; refine (hcp _).mono ?_; rintro e w1 ⟨rfl, hb1⟩))
    go_ret2
    exact ⟨rfl, by repeat (first | exact Below.refl _ _ | refine chain ?_ (by assumption) | refine chain ?_ (below_alloc _ _) | refine chain ?_ (below_drew _))⟩
  · obtain ⟨i, hi⟩ : ∃ i : Nat, Lib.indexByte u.data.toList 46 = (i : Int) := ⟨(Lib.indexByte u.data.toList 46).toNat, by omega⟩
    obtain ⟨hat, hfirst⟩ := Lib.indexByte_some hi
    have hil : i < u.data.toList.length := by
      by_cases h : i < u.data.toList.length
      · exact h
      · rw [List.getElem?_eq_none (by omega)] at hat; cases hat
    have hiu : i < u.size := by omega
    have h46 : (u.data.toList.getD i 0).toNat = 46 := by
      rw [List.getElem?_eq_getElem hil] at hat
      rw [getD_lt hil, Option.some.inj hat]; rfl
    have hff : ∀ k, k < i → (u.data.toList.getD k 0).toNat ≠ 46 := fun k hk h => hfirst k hk (by
      rw [List.getElem?_eq_getElem (by omega), ← getD_lt (by omega)]
      exact congrArg some (UInt8.toNat_inj.mp h))
    have hok := cut_ok u.data.toList i hil h46 hff
    have hcp := fun w => cutPoint_some u i hum hi hiu w
    have hval := fun h => cut_val u.data.toList i h hil
    have eW : (u.extract 0 i).data.toList = u.data.toList.take i := by rw [Lib.extract_data]; simp
    have eC : (u.extract (i + 1) u.size).data.toList = u.data.toList.drop (i + 1) := Lib.extract_to_end u (i + 1)
    have zW : (u.extract 0 i).size ≤ 65536 := by simp; omega
    have zC : (u.extract (i + 1) u.size).size ≤ 65536 := by simp; omega
    rw [← eW, ← eC] at hok hval
    clear eW eC hat hfirst h46 hff hi hil hiu hn hge
    generalize okU u.data.toList = ok at *
    generalize valU u.data.toList = v at *
    generalize u.extract 0 i = W at *
    generalize u.extract (i + 1) u.size = C at *
    have hwt := fun w => wholeText_any W (by unfold maxLen; omega) w
    have had := fun w => allDigits_any C w
    cases hW : wt 15 W.data.toList
    · rw [hW] at hok
      simp only [Bool.false_and] at hok
      subst hok
      simp only [Bool.false_and, Bool.false_eq_true, if_false]
      go_enter Tryd.func9, Tryd.ntmps9
      go_wp2_with (first | (go_at_call 26; refine (hcd _).mono ?_; rintro e w' ⟨rfl, rfl⟩) | (go_at_call 27; refine (hcp _).mono ?_; rintro e w1 ⟨rfl, hb1⟩) | (go_at_call 28; refine (hwt _).mono ?_; rintro e w2 ⟨rfl, hb2⟩))
      go_ret2
      exact ⟨rfl, by repeat (first | exact Below.refl _ _ | refine chain ?_ (by assumption) | refine chain ?_ (below_alloc _ _) | refine chain ?_ (below_drew _))⟩
    · by_cases h2 : C.size = 2
      · have h2' : ((C.size : Int) == 2) = true := by rw [h2]; rfl
        cases hA : allD C.data.toList
        · rw [hW, hA] at hok
          simp only [Bool.and_false] at hok
          subst hok
          simp only [Bool.false_and, Bool.false_eq_true, if_false]
          have h2n : ((C.size : Int) != 2) = false := by rw [h2]; rfl
          go_enter Tryd.func9, Tryd.ntmps9
          go_wp2_with (first | (go_at_call 26; refine (hcd _).mono ?_; rintro e w' ⟨rfl, rfl⟩) | (go_at_call 27; refine (hcp _).mono ?_; rintro e w1 ⟨rfl, hb1⟩) | (go_at_call 28; refine (hwt _).mono ?_; rintro e w2 ⟨rfl, hb2⟩) | (go_at_call 29; refine (had _).mono ?_; rintro e w3 ⟨rfl, hb3⟩))
          go_ret2
          exact ⟨rfl, by repeat (first | exact Below.refl _ _ | refine chain ?_ (by assumption) | refine chain ?_ (below_alloc _ _) | refine chain ?_ (below_drew _))⟩
        · obtain ⟨w1, w2, w3⟩ := wt_all hW
          have hd1 := fun w => digitsNumber_any W (by have : W.data.toList.length = W.size := by simp
                                                      omega) w1 w
          have hd2 := fun w => digitsNumber_any C (by omega) hA w
          have hv := hval (by simpa using h2)
          have hb1 := num_bound _ _ rfl w1
          have hb2 := pow_le _ 15 w3
          have hb3 : (10 : Int) ^ 15 = 1000000000000000 := by decide
          have hb4 := num_bound _ _ rfl hA
          have hb5 : (10 : Int) ^ C.data.toList.length = 100 := by
            have : C.data.toList.length = 2 := by simpa using h2
            rw [this]; decide
          have x0 : 0 ≤ num W.data.toList := hb1.1
          have x1 : num W.data.toList < 1000000000000000 := by omega
          have y0 : 0 ≤ num C.data.toList := hb4.1
          have y1 : num C.data.toList < 100 := by omega
          rw [hW, hA, decide_eq_true (show C.data.toList.length = 2 by simpa using h2)] at hok
          simp only [Bool.and_true] at hok
          clear hb1 hb2 hb3 hb4 hb5 w1 w2 w3 hval
          generalize num W.data.toList = x at *
          generalize num C.data.toList = y at *
          subst hok
          subst hv
          have h2n : ((C.size : Int) != 2) = false := by rw [h2]; rfl
          have hsg := fun w => signed_any (100 * x + y) b w (by omega) (by omega)
          clear h2 h2'
          cases b
          · simp only [Bool.true_and, Bool.false_and, Bool.not_false, if_true]
            go_enter Tryd.func9, Tryd.ntmps9
            go_wp2_with fail
            go_at_call 26
            refine (hcd _).mono ?_
            rintro e w' ⟨rfl, rfl⟩
            go_wp2_with fail
            go_at_call 27
            refine (hcp _).mono ?_
            rintro e w1 ⟨rfl, hb1⟩
            go_wp2_with fail
            go_at_call 28
            refine (hwt _).mono ?_
            rintro e w2 ⟨rfl, hb2⟩
            go_wp2_with fail
            go_at_call 29
            refine (had _).mono ?_
            rintro e w3 ⟨rfl, hb3⟩
            go_wp2_with fail
            go_at_call 30
            refine (hd1 _).mono ?_
            rintro e w4 ⟨rfl, hb4⟩
            go_wp2_with fail
            go_at_call 30
            refine (hd2 _).mono ?_
            rintro e w5 ⟨rfl, hb5⟩
            go_wp2_with fail
            go_at_call 31
            refine (hsg _).mono ?_
            rintro e w' ⟨rfl, rfl⟩
            go_wp2_with fail
            go_at_call 15
            refine (implTold_any _ _).mono ?_
            rintro e w' ⟨rfl, rfl⟩
            go_wp2
            go_ret2
            exact ⟨rfl, by repeat (first | exact Below.refl _ _ | refine chain ?_ (by assumption) | refine chain ?_ (below_alloc _ _) | refine chain ?_ (below_drew _))⟩
          · by_cases hz : 100 * x + y = 0
            · rw [decide_eq_true hz]
              simp only [Bool.true_and, Bool.not_true, Bool.false_eq_true, if_false]
              have hz' : (100 * x + y == 0) = true := by rw [hz]; rfl
              clear hz
              go_enter Tryd.func9, Tryd.ntmps9
              go_wp2_with fail
              go_at_call 26
              refine (hcd _).mono ?_
              rintro e w' ⟨rfl, rfl⟩
              go_wp2_with fail
              go_at_call 27
              refine (hcp _).mono ?_
              rintro e w1 ⟨rfl, hb1⟩
              go_wp2_with fail
              go_at_call 28
              refine (hwt _).mono ?_
              rintro e w2 ⟨rfl, hb2⟩
              go_wp2_with fail
              go_at_call 29
              refine (had _).mono ?_
              rintro e w3 ⟨rfl, hb3⟩
              go_wp2_with fail
              go_at_call 30
              refine (hd1 _).mono ?_
              rintro e w4 ⟨rfl, hb4⟩
              go_wp2_with fail
              go_at_call 30
              refine (hd2 _).mono ?_
              rintro e w5 ⟨rfl, hb5⟩
              go_wp2
              go_ret2
              exact ⟨rfl, by repeat (first | exact Below.refl _ _ | refine chain ?_ (by assumption) | refine chain ?_ (below_alloc _ _) | refine chain ?_ (below_drew _))⟩
            · rw [decide_eq_false hz]
              simp only [Bool.true_and, Bool.not_false, Bool.and_true, if_true]
              have hz' : (100 * x + y == 0) = false := by simpa using hz
              go_enter Tryd.func9, Tryd.ntmps9
              go_wp2_with fail
              go_at_call 26
              refine (hcd _).mono ?_
              rintro e w' ⟨rfl, rfl⟩
              go_wp2_with fail
              go_at_call 27
              refine (hcp _).mono ?_
              rintro e w1 ⟨rfl, hb1⟩
              go_wp2_with fail
              go_at_call 28
              refine (hwt _).mono ?_
              rintro e w2 ⟨rfl, hb2⟩
              go_wp2_with fail
              go_at_call 29
              refine (had _).mono ?_
              rintro e w3 ⟨rfl, hb3⟩
              go_wp2_with fail
              go_at_call 30
              refine (hd1 _).mono ?_
              rintro e w4 ⟨rfl, hb4⟩
              go_wp2_with fail
              go_at_call 30
              refine (hd2 _).mono ?_
              rintro e w5 ⟨rfl, hb5⟩
              go_wp2_with fail
              go_at_call 31
              refine (hsg _).mono ?_
              rintro e w' ⟨rfl, rfl⟩
              go_wp2_with fail
              go_at_call 15
              refine (implTold_any _ _).mono ?_
              rintro e w' ⟨rfl, rfl⟩
              go_wp2
              go_ret2
              exact ⟨rfl, by repeat (first | exact Below.refl _ _ | refine chain ?_ (by assumption) | refine chain ?_ (below_alloc _ _) | refine chain ?_ (below_drew _))⟩
      · have hc2 : ¬ C.data.toList.length = 2 := by simpa using h2
        rw [decide_eq_false hc2] at hok
        simp only [Bool.and_false, Bool.false_and] at hok
        subst hok
        simp only [Bool.false_and, Bool.false_eq_true, if_false]
        have h2n : ((C.size : Int) != 2) = true := by
          have : (C.size : Int) ≠ 2 := by omega
          simpa using this
        go_enter Tryd.func9, Tryd.ntmps9
        go_wp2_with (first | (go_at_call 26; refine (hcd _).mono ?_; rintro e w' ⟨rfl, rfl⟩) | (go_at_call 27; refine (hcp _).mono ?_; rintro e w1 ⟨rfl, hb1⟩) | (go_at_call 28; refine (hwt _).mono ?_; rintro e w2 ⟨rfl, hb2⟩))
        go_ret2
        exact ⟨rfl, by repeat (first | exact Below.refl _ _ | refine chain ?_ (by assumption) | refine chain ?_ (below_alloc _ _) | refine chain ?_ (below_drew _))⟩

theorem neg_of (s : ByteArray) (hp : 0 < s.size) (h : s[0].toNat = 45) : negL s.data.toList = true ∧ (s.extract 1 s.size).data.toList = strip s.data.toList := by
  have hn : negL s.data.toList = true := by unfold negL; rw [headD_at s hp]; exact decide_eq_true ⟨by simpa using hp, h⟩
  refine ⟨hn, ?_⟩
  unfold strip
  rw [if_pos hn, Lib.extract_to_end, List.drop_one]
theorem pos_of (s : ByteArray) (h : ∀ hp : 0 < s.size, s[0].toNat ≠ 45) : negL s.data.toList = false ∧ s.data.toList = strip s.data.toList := by
  have hn : negL s.data.toList = false := by
    unfold negL
    apply decide_eq_false
    rintro ⟨h1, h2⟩
    have hp : 0 < s.size := by simpa using h1
    rw [headD_at s hp] at h2
    exact h hp h2
  refine ⟨hn, ?_⟩
  unfold strip
  rw [hn]; rfl

theorem ite_two (c : Bool) (a b : Int) : (Ending.returned (if c = true then .tuple #[.int .i64 a, .int .i64 b] else .tuple #[.int .i64 0, .int .i64 4]) : Ending) = .returned (.tuple #[.int .i64 (if c = true then a else 0), .int .i64 (if c = true then b else 4)]) := by
  cases c <;> rfl

theorem implRead_any (s : ByteArray) (hs : s.size ≤ maxLen) (w : World) :
    Calls Tryd.prog 9 #[.string s] w fun e w' => e = .returned (.tuple #[.int .i64 (rm1 s.data.toList), .int .i64 (rm2 s.data.toList)]) ∧ Below w.heap.size w w' := by
  have hlen : s.data.toList.length = s.size := by simp
  by_cases hL : (65536 : Int) < (s.size : Int)
  · unfold rm1 rm2
    rw [if_pos (by omega), if_pos (by omega)]
    unfold maxLen at hs
    clear hlen
    go_enter Tryd.func9, Tryd.ntmps9
    go_wp2
    go_ret2
    exact ⟨rfl, Below.refl _ _⟩
  · obtain ⟨r1, r2⟩ := rm_small (L := s.data.toList) (by omega)
    rw [r1, r2, ← ite_two]
    unfold rmOK rmV
    by_cases hd : ∃ hp : 0 < s.size, s[0].toNat = 45
    · obtain ⟨hp, h45⟩ := hd
      obtain ⟨hn, hst⟩ := neg_of s hp h45
      rw [hn, ← hst]
      exact implRead_cut s _ true (by omega) (by simp; omega) (fun w => cutDash_yes s hs hp h45 w) w
    · have hd' : ∀ hp : 0 < s.size, s[0].toNat ≠ 45 := fun hp h => hd ⟨hp, h⟩
      obtain ⟨hn, hst⟩ := pos_of s hd'
      rw [hn, ← hst]
      exact implRead_cut s s false (by omega) (by omega) (fun w => cutDash_no s hs hd' w) w
end Go.Proofs.YteajjaenmbigeaaDoor
