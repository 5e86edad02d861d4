/-
  Contracts of the specification's l15Long, l15Right, for all arguments.
-/
import Derived.Test.YtlcnhkhkhlpghaaMqA
import Derived.BigQuiet
import Derived.Deep.QuietTactic
namespace Go.Proofs.Ytlcnhkhkhlpghaa
open Go.ChangeShapes Go.WideShapes Go.ChangeAt Go.RowKit Go.Deep Go.Joins
set_option linter.unusedVariables false

theorem drewBelow (w : World) (n : Nat) : Below w.heap.size w (w.drewN n) := ⟨rfl, rfl, rfl, Nat.le_refl _, fun _ _ => rfl⟩
theorem l15Long_any (a : Option Addr) (n ca : Nat) (hn : n ≤ 100000000) (b : Option Addr) (m cb : Nat) (hm : m ≤ 100000000) (w : World) :
    Calls Try.prog 43 #[.slice a n ca, .slice b m cb] w fun e w' => e = .returned (.bool (decide (4096 < n ∨ 4096 < m))) ∧ w' = w := by
  by_cases h1 : 4096 < n
  · have h1' : (4096 : Int) < (n : Int) := by omega
    go_enter Try.func43, Try.ntmps43
    go_wp2
    go_ret
    exact ⟨ret_bool (by first | rfl | exact (decide_eq_true (Or.inl h1)).symm), rfl⟩
  · have h1' : ¬ (4096 : Int) < (n : Int) := by omega
    by_cases h2 : 4096 < m
    · have h2' : (4096 : Int) < (m : Int) := by omega
      go_enter Try.func43, Try.ntmps43
      go_wp2
      go_ret
      exact ⟨ret_bool (by first | rfl | exact (decide_eq_true (Or.inr h2)).symm), rfl⟩
    · have h2' : ¬ (4096 : Int) < (m : Int) := by omega
      go_enter Try.func43, Try.ntmps43
      go_wp2
      go_ret
      exact ⟨ret_bool (by first | rfl | exact (decide_eq_false (show ¬ (4096 < n ∨ 4096 < m) by omega)).symm), rfl⟩
/-- The ways in which the sizes are wrong, in the order in which they are asked. -/
theorem rt_ways (price stock : Int) (ps : List Int) (cs : LL) : (inB price 0 1000000 = false ∧ mkR price stock ps cs = false) ∨ (inB price 0 1000000 = true ∧ inB stock 0 200 = false ∧ mkR price stock ps cs = false) ∨ (inB price 0 1000000 = true ∧ inB stock 0 200 = true ∧ (ps.length : Int) < 1 ∧ mkR price stock ps cs = false) ∨ (inB price 0 1000000 = true ∧ inB stock 0 200 = true ∧ ¬ (ps.length : Int) < 1 ∧ 5 < (ps.length : Int) ∧ mkR price stock ps cs = false) ∨ (inB price 0 1000000 = true ∧ inB stock 0 200 = true ∧ ¬ (ps.length : Int) < 1 ∧ ¬ 5 < (ps.length : Int) ∧ (cs.length : Int) < 1 ∧ mkR price stock ps cs = false) ∨ (inB price 0 1000000 = true ∧ inB stock 0 200 = true ∧ ¬ (ps.length : Int) < 1 ∧ ¬ 5 < (ps.length : Int) ∧ ¬ (cs.length : Int) < 1 ∧ 7 < (cs.length : Int) ∧ mkR price stock ps cs = false) ∨ (inB price 0 1000000 = true ∧ inB stock 0 200 = true ∧ ¬ (ps.length : Int) < 1 ∧ ¬ 5 < (ps.length : Int) ∧ ¬ (cs.length : Int) < 1 ∧ ¬ 7 < (cs.length : Int) ∧ mkR price stock ps cs = (upTo (pcAt ps) ps.length && cs.all (daB ps.length))) := by
  unfold mkR pcB dmB
  cases h1 : inB price 0 1000000
  · exact .inl ⟨rfl, rfl⟩
  cases h2 : inB stock 0 200
  · exact .inr (.inl ⟨rfl, rfl, rfl⟩)
  by_cases h3 : (ps.length : Int) < 1
  · have : inB (ps.length : Int) 1 5 = false := decide_eq_false (by omega)
    exact .inr (.inr (.inl ⟨rfl, rfl, h3, by rw [this]; simp⟩))
  by_cases h4 : 5 < (ps.length : Int)
  · have : inB (ps.length : Int) 1 5 = false := decide_eq_false (by omega)
    exact .inr (.inr (.inr (.inl ⟨rfl, rfl, h3, h4, by rw [this]; simp⟩)))
  have e1 : inB (ps.length : Int) 1 5 = true := decide_eq_true (by omega)
  by_cases h5 : (cs.length : Int) < 1
  · have : inB (cs.length : Int) 1 7 = false := decide_eq_false (by omega)
    exact .inr (.inr (.inr (.inr (.inl ⟨rfl, rfl, h3, h4, h5, by rw [this]; simp⟩))))
  by_cases h6 : 7 < (cs.length : Int)
  · have : inB (cs.length : Int) 1 7 = false := decide_eq_false (by omega)
    exact .inr (.inr (.inr (.inr (.inr (.inl ⟨rfl, rfl, h3, h4, h5, h6, by rw [this]; simp⟩)))))
  have e2 : inB (cs.length : Int) 1 7 = true := decide_eq_true (by omega)
  exact .inr (.inr (.inr (.inr (.inr (.inr ⟨rfl, rfl, h3, h4, h5, h6, by rw [e1, e2]; simp⟩)))))
set_option maxHeartbeats 8000000 in
set_option maxRecDepth 4000 in
theorem l15Right_any (price stock : Int) (a : Option Addr) (ca : Nat) (ps : List Int) (hl : ps.length ≤ 100000000) (b : Option Addr) (cb : Nat) (cs : LL) (hk : cs.length ≤ 100000000) (hp : ∀ r ∈ cs, DmOK r) (w : World) (hr : Reads w.heap.size w a ps) (ks : ReadsDm w.heap.size w b cs) :
    Calls Try.prog 44 #[.int .i64 price, .int .i64 stock, .slice a ps.length ca, .slice b cs.length cb] w fun e w' => e = .returned (.bool (mkR price stock ps cs)) ∧ Below w.heap.size w w' := by
  have HR : Hid (Reads w.heap.size w a ps) := hr
  have HK : Hid (ReadsDm w.heap.size w b cs) := ks
  have HOK : Hid (∀ r ∈ cs, DmOK r) := hp
  have H1 : Hid (∀ w, Calls Try.prog 36 #[.int .i64 price, .int .i64 0, .int .i64 1000000] w fun e w' => e = .returned (.bool (inB price 0 1000000)) ∧ w' = w) := fun w => in_any price 0 1000000 w
  have H2 : Hid (∀ w, Calls Try.prog 36 #[.int .i64 stock, .int .i64 0, .int .i64 200] w fun e w' => e = .returned (.bool (inB stock 0 200)) ∧ w' = w) := fun w => in_any stock 0 200 w
  clear hr ks hp
  rcases rt_ways price stock ps cs with ⟨h1, hE⟩ | ⟨h1, h2, hE⟩ | ⟨h1, h2, h3, hE⟩ | ⟨h1, h2, h3, h4, hE⟩ | ⟨h1, h2, h3, h4, h5, hE⟩ | ⟨h1, h2, h3, h4, h5, h6, hE⟩ | ⟨h1, h2, h3, h4, h5, h6, hE⟩
  all_goals
    rw [hE]
    rw [h1] at H1
    (try rw [h2] at H2)
    clear hE h1
    go_enter Try.func44, Try.ntmps44
    go_wp2_with fail
    (first | go_at_call 36 | skip)
    refine (H1.out _).mono ?_
    rintro e w1 ⟨rfl, rfl⟩
    clear H1
  · go_wp2_with fail
    go_ret
    exact ⟨rfl, Below.refl _ _⟩
  all_goals
    clear h2
    go_wp2_with fail
    (first | go_at_call 36 | skip)
    refine (H2.out _).mono ?_
    rintro e w2 ⟨rfl, rfl⟩
    clear H2
  · go_wp2_with fail
    go_ret
    exact ⟨rfl, Below.refl _ _⟩
  · go_wp2_with fail
    go_ret
    exact ⟨rfl, Below.refl _ _⟩
  · go_wp2_with fail
    go_ret
    exact ⟨rfl, Below.refl _ _⟩
  · go_wp2_with fail
    go_ret
    exact ⟨rfl, Below.refl _ _⟩
  · go_wp2_with fail
    go_ret
    exact ⟨rfl, Below.refl _ _⟩
  go_wp2_with fail
  go_loopw [9] (fun c wr => ∃ k : Nat, k ≤ ps.length ∧ c = .int .i64 (k : Int) ∧ upTo (pcAt ps) k = true ∧ Below w2.heap.size w2 wr) (fun c _ => ps.length - (intOf c).toNat)
  case atStart => exact ⟨0, Nat.zero_le _, rfl, rfl, Below.refl _ _⟩
  case round =>
    obtain ⟨k, hk', rfl, hf, hb⟩ := hrel
    have HF : Hid (upTo (pcAt ps) k = true) := hf
    have HB : Hid (Below w2.heap.size w2 wr) := hb
    clear hf hb
    by_cases hlt : k < ps.length
    · have hlt' : (k : Int) < (ps.length : Int) := by omega
      rcases HR.out with h | ⟨b0, o0, ha, hB0, ia⟩
      · rw [h] at hlt; simp at hlt
      have c0 := (ia.below HB.out hB0) k hlt
      have HIb : Hid (IntsAt wr b0 o0 ps) := ia.below HB.out hB0
      have HX : Hid (pcAt ps k = false → (upTo (pcAt ps) ps.length && cs.all (daB ps.length)) = false) := fun h => by rw [upTo_fail h _ hlt]; rfl
      have HN : Hid (pcAt ps k = true → upTo (pcAt ps) (k + 1) = true) := fun h => by show (upTo (pcAt ps) k && pcAt ps k) = true; rw [HF.out, h]; rfl
      have HP : Hid (pcAt ps k = (decide (ahd ps k < ps.getD k 0) && inB (ps.getD k 0) 0 100)) := rfl
      have HPz : Hid (k = 0 → ahd ps k = -1) := fun q => by subst q; rfl
      have HPs : Hid (∀ j, k = j + 1 → ahd ps k = ps.getD j 0) := fun j q => by subst q; rfl
      have HS : Hid (∀ W, Calls Try.prog 36 #[.int .i64 (ps.getD k 0), .int .i64 0, .int .i64 100] W fun e w' => e = .returned (.bool (inB (ps.getD k 0) 0 100)) ∧ w' = W) := fun W => in_any _ 0 100 W
      rw [ha]
      clear ia HF
      have HI3 : Hid (inB (ps.getD k 0) 0 100 = true → 0 ≤ ps.getD k 0) := fun h => (of_decide_eq_true h).1
      generalize pcAt ps k = pk at *
      generalize hx : ps.getD k 0 = p at *
      clear hx
      cases hib : inB p 0 100
      · rw [hib] at HS HP
        rw [Bool.and_false] at HP
        have HE : Hid _ := HX.out HP.out
        clear HX HN HP hib HPz HPs HI3
        go_wp2_with fail
        go_quiet (first | (go_at_call 36; exact Calls.quiet_of_same (HS.out _)))
        go_wp2
        go_ret
        exact ⟨ret_bool HE.out.symm, chain HB.out (drewBelow _ _)⟩
      · rw [hib] at HS HP
        rw [Bool.and_true] at HP
        have hp0 := HI3.out hib
        clear hib HI3
        by_cases hk0 : k = 0
        · have hpv := HPz.out hk0
          subst hk0
          rw [Nat.add_zero] at c0
          rw [hpv, decide_eq_true (by omega)] at HP
          have HN1 : Hid _ := HN.out HP.out
          clear HX HN HP HPz HPs hpv
          go_wp2_with fail
          go_quiet (first | (go_at_call 36; exact Calls.quiet_of_same (HS.out _)))
          go_wp2
          exact ⟨⟨0 + 1, by omega, by go_num, HN1.out, chain HB.out (drewBelow _ _)⟩, by simp [intOf]; omega⟩
        · obtain ⟨j, rfl⟩ : ∃ j, k = j + 1 := ⟨k - 1, by omega⟩
          have hpv := HPs.out j rfl
          have dp := HIb.out j (by omega)
          rw [hpv] at HP
          have hjn : (j : Int) < (ps.length : Int) := by omega
          have hw1 : IntKind.i64.wrap (((j + 1 : Nat) : Int) - 1) = (j : Int) := by rw [wrap_id _ (by omega) (by omega)]; omega
          have hi1 : decide ((0 : Int) < ((j + 1 : Nat) : Int)) = true := decide_eq_true (by omega)
          clear HPz HPs hpv HIb
          generalize ps.getD j 0 = q at *
          by_cases g3 : p ≤ q
          · have gd3 : decide (p ≤ q) = true := decide_eq_true g3
            rw [decide_eq_false (by omega)] at HP
            have HE : Hid _ := HX.out HP.out
            clear HX HN HP
            go_wp2_with fail
            go_quiet (first | (go_at_call 36; exact Calls.quiet_of_same (HS.out _)))
            go_wp2
            go_ret
            exact ⟨ret_bool HE.out.symm, chain HB.out (drewBelow _ _)⟩
          · have gd3 : decide (p ≤ q) = false := decide_eq_false g3
            rw [decide_eq_true (by omega)] at HP
            have HN1 : Hid _ := HN.out HP.out
            clear HX HN HP
            go_wp2_with fail
            go_quiet (first | (go_at_call 36; exact Calls.quiet_of_same (HS.out _)))
            go_wp2
            exact ⟨⟨(j + 1) + 1, by omega, by go_num, HN1.out, chain HB.out (drewBelow _ _)⟩, by simp [intOf]; omega⟩
    · obtain rfl : k = ps.length := by omega
      have HE1 : Hid ((upTo (pcAt ps) ps.length && cs.all (daB ps.length)) = cs.all (daB ps.length)) := by show _ = _; rw [HF.out, Bool.true_and]
      clear HF
      go_wp2_with fail
      go_loopw [10, 11] (fun c _ wr2 => ∃ d : Nat, d ≤ cs.length ∧ c = .int .i64 (d : Int) ∧ (cs.take d).all (daB ps.length) = true ∧ Below w2.heap.size w2 wr2) (fun c _ _ => cs.length - (intOf c).toNat)
      case atStart => exact ⟨0, Nat.zero_le _, rfl, rfl, HB.out⟩
      case round =>
        clear HB
        obtain ⟨d, hd', rfl, hf, hb⟩ := hrel
        obtain ⟨v, hv⟩ : ∃ v, v = wr := ⟨_, rfl⟩
        rw [← hv] at hb ⊢
        have HF : Hid ((cs.take d).all (daB ps.length) = true) := hf
        have HB : Hid (Below w2.heap.size w2 v) := hb
        clear hf hb hv
        by_cases hlt : d < cs.length
        · have hlt' : (d : Int) < (cs.length : Int) := by omega
          rcases HK.out with h | ⟨b0, o0, ha, hB0, ia⟩
          · rw [h] at hlt; simp at hlt
          obtain ⟨h, cp, c0, _, hS⟩ := (ia.below HB.out hB0 (Nat.le_refl _)) d hlt
          have HX : Hid (daB ps.length (cs.getD d []) = false → cs.all (daB ps.length) = false) := fun h => dms_fail hlt h
          have HN : Hid ((cs.take (d + 1)).all (daB ps.length) = ((cs.take d).all (daB ps.length) && daB ps.length (cs.getD d []))) := dms_take _ cs d hlt
          have HDa : Hid (daB ps.length (cs.getD d []) = (decide ((cs.getD d []).length = ps.length) && daX (cs.getD d []))) := rfl
          have HS : Hid (Reads w2.heap.size v h (cs.getD d [])) := hS
          have HC0 : Hid (∀ W, Below v.heap.size v W → W.cell? ⟨b0, o0 + d, none⟩ = some (.slice h (cs.getD d []).length cp)) := fun W hb => (hb.cell (p := ⟨b0, o0 + d, none⟩) (Nat.lt_of_lt_of_le hB0 HB.out.size)).trans c0
          have hrl : (cs.getD d []).length ≤ 1048576 := getDm HOK.out hlt
          rw [ha]
          clear ia hS
          generalize hrr : cs.getD d [] = r at *
          clear hrr
          by_cases hlen : r.length = ps.length
          case neg =>
            rw [decide_eq_false hlen, Bool.false_and] at HDa
            have HE : Hid (cs.all (daB ps.length) = false) := HX.out HDa.out
            have hne : ¬ (r.length : Int) = (ps.length : Int) := by omega
            clear HX HN HDa HC0 HS
            generalize r.length = m at *
            go_wp2_with fail
            go_ret
            exact ⟨ret_bool (by rw [HE1.out, HE.out]), HB.out⟩
          rw [decide_eq_true hlen, Bool.true_and] at HDa
          have heq : (r.length : Int) = (ps.length : Int) := by omega
          have HLn : Hid (r.length = ps.length) := hlen
          clear hlen
          generalize hrl2 : r.length = m at *
          have HRl : Hid (r.length = m) := hrl2
          clear hrl2
          go_wp2_with fail
          clear c0
          go_loopw [11] (fun c wr3 => ∃ i : Nat, i ≤ m ∧ c = .int .i64 (i : Int) ∧ daX (r.take i) = true ∧ Below v.heap.size v wr3) (fun c _ => m - (intOf c).toNat)
          case atStart => exact ⟨0, Nat.zero_le _, rfl, rfl, Below.refl _ _⟩
          case round =>
            obtain ⟨i, hi', rfl, hf, hb⟩ := hrel
            obtain ⟨u, hu⟩ : ∃ u, u = wr := ⟨_, rfl⟩
            rw [← hu] at hb ⊢
            have HFi : Hid (daX (r.take i) = true) := hf
            have HBi : Hid (Below v.heap.size v u) := hb
            have c0 := HC0.out u hb
            clear hf hb hu
            by_cases hil : i < m
            · have hil' : (i : Int) < (m : Int) := by omega
              rcases HS.out with h' | ⟨b1, o1, ha1, hB1, ib⟩
              · have := HRl.out; rw [h'] at this; simp at this; omega
              have c1 := (ib.below (HBi.out.mono HB.out.size) hB1) i (by rw [HRl.out]; exact hil)
              have HXi : Hid (inB (r.getD i 0) 0 200 = false → daX r = false) := fun q => da_fail (by rw [HRl.out]; exact hil) q
              have HNi : Hid (daX (r.take (i + 1)) = (daX (r.take i) && inB (r.getD i 0) 0 200)) := da_take r i (by rw [HRl.out]; exact hil)
              have HQ : Hid (∀ W, Calls Try.prog 36 #[.int .i64 (r.getD i 0), .int .i64 0, .int .i64 200] W fun e w' => e = .returned (.bool (inB (r.getD i 0) 0 200)) ∧ w' = W) := fun W => in_any _ 0 200 W
              subst ha1
              clear ib
              generalize r.getD i 0 = x at *
              generalize inB x 0 200 = xb at *
              cases xb
              · have HE : Hid (cs.all (daB ps.length) = false) := HX.out (by rw [HDa.out]; exact HXi.out rfl)
                go_wp2_with (go_at_call 36; refine (HQ.out _).mono ?_; rintro e w5 ⟨rfl, rfl⟩)
                go_ret
                exact ⟨ret_bool (by rw [HE1.out, HE.out]), HB.out.trans (HBi.out.mono HB.out.size)⟩
              · have HN1 : Hid (daX (r.take (i + 1)) = true) := by show _ = _; rw [HNi.out, HFi.out]; rfl
                go_wp2_with (go_at_call 36; refine (HQ.out _).mono ?_; rintro e w5 ⟨rfl, rfl⟩)
                go_roundw
                case rel => exact ⟨i + 1, by omega, by go_num, HN1.out, HBi.out⟩
                case measure => simp [intOf]; omega
            · obtain rfl : i = m := by omega
              have HN1 : Hid ((cs.take (d + 1)).all (daB ps.length) = true) := by
                have := HFi.out
                rw [List.take_of_length_le (by rw [HRl.out]; exact Nat.le_refl _)] at this
                show _ = _
                rw [HN.out, HF.out, HDa.out, this]; rfl
              go_wp2_with fail
              exact ⟨⟨d + 1, by omega, by go_num, HN1.out, HB.out.trans (HBi.out.mono HB.out.size)⟩, by simp [intOf]; omega⟩
        · obtain rfl : d = cs.length := by omega
          have HE : Hid (cs.all (daB ps.length) = true) := by have := HF.out; rwa [List.take_of_length_le (Nat.le_refl _)] at this
          go_wp2_with fail
          go_ret
          exact ⟨ret_bool (by rw [HE1.out, HE.out]), HB.out⟩
end Go.Proofs.Ytlcnhkhkhlpghaa
