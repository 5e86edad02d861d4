/-
  Contract of the specification's Alarms, for all arguments.
-/
import Derived.Test.YtillkllkekhmfaaAmQ
import Derived.Test.YtillkllkekhmfaaFlY
namespace Go.Proofs.Ytillkllkekhmfaa
open Go.ChangeShapes Go.WideShapes Go.ChangeAt Go.RowKit Go.Joins Go.Deep Go.Shelf
set_option linter.unusedVariables false
attribute [local go_sem] run_store_float

theorem lt_le {x hi lo : Nat} (h : ltF hi x = true) (h2 : ltF hi lo = false) (hl : msF lo = false) : leF x lo = false := by
  unfold msF at hl
  unfold ltF at h h2
  unfold leF
  cases k1 : kF lo with
  | none => rw [k1] at hl; cases hl
  | some a =>
    cases k2 : kF hi with
    | none => simp [k2] at h
    | some b =>
      cases k3 : kF x with
      | none => simp [k2, k3] at h
      | some c =>
        rw [k2, k3] at h
        rw [k2, k1] at h2
        have h3 := of_decide_eq_true h
        have h4 := of_decide_eq_false h2
        exact decide_eq_false (by omega)
theorem AnsAm.empty {w W : World} {c : Int} (hb : Below w.heap.size w W) : AnsAm w [] c (.returned (.tuple #[.slice (some ⟨W.heap.size, 0, none⟩) 0 0, .int .i64 c])) (W.alloc (Obj.cells #[] 39)) :=
  ⟨some ⟨W.heap.size, 0, none⟩, 0, rfl, ⟨rfl, .inr ⟨W.heap.size, 0, #[], rfl, hb.size, heapNew _ _, Nat.le_refl _, by unfold maxLen; omega, rfl, rfl⟩⟩, chain hb (below_alloc _ _)⟩
def OneA (w : World) (v : Value) (L : List (Int × Int)) (wr : World) : Prop := wr.ownsRow w.heap.size 39 2 v L.length (alCells L) ∧ Below w.heap.size w wr
theorem OneA.later {w : World} {v : Value} {L : List (Int × Int)} {wr w' : World} (h : OneA w v L wr) (hb : Below wr.heap.size wr w') : OneA w v L w' := ⟨row_of h.1 (fun q hq => hb.block q (row_lt h.1 q hq).2), chain h.2 hb⟩
theorem wpList_pushA {ops : Array Oper} {rest : List Oper} {o : Oper} {a : Act} {Q : Exit → Act → World → Prop} (hgd : o.guard = none) (s x : Operand)
    (ho : o.op = .call { callee := .builtin .append, args := #[s, x], argTypes := #[35, 35] }) (w0 : World) (v : Value) (wr : World) (L : List (Int × Int)) (y z : Int) (h : OneA w0 v L wr) (hL : L.length ≤ 1000000) (hs : a.eval s = v) (hx : a.eval x = .slice (some ⟨wr.heap.size, 0, none⟩) 1 1)
    (K : ∀ v' w', OneA w0 v' (L ++ [(y, z)]) w' → wpList Try.prog ops Q rest (a.put o.dst v') w') : wpList Try.prog ops Q (o :: rest) a (wr.alloc (Obj.cells #[.int .i64 y, .int .i64 z] 39)) := by
  obtain ⟨i0, hi, hzz⟩ := Option.map_eq_some_iff.1 almInfo
  simp only [Prod.mk.injEq] at hzz
  obtain ⟨hi0, hi1, hi2⟩ := hzz
  have h1 : (wr.alloc (Obj.cells #[.int .i64 y, .int .i64 z] 39)).ownsRow w0.heap.size 39 2 v L.length (alCells L) := (h.later (below_alloc wr _)).1
  have hb := (h.later (below_alloc wr (Obj.cells #[.int .i64 y, .int .i64 z] 39))).2
  refine wpList_append_own_at _ hgd s x 35 ho w0.heap.size 39 i0 _ 2 16 Try.underlying35 hi hi0 hi1 hi2 rfl (by decide) v L.length _ hs h1 ⟨wr.heap.size, 0, none⟩ 1 1 [.int .i64 y, .int .i64 z] hx rfl (newsTwoI _ _ _) (by intro u hu; simp at hu; rcases hu with rfl | rfl <;> rfl) (by unfold maxLen; omega) (by omega) hb.size ?_
  intro v' w' k1 k2 _ _
  refine K v' w' ⟨?_, hb.grown k2 hb.size (fun q hq => (h1.lt q hq).1)⟩
  rw [List.length_append, alCells_append]; exact k1
set_option maxHeartbeats 4000000 in
theorem specAlarms_bad (a : Option Addr) (cap : Nat) (xs : List Nat) (hi lo : Nat) (hold : Int) (hl : xs.length ≤ 100000000) (w : World) (hr : ReadsF w.heap.size w a xs) (c : Int)
    (h : (trC xs ≠ 0 ∧ c = trC xs) ∨ (trC xs = 0 ∧ (dgF hi && dgF lo && !ltF hi lo && inB hold 1 200) = false ∧ c = 1)) :
    Calls Try.prog 14 #[.slice a xs.length cap, .float .f64 hi, .float .f64 lo, .int .i64 hold] w (AnsAm w [] c) := by
  have HT : Hid (∀ W, Below w.heap.size w W → Calls Try.prog 35 #[.slice a xs.length cap] W fun e w' => e = .returned (.bool (trB xs)) ∧ Below W.heap.size W w') := fun W hb => specTrace_any a cap xs hl W (hr.later hb)
  have HD1 : Hid (∀ W, Calls Try.prog 41 #[.float .f64 hi, .float .f64 13875379345695965184, .float .f64 4652007308841189376] W fun e w' => e = .returned (.bool (dgF hi)) ∧ Below W.heap.size W w') := fun W => specIn_any hi loF hiF W
  have HD2 : Hid (∀ W, Calls Try.prog 41 #[.float .f64 lo, .float .f64 13875379345695965184, .float .f64 4652007308841189376] W fun e w' => e = .returned (.bool (dgF lo)) ∧ Below W.heap.size W w') := fun W => specIn_any lo loF hiF W
  have HL : Hid (∀ W, Calls Try.prog 42 #[.int .i64 hold, .int .i64 1, .int .i64 200] W fun e w' => e = .returned (.bool (inB hold 1 200)) ∧ w' = W) := fun W => in_any hold 1 200 W
  have hG := o_gt lo hi
  rcases trC_ways xs with ⟨h1, h2⟩ | ⟨h1, h2, h3⟩ | ⟨h1, h2, h3⟩
  · obtain rfl : c = 2 := by
      rw [h2] at h
      rcases h with h | h
      · exact h.2
      · exact absurd h.1 (by decide)
    have h1' : (4096 : Int) < (xs.length : Int) := by omega
    clear hr h
    go_enter Try.func14, Try.ntmps14
    go_wp2
    go_ret2
    exact AnsAm.empty (Below.refl _ _)
  · obtain rfl : c = 1 := by
      rw [h3] at h
      rcases h with h | h
      · exact h.2
      · exact absurd h.1 (by decide)
    have h1' : ¬ (4096 : Int) < (xs.length : Int) := by omega
    rw [h2] at HT
    clear hr h
    go_enter Try.func14, Try.ntmps14
    go_wp2_with (go_at_call 35; refine (HT.out _ (Below.refl _ _)).mono ?_; rintro e w1 ⟨rfl, hb1⟩)
    go_ret2
    exact AnsAm.empty hb1
  · rw [h3] at h
    obtain ⟨hbad, rfl⟩ : (dgF hi && dgF lo && !ltF hi lo && inB hold 1 200) = false ∧ c = 1 := by
      rcases h with h | h
      · exact absurd rfl h.1
      · exact h.2
    have h1' : ¬ (4096 : Int) < (xs.length : Int) := by omega
    rw [h2] at HT
    clear hr h
    have HBad : Hid ((dgF hi && dgF lo && !ltF hi lo && inB hold 1 200) = false) := hbad
    clear hbad
    generalize dgF hi = b1 at *
    generalize dgF lo = b2 at *
    generalize ltF hi lo = b3 at *
    generalize inB hold 1 200 = b4 at *
    go_enter Try.func14, Try.ntmps14
    go_wp2_with fail
    (first | go_at_call 35 | skip)
    refine (HT.out _ (Below.refl _ _)).mono ?_
    rintro e w1 ⟨rfl, hb1⟩
    go_wp2_with fail
    (first | go_at_call 41 | skip)
    refine (HD1.out _).mono ?_
    rintro e w2 ⟨rfl, hb2⟩
    cases b1
    · go_wp2
      go_ret2
      exact AnsAm.empty (chain hb1 hb2)
    go_wp2_with fail
    (first | go_at_call 41 | skip)
    refine (HD2.out _).mono ?_
    rintro e w3 ⟨rfl, hb3⟩
    cases b2
    · go_wp2
      go_ret2
      exact AnsAm.empty (chain (chain hb1 hb2) hb3)
    cases b3
    case true =>
      go_wp2
      go_ret2
      exact AnsAm.empty (chain (chain hb1 hb2) hb3)
    have h4 : b4 = false := HBad.out
    subst h4
    go_wp2_with (go_at_call 42; refine (HL.out _).mono ?_; rintro e w4 ⟨rfl, rfl⟩)
    go_ret2
    exact AnsAm.empty (chain (chain hb1 hb2) hb3)
/-- The state at place k + 1. -/
theorem am_next {xs : List Nat} {k : Nat} (lo hi : Nat) (hold : Int) (hk : k < xs.length) (hl : xs.length ≤ 200) (hok : oksF xs = true) (hm : msF (xs.getD k 0) = false) :
    amF lo hi hold (thT xs (k + 1)) = amN lo hi hold (amF lo hi hold (thT xs k)) (k, xs.getD k 0) := by
  have hD := oks_get hok hk
  unfold okF at hD
  rw [hm, Bool.false_or] at hD
  have hok1 : ThOK (k, xs.getD k 0) := ⟨by show k < 4096; omega, hD⟩
  rw [thT_next hok1]
  exact amF_snoc _ _ _ _ _
set_option maxHeartbeats 16000000 in
theorem specAlarms_right (a : Option Addr) (cap : Nat) (xs : List Nat) (hi lo : Nat) (hold : Int) (h : trC xs = 0) (hd : (dgF hi && dgF lo && !ltF hi lo && inB hold 1 200) = true) (w : World) (hr : ReadsF w.heap.size w a xs) :
    Calls Try.prog 14 #[.slice a xs.length cap, .float .f64 hi, .float .f64 lo, .int .i64 hold] w (AnsAm w (full (xs.length : Int) (amF lo hi hold (thT xs xs.length))) 0) := by
  obtain ⟨hlen, hok⟩ := trC_right h
  have htr : trB xs = true := by unfold trB; rw [decide_eq_true hlen, hok]; rfl
  simp only [Bool.and_eq_true, Bool.not_eq_true'] at hd
  obtain ⟨⟨⟨d1, d2⟩, d3⟩, d4⟩ := hd
  have hh : 1 ≤ hold ∧ hold ≤ 200 := by unfold inB at d4; exact of_decide_eq_true d4
  have HT : Hid (∀ W, Below w.heap.size w W → Calls Try.prog 35 #[.slice a xs.length cap] W fun e w' => e = .returned (.bool true) ∧ Below W.heap.size W w') := fun W hb => by rw [← htr]; exact specTrace_any a cap xs (by omega) W (hr.later hb)
  have HD1 : Hid (∀ W, Calls Try.prog 41 #[.float .f64 hi, .float .f64 13875379345695965184, .float .f64 4652007308841189376] W fun e w' => e = .returned (.bool true) ∧ Below W.heap.size W w') := fun W => by rw [← d1]; exact specIn_any hi loF hiF W
  have HD2 : Hid (∀ W, Calls Try.prog 41 #[.float .f64 lo, .float .f64 13875379345695965184, .float .f64 4652007308841189376] W fun e w' => e = .returned (.bool true) ∧ Below W.heap.size W w') := fun W => by rw [← d2]; exact specIn_any lo loF hiF W
  have HL : Hid (∀ W, Calls Try.prog 42 #[.int .i64 hold, .int .i64 1, .int .i64 200] W fun e w' => e = .returned (.bool true) ∧ w' = W) := fun W => by rw [← d4]; exact in_any hold 1 200 W
  have hG := o_gt lo hi
  rw [d3] at hG
  have HNl : Hid (∀ x, ltF hi x = true → leF x lo = false) := fun x hx => lt_le hx d3 (in_there d2)
  have HR : Hid (ReadsF w.heap.size w a xs) := hr
  have h1' : ¬ (4096 : Int) < (xs.length : Int) := by omega
  clear hr h htr d1 d2 d3 d4
  go_enter Try.func14, Try.ntmps14
  go_wp2_with fail
  (first | go_at_call 35 | skip)
  refine (HT.out _ (Below.refl _ _)).mono ?_
  rintro e w1 ⟨rfl, hb1⟩
  go_wp2_with fail
  (first | go_at_call 41 | skip)
  refine (HD1.out _).mono ?_
  rintro e w2 ⟨rfl, hb2⟩
  go_wp2_with fail
  (first | go_at_call 41 | skip)
  refine (HD2.out _).mono ?_
  rintro e w3 ⟨rfl, hb3⟩
  have HB3 : Hid (Below w.heap.size w w3) := chain (chain hb1 hb2) hb3
  clear hb1 hb2 hb3
  go_wp2_with (go_at_call 42; refine (HL.out _).mono ?_; rintro e w4 ⟨rfl, rfl⟩)
  clear hG
  go_loopw [10, 11, 12, 13, 14] (fun v on fr av i wr => ∃ (k : Nat) (f ab : Int), k ≤ xs.length ∧ i = .int .i64 (k : Int) ∧ on = .bool (amF lo hi hold (thT xs k)).cur.isSome ∧ fr = .int .i64 f ∧ av = .int .i64 ab ∧ (0 ≤ ab ∧ ab ≤ k) ∧ (∀ g, (amF lo hi hold (thT xs k)).cur = some g → f = g) ∧ ((amF lo hi hold (thT xs k)).cur = none → ab = (amF lo hi hold (thT xs k)).ab) ∧ OneA w v (amF lo hi hold (thT xs k)).L wr) (fun _ _ _ _ i _ => xs.length - (intOf i).toNat)
  case atStart => exact ⟨0, 0, 0, Nat.zero_le _, rfl, rfl, rfl, rfl, ⟨Int.le_refl _, Int.le_refl _⟩, (fun g hg => by cases hg), (fun _ => rfl), ⟨⟨rfl, .inr ⟨_, 0, #[], rfl, HB3.out.size, heapNew _ _, Nat.le_refl _, by unfold maxLen; omega, rfl, rfl⟩⟩, chain HB3.out (below_alloc _ _)⟩⟩
  case round =>
    obtain ⟨k, f, ab, hk, rfl, rfl, rfl, rfl, hab, hf, ha0, ho⟩ := hrel
    clear HB3
    by_cases hlt : k < xs.length
    · have hlt' : (k : Int) < (xs.length : Int) := by omega
      rcases HR.out with h | ⟨b0, o0, ha, hB0, ia⟩
      · rw [h] at hlt; simp at hlt
      have c0 := (ia.below ho.2 hB0) k hlt
      have HT : Hid (∀ W, Calls Try.prog 36 #[.float .f64 (xs.getD k 0)] W fun e' w' => e' = .returned (.bool (!msF (xs.getD k 0))) ∧ Below W.heap.size W w') := fun W => there_any _ W
      obtain ⟨bd1, bd2, bd3⟩ := am_bd lo hi hold (thT xs k)
      have hkl := thT_len xs k
      rw [ha]
      clear ia
      cases hms : msF (xs.getD k 0) with
      | true =>
        have HF : Hid (thT xs (k + 1) = thT xs k) := thT_skip hms
        have HO : Hid (OneA w u10 (amF lo hi hold (thT xs k)).L wr) := ho
        have HQ : Hid ((0 ≤ ab ∧ ab ≤ k) ∧ (∀ g, (amF lo hi hold (thT xs k)).cur = some g → f = g) ∧ ((amF lo hi hold (thT xs k)).cur = none → ab = (amF lo hi hold (thT xs k)).ab)) := ⟨hab, hf, ha0⟩
        rw [hms] at HT
        clear hms ho hab hf ha0 bd1 bd2 bd3
        generalize xs.getD k 0 = xv at *
        go_wp2_with (go_at_call 36; refine (HT.out _).mono ?_; rintro e w5 ⟨rfl, hb5⟩)
        go_roundw
        case rel => exact ⟨k + 1, f, ab, by omega, by go_num, by rw [HF.out], rfl, rfl, ⟨HQ.out.1.1, by have := HQ.out.1.2; omega⟩, by rw [HF.out]; exact HQ.out.2.1, by rw [HF.out]; exact HQ.out.2.2, by rw [HF.out]; exact HO.out.later hb5⟩
        case measure => simp [intOf]; omega
      | false =>
        have HF : Hid (amF lo hi hold (thT xs (k + 1)) = amN lo hi hold (amF lo hi hold (thT xs k)) (k, xs.getD k 0)) := am_next lo hi hold hlt hlen hok hms
        have hG := o_gt (xs.getD k 0) hi
        have hLe := o_le (xs.getD k 0) lo
        have HNx : Hid (ltF hi (xs.getD k 0) = true → leF (xs.getD k 0) lo = false) := HNl.out _
        rw [hms] at HT
        clear hms
        generalize amF lo hi hold (thT xs k) = t at *
        obtain ⟨c, ab0, L⟩ := t
        unfold amN at HF
        dsimp only at HF ho hf ha0 bd1 bd2 bd3
        generalize ltF hi (xs.getD k 0) = bg at *
        generalize leF (xs.getD k 0) lo = bl at *
        generalize xs.getD k 0 = xv at *
        have HO' : Hid (OneA w u10 L wr) := ho
        have HM : Hid (∀ (t' : AmS) (v' : Value) (f' ab' : Int) (W : World), amF lo hi hold (thT xs (k + 1)) = t' → (0 ≤ ab' ∧ ab' ≤ k + 1) → (∀ g, t'.cur = some g → f' = g) → (t'.cur = none → ab' = t'.ab) → OneA w v' t'.L W → ∃ (k' : Nat) (f'' ab'' : Int), k' ≤ xs.length ∧ Value.int .i64 ((k : Int) + 1) = .int .i64 (k' : Int) ∧ Value.bool t'.cur.isSome = .bool (amF lo hi hold (thT xs k')).cur.isSome ∧ Value.int .i64 f' = .int .i64 f'' ∧ Value.int .i64 ab' = .int .i64 ab'' ∧ (0 ≤ ab'' ∧ ab'' ≤ k') ∧ (∀ g, (amF lo hi hold (thT xs k')).cur = some g → f'' = g) ∧ ((amF lo hi hold (thT xs k')).cur = none → ab'' = (amF lo hi hold (thT xs k')).ab) ∧ OneA w v' (amF lo hi hold (thT xs k')).L W) := fun t' v' f' ab' W e h1 h2 h3 h4 =>
          ⟨k + 1, f', ab', by omega, by go_num, by rw [e], rfl, rfl, ⟨h1.1, by omega⟩, by rw [e]; exact h2, by rw [e]; exact h3, by rw [e]; exact h4⟩
        clear ho
        have hw1 : IntKind.i64.wrap (ab + 1) = ab + 1 := wrap_id _ (by omega) (by omega)
        have hL6 : L.length ≤ 1000 := by omega
        go_wp2_with fail
        (first | go_at_call 36 | skip)
        refine (HT.out _).mono ?_
        rintro e w5 ⟨rfl, hb5⟩
        have HO : Hid (OneA w u10 L w5) := HO'.out.later hb5
        clear hb5 c0 HO' HT
        cases c with
        | some g =>
          obtain rfl : f = g := hf g rfl
          clear hf ha0
          dsimp only at HF
          cases bl
          · have HF2 : Hid (amF lo hi hold (thT xs (k + 1)) = ⟨some f, ab0, L⟩) := by show _ = _; rw [HF.out]; rfl
            have HG : Hid (∀ ab', 0 ≤ ab' ∧ ab' ≤ (k : Int) + 1 → _) := fun ab' h => HM.out ⟨some f, ab0, L⟩ u10 f ab' w5 HF2.out h (fun g h => by cases h; rfl) (fun h => by cases h) HO.out
            clear HM HF HF2 HNx
            cases bg
            · go_wp2
              exact ⟨HG.out 0 (by omega), by simp [intOf]; omega⟩
            · go_wp2
              exact ⟨HG.out (ab + 1) (by omega), by simp [intOf]; omega⟩
          · have hbg : bg = false := by
              cases bg
              · rfl
              · have := HNx.out rfl; cases this
            subst hbg
            have HF2 : Hid (amF lo hi hold (thT xs (k + 1)) = ⟨none, 0, L ++ [(f, (k : Int))]⟩) := by show _ = _; rw [HF.out]; rfl
            have HG : Hid (∀ v' W, OneA w v' (L ++ [(f, (k : Int))]) W → _) := fun v' W h => HM.out ⟨none, 0, L ++ [(f, (k : Int))]⟩ v' f 0 W HF2.out ⟨Int.le_refl _, by omega⟩ (fun g h => by cases h) (fun h => rfl) h
            clear HM HF HF2 HNx
            go_wp2_with (at_builtin; refine wpList_pushA (by rfl) _ _ (by rfl) w _ _ L f (k : Int) HO.out (by omega) (by rfl) (by simp [Act.eval]) ?_; intro v5 w5 h5; have HO5 : Hid (OneA w v5 (L ++ [(f, (k : Int))]) w5) := h5; clear h5)
            exact ⟨HG.out _ _ HO5.out, by simp [intOf]; omega⟩
        | none =>
          obtain rfl : ab = ab0 := ha0 rfl
          clear hf ha0
          dsimp only at HF
          cases bg
          · have HF2 : Hid (amF lo hi hold (thT xs (k + 1)) = ⟨none, 0, L⟩) := by show _ = _; rw [HF.out]; rfl
            have HG : Hid _ := HM.out ⟨none, 0, L⟩ u10 f 0 w5 HF2.out ⟨Int.le_refl _, by omega⟩ (fun g h => by cases h) (fun h => rfl) HO.out
            have hne : ((0 : Int) == hold) = false := beq_eq_false_iff_ne.2 (by omega)
            clear HM HF HF2 HNx
            go_wp2
            exact ⟨HG.out, by simp [intOf]; omega⟩
          · have hbl : bl = false := HNx.out rfl
            subst hbl
            by_cases he : ab + 1 = hold
            · have HF2 : Hid (amF lo hi hold (thT xs (k + 1)) = ⟨some (k : Int), ab + 1, L⟩) := by show _ = _; rw [HF.out, if_pos rfl, if_pos he]
              have HG : Hid _ := HM.out ⟨some (k : Int), ab + 1, L⟩ u10 (k : Int) (ab + 1) w5 HF2.out ⟨by omega, by omega⟩ (fun g h => by cases h; rfl) (fun h => by cases h) HO.out
              have hee : (ab + 1 == hold) = true := by rw [he]; simp
              clear HM HF HF2 HNx he
              go_wp2
              exact ⟨HG.out, by simp [intOf]; omega⟩
            · have HF2 : Hid (amF lo hi hold (thT xs (k + 1)) = ⟨none, ab + 1, L⟩) := by show _ = _; rw [HF.out, if_pos rfl, if_neg he]
              have HG : Hid _ := HM.out ⟨none, ab + 1, L⟩ u10 f (ab + 1) w5 HF2.out ⟨by omega, by omega⟩ (fun g h => by cases h) (fun h => rfl) HO.out
              have hee : (ab + 1 == hold) = false := beq_eq_false_iff_ne.2 he
              clear HM HF HF2 HNx he
              go_wp2
              exact ⟨HG.out, by simp [intOf]; omega⟩
    · have hlt' : ¬ (k : Int) < (xs.length : Int) := by omega
      obtain rfl : k = xs.length := by omega
      obtain ⟨_, _, bd3⟩ := am_bd lo hi hold (thT xs xs.length)
      have hkl := thT_len xs xs.length
      generalize amF lo hi hold (thT xs xs.length) = t at *
      obtain ⟨c, ab0, L⟩ := t
      dsimp only at hf ha0 ho bd3
      have HO : Hid (OneA w u10 L wr) := ho
      have hL6 : L.length ≤ 1000 := by omega
      clear ho
      cases c with
      | some g =>
        obtain rfl : f = g := hf g rfl
        have HE : Hid (full (xs.length : Int) ⟨some f, ab0, L⟩ = L ++ [(f, (xs.length : Int))]) := full_some rfl
        clear hf ha0
        go_wp2_with (at_builtin; refine wpList_pushA (by rfl) _ _ (by rfl) w _ _ L f (xs.length : Int) HO.out (by omega) (by rfl) (by simp [Act.eval]) ?_; intro v5 w5 h5; have HO5 : Hid (OneA w v5 (L ++ [(f, (xs.length : Int))]) w5) := h5; clear h5)
        obtain ⟨g5, cp5, hv5⟩ := row_slice HO5.out.1
        go_ret2
        rw [HE.out]
        exact ⟨g5, cp5, by rw [hv5]; rfl, by rw [← hv5]; exact HO5.out.1, HO5.out.2⟩
      | none =>
        have HE : Hid (full (xs.length : Int) ⟨none, ab0, L⟩ = L) := full_none rfl
        clear hf ha0
        go_wp2
        obtain ⟨g5, cp5, hv5⟩ := row_slice HO.out.1
        go_ret2
        rw [HE.out]
        exact ⟨g5, cp5, by rw [hv5]; rfl, by rw [← hv5]; exact HO.out.1, HO.out.2⟩
theorem specAlarms_any (a : Option Addr) (cap : Nat) (xs : List Nat) (hi lo : Nat) (hold : Int) (hl : xs.length ≤ 100000000) (w : World) (hr : ReadsF w.heap.size w a xs) :
    Calls Try.prog 14 #[.slice a xs.length cap, .float .f64 hi, .float .f64 lo, .int .i64 hold] w (AnsAm w (amL xs hi lo hold) (amC xs hi lo hold)) := by
  rcases am_ways xs hi lo hold with ⟨h1, h2, h3⟩ | ⟨h1, h2, h3, h4⟩ | ⟨h1, h2, h3, h4⟩
  · rw [h2, h3]; exact specAlarms_bad a cap xs hi lo hold hl w hr _ (.inl ⟨h1, rfl⟩)
  · rw [h3, h4]; exact specAlarms_bad a cap xs hi lo hold hl w hr _ (.inr ⟨h1, h2, rfl⟩)
  · rw [h3, h4]; exact specAlarms_right a cap xs hi lo hold h1 h2 w hr
end Go.Proofs.Ytillkllkekhmfaa
