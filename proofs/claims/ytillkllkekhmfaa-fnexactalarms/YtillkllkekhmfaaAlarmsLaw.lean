/-
  For every list of numbers, every two bounds and every hold the law FnExactAlarms answers true: the program's Alarms answers as the specification's, field by field, writes into no argument, and its answer owns its memory; with no condition.
-/
import Derived.Test.YtillkllkekhmfaaAmR
import Derived.Test.YtillkllkekhmfaaFlG
import Derived.Test.YtillkllkekhmfaaAlQ
import Derived.Test.YtillkllkekhmfaaAlR
namespace Go.Proofs.Ytillkllkekhmfaa
open Go.ChangeShapes Go.WideShapes Go.ChangeAt Go.RowKit Go.Joins Go.Deep
set_option linter.unusedVariables false
attribute [local go_sem] run_store_float
namespace AlarmsLaw

def alS (L : List (Int × Int)) : List RAl := L.map fun o => ⟨o.1, o.2⟩
theorem alS_len (L : List (Int × Int)) : (alS L).length = L.length := by simp [alS]
theorem alS_at : ∀ (L : List (Int × Int)) (i : Nat), i < L.length → (alCells L)[i * 2]? = some (.int .i64 ((alS L).getD i zAl).n) ∧ (alCells L)[i * 2 + 1]? = some (.int .i64 ((alS L).getD i zAl).d)
  | r :: L, 0, h => ⟨rfl, rfl⟩
  | r :: L, i + 1, h => by
    have := alS_at L i (by simpa using h)
    rw [alCells, show (i + 1) * 2 = i * 2 + 1 + 1 by omega]
    exact this
theorem row_reads {B : Nat} {W : World} {a : Option Addr} {cp : Nat} {L : List (Int × Int)} (h : W.ownsRow B 39 2 (.slice a L.length cp) L.length (alCells L)) : ReadsAl W.heap.size W a (alS L) := by
  rcases Nat.eq_zero_or_pos L.length with h0 | h0
  · left
    have : L = [] := List.eq_nil_of_length_eq_zero h0
    subst this; rfl
  · right
    obtain ⟨g, c2, hq⟩ := row_some h h0
    simp only [Value.slice.injEq, true_and] at hq
    obtain ⟨rfl, rfl⟩ := hq
    refine ⟨g, 0, rfl, (row_lt h g rfl).2, fun i hi => ?_⟩
    rw [alS_len] at hi
    have hat := alS_at L i hi
    rw [Nat.zero_add]
    exact ⟨by rw [h.cellAt _ (by omega)]; exact hat.1, by rw [h.cellAt _ (by omega)]; exact hat.2⟩
theorem eq_rows {B1 B2 : Nat} {W : World} {a1 a2 : Option Addr} {c1 c2 : Nat} {L : List (Int × Int)} (hl : L.length ≤ 1000) (h1 : W.ownsRow B1 39 2 (.slice a1 L.length c1) L.length (alCells L)) (h2 : W.ownsRow B2 39 2 (.slice a2 L.length c2) L.length (alCells L)) :
    Calls Try.prog 23 #[.slice a1 L.length c1, .slice a2 L.length c2] W fun e w' => e = .returned (.bool true) ∧ Below W.heap.size W w' := by
  have := eqAls_any a1 a2 c1 c2 (alS L) (by rw [alS_len]; omega) W (row_reads h1) (row_reads h2)
  rwa [alS_len] at this
theorem row_later {B n k : Nat} {t : TypeId} {v : Value} {cs : List Value} {W W' : World} (h : W.ownsRow B t k v n cs) (hb : Below W.heap.size W W') : W'.ownsRow B t k v n cs := row_of h (fun q hq => hb.block q (row_lt h q hq).2)
theorem row_fr {X : Nat → Prop} {B n k : Nat} {t : TypeId} {v : Value} {cs : List Value} {W W' : World} (h : W.ownsRow B t k v n cs) (hf : Fr X W W') (hX : ∀ q, v.ownBlock = some q → ¬ X q) : W'.ownsRow B t k v n cs := row_of h (fun q hq => hf.block q (row_lt h q hq).2 (hX q hq))
set_option maxHeartbeats 2000000 in
theorem markFlts_fr (b off n cap : Nat) (hn : n ≤ 100000000) (w : World) (hc : ∀ i, i < n → (w.cell? ⟨b, off + i, none⟩).isSome = true) (hf : FreeAt w b off n) :
    Calls Try.prog 24 #[.slice (some ⟨b, off, none⟩) n cap, .int .i64 1] w fun e w' => e = .returned (.int .i64 (1 + (n : Int))) ∧ Fr (fun q => q = b) w w' := by
  have hcv := fun W k => run_convert_int_float (P := Try.prog) W 3 24 .i64 .f64 k (by rw [Try.underlying3]; rfl) Try.underlying24
  have HC : Hid (∀ i, i < n → (w.cell? ⟨b, off + i, none⟩).isSome = true) := hc
  have HF : Hid (FreeAt w b off n) := hf
  clear hc hf
  go_enter Try.func24, Try.ntmps24
  go_wp2
  go_loopw [1, 5] (fun k i wr => ∃ j : Nat, j ≤ n ∧ i = .int .i64 (j : Int) ∧ k = .int .i64 (1 + (j : Int)) ∧ Fr (fun q => q = b) w wr ∧ (∀ i, i < n → (wr.cell? ⟨b, off + i, none⟩).isSome = true) ∧ FreeAt wr b off n) (fun _ i _ => n - (intOf i).toNat)
  case atStart => exact ⟨0, Nat.zero_le _, rfl, by simp, Fr.refl _ _, HC.out, HF.out⟩
  case round =>
    clear HC HF
    obtain ⟨j, hj, rfl, rfl, ho, hs, hm⟩ := hrel
    have HO : Hid (Fr (fun q => q = b) w wr) := ho
    have HS : Hid (∀ i, i < n → (wr.cell? ⟨b, off + i, none⟩).isSome = true) := hs
    have HM : Hid (FreeAt wr b off n) := hm
    clear ho hs hm
    by_cases hlt : j < n
    · have hlt' : (j : Int) < (n : Int) := by omega
      obtain ⟨v, hv⟩ := Option.isSome_iff_exists.mp (HS.out j hlt)
      have hfz : wr.frozen? ⟨b, off + j, none⟩ = false := HM.out j hlt
      go_wp2
      go_roundw
      case rel =>
        refine ⟨j + 1, by omega, by go_num, by go_num, HO.out.set rfl _ _, fun i hi => ?_, fun i hi => by rw [World.frozen?_setCell]; exact HM.out i hi⟩
        by_cases e : i = j
        · rw [e, World.cell?_setCell_same _ _ _ hv]; rfl
        · rw [World.cell?_setCell_other _ _ _ _ (fun h => e (by first | (simp at h; omega) | (simp at h; done) | (cases h; rfl)))]; exact HS.out i hi
      case measure => simp [intOf]; omega
    · obtain rfl : j = n := by omega
      go_wp2
      go_ret
      exact ⟨rfl, HO.out⟩

set_option maxHeartbeats 16000000 in
theorem walk' (hi lo : Nat) (hold : Int) (a : Option Addr) (cap : Nat) (ws : List Nat) (hl : (ws.length : Int) ≤ 1048576) (w : World) (hr : ReadsF w.heap.size w a ws) :
    Calls Try.prog 7 #[.slice a ws.length cap, .float .f64 hi, .float .f64 lo, .int .i64 hold] w fun e w' => e = .returned (.bool true) ∧ Below w.heap.size w w' := by
  have HR : Hid (ReadsF w.heap.size w a ws) := hr
  clear hr
  have hle := amL_len ws hi lo hold
  have HI : Hid (∀ a cap w, ReadsF w.heap.size w a ws → Calls Try.prog 13 #[.slice a ws.length cap, .float .f64 hi, .float .f64 lo, .int .i64 hold] w (AnsAm w (amL ws hi lo hold) (amC ws hi lo hold))) := fun a cap w h => implAlarms_any a cap ws hi lo hold (by omega) w h
  have HS : Hid (∀ a cap w, ReadsF w.heap.size w a ws → Calls Try.prog 14 #[.slice a ws.length cap, .float .f64 hi, .float .f64 lo, .int .i64 hold] w (AnsAm w (amL ws hi lo hold) (amC ws hi lo hold))) := fun a cap w h => specAlarms_any a cap ws hi lo hold (by omega) w h
  generalize amL ws hi lo hold = L at *
  generalize amC ws hi lo hold = c at *
  have HT : Hid (∀ W, Below w.heap.size w W → Calls Try.prog 20 #[.slice a ws.length cap] W fun e w' => e = .returned (.slice (some ⟨W.heap.size, 0, none⟩) ws.length ws.length) ∧ Below W.heap.size W w' ∧ W.heap.size < w'.heap.size ∧ FltsAt w' W.heap.size 0 ws ∧ FreeAt w' W.heap.size 0 ws.length) := fun W hW => toFlts_any a cap ws (by omega) W ((HR.out.below hW).mono hW.size)
  clear HR
  have hcc : (c != c) = false := by simp
  go_enter Try.func7, Try.ntmps7
  -- the specification's answer
  go_wp2_with fail
  (first | go_at_call 20 | skip)
  refine (HT.out w (Below.refl _ _)).mono ?_
  rintro e w1 ⟨rfl, hb1, hz1, hi1, hf1⟩
  have B1 : Hid (Below w.heap.size w w1) := hb1
  have R1 : Hid (ReadsF w1.heap.size w1 (some ⟨w.heap.size, 0, none⟩) ws) := .inr ⟨_, _, rfl, hz1, hi1⟩
  clear hb1 hz1 hi1 hf1
  go_wp2_with fail
  (first | go_at_call 14 | skip)
  refine (HS.out _ _ w1 R1.out).mono ?_
  rintro e w2 ⟨gw, cw, rfl, ow, hb2⟩
  have OW2 : Hid (w2.ownsRow w1.heap.size 39 2 (.slice gw L.length cw) L.length (alCells L)) := ow
  have B2 : Hid (Below w.heap.size w w2) := chain B1.out hb2
  clear ow hb2 R1 HS
  -- the program's answer
  go_wp2_with fail
  (first | go_at_call 20 | skip)
  refine (HT.out w2 B2.out).mono ?_
  rintro e w3 ⟨rfl, hb3, hz3, hi3, hf3⟩
  have B3 : Hid (Below w.heap.size w w3) := chain B2.out hb3
  have OW3 : Hid (w3.ownsRow w1.heap.size 39 2 (.slice gw L.length cw) L.length (alCells L)) := row_later OW2.out hb3
  have OWl : Hid (∀ q, Value.ownBlock (.slice gw L.length cw) = some q → q < w2.heap.size) := fun q hq => (row_lt OW2.out q hq).2
  have X3 : Hid (w2.heap.size < w3.heap.size ∧ FltsAt w3 w2.heap.size 0 ws ∧ FreeAt w3 w2.heap.size 0 ws.length) := ⟨hz3, hi3, hf3⟩
  clear hb3 hz3 hi3 hf3 OW2
  go_wp2_with fail
  (first | go_at_call 13 | skip)
  refine (HI.out _ _ w3 (.inr ⟨_, _, rfl, X3.out.1, X3.out.2.1⟩)).mono ?_
  rintro e w4 ⟨g0, c0, rfl, og, hb4⟩
  have OG4 : Hid (w4.ownsRow w3.heap.size 39 2 (.slice g0 L.length c0) L.length (alCells L)) := og
  have OW4 : Hid (w4.ownsRow w1.heap.size 39 2 (.slice gw L.length cw) L.length (alCells L)) := row_later OW3.out hb4
  have B4 : Hid (Below w.heap.size w w4) := chain B3.out hb4
  have X4 : Hid (FltsAt w4 w2.heap.size 0 ws ∧ FreeAt w4 w2.heap.size 0 ws.length ∧ w2.heap.size < w4.heap.size ∧ w2.heap.size < w3.heap.size) := ⟨X3.out.2.1.below hb4 X3.out.1, X3.out.2.2.below hb4 X3.out.1, Nat.lt_of_lt_of_le X3.out.1 hb4.size, X3.out.1⟩
  clear og hb4 OW3 X3
  go_wp2_with fail
  (first | go_at_call 23 | skip)
  refine (eq_rows (by omega) OG4.out OW4.out).mono ?_
  rintro e w5 ⟨rfl, hb5⟩
  have B5 : Hid (Below w.heap.size w w5) := chain B4.out hb5
  have B45 : Hid (Below w4.heap.size w4 w5) := hb5
  clear hb5
  -- the argument is as it was
  go_wp2_with fail
  (first | go_at_call 20 | skip)
  refine (HT.out w5 B5.out).mono ?_
  rintro e w6 ⟨rfl, hb6, hz6, hi6, hf6⟩
  have B6 : Hid (Below w.heap.size w w6) := chain B5.out hb6
  have B46 : Hid (Below w4.heap.size w4 w6) := chain B45.out hb6
  have R6 : Hid (ReadsF w6.heap.size w6 (some ⟨w5.heap.size, 0, none⟩) ws) := .inr ⟨_, _, rfl, hz6, hi6⟩
  clear hb6 hz6 hi6 hf6 B45 B5
  go_wp2_with fail
  (first | go_at_call 22 | skip)
  refine (eqFlts_any _ _ _ _ ws (by omega) w6 (.inr ⟨_, _, rfl, by have := X4.out.2.2.1; have := B46.out.size; omega, X4.out.1.below B46.out X4.out.2.2.1⟩) R6.out).mono ?_
  rintro e w7 ⟨rfl, hb7⟩
  have B7 : Hid (Below w.heap.size w w7) := chain B6.out hb7
  have B47 : Hid (Below w4.heap.size w4 w7) := chain B46.out hb7
  clear hb7 R6 B46 B6
  -- the argument is marked
  have X7 : Hid (FltsAt w7 w2.heap.size 0 ws ∧ FreeAt w7 w2.heap.size 0 ws.length) := ⟨X4.out.1.below B47.out X4.out.2.2.1, X4.out.2.1.below B47.out X4.out.2.2.1⟩
  go_wp2_with fail
  (first | go_at_call 24 | skip)
  refine (markFlts_fr w2.heap.size 0 ws.length ws.length (by omega) w7 (fun i hi => by rw [X7.out.1 i hi]; rfl) X7.out.2).mono ?_
  rintro e w8 ⟨rfl, hf8⟩
  have OW8 : Hid (w8.ownsRow w1.heap.size 39 2 (.slice gw L.length cw) L.length (alCells L)) := row_fr (row_later OW4.out B47.out) hf8 (fun q hq e => by have := OWl.out q hq; omega)
  have OG8 : Hid (w8.ownsRow w3.heap.size 39 2 (.slice g0 L.length c0) L.length (alCells L)) := row_fr (row_later OG4.out B47.out) hf8 (fun q hq e => by have := (row_lt OG4.out q hq).1; have := X4.out.2.2.2; omega)
  have B8 : Hid (Below w.heap.size w w8) := Fr.below B7.out hf8 B7.out.size (fun q hq => by have := B2.out.size; omega)
  have HZ : Hid (w2.heap.size < w3.heap.size ∧ w.heap.size ≤ w3.heap.size) := ⟨X4.out.2.2.2, B3.out.size⟩
  clear hf8 X7 X4 B7 B47 OW4 OG4 B4 B3
  have hk1 : ¬ (1 + (ws.length : Int)) < 0 := by omega
  go_wp2_with fail
  (first | go_at_call 23 | skip)
  refine (eq_rows (by omega) OG8.out OW8.out).mono ?_
  rintro e w9 ⟨rfl, hb9⟩
  have B9 : Hid (Below w.heap.size w w9) := chain B8.out hb9
  have OW9 : Hid (w9.ownsRow w1.heap.size 39 2 (.slice gw L.length cw) L.length (alCells L)) := row_later OW8.out hb9
  have OG9 : Hid (w9.ownsRow w3.heap.size 39 2 (.slice g0 L.length c0) L.length (alCells L)) := row_later OG8.out hb9
  clear hb9 B8 OW8 OG8
  -- the answer is marked, and held
  go_wp2_with fail
  (first | go_at_call 25 | skip)
  refine (markAl_row w3.heap.size (.slice g0 L.length c0) L.length (by omega) 1 (by omega) _ w9 OG9.out).mono ?_
  rintro e w10 ⟨rfl, hf10, om10⟩
  have OG10 : Hid (w10.ownsRow w3.heap.size 39 2 (.slice g0 L.length c0) L.length (mkV 1 (L.length * 2))) := om10
  have OW10 : Hid (w10.ownsRow w1.heap.size 39 2 (.slice gw L.length cw) L.length (alCells L)) := row_fr OW9.out hf10 (fun q hq e => by have := OWl.out q hq; have := (row_lt OG9.out q e).1; have := HZ.out.1; omega)
  have B10 : Hid (Below w.heap.size w w10) := Fr.below B9.out hf10 B9.out.size (fun q hq => by have := (row_lt OG9.out q hq).1; have := HZ.out.2; omega)
  clear hf10 om10 OW9 OG9 B9 OWl
  have hmm : (((1 + L.length * 2 : Nat) : Int) != ((1 + L.length * 2 : Nat) : Int)) = false := by simp
  have hm0 : ¬ ((1 + L.length * 2 : Nat) : Int) < 0 := by omega
  generalize hK : (1 + L.length * 2 : Nat) = K at *
  have HHd : Hid (∀ W, W.ownsRow w3.heap.size 39 2 (.slice g0 L.length c0) L.length (mkV 1 (L.length * 2)) → Calls Try.prog 26 #[.slice g0 L.length c0, .int .i64 1] W fun e w' => e = .returned (.int .i64 (K : Int)) ∧ Below W.heap.size W w') := fun W h => by
    have := heldAl_row w3.heap.size (.slice g0 L.length c0) L.length (by omega) 1 (by omega) W h
    rwa [hK] at this
  clear hK
  go_wp2_with fail
  (first | go_at_call 26 | skip)
  refine (HHd.out w10 OG10.out).mono ?_
  rintro e w11 ⟨rfl, hb11⟩
  have B11 : Hid (Below w.heap.size w w11) := chain B10.out hb11
  have OW11 : Hid (w11.ownsRow w1.heap.size 39 2 (.slice gw L.length cw) L.length (alCells L)) := row_later OW10.out hb11
  have OG11 : Hid (w11.ownsRow w3.heap.size 39 2 (.slice g0 L.length c0) L.length (mkV 1 (L.length * 2))) := row_later OG10.out hb11
  clear hb11 B10 OW10 OG10
  -- another call
  go_wp2_with fail
  (first | go_at_call 20 | skip)
  refine (HT.out w11 B11.out).mono ?_
  rintro e w12 ⟨rfl, hb12, hz12, hi12, hf12⟩
  have B12 : Hid (Below w.heap.size w w12) := chain B11.out hb12
  have OW12 : Hid (w12.ownsRow w1.heap.size 39 2 (.slice gw L.length cw) L.length (alCells L)) := row_later OW11.out hb12
  have OG12 : Hid (w12.ownsRow w3.heap.size 39 2 (.slice g0 L.length c0) L.length (mkV 1 (L.length * 2))) := row_later OG11.out hb12
  have R12 : Hid (ReadsF w12.heap.size w12 (some ⟨w11.heap.size, 0, none⟩) ws) := .inr ⟨_, _, rfl, hz12, hi12⟩
  clear hb12 hz12 hi12 hf12 B11 OW11 OG11 HT
  go_wp2_with fail
  (first | go_at_call 13 | skip)
  refine (HI.out _ _ w12 R12.out).mono ?_
  rintro e w13 ⟨h0, ch, rfl, oh, hb13⟩
  have B13 : Hid (Below w.heap.size w w13) := chain B12.out hb13
  have OW13 : Hid (w13.ownsRow w1.heap.size 39 2 (.slice gw L.length cw) L.length (alCells L)) := row_later OW12.out hb13
  have OG13 : Hid (w13.ownsRow w3.heap.size 39 2 (.slice g0 L.length c0) L.length (mkV 1 (L.length * 2))) := row_later OG12.out hb13
  have OH13 : Hid (w13.ownsRow w12.heap.size 39 2 (.slice h0 L.length ch) L.length (alCells L)) := oh
  clear hb13 oh B12 OW12 OG12 R12 HI
  go_wp2_with fail
  (first | go_at_call 23 | skip)
  refine (eq_rows (by omega) OH13.out OW13.out).mono ?_
  rintro e w14 ⟨rfl, hb14⟩
  have B14 : Hid (Below w.heap.size w w14) := chain B13.out hb14
  have OG14 : Hid (w14.ownsRow w3.heap.size 39 2 (.slice g0 L.length c0) L.length (mkV 1 (L.length * 2))) := row_later OG13.out hb14
  clear hb14 B13 OW13 OG13 OH13
  go_wp2_with fail
  (first | go_at_call 26 | skip)
  refine (HHd.out w14 OG14.out).mono ?_
  rintro e w15 ⟨rfl, hb15⟩
  go_wp2
  go_ret
  exact ⟨rfl, chain B14.out hb15⟩

theorem walk (a : Option Addr) (len cap : Nat) (zs : List Nat) (hi lo : Nat) (hold : Int) (wh : (Lit.int .i64 hold).wf = true) (w : World) (hr : IsFls w a len cap zs) :
    Calls Try.prog 7 #[.slice a len cap, .float .f64 hi, .float .f64 lo, .int .i64 hold] w fun e w' => e = .returned (.bool true) ∧ Below w.heap.size w w' := by
  obtain ⟨rfl, h2, h3, h4⟩ := hr
  unfold maxLen at h3
  by_cases h : (1048576 : Int) < (zs.length : Int)
  · clear h4
    go_enter Try.func7, Try.ntmps7
    go_wp2
    go_ret
    exact ⟨rfl, Below.refl _ _⟩
  · exact walk' hi lo hold a cap zs (by omega) w h4

theorem own : ownKnob Try.prog.godebug = none := by kernel_rfl
theorem laidOut : laidOutB Try.prog = true := by kernel_rfl

set_option maxRecDepth 100000 in
theorem lifted (os : Os) (started : os.Started) (H : Type) (enc : TypeId × Value → H) :
    ReturnsInHanded {} Try.checked os 7 .any (Rows.fnExactAlarmsSpec.pre6 enc Try.prog Try.f7 Rows.fnExactAlarmsRow.domain false) (Rows.fnExactAlarmsSpec.post enc Try.prog Try.f7 false true false false) := by
  refine returnsInHanded_of_change (C := Try.checked) own started (by kernel_rfl) Try.func7
    (ChangeSpec.witness6 (enc := enc) (C := Try.checked) false ⟨#[], #[.slice none 0 0, .float .f64 0, .float .f64 0, .int .i64 0], []⟩ 8 (by kernel_rfl) (by kernel_rfl) (by kernel_rfl) (by kernel_rfl)) ?_
  intro W base args ds gs before hval0 hW hcnd _
  have hval : ∀ (j : Nat) t v, Try.f7.params[j]? = some t → args[j]? = some v → Value.okWide Try.prog W .any base t v := hval0
  have hW' := hW
  obtain ⟨p, q, hA0, hV, rfl, hfz, hnd⟩ := hW
  have hA : DataW.TrodAll enc Try.prog W 0 (fun _ => true) true Try.f7.params.toList args.toList ds p := hA0
  rw [Try.params7] at hA hval
  obtain ⟨v0, vs0, d0, ds0, p0, q0, hargs, rfl, rfl, h0, r0⟩ := trodAll_cons hA
  obtain ⟨v1, vs1, d1, ds1, p1, q1, rfl, rfl, rfl, h1, r1⟩ := trodAll_cons r0
  obtain ⟨v2, vs2, d2, ds2, p2, q2, rfl, rfl, rfl, h2, r2⟩ := trodAll_cons r1
  obtain ⟨v3, vs3, d3, ds3, p3, q3, rfl, rfl, rfl, h3, r3⟩ := trodAll_cons r2
  obtain ⟨rfl, rfl, rfl⟩ := trodAll_nil r3
  obtain rfl : args = #[v0, v1, v2, v3] := by cases args; simp_all
  obtain ⟨rfl, rfl⟩ := trodVars_none hV
  have k0 := h0
  have lt0 : ∀ x ∈ p0, x.block < W.heap.size := by obtain ⟨m, hm⟩ := k0; exact DataW.trod_lt m _ _ _ hm
  have k1 := h1
  have lt1 : ∀ x ∈ p1, x.block < W.heap.size := by obtain ⟨m, hm⟩ := k1; exact DataW.trod_lt m _ _ _ hm
  have k2 := h2
  have lt2 : ∀ x ∈ p2, x.block < W.heap.size := by obtain ⟨m, hm⟩ := k2; exact DataW.trod_lt m _ _ _ hm
  have k3 := h3
  have lt3 : ∀ x ∈ p3, x.block < W.heap.size := by obtain ⟨m, hm⟩ := k3; exact DataW.trod_lt m _ _ _ hm
  obtain ⟨a0, len0, cap0, rfl⟩ := okWide_slice Try.underlying23 (hval 0 23 v0 rfl rfl)
  obtain ⟨z0, w0⟩ : ∃ zs, IsFls W a0 len0 cap0 zs := by
    obtain ⟨fuel, hf⟩ := h0
    exact openFls (by simpa [Value.cells] using hf)
  obtain ⟨a1, rfl, rfl, rfl, w1⟩ := open_float Try.underlying24 (hval 1 24 v1 rfl rfl) h1
  obtain ⟨a2, rfl, rfl, rfl, w2⟩ := open_float Try.underlying24 (hval 2 24 v2 rfl rfl) h2
  obtain ⟨a3, rfl, rfl, rfl, w3⟩ := open_int Try.underlying3 (hval 3 3 v3 rfl rfl) h3
  clear hA0 hval0
  refine (walk a0 len0 cap0 z0 a1 a2 a3 w3 W w0).mono fun e W' ⟨he, bel⟩ => ?_
  subst he
  exact ⟨_, rfl, _, _, _, [], _, [], hW', trodAll_mk1 (shut_bool Try.underlying4 _), (trodAll_cons_mk (Below.trod laidOut (by kernel_rfl) (of_decide_eq_true (by kernel_rfl)) k0 bel lt0) (trodAll_cons_mk (Below.trod laidOut (by kernel_rfl) (of_decide_eq_true (by kernel_rfl)) k1 bel lt1) (trodAll_cons_mk (Below.trod laidOut (by kernel_rfl) (of_decide_eq_true (by kernel_rfl)) k2 bel lt2) (trodAll_cons_mk (Below.trod laidOut (by kernel_rfl) (of_decide_eq_true (by kernel_rfl)) k3 bel lt3) trodAll_mk0)))), rfl, bel.frame _, fun h => by cases h⟩

theorem over : Rows.fnExactAlarmsRow.holds Try.pinned (OpenSpec.ofChange Rows.fnExactAlarmsSpec) :=
  OpenClaim.holds_of_wide 7 Try.f7 rfl rfl rfl rfl rfl rfl rfl ⟨rfl, rfl, rfl, rfl, rfl⟩ rfl rfl rfl rfl rfl (by kernel_rfl) Try.func7 (by kernel_rfl)
    (of_decide_eq_true (by kernel_rfl)) (by unfold Func.isWrapper; first | (rw [if_pos (by decide +kernel)]; kernel_rfl) | (rw [if_neg (by decide +kernel)]; exact ⟨rfl, rfl⟩))
    (fun os started H enc _ => lifted os started H enc)
end AlarmsLaw

theorem fnExactAlarms_holds : Rows.FnExactAlarmsSaid := AlarmsLaw.over
end Go.Proofs.Ytillkllkekhmfaa
