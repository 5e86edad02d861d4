/-
  For every three lists of lines the law FnExactThreeWay answers true: the program's ThreeWay answers as the specification's, field by field, writes into no argument, and its answer owns its memory; with no condition.
-/
import Derived.Test.YtfiajiodehhmhaaTwK
import Derived.Test.YtfiajiodehhmhaaDcM
import Derived.Test.YtfiajiodehhmhaaDcF
import Derived.Test.YtfiajiodehhmhaaVdM
namespace Go.Proofs.Ytfiajiodehhmhaa
open Go.ChangeShapes Go.WideShapes Go.ChangeAt Go.RowKit Go.Joins Go.Deep
set_option linter.unusedVariables false

theorem dcs_block {w w' : World} {b off : Nat} {rs : List RDc} (h : DcsAt w b off rs) (hk : w'.heap[b]? = w.heap[b]?) : DcsAt w' b off rs := fun i hi => by
  obtain ⟨h0, h1, h2⟩ := h i hi
  exact ⟨(World.cell?_of_block (w := w) (a := ⟨b, off + i * 3, none⟩) hk).trans h0, (World.cell?_of_block (w := w) (a := ⟨b, off + i * 3 + 1, none⟩) hk).trans h1, (World.cell?_of_block (w := w) (a := ⟨b, off + i * 3 + 2, none⟩) hk).trans h2⟩
theorem freeDc_block {w w' : World} {b n : Nat} (h : FreeDc w b n) (hk : w'.heap[b]? = w.heap[b]?) : FreeDc w' b n := fun j hj => (World.frozen?_of_block (w := w) (a := ⟨b, j, none⟩) hk).trans (h j hj)
namespace ThreeLaw
/-- A list of lines in a slice that is not nil. -/
def RdN (W : World) (a : Option Addr) (rs : List RDc) : Prop := False ∨ ∃ b off, a = some ⟨b, off, none⟩ ∧ b < W.heap.size ∧ DcsAt W b off rs
/-- Verdicts in a row of their own. -/
def OwV (B : Nat) (W : World) (g : Option Addr) (cp : Nat) (L : List RVd) : Prop := W.ownsRow B 39 2 (.slice g L.length cp) L.length (vdC L)
def AnsQ (w : World) (L : List RVd) (c : Int) (e : Ending) (w' : World) : Prop := ∃ ga gc, e = .returned (.tuple #[.slice ga L.length gc, .int .i64 c]) ∧ OwV w.heap.size w' ga gc L ∧ Below w.heap.size w w'
theorem ansQ_of {w : World} {L : List RVd} {c : Int} {e : Ending} {w' : World} (h : AnsW3 w L c e w') : AnsQ w L c e w' := by
  obtain ⟨v, rfl, h1, h2, h3⟩ := h
  obtain ⟨ga, gc, rfl⟩ := row_slice h1
  exact ⟨ga, gc, rfl, h1, h3⟩
theorem tw_le (o r v : List RDc) : (twA o r v).length ≤ 180 := by
  rcases tw_ways o r v with ⟨_, _, e⟩ | ⟨_, _, _, e⟩ | ⟨⟨g1, g2, g3⟩, _, _, e⟩
  · rw [e]; simp
  · rw [e]; simp
  · rw [e]
    unfold twL
    have := artLen ((o ++ r ++ v).map (·.ar))
    simp only [List.length_map, List.length_append] at this ⊢
    omega
theorem own_same {B : Nat} {L : List RVd} {g : Option Addr} {cp : Nat} {W W' : World} (h : OwV B W g cp L) (hs : ∀ q, B ≤ q → q < W.heap.size → W'.heap[q]? = W.heap[q]?) : OwV B W' g cp L := row_of h (fun q hq => hs q (row_lt h q hq).1 (row_lt h q hq).2)
theorem own_later {B : Nat} {L : List RVd} {g : Option Addr} {cp : Nat} {W W' : World} (h : OwV B W g cp L) (hb : Below W.heap.size W W') : OwV B W' g cp L := own_same h (fun q _ h2 => hb.block q h2)
theorem ow_reads {B : Nat} {L : List RVd} {g : Option Addr} {cp : Nat} {W : World} (h : OwV B W g cp L) : ReadsVd W.heap.size W g L := by
  have h0 : OneV W 0 (.slice g L.length cp) L W := by
    obtain ⟨h1, h2⟩ := h
    refine ⟨⟨h1, ?_⟩, Nat.zero_le _, Below.refl _ _⟩
    rcases h2 with h2 | ⟨g, cap, cur, e, hB, r⟩
    · exact .inl h2
    · exact .inr ⟨g, cap, cur, e, Nat.zero_le _, r⟩
  obtain ⟨a, c, e, h3⟩ := h0.form
  simp at e
  rw [e.1]; exact h3
theorem eq_both {L : List RVd} (hll : L.length ≤ 180) {ga1 ga2 : Option Addr} {gc1 gc2 B1 B2 : Nat} (W : World) (h1 : OwV B1 W ga1 gc1 L) (h2 : OwV B2 W ga2 gc2 L) :
    ∀ W', Below W.heap.size W W' → Calls Try.prog 26 #[.slice ga1 L.length gc1, .slice ga2 L.length gc2] W' fun e w' => e = .returned (.bool true) ∧ Below W'.heap.size W' w' := fun W' hW =>
  eqVds_any ga1 ga2 gc1 gc2 L (by omega) W' (ow_reads (own_later h1 hW)) (ow_reads (own_later h2 hW))
theorem marks_of {L : List RVd} (hll : L.length ≤ 180) {ga : Option Addr} {gc B : Nat} {W0 : World} (h : OwV B W0 ga gc L) :
    ∃ (K1 : Nat) (P1 : World → Prop),
      (∀ W, (∀ q, B ≤ q → q < W0.heap.size → W.heap[q]? = W0.heap[q]?) → W0.heap.size ≤ W.heap.size → Calls Try.prog 29 #[.slice ga L.length gc, .int .i64 1] W fun e w' => e = .returned (.int .i64 (K1 : Int)) ∧ Fr (fun q => B ≤ q ∧ q < W0.heap.size) W w' ∧ P1 w') ∧
      (∀ W, P1 W → Calls Try.prog 30 #[.slice ga L.length gc, .int .i64 1] W fun e w' => e = .returned (.int .i64 (K1 : Int)) ∧ Below W.heap.size W w') ∧
      (∀ W W', P1 W → Below W.heap.size W W' → P1 W') := by
  refine ⟨1 + L.length * 2, fun W => W.ownsRow B 39 2 (.slice ga L.length gc) L.length (mkA (fVd 1) (L.length * 2)), fun W hW hz => ?_, fun W hW => ?_, fun W W' hW hb => row_of hW (fun q hq => hb.block q (row_lt hW q hq).2)⟩
  · refine (markVd_row B (.slice ga L.length gc) L.length (by omega) 1 (by omega) (by omega) (vdC L) W (own_same h hW)).mono ?_
    rintro e w' ⟨he, hf, hk⟩
    exact ⟨he, hf.mono (fun q hq => row_lt h q hq), hk⟩
  · exact heldVd_row B (.slice ga L.length gc) L.length (by omega) 1 (by omega) (by omega) W hW
set_option maxHeartbeats 16000000 in
set_option maxRecDepth 8000 in
theorem walk' (oda : Option Addr) (odc : Nat) (od : List RDc) (hl_od : od.length ≤ maxLen) (hp_od : ∀ r ∈ od, DcWide r) (rca : Option Addr) (rcc : Nat) (rc : List RDc) (hl_rc : rc.length ≤ maxLen) (hp_rc : ∀ r ∈ rc, DcWide r) (iva : Option Addr) (ivc : Nat) (iv : List RDc) (hl_iv : iv.length ≤ maxLen) (hp_iv : ∀ r ∈ iv, DcWide r) (w : World) (hr_od : ReadsDc w.heap.size w oda od) (hr_rc : ReadsDc w.heap.size w rca rc) (hr_iv : ReadsDc w.heap.size w iva iv) :
    Calls Try.prog 7 #[.slice oda od.length odc, .slice rca rc.length rcc, .slice iva iv.length ivc] w fun e w' => e = .returned (.bool true) ∧ Below w.heap.size w w' := by
  have HR_od : Hid (ReadsDc w.heap.size w oda od) := hr_od
  have HZ_od : Hid (∀ W x, 0 ≤ x → x ≤ 1048576 → ReadsDc W.heap.size W oda od → Calls Try.prog 23 #[.slice oda od.length odc, .int .i64 x] W fun e w' => ∃ y : Int, e = .returned (.int .i64 y) ∧ (y < 0 ∨ (0 ≤ y ∧ y ≤ 1048576 ∧ od.length ≤ 1048576 ∧ ∀ r ∈ od, DcOK r)) ∧ Below W.heap.size W w') := fun W x h0 h1 h => (szDcs_any oda odc od hl_od hp_od x h0 h1 W h).mono (by rintro e w' h; exact h)
  have HR_rc : Hid (ReadsDc w.heap.size w rca rc) := hr_rc
  have HZ_rc : Hid (∀ W x, 0 ≤ x → x ≤ 1048576 → ReadsDc W.heap.size W rca rc → Calls Try.prog 23 #[.slice rca rc.length rcc, .int .i64 x] W fun e w' => ∃ y : Int, e = .returned (.int .i64 y) ∧ (y < 0 ∨ (0 ≤ y ∧ y ≤ 1048576 ∧ rc.length ≤ 1048576 ∧ ∀ r ∈ rc, DcOK r)) ∧ Below W.heap.size W w') := fun W x h0 h1 h => (szDcs_any rca rcc rc hl_rc hp_rc x h0 h1 W h).mono (by rintro e w' h; exact h)
  have HR_iv : Hid (ReadsDc w.heap.size w iva iv) := hr_iv
  have HZ_iv : Hid (∀ W x, 0 ≤ x → x ≤ 1048576 → ReadsDc W.heap.size W iva iv → Calls Try.prog 23 #[.slice iva iv.length ivc, .int .i64 x] W fun e w' => ∃ y : Int, e = .returned (.int .i64 y) ∧ (y < 0 ∨ (0 ≤ y ∧ y ≤ 1048576 ∧ iv.length ≤ 1048576 ∧ ∀ r ∈ iv, DcOK r)) ∧ Below W.heap.size W w') := fun W x h0 h1 h => (szDcs_any iva ivc iv hl_iv hp_iv x h0 h1 W h).mono (by rintro e w' h; exact h)
  clear hr_od hp_od hr_rc hp_rc hr_iv hp_iv
  go_enter Try.func7, Try.ntmps7
  have B0 : Hid (Below w.heap.size w w) := Below.refl _ _
  go_wp2_with fail
  (first | go_at_call 23 | skip)
  refine (HZ_od.out w 1048576 (by omega) (by omega) ((HR_od.out.below B0.out).mono B0.out.size)).mono ?_
  rintro e w1 ⟨x0, rfl, hy, hb⟩
  have KX0 : Hid (x0 < 0 ∨ (0 ≤ x0 ∧ x0 ≤ 1048576 ∧ od.length ≤ 1048576 ∧ ∀ r ∈ od, DcOK r)) := hy
  have BZ0 : Hid (Below w.heap.size w w1) := chain B0.out hb
  clear hy hb
  by_cases hneg0 : x0 < 0
  · go_wp2
    go_ret
    exact ⟨rfl, BZ0.out⟩
  obtain ⟨hx0, hlen_od, hok_od⟩ : (0 ≤ x0 ∧ x0 ≤ 1048576) ∧ od.length ≤ 1048576 ∧ ∀ r ∈ od, DcOK r := by
    rcases KX0.out with h | ⟨h0, h1, h2, h3⟩
    · omega
    · exact ⟨⟨h0, h1⟩, h2, h3⟩
  have HOK_od : Hid (∀ r ∈ od, DcOK r) := hok_od
  clear hok_od KX0 HZ_od
  go_wp2_with fail
  (first | go_at_call 23 | skip)
  refine (HZ_rc.out w1 x0 hx0.1 hx0.2 ((HR_rc.out.below BZ0.out).mono BZ0.out.size)).mono ?_
  rintro e w2 ⟨x1, rfl, hy, hb⟩
  have KX1 : Hid (x1 < 0 ∨ (0 ≤ x1 ∧ x1 ≤ 1048576 ∧ rc.length ≤ 1048576 ∧ ∀ r ∈ rc, DcOK r)) := hy
  have BZ1 : Hid (Below w.heap.size w w2) := chain BZ0.out hb
  clear hy hb
  by_cases hneg1 : x1 < 0
  · go_wp2
    go_ret
    exact ⟨rfl, BZ1.out⟩
  obtain ⟨hx1, hlen_rc, hok_rc⟩ : (0 ≤ x1 ∧ x1 ≤ 1048576) ∧ rc.length ≤ 1048576 ∧ ∀ r ∈ rc, DcOK r := by
    rcases KX1.out with h | ⟨h0, h1, h2, h3⟩
    · omega
    · exact ⟨⟨h0, h1⟩, h2, h3⟩
  have HOK_rc : Hid (∀ r ∈ rc, DcOK r) := hok_rc
  clear hok_rc KX1 HZ_rc
  go_wp2_with fail
  (first | go_at_call 23 | skip)
  refine (HZ_iv.out w2 x1 hx1.1 hx1.2 ((HR_iv.out.below BZ1.out).mono BZ1.out.size)).mono ?_
  rintro e w3 ⟨x2, rfl, hy, hb⟩
  have KX2 : Hid (x2 < 0 ∨ (0 ≤ x2 ∧ x2 ≤ 1048576 ∧ iv.length ≤ 1048576 ∧ ∀ r ∈ iv, DcOK r)) := hy
  have BZ2 : Hid (Below w.heap.size w w3) := chain BZ1.out hb
  clear hy hb
  by_cases hneg2 : x2 < 0
  · go_wp2
    go_ret
    exact ⟨rfl, BZ2.out⟩
  obtain ⟨hx2, hlen_iv, hok_iv⟩ : (0 ≤ x2 ∧ x2 ≤ 1048576) ∧ iv.length ≤ 1048576 ∧ ∀ r ∈ iv, DcOK r := by
    rcases KX2.out with h | ⟨h0, h1, h2, h3⟩
    · omega
    · exact ⟨⟨h0, h1⟩, h2, h3⟩
  have HOK_iv : Hid (∀ r ∈ iv, DcOK r) := hok_iv
  clear hok_iv KX2 HZ_iv
  have hT_od : Hid (∀ W, Below w.heap.size w W → Calls Try.prog 25 #[.slice oda od.length odc] W fun e w' => e = .returned (.slice (some ⟨W.heap.size, 0, none⟩) od.length od.length) ∧ Below W.heap.size W w' ∧ W.heap.size < w'.heap.size ∧ DcsAt w' W.heap.size 0 od ∧ FreeDc w' W.heap.size od.length) := fun W hW => toDcs_any oda odc od hlen_od W ((HR_od.out.below hW).mono hW.size)
  have hT_rc : Hid (∀ W, Below w.heap.size w W → Calls Try.prog 25 #[.slice rca rc.length rcc] W fun e w' => e = .returned (.slice (some ⟨W.heap.size, 0, none⟩) rc.length rc.length) ∧ Below W.heap.size W w' ∧ W.heap.size < w'.heap.size ∧ DcsAt w' W.heap.size 0 rc ∧ FreeDc w' W.heap.size rc.length) := fun W hW => toDcs_any rca rcc rc hlen_rc W ((HR_rc.out.below hW).mono hW.size)
  have hT_iv : Hid (∀ W, Below w.heap.size w W → Calls Try.prog 25 #[.slice iva iv.length ivc] W fun e w' => e = .returned (.slice (some ⟨W.heap.size, 0, none⟩) iv.length iv.length) ∧ Below W.heap.size W w' ∧ W.heap.size < w'.heap.size ∧ DcsAt w' W.heap.size 0 iv ∧ FreeDc w' W.heap.size iv.length) := fun W hW => toDcs_any iva ivc iv hlen_iv W ((HR_iv.out.below hW).mono hW.size)
  have hS : Hid (∀ odx rcx ivx W, RdN W odx od → RdN W rcx rc → RdN W ivx iv → Calls Try.prog 24 #[.slice odx od.length od.length, .slice rcx rc.length rc.length, .slice ivx iv.length iv.length] W (AnsQ W (twA od rc iv) (twC od rc iv))) := fun ia ib ic W h1 h2 h3 => by
      rcases h1 with h | ⟨b1, o1, rfl, k1, a1⟩
      · exact h.elim
      rcases h2 with h | ⟨b2, o2, rfl, k2, a2⟩
      · exact h.elim
      rcases h3 with h | ⟨b3, o3, rfl, k3, a3⟩
      · exact h.elim
      exact (specThree_any b1 o1 od.length b2 o2 rc.length b3 o3 iv.length od rc iv (by omega) (by omega) (by omega) (by omega) (by omega) (by omega) HOK_od.out HOK_rc.out HOK_iv.out W k1 k2 k3 a1 a2 a3).mono (fun e w' h => ansQ_of h)
  have hI : Hid (∀ odx rcx ivx W, RdN W odx od → RdN W rcx rc → RdN W ivx iv → Calls Try.prog 15 #[.slice odx od.length od.length, .slice rcx rc.length rc.length, .slice ivx iv.length iv.length] W (AnsQ W (twA od rc iv) (twC od rc iv))) := fun ia ib ic W h1 h2 h3 => by
      rcases h1 with h | ⟨b1, o1, rfl, k1, a1⟩
      · exact h.elim
      rcases h2 with h | ⟨b2, o2, rfl, k2, a2⟩
      · exact h.elim
      rcases h3 with h | ⟨b3, o3, rfl, k3, a3⟩
      · exact h.elim
      exact (implThree_any b1 o1 od.length b2 o2 rc.length b3 o3 iv.length od rc iv (by omega) (by omega) (by omega) HOK_od.out HOK_rc.out HOK_iv.out W k1 k2 k3 a1 a2 a3).mono (fun e w' h => ansQ_of h)
  have hll := tw_le od rc iv
  unfold AnsQ at hS hI
  generalize twA od rc iv = L at *
  generalize twC od rc iv = c at *
  clear HOK_od HOK_rc HOK_iv
  clear HR_od HR_rc HR_iv
  have hcc : ∀ x : Int, (x != x) = false := fun x => by simp
  have hcc_c := hcc (c)
  clear hcc
  -- the specification's answer
  go_wp2_with fail
  (first | go_at_call 25 | skip)
  refine (hT_od.out w3 BZ2.out).mono ?_
  rintro e w4 ⟨rfl, hb, hz, hi, hf⟩
  have B_w4 : Hid (Below w.heap.size w w4) := chain BZ2.out hb
  have Xs_od : Hid (w3.heap.size < w4.heap.size ∧ DcsAt w4 w3.heap.size 0 od ∧ FreeDc w4 w3.heap.size od.length) := ⟨hz, hi, hf⟩
  clear hb hz hi hf
  go_wp2_with fail
  (first | go_at_call 25 | skip)
  refine (hT_rc.out w4 B_w4.out).mono ?_
  rintro e w5 ⟨rfl, hb, hz, hi, hf⟩
  have B_w5 : Hid (Below w.heap.size w w5) := chain B_w4.out hb
  have Xs_od' : Hid (w3.heap.size < w5.heap.size ∧ DcsAt w5 w3.heap.size 0 od ∧ FreeDc w5 w3.heap.size od.length) := ⟨Nat.lt_of_lt_of_le Xs_od.out.1 hb.size, Xs_od.out.2.1.below hb Xs_od.out.1, Xs_od.out.2.2.below hb Xs_od.out.1⟩
  clear Xs_od
  have Xs_od := Xs_od'
  clear Xs_od'
  have Xs_rc : Hid (w4.heap.size < w5.heap.size ∧ DcsAt w5 w4.heap.size 0 rc ∧ FreeDc w5 w4.heap.size rc.length) := ⟨hz, hi, hf⟩
  clear hb hz hi hf
  go_wp2_with fail
  (first | go_at_call 25 | skip)
  refine (hT_iv.out w5 B_w5.out).mono ?_
  rintro e w6 ⟨rfl, hb, hz, hi, hf⟩
  have B_w6 : Hid (Below w.heap.size w w6) := chain B_w5.out hb
  have Xs_od' : Hid (w3.heap.size < w6.heap.size ∧ DcsAt w6 w3.heap.size 0 od ∧ FreeDc w6 w3.heap.size od.length) := ⟨Nat.lt_of_lt_of_le Xs_od.out.1 hb.size, Xs_od.out.2.1.below hb Xs_od.out.1, Xs_od.out.2.2.below hb Xs_od.out.1⟩
  clear Xs_od
  have Xs_od := Xs_od'
  clear Xs_od'
  have Xs_rc' : Hid (w4.heap.size < w6.heap.size ∧ DcsAt w6 w4.heap.size 0 rc ∧ FreeDc w6 w4.heap.size rc.length) := ⟨Nat.lt_of_lt_of_le Xs_rc.out.1 hb.size, Xs_rc.out.2.1.below hb Xs_rc.out.1, Xs_rc.out.2.2.below hb Xs_rc.out.1⟩
  clear Xs_rc
  have Xs_rc := Xs_rc'
  clear Xs_rc'
  have Xs_iv : Hid (w5.heap.size < w6.heap.size ∧ DcsAt w6 w5.heap.size 0 iv ∧ FreeDc w6 w5.heap.size iv.length) := ⟨hz, hi, hf⟩
  clear hb hz hi hf
  go_wp2_with fail
  (first | go_at_call 24 | skip)
  refine (hS.out _ _ _ w6 (.inr ⟨_, _, rfl, Xs_od.out.1, Xs_od.out.2.1⟩) (.inr ⟨_, _, rfl, Xs_rc.out.1, Xs_rc.out.2.1⟩) (.inr ⟨_, _, rfl, Xs_iv.out.1, Xs_iv.out.2.1⟩)).mono ?_
  rintro e w7 ⟨gaW, gcW, rfl, hAW, hb⟩
  have AW5 : Hid (OwV w6.heap.size w7 gaW gcW L) := hAW
  have B5 : Hid (Below w.heap.size w w7) := chain B_w6.out hb
  clear hb hAW hS Xs_od Xs_rc Xs_iv
  have AW6 : Hid (∀ W, Below w7.heap.size w7 W → (OwV w6.heap.size W gaW gcW L) ∧ True) := fun W hW => ⟨own_later AW5.out hW, trivial⟩
  have B6 : Hid (Below w.heap.size w w7) := B5.out
  go_wp2_with fail
  generalize w7 = W6 at *
  clear AW5 B5
  -- the copies, and the program's answer
  go_wp2_with fail
  (first | go_at_call 25 | skip)
  refine (hT_od.out W6 B6.out).mono ?_
  rintro e w8 ⟨rfl, hb, hz, hi, hf⟩
  have B_w8 : Hid (Below w.heap.size w w8) := chain B6.out hb
  have D_w8 : Hid (Below W6.heap.size W6 w8) := hb
  have Xx_od : Hid (W6.heap.size < w8.heap.size ∧ DcsAt w8 W6.heap.size 0 od ∧ FreeDc w8 W6.heap.size od.length) := ⟨hz, hi, hf⟩
  clear hb hz hi hf
  have ZQ1 : Hid (W6.heap.size < w8.heap.size) := Xx_od.out.1
  go_wp2_with fail
  (first | go_at_call 25 | skip)
  refine (hT_rc.out w8 B_w8.out).mono ?_
  rintro e w9 ⟨rfl, hb, hz, hi, hf⟩
  have B_w9 : Hid (Below w.heap.size w w9) := chain B_w8.out hb
  have Xx_od' : Hid (W6.heap.size < w9.heap.size ∧ DcsAt w9 W6.heap.size 0 od ∧ FreeDc w9 W6.heap.size od.length) := ⟨Nat.lt_of_lt_of_le Xx_od.out.1 hb.size, Xx_od.out.2.1.below hb Xx_od.out.1, Xx_od.out.2.2.below hb Xx_od.out.1⟩
  clear Xx_od
  have Xx_od := Xx_od'
  clear Xx_od'
  have D_w9 : Hid (Below W6.heap.size W6 w9) := chain D_w8.out hb
  have Xx_rc : Hid (w8.heap.size < w9.heap.size ∧ DcsAt w9 w8.heap.size 0 rc ∧ FreeDc w9 w8.heap.size rc.length) := ⟨hz, hi, hf⟩
  clear hb hz hi hf
  have ZQ2 : Hid (w8.heap.size < w9.heap.size) := Xx_rc.out.1
  go_wp2_with fail
  (first | go_at_call 25 | skip)
  refine (hT_iv.out w9 B_w9.out).mono ?_
  rintro e w10 ⟨rfl, hb, hz, hi, hf⟩
  have B_w10 : Hid (Below w.heap.size w w10) := chain B_w9.out hb
  have Xx_od' : Hid (W6.heap.size < w10.heap.size ∧ DcsAt w10 W6.heap.size 0 od ∧ FreeDc w10 W6.heap.size od.length) := ⟨Nat.lt_of_lt_of_le Xx_od.out.1 hb.size, Xx_od.out.2.1.below hb Xx_od.out.1, Xx_od.out.2.2.below hb Xx_od.out.1⟩
  clear Xx_od
  have Xx_od := Xx_od'
  clear Xx_od'
  have Xx_rc' : Hid (w8.heap.size < w10.heap.size ∧ DcsAt w10 w8.heap.size 0 rc ∧ FreeDc w10 w8.heap.size rc.length) := ⟨Nat.lt_of_lt_of_le Xx_rc.out.1 hb.size, Xx_rc.out.2.1.below hb Xx_rc.out.1, Xx_rc.out.2.2.below hb Xx_rc.out.1⟩
  clear Xx_rc
  have Xx_rc := Xx_rc'
  clear Xx_rc'
  have D_w10 : Hid (Below W6.heap.size W6 w10) := chain D_w9.out hb
  have Xx_iv : Hid (w9.heap.size < w10.heap.size ∧ DcsAt w10 w9.heap.size 0 iv ∧ FreeDc w10 w9.heap.size iv.length) := ⟨hz, hi, hf⟩
  clear hb hz hi hf
  go_wp2_with fail
  (first | go_at_call 15 | skip)
  refine (hI.out _ _ _ w10 (.inr ⟨_, _, rfl, Xx_od.out.1, Xx_od.out.2.1⟩) (.inr ⟨_, _, rfl, Xx_rc.out.1, Xx_rc.out.2.1⟩) (.inr ⟨_, _, rfl, Xx_iv.out.1, Xx_iv.out.2.1⟩)).mono ?_
  rintro e w11 ⟨gaG, gcG, rfl, hAG, hb9⟩
  have AG9 : Hid (OwV w10.heap.size w11 gaG gcG L) := hAG
  have HMk := marks_of hll AG9.out
  obtain ⟨K1, P1, hm1, hh1, hPl⟩ := HMk
  have HM1 : Hid (∀ W, (∀ q, w10.heap.size ≤ q → q < w11.heap.size → W.heap[q]? = w11.heap[q]?) → w11.heap.size ≤ W.heap.size → Calls Try.prog 29 #[.slice gaG L.length gcG, .int .i64 1] W fun e w' => e = .returned (.int .i64 (K1 : Int)) ∧ Fr (fun q => w10.heap.size ≤ q ∧ q < w11.heap.size) W w' ∧ P1 w') := hm1
  have HH1 : Hid (∀ W, P1 W → Calls Try.prog 30 #[.slice gaG L.length gcG, .int .i64 1] W fun e w' => e = .returned (.int .i64 (K1 : Int)) ∧ Below W.heap.size W w') := hh1
  have HPl : Hid (∀ W W', P1 W → Below W.heap.size W W' → P1 W') := hPl
  have hKK : ((K1 : Int) != (K1 : Int)) = false := by simp
  have hKn1 : ¬ (K1 : Int) < 0 := by omega
  have B10 : Hid (Below w10.heap.size w10 w11) := hb9
  have AG10 : Hid (∀ W, (∀ q, w10.heap.size ≤ q → q < w11.heap.size → W.heap[q]? = w11.heap[q]?) → (OwV w10.heap.size W gaG gcG L) ∧ True ∧ (∀ q, w10.heap.size ≤ q → q < w11.heap.size → W.heap[q]? = w11.heap[q]?)) := fun W hW => ⟨own_same AG9.out hW, trivial, hW⟩
  have Z10 : Hid (w11.heap.size ≤ w11.heap.size ∧ w10.heap.size ≤ w11.heap.size) := ⟨Nat.le_refl _, hb9.size⟩
  clear hb9 hAG hPl AG9 hm1 hh1
  go_wp2_with fail
  generalize hW10 : w11 = W10 at *
  obtain ⟨gb, hgb⟩ : ∃ gb, W10.heap.size = gb := ⟨_, rfl⟩
  rw [hgb] at AG10 Z10 HM1
  skip
  have Q10 : Hid (∀ W, Below W10.heap.size W10 W → (∀ q, w10.heap.size ≤ q → q < gb → W.heap[q]? = W10.heap[q]?)) := fun W hW q _ h2 => hW.block q (by omega)
  have E10 : Hid (∀ W, Below W10.heap.size W10 W → Below W6.heap.size W6 W ∧ Below w10.heap.size w10 W) := fun W hW => by
    have h1 := chain B10.out hW
    exact ⟨chain D_w10.out h1, h1⟩
  have EQ := eq_both hll W10 (AG10.out _ (fun _ _ _ => rfl)).1 (AW6.out _ (E10.out _ (Below.refl _ _)).1).1
  have EQ0 : Hid (∀ W', Below W10.heap.size W10 W' → Calls Try.prog 26 #[.slice gaG L.length gcG, .slice gaW L.length gcW] W' fun e w' => e = .returned (.bool true) ∧ Below W'.heap.size W' w') := EQ
  clear EQ
  have p_W10 : Hid (Below W10.heap.size W10 W10) := Below.refl _ _
  go_wp2_with fail
  (first | go_at_call 26 | skip)
  refine (EQ0.out _ p_W10.out).mono ?_
  rintro e w12 ⟨rfl, hb⟩
  have p_w12 : Hid (Below W10.heap.size W10 w12) := chain p_W10.out hb
  clear hb EQ0 p_W10 
  -- the copies are as they were
  go_wp2_with fail
  (first | go_at_call 25 | skip)
  refine (hT_od.out w12 (chain B_w10.out (E10.out _ p_w12.out).2)).mono ?_
  rintro e w13 ⟨rfl, hb, hz, hi, _⟩
  have p_w13 : Hid (Below W10.heap.size W10 w13) := chain p_w12.out hb
  have V1 : Hid (ReadsDc w13.heap.size w13 (some ⟨w12.heap.size, 0, none⟩) od) := .inr ⟨_, _, rfl, hz, hi⟩
  have V2 : Hid (ReadsDc w13.heap.size w13 (some ⟨W6.heap.size, 0, none⟩) od) := .inr ⟨_, _, rfl, Nat.lt_of_lt_of_le Xx_od.out.1 (E10.out _ p_w13.out).2.size, Xx_od.out.2.1.below (E10.out _ p_w13.out).2 Xx_od.out.1⟩
  clear hb hz hi p_w12
  go_wp2_with fail
  (first | go_at_call 27 | skip)
  refine (eqDcs_any _ _ _ _ od hlen_od w13 V2.out V1.out).mono ?_
  rintro e w14 ⟨rfl, hb⟩
  have p_w14 : Hid (Below W10.heap.size W10 w14) := chain p_w13.out hb
  clear hb V1 V2 p_w13
  go_wp2_with fail
  (first | go_at_call 25 | skip)
  refine (hT_rc.out w14 (chain B_w10.out (E10.out _ p_w14.out).2)).mono ?_
  rintro e w15 ⟨rfl, hb, hz, hi, _⟩
  have p_w15 : Hid (Below W10.heap.size W10 w15) := chain p_w14.out hb
  have V1 : Hid (ReadsDc w15.heap.size w15 (some ⟨w14.heap.size, 0, none⟩) rc) := .inr ⟨_, _, rfl, hz, hi⟩
  have V2 : Hid (ReadsDc w15.heap.size w15 (some ⟨w8.heap.size, 0, none⟩) rc) := .inr ⟨_, _, rfl, Nat.lt_of_lt_of_le Xx_rc.out.1 (E10.out _ p_w15.out).2.size, Xx_rc.out.2.1.below (E10.out _ p_w15.out).2 Xx_rc.out.1⟩
  clear hb hz hi p_w14
  go_wp2_with fail
  (first | go_at_call 27 | skip)
  refine (eqDcs_any _ _ _ _ rc hlen_rc w15 V2.out V1.out).mono ?_
  rintro e w16 ⟨rfl, hb⟩
  have p_w16 : Hid (Below W10.heap.size W10 w16) := chain p_w15.out hb
  clear hb V1 V2 p_w15
  go_wp2_with fail
  (first | go_at_call 25 | skip)
  refine (hT_iv.out w16 (chain B_w10.out (E10.out _ p_w16.out).2)).mono ?_
  rintro e w17 ⟨rfl, hb, hz, hi, _⟩
  have p_w17 : Hid (Below W10.heap.size W10 w17) := chain p_w16.out hb
  have V1 : Hid (ReadsDc w17.heap.size w17 (some ⟨w16.heap.size, 0, none⟩) iv) := .inr ⟨_, _, rfl, hz, hi⟩
  have V2 : Hid (ReadsDc w17.heap.size w17 (some ⟨w9.heap.size, 0, none⟩) iv) := .inr ⟨_, _, rfl, Nat.lt_of_lt_of_le Xx_iv.out.1 (E10.out _ p_w17.out).2.size, Xx_iv.out.2.1.below (E10.out _ p_w17.out).2 Xx_iv.out.1⟩
  clear hb hz hi p_w16
  go_wp2_with fail
  (first | go_at_call 27 | skip)
  refine (eqDcs_any _ _ _ _ iv hlen_iv w17 V2.out V1.out).mono ?_
  rintro e w18 ⟨rfl, hb⟩
  have p_w18 : Hid (Below W10.heap.size W10 w18) := chain p_w17.out hb
  clear hb V1 V2 p_w17
  -- the copies are marked
  have M_od : Hid (DcsAt w18 W6.heap.size 0 od ∧ FreeDc w18 W6.heap.size od.length ∧ W6.heap.size < w18.heap.size) := by
    have hd := (E10.out _ p_w18.out).2
    exact ⟨Xx_od.out.2.1.below hd Xx_od.out.1, Xx_od.out.2.2.below hd Xx_od.out.1, Nat.lt_of_lt_of_le Xx_od.out.1 hd.size⟩
  have M_rc : Hid (DcsAt w18 w8.heap.size 0 rc ∧ FreeDc w18 w8.heap.size rc.length ∧ w8.heap.size < w18.heap.size) := by
    have hd := (E10.out _ p_w18.out).2
    exact ⟨Xx_rc.out.2.1.below hd Xx_rc.out.1, Xx_rc.out.2.2.below hd Xx_rc.out.1, Nat.lt_of_lt_of_le Xx_rc.out.1 hd.size⟩
  have M_iv : Hid (DcsAt w18 w9.heap.size 0 iv ∧ FreeDc w18 w9.heap.size iv.length ∧ w9.heap.size < w18.heap.size) := by
    have hd := (E10.out _ p_w18.out).2
    exact ⟨Xx_iv.out.2.1.below hd Xx_iv.out.1, Xx_iv.out.2.2.below hd Xx_iv.out.1, Nat.lt_of_lt_of_le Xx_iv.out.1 hd.size⟩
  have SS : Hid (Below W6.heap.size W6 w18 ∧ Below w.heap.size w w18 ∧ W10.heap.size ≤ w18.heap.size ∧ (∀ q, w10.heap.size ≤ q → q < gb → w18.heap[q]? = W10.heap[q]?)) := ⟨(E10.out _ p_w18.out).1, chain B_w10.out (E10.out _ p_w18.out).2, p_w18.out.size, Q10.out _ p_w18.out⟩
  clear p_w18
  have ZZ : Hid (W6.heap.size ≤ w10.heap.size ∧ w.heap.size ≤ W6.heap.size) := ⟨D_w10.out.size, B6.out.size⟩
  have ZB0 : Hid (W6.heap.size ≤ W6.heap.size ∧ W6.heap.size < w10.heap.size) := ⟨Nat.le_refl _, Xx_od.out.1⟩
  have ZB1 : Hid (W6.heap.size < w8.heap.size ∧ w8.heap.size < w10.heap.size) := ⟨ZQ1.out, Xx_rc.out.1⟩
  have ZB2 : Hid (w8.heap.size < w9.heap.size ∧ w9.heap.size < w10.heap.size) := ⟨ZQ2.out, Xx_iv.out.1⟩
  obtain ⟨KA0, hKA0⟩ : ∃ K : Nat, K = 1 + od.length * 3 := ⟨_, rfl⟩
  have MM0 : Hid (Mk W6.heap.size (od.length * 3) w18 w18) := Mk.start M_od.out.2.2 (dcs_some M_od.out.1) M_od.out.2.1
  have HMA0 : Hid (Calls Try.prog 28 #[.slice (some ⟨W6.heap.size, 0, none⟩) od.length od.length, .int .i64 1] w18 fun e w' => e = .returned (.int .i64 (KA0 : Int)) ∧ Mk W6.heap.size (od.length * 3) w18 w') := by
    have h := markDcs_any W6.heap.size od.length od.length hlen_od 1 (by omega) (by omega) w18 MM0.out
    rw [show ((1 : Nat) : Int) + (od.length : Int) * 3 = (KA0 : Int) by omega] at h
    exact h
  clear MM0
  have hKB0 : 1 ≤ KA0 ∧ KA0 ≤ 20000000 := by omega
  clear hKA0
  go_wp2_with fail
  (first | go_at_call 28 | skip)
  refine HMA0.out.mono ?_
  rintro e w19 ⟨rfl, hm⟩
  have SN : Hid (Below W6.heap.size W6 w19 ∧ Below w.heap.size w w19 ∧ W10.heap.size ≤ w19.heap.size ∧ (∀ q, w10.heap.size ≤ q → q < gb → w19.heap[q]? = W10.heap[q]?)) := by
    have h1 := hm.1.1
    have h2 := hm.1.2
    obtain ⟨s1, s2, s3, s4⟩ := SS.out
    have hz := ZZ.out
    have hq := Z10.out.1
    have hb0 := ZB0.out
    have hb1 := ZB1.out
    have hb2 := ZB2.out
    refine ⟨s1.trans (h1.mono (by omega)), s2.trans (h1.mono (by omega)), Nat.le_trans s3 h1.size, fun q k1 k2 => (h2.2 q (by omega) (by omega)).trans (s4 q k1 k2)⟩
  have MN_rc : Hid (DcsAt w19 w8.heap.size 0 rc ∧ FreeDc w19 w8.heap.size rc.length ∧ w8.heap.size < w19.heap.size) := by
    have h2 := hm.1.2
    have hb0 := ZB0.out
    have hb1 := ZB1.out
    have hb2 := ZB2.out
    have hk : w19.heap[w8.heap.size]? = w18.heap[w8.heap.size]? := h2.2 _ (by omega) M_rc.out.2.2
    exact ⟨dcs_block M_rc.out.1 hk, freeDc_block M_rc.out.2.1 hk, Nat.lt_of_lt_of_le M_rc.out.2.2 h2.1⟩
  clear M_rc
  have M_rc := MN_rc
  clear MN_rc
  have MN_iv : Hid (DcsAt w19 w9.heap.size 0 iv ∧ FreeDc w19 w9.heap.size iv.length ∧ w9.heap.size < w19.heap.size) := by
    have h2 := hm.1.2
    have hb0 := ZB0.out
    have hb1 := ZB1.out
    have hb2 := ZB2.out
    have hk : w19.heap[w9.heap.size]? = w18.heap[w9.heap.size]? := h2.2 _ (by omega) M_iv.out.2.2
    exact ⟨dcs_block M_iv.out.1 hk, freeDc_block M_iv.out.2.1 hk, Nat.lt_of_lt_of_le M_iv.out.2.2 h2.1⟩
  clear M_iv
  have M_iv := MN_iv
  clear MN_iv
  clear hm HMA0 SS M_od
  have SS := SN
  clear SN
  obtain ⟨KA1, hKA1⟩ : ∃ K : Nat, K = KA0 + rc.length * 3 := ⟨_, rfl⟩
  have MM1 : Hid (Mk w8.heap.size (rc.length * 3) w19 w19) := Mk.start M_rc.out.2.2 (dcs_some M_rc.out.1) M_rc.out.2.1
  have HMA1 : Hid (Calls Try.prog 28 #[.slice (some ⟨w8.heap.size, 0, none⟩) rc.length rc.length, .int .i64 (KA0 : Int)] w19 fun e w' => e = .returned (.int .i64 (KA1 : Int)) ∧ Mk w8.heap.size (rc.length * 3) w19 w') := by
    have h := markDcs_any w8.heap.size rc.length rc.length hlen_rc KA0 (by omega) (by omega) w19 MM1.out
    rw [show ((KA0 : Nat) : Int) + (rc.length : Int) * 3 = (KA1 : Int) by omega] at h
    exact h
  clear MM1
  have hKB1 : 1 ≤ KA1 ∧ KA1 ≤ 40000000 := by omega
  clear hKA1
  go_wp2_with fail
  (first | go_at_call 28 | skip)
  refine HMA1.out.mono ?_
  rintro e w20 ⟨rfl, hm⟩
  have SN : Hid (Below W6.heap.size W6 w20 ∧ Below w.heap.size w w20 ∧ W10.heap.size ≤ w20.heap.size ∧ (∀ q, w10.heap.size ≤ q → q < gb → w20.heap[q]? = W10.heap[q]?)) := by
    have h1 := hm.1.1
    have h2 := hm.1.2
    obtain ⟨s1, s2, s3, s4⟩ := SS.out
    have hz := ZZ.out
    have hq := Z10.out.1
    have hb0 := ZB0.out
    have hb1 := ZB1.out
    have hb2 := ZB2.out
    refine ⟨s1.trans (h1.mono (by omega)), s2.trans (h1.mono (by omega)), Nat.le_trans s3 h1.size, fun q k1 k2 => (h2.2 q (by omega) (by omega)).trans (s4 q k1 k2)⟩
  have MN_iv : Hid (DcsAt w20 w9.heap.size 0 iv ∧ FreeDc w20 w9.heap.size iv.length ∧ w9.heap.size < w20.heap.size) := by
    have h2 := hm.1.2
    have hb0 := ZB0.out
    have hb1 := ZB1.out
    have hb2 := ZB2.out
    have hk : w20.heap[w9.heap.size]? = w19.heap[w9.heap.size]? := h2.2 _ (by omega) M_iv.out.2.2
    exact ⟨dcs_block M_iv.out.1 hk, freeDc_block M_iv.out.2.1 hk, Nat.lt_of_lt_of_le M_iv.out.2.2 h2.1⟩
  clear M_iv
  have M_iv := MN_iv
  clear MN_iv
  clear hm HMA1 SS M_rc
  have SS := SN
  clear SN
  obtain ⟨KA2, hKA2⟩ : ∃ K : Nat, K = KA1 + iv.length * 3 := ⟨_, rfl⟩
  have MM2 : Hid (Mk w9.heap.size (iv.length * 3) w20 w20) := Mk.start M_iv.out.2.2 (dcs_some M_iv.out.1) M_iv.out.2.1
  have HMA2 : Hid (Calls Try.prog 28 #[.slice (some ⟨w9.heap.size, 0, none⟩) iv.length iv.length, .int .i64 (KA1 : Int)] w20 fun e w' => e = .returned (.int .i64 (KA2 : Int)) ∧ Mk w9.heap.size (iv.length * 3) w20 w') := by
    have h := markDcs_any w9.heap.size iv.length iv.length hlen_iv KA1 (by omega) (by omega) w20 MM2.out
    rw [show ((KA1 : Nat) : Int) + (iv.length : Int) * 3 = (KA2 : Int) by omega] at h
    exact h
  clear MM2
  have hKB2 : 1 ≤ KA2 ∧ KA2 ≤ 60000000 := by omega
  clear hKA2
  go_wp2_with fail
  (first | go_at_call 28 | skip)
  refine HMA2.out.mono ?_
  rintro e w21 ⟨rfl, hm⟩
  have SN : Hid (Below W6.heap.size W6 w21 ∧ Below w.heap.size w w21 ∧ W10.heap.size ≤ w21.heap.size ∧ (∀ q, w10.heap.size ≤ q → q < gb → w21.heap[q]? = W10.heap[q]?)) := by
    have h1 := hm.1.1
    have h2 := hm.1.2
    obtain ⟨s1, s2, s3, s4⟩ := SS.out
    have hz := ZZ.out
    have hq := Z10.out.1
    have hb0 := ZB0.out
    have hb1 := ZB1.out
    have hb2 := ZB2.out
    refine ⟨s1.trans (h1.mono (by omega)), s2.trans (h1.mono (by omega)), Nat.le_trans s3 h1.size, fun q k1 k2 => (h2.2 q (by omega) (by omega)).trans (s4 q k1 k2)⟩
  clear hm HMA2 SS M_iv
  have SS := SN
  clear SN
  have hKAz : decide ((KA2 : Int) < 0) = false := decide_eq_false (by omega)
  have hKAy : ¬ ((KA2 : Int) < 0) := by omega
  clear hKB0 hKB1 hKB2
  have Q18 : Hid (∀ W, Below w21.heap.size w21 W → (∀ q, w10.heap.size ≤ q → q < gb → W.heap[q]? = W10.heap[q]?)) := fun W hW q h1 h2 => (hW.block q (by have := SS.out.2.2.1; omega)).trans (SS.out.2.2.2 q h1 h2)
  have EQ := eq_both hll w21 (AG10.out _ SS.out.2.2.2).1 (AW6.out _ SS.out.1).1
  have EQ0 : Hid (∀ W', Below w21.heap.size w21 W' → Calls Try.prog 26 #[.slice gaG L.length gcG, .slice gaW L.length gcW] W' fun e w' => e = .returned (.bool true) ∧ Below W'.heap.size W' w') := EQ
  clear EQ
  have p_w21 : Hid (Below w21.heap.size w21 w21) := Below.refl _ _
  go_wp2_with fail
  (first | go_at_call 26 | skip)
  refine (EQ0.out _ p_w21.out).mono ?_
  rintro e w22 ⟨rfl, hb⟩
  have p_w22 : Hid (Below w21.heap.size w21 w22) := chain p_w21.out hb
  clear hb EQ0 p_w21 
  -- the answer is marked, and held
  have FF : Hid (Fr (fun q => w10.heap.size ≤ q ∧ q < gb) w22 w22) := Fr.refl _ _
  go_wp2_with fail
  (first | go_at_call 29 | skip)
  refine (HM1.out _ (AG10.out _ (Q18.out _ p_w22.out)).2.2 (Nat.le_trans Z10.out.1 (Nat.le_trans (hgb ▸ SS.out.2.2.1) p_w22.out.size))).mono ?_
  rintro e w23 ⟨rfl, hf, hP⟩
  have FN : Hid (Fr (fun q => w10.heap.size ≤ q ∧ q < gb) w22 w23) := FF.out.trans hf
  have HP1 : Hid (P1 w23) := hP
  clear hf hP FF 
  have FF := FN
  clear FN
  have S22 : Hid (Below W6.heap.size W6 w23 ∧ Below w.heap.size w w23 ∧ True) := by
    have h1 := chain SS.out.1 p_w22.out
    have h2 := chain SS.out.2.1 p_w22.out
    have hz := ZZ.out
    refine ⟨Fr.below h1 FF.out h1.size (fun q hq => by omega), Fr.below h2 FF.out h2.size (fun q hq => by omega), trivial⟩
  clear FF p_w22 Q18 SS HM1
  have p_m : Hid (Below w23.heap.size w23 w23) := Below.refl _ _
  go_wp2_with fail
  (first | go_at_call 30 | skip)
  refine (HH1.out _ (HPl.out _ _ HP1.out p_m.out)).mono ?_
  rintro e w24 ⟨rfl, hb⟩
  have p_w24 : Hid (Below w23.heap.size w23 w24) := chain p_m.out hb
  clear hb p_m 
  -- another call
  have BX : Hid (Below w.heap.size w w24) := chain S22.out.2.1 p_w24.out
  go_wp2_with fail
  (first | go_at_call 25 | skip)
  refine (hT_od.out w24 (chain S22.out.2.1 p_w24.out)).mono ?_
  rintro e w25 ⟨rfl, hb, hz, hi, hf⟩
  have p_w25 : Hid (Below w23.heap.size w23 w25) := chain p_w24.out hb
  have XH_od : Hid (w24.heap.size < w25.heap.size ∧ DcsAt w25 w24.heap.size 0 od) := ⟨hz, hi⟩
  clear hb hz hi hf p_w24
  go_wp2_with fail
  (first | go_at_call 25 | skip)
  refine (hT_rc.out w25 (chain S22.out.2.1 p_w25.out)).mono ?_
  rintro e w26 ⟨rfl, hb, hz, hi, hf⟩
  have p_w26 : Hid (Below w23.heap.size w23 w26) := chain p_w25.out hb
  have XH_od' : Hid (w24.heap.size < w26.heap.size ∧ DcsAt w26 w24.heap.size 0 od) := ⟨Nat.lt_of_lt_of_le XH_od.out.1 hb.size, XH_od.out.2.below hb XH_od.out.1⟩
  clear XH_od
  have XH_od := XH_od'
  clear XH_od'
  have XH_rc : Hid (w25.heap.size < w26.heap.size ∧ DcsAt w26 w25.heap.size 0 rc) := ⟨hz, hi⟩
  clear hb hz hi hf p_w25
  go_wp2_with fail
  (first | go_at_call 25 | skip)
  refine (hT_iv.out w26 (chain S22.out.2.1 p_w26.out)).mono ?_
  rintro e w27 ⟨rfl, hb, hz, hi, hf⟩
  have p_w27 : Hid (Below w23.heap.size w23 w27) := chain p_w26.out hb
  have XH_od' : Hid (w24.heap.size < w27.heap.size ∧ DcsAt w27 w24.heap.size 0 od) := ⟨Nat.lt_of_lt_of_le XH_od.out.1 hb.size, XH_od.out.2.below hb XH_od.out.1⟩
  clear XH_od
  have XH_od := XH_od'
  clear XH_od'
  have XH_rc' : Hid (w25.heap.size < w27.heap.size ∧ DcsAt w27 w25.heap.size 0 rc) := ⟨Nat.lt_of_lt_of_le XH_rc.out.1 hb.size, XH_rc.out.2.below hb XH_rc.out.1⟩
  clear XH_rc
  have XH_rc := XH_rc'
  clear XH_rc'
  have XH_iv : Hid (w26.heap.size < w27.heap.size ∧ DcsAt w27 w26.heap.size 0 iv) := ⟨hz, hi⟩
  clear hb hz hi hf p_w26
  clear BX
  go_wp2_with fail
  (first | go_at_call 15 | skip)
  refine (hI.out _ _ _ w27 (.inr ⟨_, _, rfl, XH_od.out.1, XH_od.out.2⟩) (.inr ⟨_, _, rfl, XH_rc.out.1, XH_rc.out.2⟩) (.inr ⟨_, _, rfl, XH_iv.out.1, XH_iv.out.2⟩)).mono ?_
  rintro e w28 ⟨gaH, gcH, rfl, hAH, hb⟩
  have p28 : Hid (Below w23.heap.size w23 w28) := chain p_w27.out hb
  have AH28 : Hid (∀ W, Below w28.heap.size w28 W → (OwV w27.heap.size W gaH gcH L) ∧ True) := fun W hW => ⟨own_later hAH hW, trivial⟩
  clear hb hAH p_w27 hI XH_od XH_rc XH_iv hT_od hT_rc hT_iv
  go_wp2_with fail
  generalize w28 = W28 at *
  have EQ := eq_both hll W28 (AH28.out _ (Below.refl _ _)).1 (AW6.out _ (chain S22.out.1 p28.out)).1
  have EQ0 : Hid (∀ W', Below W28.heap.size W28 W' → Calls Try.prog 26 #[.slice gaH L.length gcH, .slice gaW L.length gcW] W' fun e w' => e = .returned (.bool true) ∧ Below W'.heap.size W' w') := EQ
  clear EQ
  have p_W28 : Hid (Below W28.heap.size W28 W28) := Below.refl _ _
  go_wp2_with fail
  (first | go_at_call 26 | skip)
  refine (EQ0.out _ p_W28.out).mono ?_
  rintro e w29 ⟨rfl, hb⟩
  have p_w29 : Hid (Below W28.heap.size W28 w29) := chain p_W28.out hb
  clear hb EQ0 p_W28 
  have pe : Hid (Below w23.heap.size w23 w29) := chain p28.out p_w29.out
  clear p_w29 p28 AH28 AW6
  go_wp2_with fail
  (first | go_at_call 30 | skip)
  refine (HH1.out _ (HPl.out _ _ HP1.out pe.out)).mono ?_
  rintro e w30 ⟨rfl, hb⟩
  have p_w30 : Hid (Below w23.heap.size w23 w30) := chain pe.out hb
  clear hb pe 
  go_wp2
  go_ret
  exact ⟨rfl, chain S22.out.2.1 p_w30.out⟩
theorem walk (a : Option Addr) (len cap : Nat) (rs : List RDc) (a' : Option Addr) (len' cap' : Nat) (rs' : List RDc) (a'' : Option Addr) (len'' cap'' : Nat) (rs'' : List RDc) (w : World) (h : IsDcs w a len cap rs) (h' : IsDcs w a' len' cap' rs') (h'' : IsDcs w a'' len'' cap'' rs'') :
    Calls Try.prog 7 #[.slice a len cap, .slice a' len' cap', .slice a'' len'' cap''] w fun e w' => e = .returned (.bool true) ∧ Below w.heap.size w w' := by
  obtain ⟨rfl, h2, h3, h4, h5⟩ := h
  obtain ⟨rfl, k2, k3, k4, k5⟩ := h'
  obtain ⟨rfl, m2, m3, m4, m5⟩ := h''
  exact walk' a cap rs (Nat.le_trans h2 h3) h4 a' cap' rs' (Nat.le_trans k2 k3) k4 a'' cap'' rs'' (Nat.le_trans m2 m3) m4 w h5 k5 m5

theorem own : ownKnob Try.prog.godebug = none := by kernel_rfl
theorem laidOut : laidOutB Try.prog = true := by kernel_rfl

set_option maxRecDepth 100000 in
theorem lifted (os : Os) (started : os.Started) (H : Type) (enc : TypeId × Value → H) :
    ReturnsInHanded {} Try.checked os 7 .any (Rows.fnExactThreeWaySpec.pre6 enc Try.prog Try.f7 Rows.fnExactThreeWayRow.domain false) (Rows.fnExactThreeWaySpec.post enc Try.prog Try.f7 false true false false) := by
  refine returnsInHanded_of_change (C := Try.checked) own started (by kernel_rfl) Try.func7
    (ChangeSpec.witness6 (enc := enc) (C := Try.checked) false ⟨#[], #[.slice none 0 0, .slice none 0 0, .slice none 0 0], []⟩ 8 (by kernel_rfl) (by kernel_rfl) (by kernel_rfl) (by kernel_rfl)) ?_
  intro W base args ds gs before hval0 hW hcnd _
  have hval : ∀ (j : Nat) t v, Try.f7.params[j]? = some t → args[j]? = some v → Value.okWide Try.prog W .any base t v := hval0
  have hW' := hW
  obtain ⟨p, q, hA0, hV, rfl, hfz, hnd⟩ := hW
  have hA : DataW.TrodAll enc Try.prog W 0 (fun _ => true) true Try.f7.params.toList args.toList ds p := hA0
  rw [Try.params7] at hA hval
  obtain ⟨v0, vs0, d0, ds0, p0, q0, hargs, rfl, rfl, h0, r0⟩ := trodAll_cons hA
  obtain ⟨v1, vs1, d1, ds1, p1, q1, rfl, rfl, rfl, h1, r1⟩ := trodAll_cons r0
  obtain ⟨v2, vs2, d2, ds2, p2, q2, rfl, rfl, rfl, h2, r2⟩ := trodAll_cons r1
  obtain ⟨rfl, rfl, rfl⟩ := trodAll_nil r2
  obtain rfl : args = #[v0, v1, v2] := by cases args; simp_all
  obtain ⟨rfl, rfl⟩ := trodVars_none hV
  have k0 := h0
  have lt0 : ∀ x ∈ p0, x.block < W.heap.size := by obtain ⟨m, hm⟩ := k0; exact DataW.trod_lt m _ _ _ hm
  have k1 := h1
  have lt1 : ∀ x ∈ p1, x.block < W.heap.size := by obtain ⟨m, hm⟩ := k1; exact DataW.trod_lt m _ _ _ hm
  have k2 := h2
  have lt2 : ∀ x ∈ p2, x.block < W.heap.size := by obtain ⟨m, hm⟩ := k2; exact DataW.trod_lt m _ _ _ hm
  obtain ⟨a0, len0, cap0, rfl⟩ := okWide_slice Try.underlying47 (hval 0 47 v0 rfl rfl)
  obtain ⟨z0, w0⟩ : ∃ zs, IsDcs W a0 len0 cap0 zs := by
    obtain ⟨fuel, hf⟩ := h0
    exact openDcs (by simpa [Value.cells] using hf)
  obtain ⟨a1, len1, cap1, rfl⟩ := okWide_slice Try.underlying47 (hval 1 47 v1 rfl rfl)
  obtain ⟨z1, w1⟩ : ∃ zs, IsDcs W a1 len1 cap1 zs := by
    obtain ⟨fuel, hf⟩ := h1
    exact openDcs (by simpa [Value.cells] using hf)
  obtain ⟨a2, len2, cap2, rfl⟩ := okWide_slice Try.underlying47 (hval 2 47 v2 rfl rfl)
  obtain ⟨z2, w2⟩ : ∃ zs, IsDcs W a2 len2 cap2 zs := by
    obtain ⟨fuel, hf⟩ := h2
    exact openDcs (by simpa [Value.cells] using hf)
  clear hA0 hval0
  refine (walk a0 len0 cap0 z0 a1 len1 cap1 z1 a2 len2 cap2 z2 W w0 w1 w2).mono fun e W' ⟨he, bel⟩ => ?_
  subst he
  exact ⟨_, rfl, _, _, _, [], _, [], hW', trodAll_mk1 (shut_bool Try.underlying4 _), (trodAll_cons_mk (Below.trod laidOut (by kernel_rfl) (of_decide_eq_true (by kernel_rfl)) k0 bel lt0) (trodAll_cons_mk (Below.trod laidOut (by kernel_rfl) (of_decide_eq_true (by kernel_rfl)) k1 bel lt1) (trodAll_cons_mk (Below.trod laidOut (by kernel_rfl) (of_decide_eq_true (by kernel_rfl)) k2 bel lt2) trodAll_mk0))), rfl, bel.frame _, fun h => by cases h⟩

theorem over : Rows.fnExactThreeWayRow.holds Try.pinned (OpenSpec.ofChange Rows.fnExactThreeWaySpec) :=
  OpenClaim.holds_of_wide 7 Try.f7 rfl rfl rfl rfl rfl rfl rfl ⟨rfl, rfl, rfl, rfl, rfl⟩ rfl rfl rfl rfl rfl (by kernel_rfl) Try.func7 (by kernel_rfl)
    (of_decide_eq_true (by kernel_rfl)) (by unfold Func.isWrapper; first | (rw [if_pos (by decide +kernel)]; kernel_rfl) | (rw [if_neg (by decide +kernel)]; exact ⟨rfl, rfl⟩))
    (fun os started H enc _ => lifted os started H enc)
end ThreeLaw

theorem fnExactThreeWay_holds : Rows.FnExactThreeWaySaid := ThreeLaw.over
end Go.Proofs.Ytfiajiodehhmhaa
