/-
  For all lanes and parcels the law FnExactSortRun answers true: the program's SortRun answers as the specification's, writes into no argument, keeps nothing of one, and its answer owns its memory, behind another call too; with no condition.
-/
import Derived.Test.YthmhpgbkapjjkaaSrF
import Derived.Test.YthmhpgbkapjjkaaSrH
import Derived.Test.YthmhpgbkapjjkaaSlgQ
import Derived.Test.YthmhpgbkapjjkaaLaF
import Derived.Test.YthmhpgbkapjjkaaLaM
namespace Go.Proofs.Ythmhpgbkapjjkaa
open Go.ChangeShapes Go.WideShapes Go.ChangeAt Go.RowKit Go.Joins
open Go.ChangeMaps (open_string shut_string)
set_option linter.unusedVariables false

namespace SortRunLaw
theorem _root_.Go.Proofs.Ythmhpgbkapjjkaa.ReadsLa.later {w w' : World} {a : Option Addr} {rs : List RLa} (h : ReadsLa w.heap.size w a rs) (hb : Below w.heap.size w w') : ReadsLa w'.heap.size w' a rs := (h.below hb).mono hb.size
/-- Lanes of one's own in a band. -/
structure LaO (lo hi : Nat) (W : World) (g : Nat) (cs : List RLa) : Prop where
  band : lo ≤ g ∧ g < hi ∧ hi ≤ W.heap.size
  at' : LasAt W g 0 cs
  free : FreeLa W g cs.length
theorem LaO.later {lo hi : Nat} {W W' : World} {g : Nat} {cs : List RLa} (h : LaO lo hi W g cs) (hb : Below W.heap.size W W') : LaO lo hi W' g cs :=
  ⟨⟨h.band.1, h.band.2.1, Nat.le_trans h.band.2.2 hb.size⟩, h.at'.below hb (by have := h.band; omega), h.free.below hb (by have := h.band; omega)⟩
theorem LaO.reads {lo hi : Nat} {W : World} {g : Nat} {cs : List RLa} (h : LaO lo hi W g cs) : ReadsLa W.heap.size W (some ⟨g, 0, none⟩) cs := .inr ⟨g, 0, rfl, by have := h.band; omega, h.at'⟩
/-- An answer, its lists in bands of their own. -/
def AnsX (c : Int) (L S : List Int) (x y : Int) (w : World) (e : Ending) (w' : World) : Prop := ∃ q cq s cs, e = .returned (.tuple #[.agg #[.int .i64 x, .int .i64 y, .slice q L.length cq, .slice s S.length cs], .int .i64 c]) ∧ RowI w.heap.size w'.heap.size w' q L ∧ RowI w.heap.size w'.heap.size w' s S ∧ Below w.heap.size w w'
def AnsY (c : Int) (L S : List Int) (x y : Int) (w : World) (e : Ending) (w' : World) : Prop := ∃ q cq s cs mid, e = .returned (.tuple #[.agg #[.int .i64 x, .int .i64 y, .slice q L.length cq, .slice s S.length cs], .int .i64 c]) ∧ (w.heap.size ≤ mid ∧ mid ≤ w'.heap.size) ∧ RowI w.heap.size mid w' q L ∧ RowI mid w'.heap.size w' s S ∧ Below w.heap.size w w'
theorem rowI_of {w w' : World} {q : Option Addr} {cq : Nat} {L : List Int} (h : w'.ownsRow w.heap.size 3 1 (.slice q L.length cq) L.length (inV L)) (hb : Below w.heap.size w w') : RowI w.heap.size w'.heap.size w' q L := by
  have hO : One w w.heap.size (.slice q L.length cq) L w' := ⟨h, hb.size, hb⟩
  exact (hO.own2 rfl).rowI
theorem rowI_split {lo : Nat} {w : World} {q s : Option Addr} {L S : List Int} (hlo : lo ≤ w.heap.size) (hq : RowI lo w.heap.size w q L) (hs : RowI lo w.heap.size w s S) (h : ∀ b b2, q = some ⟨b, 0, none⟩ → s = some ⟨b2, 0, none⟩ → L ≠ [] → S ≠ [] → b < b2) : ∃ mid, (lo ≤ mid ∧ mid ≤ w.heap.size) ∧ RowI lo mid w q L ∧ RowI mid w.heap.size w s S := by
  rcases hq with rfl | ⟨b, rfl, ⟨h1, h2, h3⟩, h4, h5⟩
  · exact ⟨lo, ⟨Nat.le_refl _, hlo⟩, .inl rfl, hs⟩
  · by_cases hL : L = []
    · subst hL; exact ⟨lo, ⟨Nat.le_refl _, hlo⟩, .inl rfl, hs⟩
    refine ⟨b + 1, ⟨by omega, by omega⟩, .inr ⟨b, rfl, ⟨h1, by omega, by omega⟩, h4, h5⟩, ?_⟩
    rcases hs with rfl | ⟨b2, rfl, ⟨k1, k2, k3⟩, k4, k5⟩
    · exact .inl rfl
    · by_cases hS : S = []
      · exact .inl hS
      · have := h b b2 rfl rfl hL hS
        exact .inr ⟨b2, rfl, ⟨by omega, k2, k3⟩, k4, k5⟩
theorem specSortX (b : Option Addr) (cb : Nat) (cs : List RLa) (c : Option Addr) (cc : Nat) (ss : List Int) (h1 : cs.length ≤ 100000000) (h2 : ss.length ≤ 100000000) (W : World) (h3 : ReadsLa W.heap.size W b cs) (h4 : Reads W.heap.size W c ss) : Calls Try.prog 23 #[.slice b cs.length cb, .slice c ss.length cc] W (AnsX (soC cs ss) (soO cs ss) (soJ cs ss) (soT cs ss) (soN cs ss) W) := by
  refine (specSort_any b cb cs c cc ss h1 h2 W h3 h4).mono ?_
  rintro e w' ⟨qo, co, qr, cr, he, r1, r2, _, hb⟩
  exact ⟨qo, co, qr, cr, he, rowI_of r1 hb, rowI_of r2 hb, hb⟩
theorem implSortY (b : Option Addr) (cb : Nat) (cs : List RLa) (c : Option Addr) (cc : Nat) (ss : List Int) (h1 : cs.length ≤ 100000000) (h2 : ss.length ≤ 100000000) (W : World) (h3 : ReadsLa W.heap.size W b cs) (h4 : Reads W.heap.size W c ss) : Calls Try.prog 13 #[.slice b cs.length cb, .slice c ss.length cc] W (AnsY (soC cs ss) (soO cs ss) (soJ cs ss) (soT cs ss) (soN cs ss) W) := by
  refine (implSort_any b cb cs c cc ss h1 h2 W h3 h4).mono ?_
  rintro e w' ⟨qo, co, qr, cr, he, r1, r2, ho, hb⟩
  obtain ⟨mid, h5, h6, h7⟩ := rowI_split hb.size (rowI_of r1 hb) (rowI_of r2 hb) (fun b b2 e1 e2 _ _ => ho b b2 (by rw [e1]; rfl) (by rw [e2]; rfl))
  exact ⟨qo, co, qr, cr, mid, he, h5, h6, h7, hb⟩
set_option maxHeartbeats 8000000 in
set_option maxRecDepth 4000 in
theorem walk' (b : Option Addr) (cb : Nat) (cs : List RLa) (hk : cs.length ≤ maxLen) (c : Option Addr) (cc : Nat) (ss : List Int) (hsl : ss.length ≤ maxLen) (w : World) (hb : ReadsLa w.heap.size w b cs) (hc : Reads w.heap.size w c ss) :
    Calls Try.prog 6 #[.slice b cs.length cb, .slice c ss.length cc] w fun e w' => e = .returned (.bool true) ∧ Below w.heap.size w w' := by
  have HD : Hid (ReadsLa w.heap.size w b cs) := hb
  have HS : Hid (Reads w.heap.size w c ss) := hc
  have hZ := szLas_any b cb cs hk 1048576 (by omega) (by omega) w
  clear hb hc
  by_cases hbig2 : (1048576 : Int) < (ss.length : Int)
  · go_enter Try.func6, Try.ntmps6
    go_wp2
    go_ret
    exact ⟨rfl, Below.refl _ _⟩
  have hssl : ss.length ≤ 1048576 := by omega
  go_enter Try.func6, Try.ntmps6
  go_wp2_with (go_at_call 22; refine hZ.mono ?_; rintro e w1 ⟨⟨x, rfl, hx⟩, hw1⟩; rw [hw1]; have HX : Hid (x < 0 ∨ (0 ≤ x ∧ x + (cs.length : Int) ≤ 1048576)) := hx; clear hx hw1 w1)
  · go_ret
    exact ⟨rfl, by repeat (first | exact Below.refl _ _ | refine chain ?_ (below_alloc _ _))⟩
  rcases HX.out with h | ⟨h, hlen0⟩
  · omega
  have hlen : cs.length ≤ 1048576 := by omega
  have B_0 : Hid (Below w.heap.size w w) := Below.refl _ _
  have hSp : Hid (∀ b cb c cc W, ReadsLa W.heap.size W b cs → Reads W.heap.size W c ss → Calls Try.prog 23 #[.slice b cs.length cb, .slice c ss.length cc] W (AnsX (soC cs ss) (soO cs ss) (soJ cs ss) (soT cs ss) (soN cs ss) W)) := fun b cb c cc W h2 h3 => specSortX b cb cs c cc ss (by omega) (by omega) W h2 h3
  have hIm : Hid (∀ b cb c cc W, ReadsLa W.heap.size W b cs → Reads W.heap.size W c ss → Calls Try.prog 13 #[.slice b cs.length cb, .slice c ss.length cc] W (AnsY (soC cs ss) (soO cs ss) (soJ cs ss) (soT cs ss) (soN cs ss) W)) := fun b cb c cc W h2 h3 => implSortY b cb cs c cc ss (by omega) (by omega) W h2 h3
  have hTD : Hid (∀ w, ReadsLa w.heap.size w b cs → Calls Try.prog 24 #[.slice b cs.length cb] w fun e w' => ∃ g, e = .returned (.slice (some ⟨g, 0, none⟩) cs.length cs.length) ∧ Below w.heap.size w w' ∧ LaO w.heap.size w'.heap.size w' g cs) := fun w h => (toLas_any b cb cs hlen w h).mono fun e w' ⟨h1, h2, h3, h4, h5⟩ => ⟨_, h1, h2, ⟨⟨Nat.le_refl _, h3, Nat.le_refl _⟩, h4, h5⟩⟩
  have hTS : Hid (∀ w, Reads w.heap.size w c ss → Calls Try.prog 25 #[.slice c ss.length cc] w fun e w' => ∃ g, e = .returned (.slice (some ⟨g, 0, none⟩) ss.length ss.length) ∧ Below w.heap.size w w' ∧ Own2 w.heap.size w' (some ⟨g, 0, none⟩) ss) := fun w h => (toInts_any c cc ss (by omega) w h).mono fun e w' ⟨h1, h2, h3, h4, h5⟩ => ⟨_, h1, h2, .inr ⟨_, rfl, Nat.le_refl _, h3, h4, h5⟩⟩
  have hL : (soO cs ss).length ≤ 1048576 := by have := (so_len cs ss).1; omega
  have hSl : (soJ cs ss).length ≤ 1048576 := by have := (so_len cs ss).2; omega
  generalize soC cs ss = pc at *
  generalize soO cs ss = L at *
  generalize soJ cs ss = S at *
  generalize soT cs ss = us at *
  generalize soN cs ss = ga at *
  have HMF : Hid (∀ lo hi g W, LaO lo hi W g cs → Calls Try.prog 28 #[.slice (some ⟨g, 0, none⟩) cs.length cs.length, .int .i64 1] W fun e w' => e = .returned (.int .i64 ((1 + cs.length * 2 : Nat) : Int)) ∧ Go.Proofs.Ythmhpgbkapjjkaa.Span lo hi W w') := fun lo hi g W h => by
    have e1 : ((1 + cs.length * 2 : Nat) : Int) = (1 : Int) + (cs.length : Int) * 2 := by omega
    rw [e1]
    refine (markLas_any g cs.length cs.length hlen 1 (by omega) (by omega) W (Mk.start (by have := h.band; omega) (las_some h.at') (fun q hq => h.free q hq))).mono ?_
    rintro e w' ⟨rfl, hm⟩
    exact ⟨rfl, Span.ofMk hm h.band.1 h.band.2.1⟩
  have hkF2 : 1 + cs.length * 2 ≤ 80000000 := by omega
  clear HX hlen0 h
  generalize 1 + cs.length * 2 = kF at *
  have hpc : (pc != pc) = false := by simp
  (first | go_at_call 24 | skip)
  refine (hTD.out w (HD.out.later B_0.out)).mono ?_
  rintro e w3 ⟨g3, rfl, hb, ho⟩
  have B_1 : Hid (Below w.heap.size w w3) := chain B_0.out hb
  have RD_1 : Hid (ReadsLa w3.heap.size w3 (some ⟨g3, 0, none⟩) cs) := ho.reads
  clear hb ho B_0
  go_wp2_with fail
  (first | go_at_call 25 | skip)
  refine (hTS.out w3 (HS.out.later B_1.out)).mono ?_
  rintro e w3s ⟨g3s, rfl, hb, ho⟩
  have B_2 : Hid (Below w.heap.size w w3s) := chain B_1.out hb
  have RD_2 : Hid (ReadsLa w3s.heap.size w3s (some ⟨g3, 0, none⟩) cs) := RD_1.out.later hb
  clear B_1 RD_1
  have RS_2 : Hid (Reads w3s.heap.size w3s (some ⟨g3s, 0, none⟩) ss) := ho.reads
  clear hb ho
  go_wp2_with fail
  (first | go_at_call 23 | skip)
  refine (hSp.out _ _ _ _ w3s RD_2.out RS_2.out).mono ?_
  rintro e w4 ⟨q4, c4, s4, d4, rfl, o4, p4, hb⟩
  clear RD_2
  clear RS_2
  have B_3 : Hid (Below w.heap.size w w4) := chain B_2.out hb
  clear B_2
  have RW_3 : Hid (RowI w3s.heap.size w4.heap.size w4 q4 L) := o4
  have SW_3 : Hid (RowI w3s.heap.size w4.heap.size w4 s4 S) := p4
  have s34 : w3s.heap.size ≤ w4.heap.size := hb.size
  clear hb o4 p4
  obtain ⟨w5, hw5⟩ : ∃ w5, w5 = w4.alloc (Obj.cells #[.int .i64 us, .int .i64 ga, .slice q4 L.length c4, .slice s4 S.length d4] 41) := ⟨_, rfl⟩
  obtain ⟨b8, hb8⟩ : ∃ b8, b8 = w4.heap.size := ⟨_, rfl⟩
  have HW5 : Hid (w5 = w4.alloc (Obj.cells #[.int .i64 us, .int .i64 ga, .slice q4 L.length c4, .slice s4 S.length d4] 41) ∧ b8 = w4.heap.size) := ⟨hw5, hb8⟩
  have hb : Below w4.heap.size w4 w5 := by rw [hw5]; exact below_alloc _ _
  have s48 : w4.heap.size ≤ b8 := by rw [hb8]; exact Nat.le_refl _
  have B_4 : Hid (Below w.heap.size w w5) := chain B_3.out hb
  have RW_4 : Hid (RowI w3s.heap.size w4.heap.size w5 q4 L) := RW_3.out.later hb
  have SW_4 : Hid (RowI w3s.heap.size w4.heap.size w5 s4 S) := SW_3.out.later hb
  clear B_3 RW_3 SW_3
  have PW_4 : Hid (SlgAt w5 b8 q4 L.length c4 s4 S.length d4 us ga) := by show SlgAt _ _ _ _ _ _ _ _ _ _; rw [hw5, hb8]; exact SlgAt.new _ _ _ _ _ _ _ _ _ _
  have s85 : b8 < w5.heap.size := PW_4.out.2
  have HBz : Hid (w.heap.size ≤ w5.heap.size) := B_4.out.size
  clear hb hw5 hb8
  go_upto_region 8 with fail
  rw [← HW5.out.1, ← HW5.out.2]
  clear HW5
  go_wp2_with fail
  (first | go_at_call 24 | skip)
  refine (hTD.out w5 (HD.out.later B_4.out)).mono ?_
  rintro e w7 ⟨g7, rfl, hb, ho⟩
  have B_5 : Hid (Below w.heap.size w w7) := chain B_4.out hb
  have RW_5 : Hid (RowI w3s.heap.size w4.heap.size w7 q4 L) := RW_4.out.later hb
  have SW_5 : Hid (RowI w3s.heap.size w4.heap.size w7 s4 S) := SW_4.out.later hb
  have PW_5 : Hid (SlgAt w7 b8 q4 L.length c4 s4 S.length d4 us ga) := PW_4.out.later hb
  clear B_4 RW_4 SW_4 PW_4
  have XD_5 : Hid (LaO w5.heap.size w7.heap.size w7 g7 cs) := ho
  have s57 : w5.heap.size ≤ w7.heap.size := hb.size
  clear hb ho
  go_wp2_with fail
  (first | go_at_call 25 | skip)
  refine (hTS.out w7 (HS.out.later B_5.out)).mono ?_
  rintro e w7s ⟨g7s, rfl, hb, ho⟩
  have B_6 : Hid (Below w.heap.size w w7s) := chain B_5.out hb
  have RW_6 : Hid (RowI w3s.heap.size w4.heap.size w7s q4 L) := RW_5.out.later hb
  have SW_6 : Hid (RowI w3s.heap.size w4.heap.size w7s s4 S) := SW_5.out.later hb
  have PW_6 : Hid (SlgAt w7s b8 q4 L.length c4 s4 S.length d4 us ga) := PW_5.out.later hb
  have XD_6 : Hid (LaO w5.heap.size w7.heap.size w7s g7 cs) := XD_5.out.later hb
  clear B_5 RW_5 SW_5 PW_5 XD_5
  have XS_6 : Hid (RowI w7.heap.size w7s.heap.size w7s (some ⟨g7s, 0, none⟩) ss) := ho.rowI
  have s77 : w7.heap.size ≤ w7s.heap.size := hb.size
  clear hb ho
  go_wp2_with fail
  (first | go_at_call 13 | skip)
  refine (hIm.out _ _ _ _ w7s XD_6.out.reads XS_6.out.reads).mono ?_
  rintro e w8 ⟨q8, c8, s8, d8, mid8, rfl, ⟨m8a, m8b⟩, o8, p8, hb⟩
  have B_7 : Hid (Below w.heap.size w w8) := chain B_6.out hb
  have RW_7 : Hid (RowI w3s.heap.size w4.heap.size w8 q4 L) := RW_6.out.later hb
  have SW_7 : Hid (RowI w3s.heap.size w4.heap.size w8 s4 S) := SW_6.out.later hb
  have PW_7 : Hid (SlgAt w8 b8 q4 L.length c4 s4 S.length d4 us ga) := PW_6.out.later hb
  have XD_7 : Hid (LaO w5.heap.size w7.heap.size w8 g7 cs) := XD_6.out.later hb
  have XS_7 : Hid (RowI w7.heap.size w7s.heap.size w8 (some ⟨g7s, 0, none⟩) ss) := XS_6.out.later hb
  clear B_6 RW_6 SW_6 PW_6 XD_6 XS_6
  have RG_7 : Hid (RowI w7s.heap.size mid8 w8 q8 L) := o8
  have SG_7 : Hid (RowI mid8 w8.heap.size w8 s8 S) := p8
  have s78 : w7s.heap.size ≤ w8.heap.size := hb.size
  clear hb o8 p8
  obtain ⟨w9, hw9⟩ : ∃ w9, w9 = w8.alloc (Obj.cells #[.int .i64 us, .int .i64 ga, .slice q8 L.length c8, .slice s8 S.length d8] 41) := ⟨_, rfl⟩
  obtain ⟨b12, hb12⟩ : ∃ b12, b12 = w8.heap.size := ⟨_, rfl⟩
  have HW9 : Hid (w9 = w8.alloc (Obj.cells #[.int .i64 us, .int .i64 ga, .slice q8 L.length c8, .slice s8 S.length d8] 41) ∧ b12 = w8.heap.size) := ⟨hw9, hb12⟩
  have hb : Below w8.heap.size w8 w9 := by rw [hw9]; exact below_alloc _ _
  have s8b : w8.heap.size ≤ b12 := by rw [hb12]; exact Nat.le_refl _
  have B_8 : Hid (Below w.heap.size w w9) := chain B_7.out hb
  have RW_8 : Hid (RowI w3s.heap.size w4.heap.size w9 q4 L) := RW_7.out.later hb
  have SW_8 : Hid (RowI w3s.heap.size w4.heap.size w9 s4 S) := SW_7.out.later hb
  have PW_8 : Hid (SlgAt w9 b8 q4 L.length c4 s4 S.length d4 us ga) := PW_7.out.later hb
  have XD_8 : Hid (LaO w5.heap.size w7.heap.size w9 g7 cs) := XD_7.out.later hb
  have XS_8 : Hid (RowI w7.heap.size w7s.heap.size w9 (some ⟨g7s, 0, none⟩) ss) := XS_7.out.later hb
  have RG_8 : Hid (RowI w7s.heap.size mid8 w9 q8 L) := RG_7.out.later hb
  have SG_8 : Hid (RowI mid8 w8.heap.size w9 s8 S) := SG_7.out.later hb
  clear B_7 RW_7 SW_7 PW_7 XD_7 XS_7 RG_7 SG_7
  have PG_8 : Hid (SlgAt w9 b12 q8 L.length c8 s8 S.length d8 us ga) := by show SlgAt _ _ _ _ _ _ _ _ _ _; rw [hw9, hb12]; exact SlgAt.new _ _ _ _ _ _ _ _ _ _
  have s9z : w8.heap.size ≤ w9.heap.size := hb.size
  clear hb hw9 hb12
  go_upto_region 11 with fail
  rw [← HW9.out.1, ← HW9.out.2]
  clear HW9
  obtain ⟨⟨e0, e1, e2, e3⟩, _⟩ := PW_8.out
  obtain ⟨⟨f0, f1, f2, f3⟩, _⟩ := PG_8.out
  go_wp2_with fail
  (first | go_at_call 26 | skip)
  clear e0 e1 e2 e3 f0 f1 f2 f3
  refine (eqSlg_any us ga q8 q4 s8 s4 c8 c4 d8 d4 L S hL hSl w9 RG_8.out.reads RW_8.out.reads SG_8.out.reads SW_8.out.reads).mono ?_
  rintro e w10 ⟨rfl, hb⟩
  have B_9 : Hid (Below w.heap.size w w10) := chain B_8.out hb
  have RW_9 : Hid (RowI w3s.heap.size w4.heap.size w10 q4 L) := RW_8.out.later hb
  have SW_9 : Hid (RowI w3s.heap.size w4.heap.size w10 s4 S) := SW_8.out.later hb
  have PW_9 : Hid (SlgAt w10 b8 q4 L.length c4 s4 S.length d4 us ga) := PW_8.out.later hb
  have XD_9 : Hid (LaO w5.heap.size w7.heap.size w10 g7 cs) := XD_8.out.later hb
  have XS_9 : Hid (RowI w7.heap.size w7s.heap.size w10 (some ⟨g7s, 0, none⟩) ss) := XS_8.out.later hb
  have RG_9 : Hid (RowI w7s.heap.size mid8 w10 q8 L) := RG_8.out.later hb
  have SG_9 : Hid (RowI mid8 w8.heap.size w10 s8 S) := SG_8.out.later hb
  have PG_9 : Hid (SlgAt w10 b12 q8 L.length c8 s8 S.length d8 us ga) := PG_8.out.later hb
  clear B_8 RW_8 SW_8 PW_8 XD_8 XS_8 RG_8 SG_8 PG_8
  clear hb
  go_wp2_with fail
  (first | go_at_call 24 | skip)
  refine (hTD.out w10 (HD.out.later B_9.out)).mono ?_
  rintro e w13 ⟨g13, rfl, hb, ho⟩
  have B_10 : Hid (Below w.heap.size w w13) := chain B_9.out hb
  have RW_10 : Hid (RowI w3s.heap.size w4.heap.size w13 q4 L) := RW_9.out.later hb
  have SW_10 : Hid (RowI w3s.heap.size w4.heap.size w13 s4 S) := SW_9.out.later hb
  have PW_10 : Hid (SlgAt w13 b8 q4 L.length c4 s4 S.length d4 us ga) := PW_9.out.later hb
  have XD_10 : Hid (LaO w5.heap.size w7.heap.size w13 g7 cs) := XD_9.out.later hb
  have XS_10 : Hid (RowI w7.heap.size w7s.heap.size w13 (some ⟨g7s, 0, none⟩) ss) := XS_9.out.later hb
  have RG_10 : Hid (RowI w7s.heap.size mid8 w13 q8 L) := RG_9.out.later hb
  have SG_10 : Hid (RowI mid8 w8.heap.size w13 s8 S) := SG_9.out.later hb
  have PG_10 : Hid (SlgAt w13 b12 q8 L.length c8 s8 S.length d8 us ga) := PG_9.out.later hb
  clear B_9 RW_9 SW_9 PW_9 XD_9 XS_9 RG_9 SG_9 PG_9
  have TD : Hid (ReadsLa w13.heap.size w13 (some ⟨g13, 0, none⟩) cs) := ho.reads
  clear hb ho
  go_wp2_with fail
  (first | go_at_call 27 | skip)
  refine (eqLas_any _ _ _ _ cs hlen w13 XD_10.out.reads TD.out).mono ?_
  rintro e w14 ⟨rfl, hb⟩
  have B_11 : Hid (Below w.heap.size w w14) := chain B_10.out hb
  have RW_11 : Hid (RowI w3s.heap.size w4.heap.size w14 q4 L) := RW_10.out.later hb
  have SW_11 : Hid (RowI w3s.heap.size w4.heap.size w14 s4 S) := SW_10.out.later hb
  have PW_11 : Hid (SlgAt w14 b8 q4 L.length c4 s4 S.length d4 us ga) := PW_10.out.later hb
  have XD_11 : Hid (LaO w5.heap.size w7.heap.size w14 g7 cs) := XD_10.out.later hb
  have XS_11 : Hid (RowI w7.heap.size w7s.heap.size w14 (some ⟨g7s, 0, none⟩) ss) := XS_10.out.later hb
  have RG_11 : Hid (RowI w7s.heap.size mid8 w14 q8 L) := RG_10.out.later hb
  have SG_11 : Hid (RowI mid8 w8.heap.size w14 s8 S) := SG_10.out.later hb
  have PG_11 : Hid (SlgAt w14 b12 q8 L.length c8 s8 S.length d8 us ga) := PG_10.out.later hb
  clear B_10 RW_10 SW_10 PW_10 XD_10 XS_10 RG_10 SG_10 PG_10
  clear hb TD
  go_wp2_with fail
  (first | go_at_call 25 | skip)
  refine (hTS.out w14 (HS.out.later B_11.out)).mono ?_
  rintro e w14a ⟨g14, rfl, hb, ho⟩
  have B_12 : Hid (Below w.heap.size w w14a) := chain B_11.out hb
  have RW_12 : Hid (RowI w3s.heap.size w4.heap.size w14a q4 L) := RW_11.out.later hb
  have SW_12 : Hid (RowI w3s.heap.size w4.heap.size w14a s4 S) := SW_11.out.later hb
  have PW_12 : Hid (SlgAt w14a b8 q4 L.length c4 s4 S.length d4 us ga) := PW_11.out.later hb
  have XD_12 : Hid (LaO w5.heap.size w7.heap.size w14a g7 cs) := XD_11.out.later hb
  have XS_12 : Hid (RowI w7.heap.size w7s.heap.size w14a (some ⟨g7s, 0, none⟩) ss) := XS_11.out.later hb
  have RG_12 : Hid (RowI w7s.heap.size mid8 w14a q8 L) := RG_11.out.later hb
  have SG_12 : Hid (RowI mid8 w8.heap.size w14a s8 S) := SG_11.out.later hb
  have PG_12 : Hid (SlgAt w14a b12 q8 L.length c8 s8 S.length d8 us ga) := PG_11.out.later hb
  clear B_11 RW_11 SW_11 PW_11 XD_11 XS_11 RG_11 SG_11 PG_11
  have TS : Hid (Reads w14a.heap.size w14a (some ⟨g14, 0, none⟩) ss) := ho.reads
  clear hb ho
  go_wp2_with fail
  (first | go_at_call 17 | skip)
  refine (eqZis_any _ _ _ _ ss hssl w14a XS_12.out.reads TS.out).mono ?_
  rintro e w14b ⟨rfl, hb⟩
  have B_13 : Hid (Below w.heap.size w w14b) := chain B_12.out hb
  have RW_13 : Hid (RowI w3s.heap.size w4.heap.size w14b q4 L) := RW_12.out.later hb
  have SW_13 : Hid (RowI w3s.heap.size w4.heap.size w14b s4 S) := SW_12.out.later hb
  have PW_13 : Hid (SlgAt w14b b8 q4 L.length c4 s4 S.length d4 us ga) := PW_12.out.later hb
  have XD_13 : Hid (LaO w5.heap.size w7.heap.size w14b g7 cs) := XD_12.out.later hb
  have XS_13 : Hid (RowI w7.heap.size w7s.heap.size w14b (some ⟨g7s, 0, none⟩) ss) := XS_12.out.later hb
  have RG_13 : Hid (RowI w7s.heap.size mid8 w14b q8 L) := RG_12.out.later hb
  have SG_13 : Hid (RowI mid8 w8.heap.size w14b s8 S) := SG_12.out.later hb
  have PG_13 : Hid (SlgAt w14b b12 q8 L.length c8 s8 S.length d8 us ga) := PG_12.out.later hb
  clear B_12 RW_12 SW_12 PW_12 XD_12 XS_12 RG_12 SG_12 PG_12
  clear hb TS
  have hB0w : w.heap.size ≤ w5.heap.size := HBz.out
  go_wp2_with fail
  (first | go_at_call 28 | skip)
  refine (HMF.out _ _ _ w14b XD_13.out).mono ?_
  rintro e w15 ⟨rfl, hs⟩
  clear XD_13
  have B_14 : Hid (Below w.heap.size w w15) := B_13.out.trans (hs.1.mono hB0w)
  have RW_14 : Hid (RowI w3s.heap.size w4.heap.size w15 q4 L) := RW_13.out.below hs.1 (by omega)
  have SW_14 : Hid (RowI w3s.heap.size w4.heap.size w15 s4 S) := SW_13.out.below hs.1 (by omega)
  have PW_14 : Hid (SlgAt w15 b8 q4 L.length c4 s4 S.length d4 us ga) := PW_13.out.low hs.1 s85
  have XS_14 : Hid (RowI w7.heap.size w7s.heap.size w15 (some ⟨g7s, 0, none⟩) ss) := XS_13.out.apart hs (Nat.le_refl _)
  have RG_14 : Hid (RowI w7s.heap.size mid8 w15 q8 L) := RG_13.out.apart hs (by omega)
  have SG_14 : Hid (RowI mid8 w8.heap.size w15 s8 S) := SG_13.out.apart hs (by omega)
  have PG_14 : Hid (SlgAt w15 b12 q8 L.length c8 s8 S.length d8 us ga) := PG_13.out.above hs (by omega)
  clear B_13 RW_13 SW_13 PW_13 XS_13 RG_13 SG_13 PG_13
  clear hs
  go_wp2_with fail
  (first | go_at_call 20 | skip)
  refine (markI_any _ _ _ _ ss hssl kF (by omega) w15 XS_14.out).mono ?_
  rintro e w16s ⟨rfl, hs, _⟩
  clear XS_14
  have B_15 : Hid (Below w.heap.size w w16s) := B_14.out.trans (hs.1.mono (by omega))
  have RW_15 : Hid (RowI w3s.heap.size w4.heap.size w16s q4 L) := RW_14.out.below hs.1 (by omega)
  have SW_15 : Hid (RowI w3s.heap.size w4.heap.size w16s s4 S) := SW_14.out.below hs.1 (by omega)
  have PW_15 : Hid (SlgAt w16s b8 q4 L.length c4 s4 S.length d4 us ga) := PW_14.out.low hs.1 (by omega)
  have RG_15 : Hid (RowI w7s.heap.size mid8 w16s q8 L) := RG_14.out.apart hs (by omega)
  have SG_15 : Hid (RowI mid8 w8.heap.size w16s s8 S) := SG_14.out.apart hs (by omega)
  have PG_15 : Hid (SlgAt w16s b12 q8 L.length c8 s8 S.length d8 us ga) := PG_14.out.above hs (by omega)
  clear B_14 RW_14 SW_14 PW_14 RG_14 SG_14 PG_14
  clear hs
  have p1 : ¬ (((kF + ss.length : Nat) : Int) < 0) := by omega
  generalize kF + ss.length = kC at *
  obtain ⟨⟨e0, e1, e2, e3⟩, _⟩ := PW_15.out
  obtain ⟨⟨f0, f1, f2, f3⟩, _⟩ := PG_15.out
  go_wp2_with fail
  (first | go_at_call 26 | skip)
  clear e0 e1 e2 e3 f0 f1 f2 f3
  refine (eqSlg_any us ga q8 q4 s8 s4 c8 c4 d8 d4 L S hL hSl w16s RG_15.out.reads RW_15.out.reads SG_15.out.reads SW_15.out.reads).mono ?_
  rintro e w17 ⟨rfl, hb⟩
  have B_16 : Hid (Below w.heap.size w w17) := chain B_15.out hb
  have RW_16 : Hid (RowI w3s.heap.size w4.heap.size w17 q4 L) := RW_15.out.later hb
  have SW_16 : Hid (RowI w3s.heap.size w4.heap.size w17 s4 S) := SW_15.out.later hb
  have PW_16 : Hid (SlgAt w17 b8 q4 L.length c4 s4 S.length d4 us ga) := PW_15.out.later hb
  have RG_16 : Hid (RowI w7s.heap.size mid8 w17 q8 L) := RG_15.out.later hb
  have SG_16 : Hid (RowI mid8 w8.heap.size w17 s8 S) := SG_15.out.later hb
  have PG_16 : Hid (SlgAt w17 b12 q8 L.length c8 s8 S.length d8 us ga) := PG_15.out.later hb
  clear B_15 RW_15 SW_15 PW_15 RG_15 SG_15 PG_15
  clear hb
  obtain ⟨⟨f0, f1, f2, f3⟩, _⟩ := PG_16.out
  go_wp2_with fail
  (first | go_at_call 29 | skip)
  clear f0 f1 f2 f3
  refine (markSlg_any us ga w7s.heap.size mid8 w8.heap.size q8 s8 c8 d8 L S hL hSl w17 RG_16.out SG_16.out (Nat.le_trans s8b (Nat.le_of_lt PG_16.out.2)) m8a m8b).mono ?_
  rintro e w18 ⟨rfl, hs, hr, hr2⟩
  have RM_16 : Hid (RowI w7s.heap.size mid8 w18 q8 (marks 1 L.length)) := hr
  have SM_16 : Hid (RowI mid8 w8.heap.size w18 s8 (marks ((1 + L.length : Nat) : Int) S.length)) := hr2
  clear RG_16
  clear SG_16
  have B_17 : Hid (Below w.heap.size w w18) := B_16.out.trans (hs.1.mono (by omega))
  have RW_17 : Hid (RowI w3s.heap.size w4.heap.size w18 q4 L) := RW_16.out.below hs.1 (by omega)
  have SW_17 : Hid (RowI w3s.heap.size w4.heap.size w18 s4 S) := SW_16.out.below hs.1 (by omega)
  have PW_17 : Hid (SlgAt w18 b8 q4 L.length c4 s4 S.length d4 us ga) := PW_16.out.low hs.1 (by omega)
  have PG_17 : Hid (SlgAt w18 b12 q8 L.length c8 s8 S.length d8 us ga) := PG_16.out.above hs s8b
  clear B_16 RW_16 SW_16 PW_16 PG_16
  have RM_17 := RM_16
  have SM_17 := SM_16
  clear hs hr hr2 RM_16 SM_16
  have p2 : ¬ (((1 + L.length + S.length : Nat) : Int) < 0) := by omega
  have p3 : (((1 + L.length + S.length : Nat) : Int) != ((1 + L.length + S.length : Nat) : Int)) = false := by simp
  obtain ⟨kL, hkL⟩ : ∃ kL, kL = 1 + L.length + S.length := ⟨_, rfl⟩
  have HHd : Hid (∀ W, RowI w7s.heap.size mid8 W q8 (marks 1 L.length) → RowI mid8 w8.heap.size W s8 (marks ((1 + L.length : Nat) : Int) S.length) → Calls Try.prog 30 #[.agg #[.int .i64 us, .int .i64 ga, .slice q8 L.length c8, .slice s8 S.length d8], .int .i64 1] W fun e w' => e = .returned (.int .i64 (kL : Int)) ∧ Below W.heap.size W w') := fun W h k => by rw [hkL]; exact heldSlg_any us ga _ _ _ q8 s8 c8 d8 L.length S.length hL hSl W h k
  rw [← hkL] at p2 p3 ⊢
  clear hkL
  obtain ⟨⟨f0, f1, f2, f3⟩, _⟩ := PG_17.out
  go_wp2_with fail
  (first | go_at_call 30 | skip)
  clear f0 f1 f2 f3
  refine (HHd.out w18 RM_17.out SM_17.out).mono ?_
  rintro e w19 ⟨rfl, hb⟩
  have B_18 : Hid (Below w.heap.size w w19) := chain B_17.out hb
  have RW_18 : Hid (RowI w3s.heap.size w4.heap.size w19 q4 L) := RW_17.out.later hb
  have SW_18 : Hid (RowI w3s.heap.size w4.heap.size w19 s4 S) := SW_17.out.later hb
  have PW_18 : Hid (SlgAt w19 b8 q4 L.length c4 s4 S.length d4 us ga) := PW_17.out.later hb
  have PG_18 : Hid (SlgAt w19 b12 q8 L.length c8 s8 S.length d8 us ga) := PG_17.out.later hb
  have RM_18 : Hid (RowI w7s.heap.size mid8 w19 q8 (marks 1 L.length)) := RM_17.out.later hb
  have SM_18 : Hid (RowI mid8 w8.heap.size w19 s8 (marks ((1 + L.length : Nat) : Int) S.length)) := SM_17.out.later hb
  clear B_17 RW_17 SW_17 PW_17 PG_17 RM_17 SM_17
  clear hb
  go_wp2_with fail
  (first | go_at_call 24 | skip)
  refine (hTD.out w19 (HD.out.later B_18.out)).mono ?_
  rintro e w21 ⟨g21, rfl, hb, ho⟩
  have B_19 : Hid (Below w.heap.size w w21) := chain B_18.out hb
  have RW_19 : Hid (RowI w3s.heap.size w4.heap.size w21 q4 L) := RW_18.out.later hb
  have SW_19 : Hid (RowI w3s.heap.size w4.heap.size w21 s4 S) := SW_18.out.later hb
  have PW_19 : Hid (SlgAt w21 b8 q4 L.length c4 s4 S.length d4 us ga) := PW_18.out.later hb
  have PG_19 : Hid (SlgAt w21 b12 q8 L.length c8 s8 S.length d8 us ga) := PG_18.out.later hb
  have RM_19 : Hid (RowI w7s.heap.size mid8 w21 q8 (marks 1 L.length)) := RM_18.out.later hb
  have SM_19 : Hid (RowI mid8 w8.heap.size w21 s8 (marks ((1 + L.length : Nat) : Int) S.length)) := SM_18.out.later hb
  clear B_18 RW_18 SW_18 PW_18 PG_18 RM_18 SM_18
  have TD_19 : Hid (ReadsLa w21.heap.size w21 (some ⟨g21, 0, none⟩) cs) := ho.reads
  clear hb ho
  go_wp2_with fail
  (first | go_at_call 25 | skip)
  refine (hTS.out w21 (HS.out.later B_19.out)).mono ?_
  rintro e w21s ⟨g21s, rfl, hb, ho⟩
  have B_20 : Hid (Below w.heap.size w w21s) := chain B_19.out hb
  have RW_20 : Hid (RowI w3s.heap.size w4.heap.size w21s q4 L) := RW_19.out.later hb
  have SW_20 : Hid (RowI w3s.heap.size w4.heap.size w21s s4 S) := SW_19.out.later hb
  have PW_20 : Hid (SlgAt w21s b8 q4 L.length c4 s4 S.length d4 us ga) := PW_19.out.later hb
  have PG_20 : Hid (SlgAt w21s b12 q8 L.length c8 s8 S.length d8 us ga) := PG_19.out.later hb
  have RM_20 : Hid (RowI w7s.heap.size mid8 w21s q8 (marks 1 L.length)) := RM_19.out.later hb
  have SM_20 : Hid (RowI mid8 w8.heap.size w21s s8 (marks ((1 + L.length : Nat) : Int) S.length)) := SM_19.out.later hb
  have TD_20 : Hid (ReadsLa w21s.heap.size w21s (some ⟨g21, 0, none⟩) cs) := TD_19.out.later hb
  clear B_19 RW_19 SW_19 PW_19 PG_19 RM_19 SM_19 TD_19
  have TS_20 : Hid (Reads w21s.heap.size w21s (some ⟨g21s, 0, none⟩) ss) := ho.reads
  clear hb ho
  go_wp2_with fail
  (first | go_at_call 13 | skip)
  refine (hIm.out _ _ _ _ w21s TD_20.out TS_20.out).mono ?_
  rintro e w22 ⟨q22, c22, s22, d22, mid22, rfl, _, o22, p22, hb⟩
  clear TD_20
  clear TS_20
  have B_21 : Hid (Below w.heap.size w w22) := chain B_20.out hb
  have RW_21 : Hid (RowI w3s.heap.size w4.heap.size w22 q4 L) := RW_20.out.later hb
  have SW_21 : Hid (RowI w3s.heap.size w4.heap.size w22 s4 S) := SW_20.out.later hb
  have PW_21 : Hid (SlgAt w22 b8 q4 L.length c4 s4 S.length d4 us ga) := PW_20.out.later hb
  have PG_21 : Hid (SlgAt w22 b12 q8 L.length c8 s8 S.length d8 us ga) := PG_20.out.later hb
  have RM_21 : Hid (RowI w7s.heap.size mid8 w22 q8 (marks 1 L.length)) := RM_20.out.later hb
  have SM_21 : Hid (RowI mid8 w8.heap.size w22 s8 (marks ((1 + L.length : Nat) : Int) S.length)) := SM_20.out.later hb
  clear B_20 RW_20 SW_20 PW_20 PG_20 RM_20 SM_20
  have RH_21 : Hid (RowI w21s.heap.size mid22 w22 q22 L) := o22
  have SH_21 : Hid (RowI mid22 w22.heap.size w22 s22 S) := p22
  clear hb o22 p22
  obtain ⟨w23, hw23⟩ : ∃ w23, w23 = w22.alloc (Obj.cells #[.int .i64 us, .int .i64 ga, .slice q22 L.length c22, .slice s22 S.length d22] 41) := ⟨_, rfl⟩
  obtain ⟨b17, hb17⟩ : ∃ b17, b17 = w22.heap.size := ⟨_, rfl⟩
  have HW23 : Hid (w23 = w22.alloc (Obj.cells #[.int .i64 us, .int .i64 ga, .slice q22 L.length c22, .slice s22 S.length d22] 41) ∧ b17 = w22.heap.size) := ⟨hw23, hb17⟩
  have hb : Below w22.heap.size w22 w23 := by rw [hw23]; exact below_alloc _ _
  have B_22 : Hid (Below w.heap.size w w23) := chain B_21.out hb
  have RW_22 : Hid (RowI w3s.heap.size w4.heap.size w23 q4 L) := RW_21.out.later hb
  have SW_22 : Hid (RowI w3s.heap.size w4.heap.size w23 s4 S) := SW_21.out.later hb
  have PW_22 : Hid (SlgAt w23 b8 q4 L.length c4 s4 S.length d4 us ga) := PW_21.out.later hb
  have PG_22 : Hid (SlgAt w23 b12 q8 L.length c8 s8 S.length d8 us ga) := PG_21.out.later hb
  have RM_22 : Hid (RowI w7s.heap.size mid8 w23 q8 (marks 1 L.length)) := RM_21.out.later hb
  have SM_22 : Hid (RowI mid8 w8.heap.size w23 s8 (marks ((1 + L.length : Nat) : Int) S.length)) := SM_21.out.later hb
  have RH_22 : Hid (RowI w21s.heap.size mid22 w23 q22 L) := RH_21.out.later hb
  have SH_22 : Hid (RowI mid22 w22.heap.size w23 s22 S) := SH_21.out.later hb
  clear B_21 RW_21 SW_21 PW_21 PG_21 RM_21 SM_21 RH_21 SH_21
  have PH_22 : Hid (SlgAt w23 b17 q22 L.length c22 s22 S.length d22 us ga) := by show SlgAt _ _ _ _ _ _ _ _ _ _; rw [hw23, hb17]; exact SlgAt.new _ _ _ _ _ _ _ _ _ _
  clear hb hw23 hb17
  go_upto_region 31 with fail
  rw [← HW23.out.1, ← HW23.out.2]
  clear HW23
  obtain ⟨⟨e0, e1, e2, e3⟩, _⟩ := PW_22.out
  obtain ⟨⟨f0, f1, f2, f3⟩, _⟩ := PH_22.out
  go_wp2_with fail
  (first | go_at_call 26 | skip)
  clear e0 e1 e2 e3 f0 f1 f2 f3
  refine (eqSlg_any us ga q22 q4 s22 s4 c22 c4 d22 d4 L S hL hSl w23 RH_22.out.reads RW_22.out.reads SH_22.out.reads SW_22.out.reads).mono ?_
  rintro e w24 ⟨rfl, hb⟩
  have B_23 : Hid (Below w.heap.size w w24) := chain B_22.out hb
  have RW_23 : Hid (RowI w3s.heap.size w4.heap.size w24 q4 L) := RW_22.out.later hb
  have SW_23 : Hid (RowI w3s.heap.size w4.heap.size w24 s4 S) := SW_22.out.later hb
  have PW_23 : Hid (SlgAt w24 b8 q4 L.length c4 s4 S.length d4 us ga) := PW_22.out.later hb
  have PG_23 : Hid (SlgAt w24 b12 q8 L.length c8 s8 S.length d8 us ga) := PG_22.out.later hb
  have RM_23 : Hid (RowI w7s.heap.size mid8 w24 q8 (marks 1 L.length)) := RM_22.out.later hb
  have SM_23 : Hid (RowI mid8 w8.heap.size w24 s8 (marks ((1 + L.length : Nat) : Int) S.length)) := SM_22.out.later hb
  have RH_23 : Hid (RowI w21s.heap.size mid22 w24 q22 L) := RH_22.out.later hb
  have SH_23 : Hid (RowI mid22 w22.heap.size w24 s22 S) := SH_22.out.later hb
  have PH_23 : Hid (SlgAt w24 b17 q22 L.length c22 s22 S.length d22 us ga) := PH_22.out.later hb
  clear B_22 RW_22 SW_22 PW_22 PG_22 RM_22 SM_22 RH_22 SH_22 PH_22
  clear hb
  clear PH_23
  clear RH_23
  clear SH_23
  clear PW_23
  clear RW_23
  clear SW_23
  obtain ⟨⟨f0, f1, f2, f3⟩, _⟩ := PG_23.out
  go_wp2_with fail
  (first | go_at_call 30 | skip)
  clear f0 f1 f2 f3
  refine (HHd.out w24 RM_23.out SM_23.out).mono ?_
  rintro e w25 ⟨rfl, hb⟩
  have B_24 : Hid (Below w.heap.size w w25) := chain B_23.out hb
  have PG_24 : Hid (SlgAt w25 b12 q8 L.length c8 s8 S.length d8 us ga) := PG_23.out.later hb
  have RM_24 : Hid (RowI w7s.heap.size mid8 w25 q8 (marks 1 L.length)) := RM_23.out.later hb
  have SM_24 : Hid (RowI mid8 w8.heap.size w25 s8 (marks ((1 + L.length : Nat) : Int) S.length)) := SM_23.out.later hb
  clear B_23 PG_23 RM_23 SM_23
  clear hb
  go_wp2
  go_ret
  exact ⟨rfl, B_24.out⟩

theorem walk (b : Option Addr) (lb cb : Nat) (cs : List RLa) (c : Option Addr) (lc cc : Nat) (zs : List Int) (w : World) (i : IsLas w b lb cb cs) (k : IsRow .i64 w c lc cc zs) :
    Calls Try.prog 6 #[.slice b lb cb, .slice c lc cc] w fun e w' => e = .returned (.bool true) ∧ Below w.heap.size w w' := by
  obtain ⟨rfl, i2, i3, i4, i5⟩ := i
  obtain ⟨k1, k2, k3, k4⟩ := reads_of_row k
  have := walk' b cb cs (Nat.le_trans i2 i3) c cc (zs.take lc) (by rw [k1]; exact Nat.le_trans k2 k3) w i5 k4
  rw [k1] at this
  exact this

theorem own : ownKnob Try.prog.godebug = none := by kernel_rfl
theorem laidOut : laidOutB Try.prog = true := by kernel_rfl

set_option maxRecDepth 100000 in
theorem lifted (os : Os) (started : os.Started) (H : Type) (enc : TypeId × Value → H) :
    ReturnsInHanded {} Try.checked os 6 .any (Rows.fnExactSortRunSpec.pre6 enc Try.prog Try.f6 Rows.fnExactSortRunRow.domain false) (Rows.fnExactSortRunSpec.post enc Try.prog Try.f6 false true false false) := by
  refine returnsInHanded_of_change (C := Try.checked) own started (by kernel_rfl) Try.func6
    (ChangeSpec.witness6 (enc := enc) (C := Try.checked) false ⟨#[], #[.slice none 0 0, .slice none 0 0], []⟩ 8 (by kernel_rfl) (by kernel_rfl) (by kernel_rfl) (by kernel_rfl)) ?_
  intro W base args ds gs before hval0 hW hcnd _
  have hval : ∀ (j : Nat) t v, Try.f6.params[j]? = some t → args[j]? = some v → Value.okWide Try.prog W .any base t v := hval0
  have hW' := hW
  obtain ⟨p, q, hA0, hV, rfl, hfz, hnd⟩ := hW
  have hA : DataW.TrodAll enc Try.prog W 0 (fun _ => true) true Try.f6.params.toList args.toList ds p := hA0
  rw [Try.params6] at hA hval
  obtain ⟨v0, vs0, d0, ds0, p0, q0, hargs, rfl, rfl, h0, r0⟩ := trodAll_cons hA
  obtain ⟨v1, vs1, d1, ds1, p1, q1, rfl, rfl, rfl, h1, r1⟩ := trodAll_cons r0
  obtain ⟨rfl, rfl, rfl⟩ := trodAll_nil r1
  obtain rfl : args = #[v0, v1] := by cases args; simp_all
  obtain ⟨rfl, rfl⟩ := trodVars_none hV
  have k0 := h0
  have lt0 : ∀ x ∈ p0, x.block < W.heap.size := by obtain ⟨m, hm⟩ := k0; exact DataW.trod_lt m _ _ _ hm
  have k1 := h1
  have lt1 : ∀ x ∈ p1, x.block < W.heap.size := by obtain ⟨m, hm⟩ := k1; exact DataW.trod_lt m _ _ _ hm
  obtain ⟨a0, len0, cap0, rfl⟩ := okWide_slice Try.underlying56 (hval 0 56 v0 rfl rfl)
  obtain ⟨z0, w0⟩ : ∃ zs, IsLas W a0 len0 cap0 zs := by
    obtain ⟨fuel, hf⟩ := h0
    exact openLas (by simpa [Value.cells] using hf)
  obtain ⟨a1, len1, cap1, rfl⟩ := okWide_slice Try.underlying26 (hval 1 26 v1 rfl rfl)
  obtain ⟨z1, w1⟩ : ∃ zs, IsRow .i64 W a1 len1 cap1 zs := by
    obtain ⟨fuel, hf⟩ := h1
    rcases open_ints Try.underlying26 Try.underlying3 (by kernel_rfl) hf with ⟨hcs, _⟩ | ⟨x, l, c, zs, hcs, _, hl, hm, hz, _, hcell, hwz⟩
    · simp [Value.cells] at hcs
      obtain ⟨rfl, rfl, rfl⟩ := hcs
      exact ⟨[], .inl ⟨rfl, rfl, rfl, rfl⟩⟩
    · simp [Value.cells] at hcs
      obtain ⟨rfl, rfl, rfl⟩ := hcs
      exact ⟨zs, .inr ⟨_, rfl, hl, hm, by simpa using hz, hcell, hwz⟩⟩
  clear hA0 hval0
  refine (walk a0 len0 cap0 z0 a1 len1 cap1 z1 W w0 w1).mono fun e W' ⟨he, bel⟩ => ?_
  subst he
  exact ⟨_, rfl, _, _, _, [], _, [], hW', trodAll_mk1 (shut_bool Try.underlying4 _), (trodAll_cons_mk (Below.trod laidOut (by kernel_rfl) (of_decide_eq_true (by kernel_rfl)) k0 bel lt0) (trodAll_cons_mk (Below.trod laidOut (by kernel_rfl) (of_decide_eq_true (by kernel_rfl)) k1 bel lt1) trodAll_mk0)), rfl, bel.frame _, fun h => by cases h⟩

theorem over : Rows.fnExactSortRunRow.holds Try.pinned (OpenSpec.ofChange Rows.fnExactSortRunSpec) :=
  OpenClaim.holds_of_wide 6 Try.f6 rfl rfl rfl rfl rfl rfl rfl ⟨rfl, rfl, rfl, rfl, rfl⟩ rfl rfl rfl rfl rfl (by kernel_rfl) Try.func6 (by kernel_rfl)
    (of_decide_eq_true (by kernel_rfl)) (by unfold Func.isWrapper; first | (rw [if_pos (by decide +kernel)]; kernel_rfl) | (rw [if_neg (by decide +kernel)]; exact ⟨rfl, rfl⟩))
    (fun os started H enc _ => lifted os started H enc)
end SortRunLaw

theorem fnExactSortRun_holds : Rows.FnExactSortRunSaid := SortRunLaw.over
end Go.Proofs.Ythmhpgbkapjjkaa
