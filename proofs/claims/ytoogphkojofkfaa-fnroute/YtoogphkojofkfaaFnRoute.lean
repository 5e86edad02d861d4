/-
  For every code the law FnRoute answers true, with no condition: drawn stops are right; no drawn order is back ahead of the program's route, which is in time and not back ahead of the bound; with later ends it is back no later.
-/
import Derived.Test.YtoogphkojofkfaaRwZ
import Derived.Test.YtoogphkojofkfaaRwY
import Derived.Test.YtoogphkojofkfaaRvE
import Derived.Test.YtoogphkojofkfaaHpD
import Derived.Test.YtoogphkojofkfaaLwSame
namespace Go.Proofs.Ytoogphkojofkfaa
open Go.ChangeShapes Go.WideShapes Go.ChangeAt Go.RowKit Go.Deep
set_option linter.unusedVariables false

theorem hpCells_take {rs : List RHp} {k : Nat} (h : k < rs.length) : hpCells ((rs.map lsH).take (k + 1)) = hpCells ((rs.map lsH).take k) ++ [.int .i64 (rs.getD k zHp).x, .int .i64 (rs.getD k zHp).y, .int .i64 (rs.getD k zHp).fr, .int .i64 ((rs.getD k zHp).to + 40), .int .i64 (rs.getD k zHp).sy] := by
  have e : (rs.map lsH).take (k + 1) = (rs.map lsH).take k ++ [lsH (rs.getD k zHp)] := by
    rw [List.take_succ_eq_append_getElem (by simpa using h)]
    simp [List.getD_eq_getElem?_getD, h]
  rw [e, hpCells_append]
  rfl
theorem apart_set (w : World) (b o : Nat) (v : Value) : ∀ d, d ≠ b → (w.setCell ⟨b, o, none⟩ v).heap[d]? = w.heap[d]? := fun d hd => Below.heap_setCell w ⟨b, o, none⟩ v d hd
theorem hid1 {p q : Prop} (h : Hid (p ∧ q)) : Hid p := h.out.1
theorem hid2 {p q : Prop} (h : Hid (p ∧ q)) : Hid q := h.out.2
theorem stopSize : (Try.prog.info? 37).map (·.size) = some 5 := by kernel_rfl
theorem ls_push {w0 W w7 : World} {rs : List RHp} {k g cp2 g1 cp1 : Nat} {xs : List Value} (ht : hpCells ((rs.map lsH).take (k + 1)) = hpCells ((rs.map lsH).take k) ++ xs) (ho : W.ownsRow w0.heap.size 37 5 (.slice (some ⟨g, 0, none⟩) k cp2) k (hpCells ((rs.map lsH).take k))) (hb : Below w0.heap.size w0 W) (hown : w7.ownsRow w0.heap.size 37 5 (.slice (some ⟨g1, 0, none⟩) (k + 1) cp1) (k + 1) (hpCells ((rs.map lsH).take k) ++ xs)) (hg : W.grownBy w7 (Value.slice (some ⟨g, 0, none⟩) k cp2).ownBlock) :
    w7.ownsRow w0.heap.size 37 5 (.slice (some ⟨g1, 0, none⟩) (k + 1) cp1) (k + 1) (hpCells ((rs.map lsH).take (k + 1))) ∧ Below w0.heap.size w0 w7 :=
  ⟨by rw [ht]; exact hown, hb.grown hg hb.size (fun d hd => (ho.lt d hd).1)⟩

namespace FnRoute
set_option maxHeartbeats 16000000 in
set_option maxRecDepth 8000 in
theorem walk (a0 : Option Addr) (len0 cap0 : Nat) (z0 : List Int) (w : World) (r0 : RowB w.heap.size w a0 len0 z0) :
    Calls Try.prog 3 #[.slice a0 len0 cap0] w fun e w' => e = .returned (.bool true) ∧ Below w.heap.size w w' := by
  by_cases hbig : (1048576 : Int) < (len0 : Int)
  · clear r0
    go_enter Try.func3, Try.ntmps3
    go_wp2
    go_ret
    exact ⟨rfl, Below.refl _ _⟩
  have hT := stopsOf_any a0 len0 cap0 z0 w r0
  clear r0
  go_enter Try.func3, Try.ntmps3
  go_wp2_with fail
  (first | go_at_call 5 | skip)
  refine hT.mono ?_
  rintro e w1 ⟨rs, bg, L, g0, cp, gL, cL, rfl, hD, hon, hA, hL, hb⟩
  obtain ⟨ad, had⟩ : ∃ ad : Option Addr, ad = some ⟨g0, 0, none⟩ := ⟨_, rfl⟩
  obtain ⟨al, hal0⟩ : ∃ al : Option Addr, al = some ⟨gL, 0, none⟩ := ⟨_, rfl⟩
  rw [← had] at hA ⊢
  rw [← hal0] at hL ⊢
  clear had hal0
  have A1 : Hid (ReadsHp w1.heap.size w1 ad rs) := hA
  have R1 : Hid (Reads w1.heap.size w1 al L) := hL
  have B1 : Hid (Below w.heap.size w w1) := hb
  clear hA hL hb hT hbig
  obtain ⟨hst, hrf, hrf2, hps⟩ := dr_st hD
  have h5 := hD.len
  have hlL := hon.len
  have HSO : Hid (∀ W, ReadsHp W.heap.size W ad rs → Calls Try.prog 8 #[.slice ad rs.length cp] W fun e w' => e = .returned (.bool true) ∧ Below W.heap.size W w') := fun W h => by
    have := impStops_any ad cp rs (by omega) W h
    rw [hst] at this
    exact this
  have hways := fn_ways hD hon
  obtain ⟨en2, hen2⟩ : ∃ en2, en2 = roE rs bg L := ⟨_, rfl⟩
  have HRt : ∀ D, roC rs bg L = D → Hid (∀ W, ReadsHp W.heap.size W ad rs → Reads W.heap.size W al L → Calls Try.prog 7 #[.slice ad rs.length cp, .int .i64 bg, .slice al rs.length cL] W fun e w' => ∃ q n c s m d x, e = .returned (.tuple #[.agg #[.slice q n c, .slice s m d, .int .i64 x, .int .i64 en2], .int .i64 D]) ∧ Below W.heap.size W w') := fun D hDc W h1 h2 => by
    have := implRouteOf_any ad cp rs bg al cL L (by omega) (by omega) W h1 h2
    rw [hDc, ← hen2, hlL] at this
    refine this.mono ?_
    rintro e w' ⟨q, c, s, d, mid, he, _, _, _, hb⟩
    exact ⟨q, _, c, s, _, d, _, he, hb⟩
  rw [← hen2] at hways
  rw [hlL]
  clear hen2 hlL
  cases hbr : brB rs bg with
  | none =>
    have h17 : roC rs bg L = 17 := by
      rcases hways with ⟨h, _⟩ | ⟨_, _, o, ho, _⟩
      · exact h
      · rw [hbr] at ho; cases ho
    have HR : Hid (∀ W, ReadsHp W.heap.size W ad rs → Reads W.heap.size W al L → Calls Try.prog 7 #[.slice ad rs.length cp, .int .i64 bg, .slice al rs.length cL] W fun e w' => ∃ q n c s m d x, e = .returned (.tuple #[.agg #[.slice q n c, .slice s m d, .int .i64 x, .int .i64 en2], .int .i64 17]) ∧ Below W.heap.size W w') := HRt 17 h17
    have h8 : brC rs bg = 8 := br_none hrf hbr
    have HB : Hid (∀ W, ReadsHp W.heap.size W ad rs → Calls Try.prog 6 #[.slice ad rs.length cp, .int .i64 bg] W fun e w' => ∃ q n c s m d x y, e = .returned (.tuple #[.agg #[.slice q n c, .slice s m d, .int .i64 x, .int .i64 y], .int .i64 8]) ∧ Below W.heap.size W w') := fun W h => by
      have := implBestRoute_any ad cp rs bg (by omega) W h
      rw [h8] at this
      refine this.mono ?_
      rintro e w' ⟨q, c, s, d, mid, he, _, _, _, hb⟩
      exact ⟨q, _, c, s, _, d, _, _, he, hb⟩
    have HS : Hid (∀ W, ReadsHp W.heap.size W ad rs → Calls Try.prog 9 #[.slice ad rs.length cp, .int .i64 bg] W fun e w' => ∃ q n c s m d x y, e = .returned (.tuple #[.agg #[.slice q n c, .slice s m d, .int .i64 x, .int .i64 y], .int .i64 8]) ∧ Below W.heap.size W w') := fun W h => by
      have := specBestRoute_any ad cp rs bg (by omega) W h
      rw [h8] at this
      refine this.mono ?_
      rintro e w' ⟨q, c, s, d, he, _, _, hb⟩
      exact ⟨q, _, c, s, _, d, _, _, he, hb⟩
    clear HRt hways hst hrf hrf2 hps hD hon hbr h17 h8
    as_aux_lemma =>
      go_wp2_with fail
      (first | go_at_call 6 | skip)
      refine (HB.out w1 A1.out).mono ?_
      rintro e w2 ⟨q2, n2, c2, s2, m2, d2, x2, y2, rfl, hb⟩
      have A2 : Hid (ReadsHp w2.heap.size w2 ad rs) := ((A1.out.below hb).mono hb.size)
      have R2 : Hid (Reads w2.heap.size w2 al L) := ((R1.out.below hb).mono hb.size)
      have B2 : Hid (Below w.heap.size w w2) := chain B1.out hb
      clear hb A1 R1 B1
      obtain ⟨w3, hw3⟩ : ∃ w3, w3 = w2.alloc (Obj.cells #[.slice q2 n2 c2, .slice s2 m2 d2, .int .i64 x2, .int .i64 y2] 28) := ⟨_, rfl⟩
      obtain ⟨b6, hb6⟩ : ∃ b6, b6 = w2.heap.size := ⟨_, rfl⟩
      have HWw3 : Hid (w3 = w2.alloc (Obj.cells #[.slice q2 n2 c2, .slice s2 m2 d2, .int .i64 x2, .int .i64 y2] 28) ∧ b6 = w2.heap.size) := ⟨hw3, hb6⟩
      have hb : Below w2.heap.size w2 w3 := by rw [hw3]; exact below_alloc _ _
      clear hw3 hb6
      have A3 : Hid (ReadsHp w3.heap.size w3 ad rs) := ((A2.out.below hb).mono hb.size)
      have R3 : Hid (Reads w3.heap.size w3 al L) := ((R2.out.below hb).mono hb.size)
      have B3 : Hid (Below w.heap.size w w3) := chain B2.out hb
      clear hb A2 R2 B2
      go_upto_region 5 with fail
      rw [← HWw3.out.1, ← HWw3.out.2]
      clear HWw3
      go_wp2_with fail
      (first | go_at_call 7 | skip)
      refine (HR.out w3 A3.out R3.out).mono ?_
      rintro e w4 ⟨q4, n4, c4, s4, m4, d4, x4, rfl, hb⟩
      have A4 : Hid (ReadsHp w4.heap.size w4 ad rs) := ((A3.out.below hb).mono hb.size)
      have B4 : Hid (Below w.heap.size w w4) := chain B3.out hb
      clear hb A3 R3 B3
      obtain ⟨w5, hw5⟩ : ∃ w5, w5 = w4.alloc (Obj.cells #[.slice q4 n4 c4, .slice s4 m4 d4, .int .i64 x4, .int .i64 en2] 28) := ⟨_, rfl⟩
      obtain ⟨b8, hb8⟩ : ∃ b8, b8 = w4.heap.size := ⟨_, rfl⟩
      have HWw5 : Hid (w5 = w4.alloc (Obj.cells #[.slice q4 n4 c4, .slice s4 m4 d4, .int .i64 x4, .int .i64 en2] 28) ∧ b8 = w4.heap.size) := ⟨hw5, hb8⟩
      have hb : Below w4.heap.size w4 w5 := by rw [hw5]; exact below_alloc _ _
      clear hw5 hb8
      have A5 : Hid (ReadsHp w5.heap.size w5 ad rs) := ((A4.out.below hb).mono hb.size)
      have B5 : Hid (Below w.heap.size w w5) := chain B4.out hb
      clear hb A4 B4
      go_upto_region 6 with fail
      rw [← HWw5.out.1, ← HWw5.out.2]
      clear HWw5
      go_wp2_with fail
      (first | go_at_call 8 | skip)
      refine (HSO.out w5 A5.out).mono ?_
      rintro e w6 ⟨rfl, hb⟩
      have A6 : Hid (ReadsHp w6.heap.size w6 ad rs) := ((A5.out.below hb).mono hb.size)
      have B6 : Hid (Below w.heap.size w w6) := chain B5.out hb
      clear hb A5 B5
      go_wp2_with fail
      (first | go_at_call 9 | skip)
      refine (HS.out w6 A6.out).mono ?_
      rintro e w7 ⟨q7, n7, c7, s7, m7, d7, x7, y7, rfl, hb⟩
      have B7 : Hid (Below w.heap.size w w7) := chain B6.out hb
      clear hb
      go_wp2
      go_ret
      exact ⟨rfl, B7.out.trans ((Below.refl _ _).alloc B7.out.size _)⟩
  | some oo =>
    obtain ⟨hc0, hL0, hA0, hW0, hE0⟩ := br_yes hrf hbr
    obtain ⟨hro, hlv, hle⟩ := fn_yes hD hbr
    obtain ⟨_, hoo, hok⟩ := brB_valid hbr
    obtain ⟨o3, hb3, hen3⟩ := loose_best hbr
    obtain ⟨r1, r2, r3, r4⟩ := ro_yes hro
    have hol := hoo.len
    have hal := trp_len rs bg oo
    rw [hol] at hal
    have HTm : Hid (∀ k, k < rs.length → ∃ m : Nat, oo.getD k 0 = (m : Int) ∧ m < rs.length ∧ (trp rs bg oo).A.getD k 0 ≤ (rs.getD m zHp).to) := fun k hk => by
      have h1 := trp_times rs bg rs.length oo hol hok k hk
      have e : oo.getD k 0 = oo[k] := by simp [List.getD_eq_getElem?_getD, show k < oo.length by omega]
      have h2 := hoo.inn (oo.getD k 0) (by rw [e]; exact List.getElem_mem _)
      exact ⟨(oo.getD k 0).toNat, by omega, by omega, h1⟩
    have HDr : Hid (∀ k, k < rs.length → DrH (rs.getD k zHp)) := fun k hk => getHp hD.all hk
    obtain ⟨en, hen⟩ : ∃ en, en = enR rs bg oo := ⟨_, rfl⟩
    have hen' : endT (trp rs bg oo) = en := hen.symm
    obtain ⟨wt, hwt⟩ : ∃ wt, wt = (trp rs bg oo).wt := ⟨_, rfl⟩
    obtain ⟨Av, hAv⟩ : ∃ Av, Av = (trp rs bg oo).A := ⟨_, rfl⟩
    obtain ⟨lv, hlve⟩ : ∃ lv, lv = leV rs bg := ⟨_, rfl⟩
    obtain ⟨en3, hen3e⟩ : ∃ en3, en3 = enR (rs.map lsH) bg o3 := ⟨_, rfl⟩
    have hol2 : ∃ n, n = rs.length := ⟨_, rfl⟩
    have HB : Hid (∀ W, ReadsHp W.heap.size W ad rs → Calls Try.prog 6 #[.slice ad rs.length cp, .int .i64 bg] W fun e w' => ∃ q c s d, e = .returned (.tuple #[.agg #[.slice q rs.length c, .slice s rs.length d, .int .i64 wt, .int .i64 en], .int .i64 0]) ∧ Reads w'.heap.size w' q oo ∧ Reads w'.heap.size w' s Av ∧ Below W.heap.size W w') := fun W h => by
      have := implBestRoute_any ad cp rs bg (by omega) W h
      rw [hc0, hL0, hA0, hW0, hE0, ← hen, ← hwt, ← hAv] at this
      refine this.mono ?_
      rintro e w' ⟨q, c, s, d, mid, he, ⟨hm1, hm2⟩, k1, k2, hb⟩
      rw [hol, show Av.length = rs.length by rw [hAv]; exact hal] at he
      exact ⟨q, c, s, d, he, (k1.wide (Nat.le_refl _) hm2 (Nat.le_refl _)).reads, k2.reads, hb⟩
    have HRo : Hid (∀ W q c, ReadsHp W.heap.size W ad rs → Reads W.heap.size W q oo → Calls Try.prog 7 #[.slice ad rs.length cp, .int .i64 bg, .slice q rs.length c] W fun e w' => ∃ q n c s d, e = .returned (.tuple #[.agg #[.slice q n c, .slice s rs.length d, .int .i64 wt, .int .i64 en], .int .i64 0]) ∧ Reads w'.heap.size w' s Av ∧ Below W.heap.size W w') := fun W q c h1 h2 => by
      have := implRouteOf_any ad cp rs bg q c oo (by omega) (by omega) W h1 h2
      rw [hro, r1, r2, r3, r4, hen', ← hwt, ← hAv, hol] at this
      refine this.mono ?_
      rintro e w' ⟨q, c, s, d, mid, he, _, _, k2, hb⟩
      rw [show Av.length = rs.length by rw [hAv]; exact hal] at he
      exact ⟨q, _, c, s, d, he, k2.reads, hb⟩
    have HLe : Hid (∀ W, ReadsHp W.heap.size W ad rs → Calls Try.prog 10 #[.slice ad rs.length cp, .int .i64 bg] W fun e w' => e = .returned (.tuple #[.int .i64 lv, .int .i64 0]) ∧ Below W.heap.size W w') := fun W h => by
      have := implLeast_any ad cp rs bg (by omega) W h
      rw [hle, ← hlve] at this
      exact this
    have HSm : Hid (∀ W q1 c1 q2 c2, Reads W.heap.size W q1 Av → Reads W.heap.size W q2 Av → Calls Try.prog 11 #[.slice q1 rs.length c1, .slice q2 rs.length c2] W fun e w' => e = .returned (.bool true) ∧ Below W.heap.size W w') := fun W q1 c1 q2 c2 h1 h2 => by
      have e : Av.length = rs.length := by rw [hAv]; exact hal
      have := sameInts_any q1 q2 c1 c2 Av (by omega) W h1 h2
      rw [e] at this
      exact this
    have HBl : Hid (∀ W q c, ReadsHp W.heap.size W q (rs.map lsH) → Calls Try.prog 6 #[.slice q rs.length c, .int .i64 bg] W fun e w' => ∃ q n c s m d x, e = .returned (.tuple #[.agg #[.slice q n c, .slice s m d, .int .i64 x, .int .i64 en3], .int .i64 0]) ∧ Below W.heap.size W w') := fun W q c h => by
      obtain ⟨l0, l1, l2, l3, l4⟩ := br_yes hrf2 hb3
      have := implBestRoute_any q c (rs.map lsH) bg (by simp; omega) W h
      rw [l0, l4, List.length_map, ← hen3e] at this
      refine this.mono ?_
      rintro e w' ⟨q, c, s, d, mid, he, _, _, _, hb⟩
      exact ⟨q, _, c, s, _, d, _, he, hb⟩
    rw [← hAv] at hal HTm
    rw [← hen, ← hen3e] at hen3
    rw [← hen, ← hlve] at hlv
    have hways2 : (roC rs bg L = 17) ∨ (roC rs bg L = 0 ∧ en ≤ en2) := by
      rcases hways with ⟨h, _⟩ | ⟨h1, h2, o, ho, h3⟩
      · exact .inl h
      · rw [hbr] at ho; cases ho
        exact .inr ⟨h1, by rw [hen, h2]; exact h3⟩
    clear hways hst hrf hrf2 hps hD hon hbr hc0 hL0 hA0 hW0 hE0 hro hle hoo hok hb3 r1 r2 r3 r4 hen hen' hwt hAv hlve hen3e hol2
    rcases hways2 with h17 | ⟨h0, hen2⟩
    · have HR : Hid (∀ W, ReadsHp W.heap.size W ad rs → Reads W.heap.size W al L → Calls Try.prog 7 #[.slice ad rs.length cp, .int .i64 bg, .slice al rs.length cL] W fun e w' => ∃ q n c s m d x, e = .returned (.tuple #[.agg #[.slice q n c, .slice s m d, .int .i64 x, .int .i64 en2], .int .i64 17]) ∧ Below W.heap.size W w') := HRt 17 h17
      clear HRt h17
      as_aux_lemma =>
        go_wp2_with fail
        (first | go_at_call 6 | skip)
        refine (HB.out w1 A1.out).mono ?_
        rintro e w2 ⟨q2, c2, s2, d2, rfl, ho, hv, hb⟩
        have O2 : Hid (Reads w2.heap.size w2 q2 oo) := ho
        have V2 : Hid (Reads w2.heap.size w2 s2 Av) := hv
        clear ho hv
        have A2 : Hid (ReadsHp w2.heap.size w2 ad rs) := ((A1.out.below hb).mono hb.size)
        have R2 : Hid (Reads w2.heap.size w2 al L) := ((R1.out.below hb).mono hb.size)
        have B2 : Hid (Below w.heap.size w w2) := chain B1.out hb
        clear hb A1 R1 B1
        obtain ⟨w3, hw3⟩ : ∃ w3, w3 = w2.alloc (Obj.cells #[.slice q2 rs.length c2, .slice s2 rs.length d2, .int .i64 wt, .int .i64 en] 28) := ⟨_, rfl⟩
        obtain ⟨b6, hb6⟩ : ∃ b6, b6 = w2.heap.size := ⟨_, rfl⟩
        have HWw3 : Hid (w3 = w2.alloc (Obj.cells #[.slice q2 rs.length c2, .slice s2 rs.length d2, .int .i64 wt, .int .i64 en] 28) ∧ b6 = w2.heap.size) := ⟨hw3, hb6⟩
        have hb : Below w2.heap.size w2 w3 := by rw [hw3]; exact below_alloc _ _
        have P3 : Hid (w3.heap[b6]? = some (.cells #[.slice q2 rs.length c2, .slice s2 rs.length d2, .int .i64 wt, .int .i64 en] 28 (0, 0))) := by show _ = _; rw [hw3, hb6]; exact heapNew _ _
        clear hw3 hb6
        have A3 : Hid (ReadsHp w3.heap.size w3 ad rs) := ((A2.out.below hb).mono hb.size)
        have R3 : Hid (Reads w3.heap.size w3 al L) := ((R2.out.below hb).mono hb.size)
        have B3 : Hid (Below w.heap.size w w3) := chain B2.out hb
        have O3 : Hid (Reads w3.heap.size w3 q2 oo) := ((O2.out.below hb).mono hb.size)
        have V3 : Hid (Reads w3.heap.size w3 s2 Av) := ((V2.out.below hb).mono hb.size)
        clear hb A2 R2 B2 O2 V2
        go_upto_region 5 with fail
        rw [← HWw3.out.1, ← HWw3.out.2]
        clear HWw3
        go_wp2_with fail
        (first | go_at_call 7 | skip)
        refine (HR.out w3 A3.out R3.out).mono ?_
        rintro e w4 ⟨q4, n4, c4, s4, m4, d4, x4, rfl, hb⟩
        have A4 : Hid (ReadsHp w4.heap.size w4 ad rs) := ((A3.out.below hb).mono hb.size)
        have B4 : Hid (Below w.heap.size w w4) := chain B3.out hb
        have O4 : Hid (Reads w4.heap.size w4 q2 oo) := ((O3.out.below hb).mono hb.size)
        have V4 : Hid (Reads w4.heap.size w4 s2 Av) := ((V3.out.below hb).mono hb.size)
        have P4 : Hid (w4.heap[b6]? = some (.cells #[.slice q2 rs.length c2, .slice s2 rs.length d2, .int .i64 wt, .int .i64 en] 28 (0, 0))) := (hb.block b6 (blkLt P3.out)).trans P3.out
        clear hb A3 R3 B3 O3 V3 P3
        obtain ⟨w5, hw5⟩ : ∃ w5, w5 = w4.alloc (Obj.cells #[.slice q4 n4 c4, .slice s4 m4 d4, .int .i64 x4, .int .i64 en2] 28) := ⟨_, rfl⟩
        obtain ⟨b8, hb8⟩ : ∃ b8, b8 = w4.heap.size := ⟨_, rfl⟩
        have HWw5 : Hid (w5 = w4.alloc (Obj.cells #[.slice q4 n4 c4, .slice s4 m4 d4, .int .i64 x4, .int .i64 en2] 28) ∧ b8 = w4.heap.size) := ⟨hw5, hb8⟩
        have hb : Below w4.heap.size w4 w5 := by rw [hw5]; exact below_alloc _ _
        have Q5 : Hid (w5.heap[b8]? = some (.cells #[.slice q4 n4 c4, .slice s4 m4 d4, .int .i64 x4, .int .i64 en2] 28 (0, 0))) := by show _ = _; rw [hw5, hb8]; exact heapNew _ _
        clear hw5 hb8
        have A5 : Hid (ReadsHp w5.heap.size w5 ad rs) := ((A4.out.below hb).mono hb.size)
        have B5 : Hid (Below w.heap.size w w5) := chain B4.out hb
        have O5 : Hid (Reads w5.heap.size w5 q2 oo) := ((O4.out.below hb).mono hb.size)
        have V5 : Hid (Reads w5.heap.size w5 s2 Av) := ((V4.out.below hb).mono hb.size)
        have P5 : Hid (w5.heap[b6]? = some (.cells #[.slice q2 rs.length c2, .slice s2 rs.length d2, .int .i64 wt, .int .i64 en] 28 (0, 0))) := (hb.block b6 (blkLt P4.out)).trans P4.out
        clear hb A4 B4 O4 V4 P4
        go_upto_region 6 with fail
        rw [← HWw5.out.1, ← HWw5.out.2]
        clear HWw5
        go_wp2_with fail
        (first | go_at_call 8 | skip)
        refine (HSO.out w5 A5.out).mono ?_
        rintro e w6 ⟨rfl, hb⟩
        have A6 : Hid (ReadsHp w6.heap.size w6 ad rs) := ((A5.out.below hb).mono hb.size)
        have B6 : Hid (Below w.heap.size w w6) := chain B5.out hb
        have O6 : Hid (Reads w6.heap.size w6 q2 oo) := ((O5.out.below hb).mono hb.size)
        have V6 : Hid (Reads w6.heap.size w6 s2 Av) := ((V5.out.below hb).mono hb.size)
        have P6 : Hid (w6.heap[b6]? = some (.cells #[.slice q2 rs.length c2, .slice s2 rs.length d2, .int .i64 wt, .int .i64 en] 28 (0, 0))) := (hb.block b6 (blkLt P5.out)).trans P5.out
        have Q6 : Hid (w6.heap[b8]? = some (.cells #[.slice q4 n4 c4, .slice s4 m4 d4, .int .i64 x4, .int .i64 en2] 28 (0, 0))) := (hb.block b8 (blkLt Q5.out)).trans Q5.out
        clear hb A5 B5 O5 V5 P5 Q5
        clear HSO HR HB
        go_wp2_with fail
        (first | go_at_call 10 | skip)
        refine (HLe.out w6 A6.out).mono ?_
        rintro e w7 ⟨rfl, hb⟩
        have A7 : Hid (ReadsHp w7.heap.size w7 ad rs) := ((A6.out.below hb).mono hb.size)
        have B7 : Hid (Below w.heap.size w w7) := chain B6.out hb
        have O7 : Hid (Reads w7.heap.size w7 q2 oo) := ((O6.out.below hb).mono hb.size)
        have V7 : Hid (Reads w7.heap.size w7 s2 Av) := ((V6.out.below hb).mono hb.size)
        have P7 : Hid (w7.heap[b6]? = some (.cells #[.slice q2 rs.length c2, .slice s2 rs.length d2, .int .i64 wt, .int .i64 en] 28 (0, 0))) := (hb.block b6 (blkLt P6.out)).trans P6.out
        have Q7 : Hid (w7.heap[b8]? = some (.cells #[.slice q4 n4 c4, .slice s4 m4 d4, .int .i64 x4, .int .i64 en2] 28 (0, 0))) := (hb.block b8 (blkLt Q6.out)).trans Q6.out
        clear hb A6 B6 O6 V6 P6 Q6
        clear HLe
        have z0 := blkCell P7.out 0 _ rfl
        simp only [List.getElem_toArray, List.getElem_cons_zero] at z0
        go_wp2_with fail
        (first | go_at_call 7 | skip)
        refine (HRo.out w7 q2 c2 A7.out O7.out).mono ?_
        rintro e w8 ⟨q8, n8, c8, s8, d8, rfl, hv, hb⟩
        have U8 : Hid (Reads w8.heap.size w8 s8 Av) := hv
        clear hv z0 HRo
        have A8 : Hid (ReadsHp w8.heap.size w8 ad rs) := ((A7.out.below hb).mono hb.size)
        have B8 : Hid (Below w.heap.size w w8) := chain B7.out hb
        have O8 : Hid (Reads w8.heap.size w8 q2 oo) := ((O7.out.below hb).mono hb.size)
        have V8 : Hid (Reads w8.heap.size w8 s2 Av) := ((V7.out.below hb).mono hb.size)
        have P8 : Hid (w8.heap[b6]? = some (.cells #[.slice q2 rs.length c2, .slice s2 rs.length d2, .int .i64 wt, .int .i64 en] 28 (0, 0))) := (hb.block b6 (blkLt P7.out)).trans P7.out
        have Q8 : Hid (w8.heap[b8]? = some (.cells #[.slice q4 n4 c4, .slice s4 m4 d4, .int .i64 x4, .int .i64 en2] 28 (0, 0))) := (hb.block b8 (blkLt Q7.out)).trans Q7.out
        clear hb A7 B7 O7 V7 P7 Q7
        obtain ⟨w9, hw9⟩ : ∃ w9, w9 = w8.alloc (Obj.cells #[.slice q8 n8 c8, .slice s8 rs.length d8, .int .i64 wt, .int .i64 en] 28) := ⟨_, rfl⟩
        obtain ⟨b14, hb14⟩ : ∃ b14, b14 = w8.heap.size := ⟨_, rfl⟩
        have HWw9 : Hid (w9 = w8.alloc (Obj.cells #[.slice q8 n8 c8, .slice s8 rs.length d8, .int .i64 wt, .int .i64 en] 28) ∧ b14 = w8.heap.size) := ⟨hw9, hb14⟩
        have hb : Below w8.heap.size w8 w9 := by rw [hw9]; exact below_alloc _ _
        have X9 : Hid (w9.heap[b14]? = some (.cells #[.slice q8 n8 c8, .slice s8 rs.length d8, .int .i64 wt, .int .i64 en] 28 (0, 0))) := by show _ = _; rw [hw9, hb14]; exact heapNew _ _
        clear hw9 hb14
        have A9 : Hid (ReadsHp w9.heap.size w9 ad rs) := ((A8.out.below hb).mono hb.size)
        have B9 : Hid (Below w.heap.size w w9) := chain B8.out hb
        have O9 : Hid (Reads w9.heap.size w9 q2 oo) := ((O8.out.below hb).mono hb.size)
        have V9 : Hid (Reads w9.heap.size w9 s2 Av) := ((V8.out.below hb).mono hb.size)
        have P9 : Hid (w9.heap[b6]? = some (.cells #[.slice q2 rs.length c2, .slice s2 rs.length d2, .int .i64 wt, .int .i64 en] 28 (0, 0))) := (hb.block b6 (blkLt P8.out)).trans P8.out
        have Q9 : Hid (w9.heap[b8]? = some (.cells #[.slice q4 n4 c4, .slice s4 m4 d4, .int .i64 x4, .int .i64 en2] 28 (0, 0))) := (hb.block b8 (blkLt Q8.out)).trans Q8.out
        have U9 : Hid (Reads w9.heap.size w9 s8 Av) := ((U8.out.below hb).mono hb.size)
        clear hb A8 B8 O8 V8 P8 Q8 U8
        go_upto_region 13 with fail
        rw [← HWw9.out.1, ← HWw9.out.2]
        clear HWw9
        have y1 := blkCell P9.out 1 _ rfl
        have y2 := blkCell P9.out 2 _ rfl
        have y3 := blkCell P9.out 3 _ rfl
        have z1 := blkCell X9.out 1 _ rfl
        have z2 := blkCell X9.out 2 _ rfl
        have z3 := blkCell X9.out 3 _ rfl
        have t3 := blkCell Q9.out 3 _ rfl
        simp only [List.getElem_toArray, List.getElem_cons_zero, List.getElem_cons_succ] at y1 y2 y3 z1 z2 z3 t3
        have k1 : (en != en) = false := by simp
        have k2 : (wt != wt) = false := by simp
        have k3 : ¬ en < lv := by omega
        have k3b : decide (en < lv) = false := decide_eq_false k3
        go_wp2_with fail
        (first | go_at_call 11 | skip)
        refine (HSm.out _ s8 d8 s2 d2 U9.out V9.out).mono ?_
        rintro e w10 ⟨rfl, hb⟩
        have y3 := (hb.cell (p := ⟨b6, 3, none⟩) (blkLt P9.out)).trans y3
        have t3 := (hb.cell (p := ⟨b8, 3, none⟩) (blkLt Q9.out)).trans t3
        have A10 : Hid (ReadsHp w10.heap.size w10 ad rs) := ((A9.out.below hb).mono hb.size)
        have B10 : Hid (Below w.heap.size w w10) := chain B9.out hb
        have O10 : Hid (Reads w10.heap.size w10 q2 oo) := ((O9.out.below hb).mono hb.size)
        have V10 : Hid (Reads w10.heap.size w10 s2 Av) := ((V9.out.below hb).mono hb.size)
        have P10 : Hid (w10.heap[b6]? = some (.cells #[.slice q2 rs.length c2, .slice s2 rs.length d2, .int .i64 wt, .int .i64 en] 28 (0, 0))) := (hb.block b6 (blkLt P9.out)).trans P9.out
        clear hb A9 B9 O9 V9 P9 Q9 U9 X9
        clear HSm y1 y2 z1 z2 z3
        go_upto_region 15 with fail
        clear y3 t3
        obtain ⟨i0, hi, hzz⟩ := Option.map_eq_some_iff.1 hpInf
        simp only [Prod.mk.injEq] at hzz
        obtain ⟨hi0, hi1, hi2⟩ := hzz
        have HL0 : Hid ((w10.alloc (Obj.cells #[] 37)).ownsRow w10.heap.size 37 5 (.slice (some ⟨w10.heap.size, 0, none⟩) 0 0) 0 (hpCells ((rs.map lsH).take 0))) := ⟨rfl, .inr ⟨w10.heap.size, 0, #[], rfl, Nat.le_refl _, heapNew w10 _, Nat.le_refl _, by unfold maxLen; omega, rfl, rfl⟩⟩
        go_wp2_with fail
        go_loopw [16, 17, 18, 19] (fun v iv _ _ wr => ∃ (k g cp : Nat), v = .slice (some ⟨g, 0, none⟩) k cp ∧ iv = .int .i64 (k : Int) ∧ k ≤ rs.length ∧ wr.ownsRow w10.heap.size 37 5 (.slice (some ⟨g, 0, none⟩) k cp) k (hpCells ((rs.map lsH).take k)) ∧ Below w10.heap.size w10 wr) (fun _ iv _ _ _ => rs.length - (intOf iv).toNat)
        case atStart => exact ⟨0, w10.heap.size, 0, rfl, rfl, Nat.zero_le _, HL0.out, below_alloc _ _⟩
        case round =>
          clear HL0
          obtain ⟨k, g, cp2, rfl, rfl, hk, hrow, hbl⟩ := hrel
          have HO : Hid (wr.ownsRow w10.heap.size 37 5 (.slice (some ⟨g, 0, none⟩) k cp2) k (hpCells ((rs.map lsH).take k))) := hrow
          have HBl2 : Hid (Below w10.heap.size w10 wr) := hbl
          clear hrow hbl
          by_cases hlt : k < rs.length
          · have hlt' : (k : Int) < (rs.length : Int) := by omega
            have hk1 : k + 1 ≤ rs.length := hlt
            have hms : rs.length - ((k : Int) + 1).toNat < rs.length - ((k : Int)).toNat := by omega
            have HMs : Hid (k + 1 ≤ rs.length ∧ rs.length - ((k : Int) + 1).toNat < rs.length - ((k : Int)).toNat) := ⟨hk1, hms⟩
            clear hk1 hms
            rcases A10.out with h | ⟨b0, o0, ha, hB0, ia⟩
            · rw [h] at hlt; simp at hlt
            subst ha
            have HIa : Hid (HpsAt w10 b0 o0 rs) := ia
            obtain ⟨c0, c1, c2', c3, c4⟩ := (ia.below HBl2.out hB0) k hlt
            have HTk : Hid (hpCells ((rs.map lsH).take (k + 1)) = hpCells ((rs.map lsH).take k) ++ [.int .i64 (rs.getD k zHp).x, .int .i64 (rs.getD k zHp).y, .int .i64 (rs.getD k zHp).fr, .int .i64 ((rs.getD k zHp).to + 40), .int .i64 (rs.getD k zHp).sy]) := hpCells_take hlt
            have hdr := HDr.out k hlt
            unfold DrH at hdr
            obtain ⟨m, hm, hml, htm⟩ := HTm.out k hlt
            have HTm1 : Hid (oo.getD k 0 = (m : Int) ∧ Av.getD k 0 ≤ (rs.getD m zHp).to) := ⟨hm, htm⟩
            clear hm htm ia
            rcases O10.out with h | ⟨bq, oq, hq, hBq, iq⟩
            · have : oo.length = 0 := by rw [h]; rfl
              omega
            rcases V10.out with h | ⟨bs, os, hs, hBs, is⟩
            · have : Av.length = 0 := by rw [h]; rfl
              omega
            subst hq hs
            have hgt : ¬ (rs.getD m zHp).to < Av.getD k 0 := by have := HTm1.out.2; omega
            have hml' : (m : Int) < (rs.length : Int) := by omega
            have HFx : Hid (∀ X, Below w10.heap.size w10 X → (X.cell? ⟨b6, 0, none⟩ = some (.slice (some ⟨bq, oq, none⟩) rs.length c2) ∧ X.cell? ⟨bq, oq + k, none⟩ = some (.int .i64 (m : Int))) ∧ X.cell? ⟨b6, 1, none⟩ = some (.slice (some ⟨bs, os, none⟩) rs.length d2) ∧ X.cell? ⟨bs, os + k, none⟩ = some (.int .i64 (Av.getD k 0)) ∧ X.cell? ⟨b0, o0 + m * 5 + 3, none⟩ = some (.int .i64 (rs.getD m zHp).to)) := fun X hX => by
              have fP := (hX.block b6 (blkLt P10.out)).trans P10.out
              have v0 := (iq.below hX hBq) k (by omega)
              rw [HTm1.out.1] at v0
              exact ⟨⟨blkCell fP 0 _ rfl, v0⟩, blkCell fP 1 _ rfl, (is.below hX hBs) k (by omega), ((HIa.out.below hX hB0) m hml).2.2.2.1⟩
            clear HTm1 iq is
            generalize (rs.getD m zHp).to = tm at HFx hgt
            generalize Av.getD k 0 = av at HFx hgt
            have hgt2 : decide (tm < av) = false := decide_eq_false hgt
            generalize rs.getD k zHp = r at c0 c1 c2' c3 c4 HTk hdr
            obtain ⟨rx, ry, rf, rt, ry2⟩ := r
            dsimp only at c0 c1 c2' c3 c4 HTk hdr
            have hw40 : IntKind.i64.wrap (rt + 40) = rt + 40 := wrap_id _ (by omega) (by omega)
            go_upto_region 20 with fail
            obtain ⟨Wx, hWx⟩ : ∃ Wx, Wx = wr.alloc (Obj.cells #[.int .i64 rx, .int .i64 ry, .int .i64 rf, .int .i64 rt, .int .i64 ry2] 37) := ⟨_, rfl⟩
            obtain ⟨bx, hbx⟩ : ∃ bx, bx = wr.heap.size := ⟨_, rfl⟩
            have HWx : Hid (Wx = wr.alloc (Obj.cells #[.int .i64 rx, .int .i64 ry, .int .i64 rf, .int .i64 rt, .int .i64 ry2] 37) ∧ bx = wr.heap.size) := ⟨hWx, hbx⟩
            have hXb : Wx.heap[bx]? = some (.cells #[.int .i64 rx, .int .i64 ry, .int .i64 rf, .int .i64 rt, .int .i64 ry2] 37 (0, 0)) := by rw [hWx, hbx]; exact heapNew _ _
            have e0 := blkCell hXb 0 _ rfl
            have e1 := blkCell hXb 1 _ rfl
            have e2 := blkCell hXb 2 _ rfl
            have e3 := blkCell hXb 3 _ rfl
            have e4 := blkCell hXb 4 _ rfl
            simp only [List.getElem_toArray, List.getElem_cons_zero, List.getElem_cons_succ] at e0 e1 e2 e3 e4
            have hfz : Wx.frozen? ⟨bx, 3, none⟩ = false := blkFree hXb 3
            have HOx : Hid (Wx.ownsRow w10.heap.size 37 5 (.slice (some ⟨g, 0, none⟩) k cp2) k (hpCells ((rs.map lsH).take k))) := by show World.ownsRow _ _ _ _ _ _ _; rw [hWx]; exact HO.out.alloc _
            have HBx : Hid (Below w10.heap.size w10 Wx ∧ w10.heap.size ≤ bx ∧ bx < Wx.heap.size ∧ g ≠ bx) := by
              show _ ∧ _ ∧ _ ∧ _
              have hg := (HO.out.lt g rfl).2
              refine ⟨by rw [hWx]; exact chain HBl2.out (below_alloc _ _), by rw [hbx]; exact HBl2.out.size, by rw [hWx, hbx]; simp, by rw [hbx]; omega⟩
            clear hWx hbx HO HBl2 c0 c1 c2' c3 c4
            rw [← HWx.out.1, ← HWx.out.2]
            clear HWx
            go_upto_region 21 with fail
            obtain ⟨Wy, hWy⟩ : ∃ Wy, Wy = Wx.setCell ⟨bx, 3, none⟩ (.int .i64 (rt + 40)) := ⟨_, rfl⟩
            have HWy : Hid (Wy = Wx.setCell ⟨bx, 3, none⟩ (.int .i64 (rt + 40))) := hWy
            have HYb : Hid (Wy.heap[bx]? = some (.cells #[.int .i64 rx, .int .i64 ry, .int .i64 rf, .int .i64 (rt + 40), .int .i64 ry2] 37 (0, 0))) := by show _ = _; rw [hWy]; exact heap_setCell_same Wx bx 3 _ _ _ hXb
            have HOy : Hid (Wy.ownsRow w10.heap.size 37 5 (.slice (some ⟨g, 0, none⟩) k cp2) k (hpCells ((rs.map lsH).take k))) := owns_sameH HOx.out (fun d hd => by
              have e : g = d := by simpa [Value.ownBlock] using hd
              subst e
              rw [hWy]; exact apart_set Wx bx 3 _ g HBx.out.2.2.2)
            have HBy : Hid (Below w10.heap.size w10 Wy) := by show Below _ _ _; rw [hWy]; exact HBx.out.1.setCell HBx.out.2.1 _
            clear hWy hXb HOx HBx hfz e0 e1 e2 e3 e4
            rw [← HWy.out]
            clear HWy
            have HO6 : Hid ((Wy.alloc (Obj.cells #[.int .i64 rx, .int .i64 ry, .int .i64 rf, .int .i64 (rt + 40), .int .i64 ry2] 37)).ownsRow w10.heap.size 37 5 (.slice (some ⟨g, 0, none⟩) k cp2) k (hpCells ((rs.map lsH).take k))) := HOy.out.alloc _
            have HB6 : Hid (Below w10.heap.size w10 (Wy.alloc (Obj.cells #[.int .i64 rx, .int .i64 ry, .int .i64 rf, .int .i64 (rt + 40), .int .i64 ry2] 37))) := chain HBy.out (below_alloc _ _)
            have HNw : Hid (∀ j u, [Value.int .i64 rx, .int .i64 ry, .int .i64 rf, .int .i64 (rt + 40), .int .i64 ry2][j]? = some u → (Wy.alloc (Obj.cells #[.int .i64 rx, .int .i64 ry, .int .i64 rf, .int .i64 (rt + 40), .int .i64 ry2] 37)).cell? ((⟨Wy.heap.size, 0, none⟩ : Addr).add j) = some u) := World.news_of_block (heapNew Wy (Obj.cells #[.int .i64 rx, .int .i64 ry, .int .i64 rf, .int .i64 (rt + 40), .int .i64 ry2] 37))
            have HZ6 : Hid (w10.heap.size ≤ (Wy.alloc (Obj.cells #[.int .i64 rx, .int .i64 ry, .int .i64 rf, .int .i64 (rt + 40), .int .i64 ry2] 37)).heap.size) := HB6.out.size
            clear HOy HBy
            go_wp2_with (first | (refine wpList_load_row rfl 37 (.tmp 18) rfl bx rfl 37 _ (0, 0) _ HYb.out Try.underlying37 rfl stopSize ?_) | (at_builtin; refine wpList_append_lies _ rfl _ _ 23 rfl w10.heap.size 37 i0 (.agg #[.int .i64 0, .int .i64 0, .int .i64 0, .int .i64 0, .int .i64 0]) 5 40 Try.underlying23 hi hi0 hi1 hi2 rfl (by decide) _ _ _ rfl HO6.out ⟨Wy.heap.size, 0, none⟩ 1 1 [.int .i64 rx, .int .i64 ry, .int .i64 rf, .int .i64 (rt + 40), .int .i64 ry2] rfl rfl HNw.out (one5H _ _ _ _ _) (by omega) (by unfold maxLen; omega) (by omega) HZ6.out _ rfl ?_; intro g1 cp1 w7 hown1 hgrow1 hat1 hglt1; have HO7B : Hid (w7.ownsRow w10.heap.size 37 5 (.slice (some ⟨g1, 0, none⟩) (k + 1) cp1) (k + 1) (hpCells ((rs.map lsH).take (k + 1))) ∧ Below w10.heap.size w10 w7) := ls_push HTk.out HO6.out HB6.out hown1 hgrow1; have HO7 := hid1 HO7B; have HB7 := hid2 HO7B; have y0 := (HFx.out w7 HB7.out).1.1; have v0 := (HFx.out w7 HB7.out).1.2; clear HO7B hown1 hgrow1 hat1 hglt1 HYb HO6 HB6 HNw HZ6 HTk))
            clear y0 v0
            have HC : Hid (∀ X, Below w7.heap.size w7 X → X.cell? ⟨b6, 1, none⟩ = some (.slice (some ⟨bs, os, none⟩) rs.length d2) ∧ X.cell? ⟨bs, os + k, none⟩ = some (.int .i64 av) ∧ X.cell? ⟨b0, o0 + m * 5 + 3, none⟩ = some (.int .i64 tm)) := fun X hX => (HFx.out X (chain HB7.out hX)).2
            clear HFx
            refine wp_region_held_drew (S := fun W' => Below w7.heap.size w7 W') (by kernel_rfl) (below_drew _) (fun hH => ?_)
            refine wpAnyH_take (i := 0) (v := .pointer (some ⟨b6, 1, none⟩)) rfl (by kernel_rfl) (by kernel_rfl) (by kernel_rfl) (fun _ _ _ h => h) (Or.inl ⟨by rfl, fun w hSw => by clear hSw; go_simp⟩) hH ?_
            refine wpAnyH_take (i := 1) (v := .slice (some ⟨bs, os, none⟩) rs.length d2) rfl (by kernel_rfl) (by kernel_rfl) (by kernel_rfl) (fun _ _ _ h => h) (Or.inl ⟨by rfl, fun w hSw => by obtain ⟨f0, f1, f2⟩ := HC.out w hSw; clear hSw; go_simp⟩) hH ?_
            try simp only [Act.put, List.setIfInBounds_toArray, List.set_cons_zero, List.set_cons_succ, List.getElem_toArray, List.getElem_cons_succ, List.getElem_cons_zero]
            refine wpAnyH_take (i := 2) (v := .int .i64 (k : Int)) rfl (by kernel_rfl) (by kernel_rfl) (by kernel_rfl) (fun _ _ _ h => h) (Or.inl ⟨by rfl, fun w hSw => by clear hSw; go_simp⟩) hH ?_
            try simp only [Act.put, List.setIfInBounds_toArray, List.set_cons_zero, List.set_cons_succ, List.getElem_toArray, List.getElem_cons_succ, List.getElem_cons_zero]
            refine wpAnyH_take (i := 3) (v := .pointer (some ⟨bs, os + k, none⟩)) rfl (by kernel_rfl) (by kernel_rfl) (by kernel_rfl) (fun _ _ _ h => h) (Or.inl ⟨by rfl, fun w hSw => by clear hSw; go_simp⟩) hH ?_
            try simp only [Act.put, List.setIfInBounds_toArray, List.set_cons_zero, List.set_cons_succ, List.getElem_toArray, List.getElem_cons_succ, List.getElem_cons_zero]
            refine wpAnyH_take (i := 4) (v := .int .i64 av) rfl (by kernel_rfl) (by kernel_rfl) (by kernel_rfl) (fun _ _ _ h => h) (Or.inl ⟨by rfl, fun w hSw => by obtain ⟨f0, f1, f2⟩ := HC.out w hSw; clear hSw; go_simp⟩) hH ?_
            try simp only [Act.put, List.setIfInBounds_toArray, List.set_cons_zero, List.set_cons_succ, List.getElem_toArray, List.getElem_cons_succ, List.getElem_cons_zero]
            refine wpAnyH_take (i := 5) (v := .slice (some ⟨b0, o0, none⟩) rs.length cp) rfl (by kernel_rfl) (by kernel_rfl) (by kernel_rfl) (fun _ _ _ h => h) (Or.inl ⟨by rfl, fun w hSw => by clear hSw; go_simp⟩) hH ?_
            try simp only [Act.put, List.setIfInBounds_toArray, List.set_cons_zero, List.set_cons_succ, List.getElem_toArray, List.getElem_cons_succ, List.getElem_cons_zero]
            refine wpAnyH_take (i := 6) (v := .int .i64 (m : Int)) rfl (by kernel_rfl) (by kernel_rfl) (by kernel_rfl) (fun _ _ _ h => h) (Or.inl ⟨by rfl, fun w hSw => by clear hSw; go_simp⟩) hH ?_
            try simp only [Act.put, List.setIfInBounds_toArray, List.set_cons_zero, List.set_cons_succ, List.getElem_toArray, List.getElem_cons_succ, List.getElem_cons_zero]
            refine wpAnyH_take (i := 7) (v := .pointer (some ⟨b0, o0 + m * 5, none⟩)) rfl (by kernel_rfl) (by kernel_rfl) (by kernel_rfl) (fun _ _ _ h => h) (Or.inl ⟨by rfl, fun w hSw => by clear hSw; go_simp⟩) hH ?_
            try simp only [Act.put, List.setIfInBounds_toArray, List.set_cons_zero, List.set_cons_succ, List.getElem_toArray, List.getElem_cons_succ, List.getElem_cons_zero]
            refine wpAnyH_take (i := 8) (v := .pointer (some ⟨b0, o0 + m * 5 + 3, none⟩)) rfl (by kernel_rfl) (by kernel_rfl) (by kernel_rfl) (fun _ _ _ h => h) (Or.inl ⟨by rfl, fun w hSw => by clear hSw; go_simp⟩) hH ?_
            try simp only [Act.put, List.setIfInBounds_toArray, List.set_cons_zero, List.set_cons_succ, List.getElem_toArray, List.getElem_cons_succ, List.getElem_cons_zero]
            refine wpAnyH_take (i := 9) (v := .int .i64 tm) rfl (by kernel_rfl) (by kernel_rfl) (by kernel_rfl) (fun _ _ _ h => h) (Or.inl ⟨by rfl, fun w hSw => by obtain ⟨f0, f1, f2⟩ := HC.out w hSw; clear hSw; go_simp⟩) hH ?_
            try simp only [Act.put, List.setIfInBounds_toArray, List.set_cons_zero, List.set_cons_succ, List.getElem_toArray, List.getElem_cons_succ, List.getElem_cons_zero]
            refine wpAnyH_take (i := 10) (v := .bool false) rfl (by kernel_rfl) (by kernel_rfl) (by kernel_rfl) (fun _ _ _ h => h) (Or.inl ⟨by rfl, fun w hSw => by clear hSw; go_simp⟩) hH ?_
            try simp only [Act.put, List.setIfInBounds_toArray, List.set_cons_zero, List.set_cons_succ, List.getElem_toArray, List.getElem_cons_succ, List.getElem_cons_zero]
            refine wpAnyH_done (by kernel_rfl) ?_ _
            clear hH HC
            have HO8 : Hid (w7.drew.ownsRow w10.heap.size 37 5 (.slice (some ⟨g1, 0, none⟩) (k + 1) cp1) (k + 1) (hpCells ((rs.map lsH).take (k + 1)))) := HO7.out
            have HB8 : Hid (Below w10.heap.size w10 w7.drew) := HB7.out.drew
            clear HO7 HB7
            generalize w7.drew = w8 at *
            go_wp2
            exact ⟨⟨k + 1, g1, cp1, rfl, by go_num, HMs.out.1, HO8.out, HB8.out⟩, HMs.out.2⟩
          · have hk2 : k = rs.length := by omega
            subst hk2
            have hlt' : ¬ (rs.length : Int) < (rs.length : Int) := by omega
            have HLs : Hid (ReadsHp wr.heap.size wr (some ⟨g, 0, none⟩) (rs.map lsH)) := by
              have h := HO.out
              have e : (rs.map lsH).take rs.length = rs.map lsH := List.take_of_length_le (by simp)
              have e2 : rs.length = (rs.map lsH).length := by simp
              rw [e] at h
              have hlt := (h.lt g rfl).2
              rw [e2] at h
              exact .inr ⟨g, 0, rfl, hlt, hps_of_row h⟩
            have Pr : Hid (wr.heap[b6]? = some (.cells #[.slice q2 rs.length c2, .slice s2 rs.length d2, .int .i64 wt, .int .i64 en] 28 (0, 0))) := (HBl2.out.block b6 (blkLt P10.out)).trans P10.out
            have Br : Hid (Below w.heap.size w wr) := chain B10.out HBl2.out
            clear HO HBl2 P10 B10 A10 O10 V10
            go_wp2_with fail
            (first | go_at_call 6 | skip)
            refine (HBl.out wr _ cp2 HLs.out).mono ?_
            rintro e w12 ⟨q12, n12, c12, s12, m12, d12, x12, rfl, hb⟩
            have P12 : Hid (w12.heap[b6]? = some (.cells #[.slice q2 rs.length c2, .slice s2 rs.length d2, .int .i64 wt, .int .i64 en] 28 (0, 0))) := (hb.block b6 (blkLt Pr.out)).trans Pr.out
            have B12 : Hid (Below w.heap.size w w12) := chain Br.out hb
            clear hb Pr Br HLs HBl
            obtain ⟨w13, hw13⟩ : ∃ w13, w13 = w12.alloc (Obj.cells #[.slice q12 n12 c12, .slice s12 m12 d12, .int .i64 x12, .int .i64 en3] 28) := ⟨_, rfl⟩
            obtain ⟨b20, hb20⟩ : ∃ b20, b20 = w12.heap.size := ⟨_, rfl⟩
            have HWw13 : Hid (w13 = w12.alloc (Obj.cells #[.slice q12 n12 c12, .slice s12 m12 d12, .int .i64 x12, .int .i64 en3] 28) ∧ b20 = w12.heap.size) := ⟨hw13, hb20⟩
            have hb : Below w12.heap.size w12 w13 := by rw [hw13]; exact below_alloc _ _
            have X13 : Hid (w13.heap[b20]? = some (.cells #[.slice q12 n12 c12, .slice s12 m12 d12, .int .i64 x12, .int .i64 en3] 28 (0, 0))) := by show _ = _; rw [hw13, hb20]; exact heapNew _ _
            clear hw13 hb20
            have P13 : Hid (w13.heap[b6]? = some (.cells #[.slice q2 rs.length c2, .slice s2 rs.length d2, .int .i64 wt, .int .i64 en] 28 (0, 0))) := (hb.block b6 (blkLt P12.out)).trans P12.out
            have B13 : Hid (Below w.heap.size w w13) := chain B12.out hb
            clear hb P12 B12
            go_upto_region 26 with fail
            rw [← HWw13.out.1, ← HWw13.out.2]
            clear HWw13
            have y3 := blkCell P13.out 3 _ rfl
            have z3 := blkCell X13.out 3 _ rfl
            simp only [List.getElem_toArray, List.getElem_cons_zero, List.getElem_cons_succ] at y3 z3
            have k9 : decide (en3 ≤ en) = true := decide_eq_true hen3
            go_wp2
            go_ret
            exact ⟨rfl, B13.out⟩
    · have HR : Hid (∀ W, ReadsHp W.heap.size W ad rs → Reads W.heap.size W al L → Calls Try.prog 7 #[.slice ad rs.length cp, .int .i64 bg, .slice al rs.length cL] W fun e w' => ∃ q n c s m d x, e = .returned (.tuple #[.agg #[.slice q n c, .slice s m d, .int .i64 x, .int .i64 en2], .int .i64 0]) ∧ Below W.heap.size W w') := HRt 0 h0
      clear HRt h0
      as_aux_lemma =>
        go_wp2_with fail
        (first | go_at_call 6 | skip)
        refine (HB.out w1 A1.out).mono ?_
        rintro e w2 ⟨q2, c2, s2, d2, rfl, ho, hv, hb⟩
        have O2 : Hid (Reads w2.heap.size w2 q2 oo) := ho
        have V2 : Hid (Reads w2.heap.size w2 s2 Av) := hv
        clear ho hv
        have A2 : Hid (ReadsHp w2.heap.size w2 ad rs) := ((A1.out.below hb).mono hb.size)
        have R2 : Hid (Reads w2.heap.size w2 al L) := ((R1.out.below hb).mono hb.size)
        have B2 : Hid (Below w.heap.size w w2) := chain B1.out hb
        clear hb A1 R1 B1
        obtain ⟨w3, hw3⟩ : ∃ w3, w3 = w2.alloc (Obj.cells #[.slice q2 rs.length c2, .slice s2 rs.length d2, .int .i64 wt, .int .i64 en] 28) := ⟨_, rfl⟩
        obtain ⟨b6, hb6⟩ : ∃ b6, b6 = w2.heap.size := ⟨_, rfl⟩
        have HWw3 : Hid (w3 = w2.alloc (Obj.cells #[.slice q2 rs.length c2, .slice s2 rs.length d2, .int .i64 wt, .int .i64 en] 28) ∧ b6 = w2.heap.size) := ⟨hw3, hb6⟩
        have hb : Below w2.heap.size w2 w3 := by rw [hw3]; exact below_alloc _ _
        have P3 : Hid (w3.heap[b6]? = some (.cells #[.slice q2 rs.length c2, .slice s2 rs.length d2, .int .i64 wt, .int .i64 en] 28 (0, 0))) := by show _ = _; rw [hw3, hb6]; exact heapNew _ _
        clear hw3 hb6
        have A3 : Hid (ReadsHp w3.heap.size w3 ad rs) := ((A2.out.below hb).mono hb.size)
        have R3 : Hid (Reads w3.heap.size w3 al L) := ((R2.out.below hb).mono hb.size)
        have B3 : Hid (Below w.heap.size w w3) := chain B2.out hb
        have O3 : Hid (Reads w3.heap.size w3 q2 oo) := ((O2.out.below hb).mono hb.size)
        have V3 : Hid (Reads w3.heap.size w3 s2 Av) := ((V2.out.below hb).mono hb.size)
        clear hb A2 R2 B2 O2 V2
        go_upto_region 5 with fail
        rw [← HWw3.out.1, ← HWw3.out.2]
        clear HWw3
        go_wp2_with fail
        (first | go_at_call 7 | skip)
        refine (HR.out w3 A3.out R3.out).mono ?_
        rintro e w4 ⟨q4, n4, c4, s4, m4, d4, x4, rfl, hb⟩
        have A4 : Hid (ReadsHp w4.heap.size w4 ad rs) := ((A3.out.below hb).mono hb.size)
        have B4 : Hid (Below w.heap.size w w4) := chain B3.out hb
        have O4 : Hid (Reads w4.heap.size w4 q2 oo) := ((O3.out.below hb).mono hb.size)
        have V4 : Hid (Reads w4.heap.size w4 s2 Av) := ((V3.out.below hb).mono hb.size)
        have P4 : Hid (w4.heap[b6]? = some (.cells #[.slice q2 rs.length c2, .slice s2 rs.length d2, .int .i64 wt, .int .i64 en] 28 (0, 0))) := (hb.block b6 (blkLt P3.out)).trans P3.out
        clear hb A3 R3 B3 O3 V3 P3
        obtain ⟨w5, hw5⟩ : ∃ w5, w5 = w4.alloc (Obj.cells #[.slice q4 n4 c4, .slice s4 m4 d4, .int .i64 x4, .int .i64 en2] 28) := ⟨_, rfl⟩
        obtain ⟨b8, hb8⟩ : ∃ b8, b8 = w4.heap.size := ⟨_, rfl⟩
        have HWw5 : Hid (w5 = w4.alloc (Obj.cells #[.slice q4 n4 c4, .slice s4 m4 d4, .int .i64 x4, .int .i64 en2] 28) ∧ b8 = w4.heap.size) := ⟨hw5, hb8⟩
        have hb : Below w4.heap.size w4 w5 := by rw [hw5]; exact below_alloc _ _
        have Q5 : Hid (w5.heap[b8]? = some (.cells #[.slice q4 n4 c4, .slice s4 m4 d4, .int .i64 x4, .int .i64 en2] 28 (0, 0))) := by show _ = _; rw [hw5, hb8]; exact heapNew _ _
        clear hw5 hb8
        have A5 : Hid (ReadsHp w5.heap.size w5 ad rs) := ((A4.out.below hb).mono hb.size)
        have B5 : Hid (Below w.heap.size w w5) := chain B4.out hb
        have O5 : Hid (Reads w5.heap.size w5 q2 oo) := ((O4.out.below hb).mono hb.size)
        have V5 : Hid (Reads w5.heap.size w5 s2 Av) := ((V4.out.below hb).mono hb.size)
        have P5 : Hid (w5.heap[b6]? = some (.cells #[.slice q2 rs.length c2, .slice s2 rs.length d2, .int .i64 wt, .int .i64 en] 28 (0, 0))) := (hb.block b6 (blkLt P4.out)).trans P4.out
        clear hb A4 B4 O4 V4 P4
        go_upto_region 6 with fail
        rw [← HWw5.out.1, ← HWw5.out.2]
        clear HWw5
        go_wp2_with fail
        (first | go_at_call 8 | skip)
        refine (HSO.out w5 A5.out).mono ?_
        rintro e w6 ⟨rfl, hb⟩
        have A6 : Hid (ReadsHp w6.heap.size w6 ad rs) := ((A5.out.below hb).mono hb.size)
        have B6 : Hid (Below w.heap.size w w6) := chain B5.out hb
        have O6 : Hid (Reads w6.heap.size w6 q2 oo) := ((O5.out.below hb).mono hb.size)
        have V6 : Hid (Reads w6.heap.size w6 s2 Av) := ((V5.out.below hb).mono hb.size)
        have P6 : Hid (w6.heap[b6]? = some (.cells #[.slice q2 rs.length c2, .slice s2 rs.length d2, .int .i64 wt, .int .i64 en] 28 (0, 0))) := (hb.block b6 (blkLt P5.out)).trans P5.out
        have Q6 : Hid (w6.heap[b8]? = some (.cells #[.slice q4 n4 c4, .slice s4 m4 d4, .int .i64 x4, .int .i64 en2] 28 (0, 0))) := (hb.block b8 (blkLt Q5.out)).trans Q5.out
        clear hb A5 B5 O5 V5 P5 Q5
        clear HSO HR HB
        go_wp2_with fail
        (first | go_at_call 10 | skip)
        refine (HLe.out w6 A6.out).mono ?_
        rintro e w7 ⟨rfl, hb⟩
        have A7 : Hid (ReadsHp w7.heap.size w7 ad rs) := ((A6.out.below hb).mono hb.size)
        have B7 : Hid (Below w.heap.size w w7) := chain B6.out hb
        have O7 : Hid (Reads w7.heap.size w7 q2 oo) := ((O6.out.below hb).mono hb.size)
        have V7 : Hid (Reads w7.heap.size w7 s2 Av) := ((V6.out.below hb).mono hb.size)
        have P7 : Hid (w7.heap[b6]? = some (.cells #[.slice q2 rs.length c2, .slice s2 rs.length d2, .int .i64 wt, .int .i64 en] 28 (0, 0))) := (hb.block b6 (blkLt P6.out)).trans P6.out
        have Q7 : Hid (w7.heap[b8]? = some (.cells #[.slice q4 n4 c4, .slice s4 m4 d4, .int .i64 x4, .int .i64 en2] 28 (0, 0))) := (hb.block b8 (blkLt Q6.out)).trans Q6.out
        clear hb A6 B6 O6 V6 P6 Q6
        clear HLe
        have z0 := blkCell P7.out 0 _ rfl
        simp only [List.getElem_toArray, List.getElem_cons_zero] at z0
        go_wp2_with fail
        (first | go_at_call 7 | skip)
        refine (HRo.out w7 q2 c2 A7.out O7.out).mono ?_
        rintro e w8 ⟨q8, n8, c8, s8, d8, rfl, hv, hb⟩
        have U8 : Hid (Reads w8.heap.size w8 s8 Av) := hv
        clear hv z0 HRo
        have A8 : Hid (ReadsHp w8.heap.size w8 ad rs) := ((A7.out.below hb).mono hb.size)
        have B8 : Hid (Below w.heap.size w w8) := chain B7.out hb
        have O8 : Hid (Reads w8.heap.size w8 q2 oo) := ((O7.out.below hb).mono hb.size)
        have V8 : Hid (Reads w8.heap.size w8 s2 Av) := ((V7.out.below hb).mono hb.size)
        have P8 : Hid (w8.heap[b6]? = some (.cells #[.slice q2 rs.length c2, .slice s2 rs.length d2, .int .i64 wt, .int .i64 en] 28 (0, 0))) := (hb.block b6 (blkLt P7.out)).trans P7.out
        have Q8 : Hid (w8.heap[b8]? = some (.cells #[.slice q4 n4 c4, .slice s4 m4 d4, .int .i64 x4, .int .i64 en2] 28 (0, 0))) := (hb.block b8 (blkLt Q7.out)).trans Q7.out
        clear hb A7 B7 O7 V7 P7 Q7
        obtain ⟨w9, hw9⟩ : ∃ w9, w9 = w8.alloc (Obj.cells #[.slice q8 n8 c8, .slice s8 rs.length d8, .int .i64 wt, .int .i64 en] 28) := ⟨_, rfl⟩
        obtain ⟨b14, hb14⟩ : ∃ b14, b14 = w8.heap.size := ⟨_, rfl⟩
        have HWw9 : Hid (w9 = w8.alloc (Obj.cells #[.slice q8 n8 c8, .slice s8 rs.length d8, .int .i64 wt, .int .i64 en] 28) ∧ b14 = w8.heap.size) := ⟨hw9, hb14⟩
        have hb : Below w8.heap.size w8 w9 := by rw [hw9]; exact below_alloc _ _
        have X9 : Hid (w9.heap[b14]? = some (.cells #[.slice q8 n8 c8, .slice s8 rs.length d8, .int .i64 wt, .int .i64 en] 28 (0, 0))) := by show _ = _; rw [hw9, hb14]; exact heapNew _ _
        clear hw9 hb14
        have A9 : Hid (ReadsHp w9.heap.size w9 ad rs) := ((A8.out.below hb).mono hb.size)
        have B9 : Hid (Below w.heap.size w w9) := chain B8.out hb
        have O9 : Hid (Reads w9.heap.size w9 q2 oo) := ((O8.out.below hb).mono hb.size)
        have V9 : Hid (Reads w9.heap.size w9 s2 Av) := ((V8.out.below hb).mono hb.size)
        have P9 : Hid (w9.heap[b6]? = some (.cells #[.slice q2 rs.length c2, .slice s2 rs.length d2, .int .i64 wt, .int .i64 en] 28 (0, 0))) := (hb.block b6 (blkLt P8.out)).trans P8.out
        have Q9 : Hid (w9.heap[b8]? = some (.cells #[.slice q4 n4 c4, .slice s4 m4 d4, .int .i64 x4, .int .i64 en2] 28 (0, 0))) := (hb.block b8 (blkLt Q8.out)).trans Q8.out
        have U9 : Hid (Reads w9.heap.size w9 s8 Av) := ((U8.out.below hb).mono hb.size)
        clear hb A8 B8 O8 V8 P8 Q8 U8
        go_upto_region 13 with fail
        rw [← HWw9.out.1, ← HWw9.out.2]
        clear HWw9
        have y1 := blkCell P9.out 1 _ rfl
        have y2 := blkCell P9.out 2 _ rfl
        have y3 := blkCell P9.out 3 _ rfl
        have z1 := blkCell X9.out 1 _ rfl
        have z2 := blkCell X9.out 2 _ rfl
        have z3 := blkCell X9.out 3 _ rfl
        have t3 := blkCell Q9.out 3 _ rfl
        simp only [List.getElem_toArray, List.getElem_cons_zero, List.getElem_cons_succ] at y1 y2 y3 z1 z2 z3 t3
        have k1 : (en != en) = false := by simp
        have k2 : (wt != wt) = false := by simp
        have k3 : ¬ en < lv := by omega
        have k3b : decide (en < lv) = false := decide_eq_false k3
        have k4 : ¬ en2 < en := by omega
        have k4b : decide (en2 < en) = false := decide_eq_false k4
        go_wp2_with fail
        (first | go_at_call 11 | skip)
        refine (HSm.out _ s8 d8 s2 d2 U9.out V9.out).mono ?_
        rintro e w10 ⟨rfl, hb⟩
        have y3 := (hb.cell (p := ⟨b6, 3, none⟩) (blkLt P9.out)).trans y3
        have t3 := (hb.cell (p := ⟨b8, 3, none⟩) (blkLt Q9.out)).trans t3
        have A10 : Hid (ReadsHp w10.heap.size w10 ad rs) := ((A9.out.below hb).mono hb.size)
        have B10 : Hid (Below w.heap.size w w10) := chain B9.out hb
        have O10 : Hid (Reads w10.heap.size w10 q2 oo) := ((O9.out.below hb).mono hb.size)
        have V10 : Hid (Reads w10.heap.size w10 s2 Av) := ((V9.out.below hb).mono hb.size)
        have P10 : Hid (w10.heap[b6]? = some (.cells #[.slice q2 rs.length c2, .slice s2 rs.length d2, .int .i64 wt, .int .i64 en] 28 (0, 0))) := (hb.block b6 (blkLt P9.out)).trans P9.out
        clear hb A9 B9 O9 V9 P9 Q9 U9 X9
        clear HSm y1 y2 z1 z2 z3
        go_upto_region 15 with fail
        clear y3 t3
        obtain ⟨i0, hi, hzz⟩ := Option.map_eq_some_iff.1 hpInf
        simp only [Prod.mk.injEq] at hzz
        obtain ⟨hi0, hi1, hi2⟩ := hzz
        have HL0 : Hid ((w10.alloc (Obj.cells #[] 37)).ownsRow w10.heap.size 37 5 (.slice (some ⟨w10.heap.size, 0, none⟩) 0 0) 0 (hpCells ((rs.map lsH).take 0))) := ⟨rfl, .inr ⟨w10.heap.size, 0, #[], rfl, Nat.le_refl _, heapNew w10 _, Nat.le_refl _, by unfold maxLen; omega, rfl, rfl⟩⟩
        go_wp2_with fail
        go_loopw [16, 17, 18, 19] (fun v iv _ _ wr => ∃ (k g cp : Nat), v = .slice (some ⟨g, 0, none⟩) k cp ∧ iv = .int .i64 (k : Int) ∧ k ≤ rs.length ∧ wr.ownsRow w10.heap.size 37 5 (.slice (some ⟨g, 0, none⟩) k cp) k (hpCells ((rs.map lsH).take k)) ∧ Below w10.heap.size w10 wr) (fun _ iv _ _ _ => rs.length - (intOf iv).toNat)
        case atStart => exact ⟨0, w10.heap.size, 0, rfl, rfl, Nat.zero_le _, HL0.out, below_alloc _ _⟩
        case round =>
          clear HL0
          obtain ⟨k, g, cp2, rfl, rfl, hk, hrow, hbl⟩ := hrel
          have HO : Hid (wr.ownsRow w10.heap.size 37 5 (.slice (some ⟨g, 0, none⟩) k cp2) k (hpCells ((rs.map lsH).take k))) := hrow
          have HBl2 : Hid (Below w10.heap.size w10 wr) := hbl
          clear hrow hbl
          by_cases hlt : k < rs.length
          · have hlt' : (k : Int) < (rs.length : Int) := by omega
            have hk1 : k + 1 ≤ rs.length := hlt
            have hms : rs.length - ((k : Int) + 1).toNat < rs.length - ((k : Int)).toNat := by omega
            have HMs : Hid (k + 1 ≤ rs.length ∧ rs.length - ((k : Int) + 1).toNat < rs.length - ((k : Int)).toNat) := ⟨hk1, hms⟩
            clear hk1 hms
            rcases A10.out with h | ⟨b0, o0, ha, hB0, ia⟩
            · rw [h] at hlt; simp at hlt
            subst ha
            have HIa : Hid (HpsAt w10 b0 o0 rs) := ia
            obtain ⟨c0, c1, c2', c3, c4⟩ := (ia.below HBl2.out hB0) k hlt
            have HTk : Hid (hpCells ((rs.map lsH).take (k + 1)) = hpCells ((rs.map lsH).take k) ++ [.int .i64 (rs.getD k zHp).x, .int .i64 (rs.getD k zHp).y, .int .i64 (rs.getD k zHp).fr, .int .i64 ((rs.getD k zHp).to + 40), .int .i64 (rs.getD k zHp).sy]) := hpCells_take hlt
            have hdr := HDr.out k hlt
            unfold DrH at hdr
            obtain ⟨m, hm, hml, htm⟩ := HTm.out k hlt
            have HTm1 : Hid (oo.getD k 0 = (m : Int) ∧ Av.getD k 0 ≤ (rs.getD m zHp).to) := ⟨hm, htm⟩
            clear hm htm ia
            rcases O10.out with h | ⟨bq, oq, hq, hBq, iq⟩
            · have : oo.length = 0 := by rw [h]; rfl
              omega
            rcases V10.out with h | ⟨bs, os, hs, hBs, is⟩
            · have : Av.length = 0 := by rw [h]; rfl
              omega
            subst hq hs
            have hgt : ¬ (rs.getD m zHp).to < Av.getD k 0 := by have := HTm1.out.2; omega
            have hml' : (m : Int) < (rs.length : Int) := by omega
            have HFx : Hid (∀ X, Below w10.heap.size w10 X → (X.cell? ⟨b6, 0, none⟩ = some (.slice (some ⟨bq, oq, none⟩) rs.length c2) ∧ X.cell? ⟨bq, oq + k, none⟩ = some (.int .i64 (m : Int))) ∧ X.cell? ⟨b6, 1, none⟩ = some (.slice (some ⟨bs, os, none⟩) rs.length d2) ∧ X.cell? ⟨bs, os + k, none⟩ = some (.int .i64 (Av.getD k 0)) ∧ X.cell? ⟨b0, o0 + m * 5 + 3, none⟩ = some (.int .i64 (rs.getD m zHp).to)) := fun X hX => by
              have fP := (hX.block b6 (blkLt P10.out)).trans P10.out
              have v0 := (iq.below hX hBq) k (by omega)
              rw [HTm1.out.1] at v0
              exact ⟨⟨blkCell fP 0 _ rfl, v0⟩, blkCell fP 1 _ rfl, (is.below hX hBs) k (by omega), ((HIa.out.below hX hB0) m hml).2.2.2.1⟩
            clear HTm1 iq is
            generalize (rs.getD m zHp).to = tm at HFx hgt
            generalize Av.getD k 0 = av at HFx hgt
            have hgt2 : decide (tm < av) = false := decide_eq_false hgt
            generalize rs.getD k zHp = r at c0 c1 c2' c3 c4 HTk hdr
            obtain ⟨rx, ry, rf, rt, ry2⟩ := r
            dsimp only at c0 c1 c2' c3 c4 HTk hdr
            have hw40 : IntKind.i64.wrap (rt + 40) = rt + 40 := wrap_id _ (by omega) (by omega)
            go_upto_region 20 with fail
            obtain ⟨Wx, hWx⟩ : ∃ Wx, Wx = wr.alloc (Obj.cells #[.int .i64 rx, .int .i64 ry, .int .i64 rf, .int .i64 rt, .int .i64 ry2] 37) := ⟨_, rfl⟩
            obtain ⟨bx, hbx⟩ : ∃ bx, bx = wr.heap.size := ⟨_, rfl⟩
            have HWx : Hid (Wx = wr.alloc (Obj.cells #[.int .i64 rx, .int .i64 ry, .int .i64 rf, .int .i64 rt, .int .i64 ry2] 37) ∧ bx = wr.heap.size) := ⟨hWx, hbx⟩
            have hXb : Wx.heap[bx]? = some (.cells #[.int .i64 rx, .int .i64 ry, .int .i64 rf, .int .i64 rt, .int .i64 ry2] 37 (0, 0)) := by rw [hWx, hbx]; exact heapNew _ _
            have e0 := blkCell hXb 0 _ rfl
            have e1 := blkCell hXb 1 _ rfl
            have e2 := blkCell hXb 2 _ rfl
            have e3 := blkCell hXb 3 _ rfl
            have e4 := blkCell hXb 4 _ rfl
            simp only [List.getElem_toArray, List.getElem_cons_zero, List.getElem_cons_succ] at e0 e1 e2 e3 e4
            have hfz : Wx.frozen? ⟨bx, 3, none⟩ = false := blkFree hXb 3
            have HOx : Hid (Wx.ownsRow w10.heap.size 37 5 (.slice (some ⟨g, 0, none⟩) k cp2) k (hpCells ((rs.map lsH).take k))) := by show World.ownsRow _ _ _ _ _ _ _; rw [hWx]; exact HO.out.alloc _
            have HBx : Hid (Below w10.heap.size w10 Wx ∧ w10.heap.size ≤ bx ∧ bx < Wx.heap.size ∧ g ≠ bx) := by
              show _ ∧ _ ∧ _ ∧ _
              have hg := (HO.out.lt g rfl).2
              refine ⟨by rw [hWx]; exact chain HBl2.out (below_alloc _ _), by rw [hbx]; exact HBl2.out.size, by rw [hWx, hbx]; simp, by rw [hbx]; omega⟩
            clear hWx hbx HO HBl2 c0 c1 c2' c3 c4
            rw [← HWx.out.1, ← HWx.out.2]
            clear HWx
            go_upto_region 21 with fail
            obtain ⟨Wy, hWy⟩ : ∃ Wy, Wy = Wx.setCell ⟨bx, 3, none⟩ (.int .i64 (rt + 40)) := ⟨_, rfl⟩
            have HWy : Hid (Wy = Wx.setCell ⟨bx, 3, none⟩ (.int .i64 (rt + 40))) := hWy
            have HYb : Hid (Wy.heap[bx]? = some (.cells #[.int .i64 rx, .int .i64 ry, .int .i64 rf, .int .i64 (rt + 40), .int .i64 ry2] 37 (0, 0))) := by show _ = _; rw [hWy]; exact heap_setCell_same Wx bx 3 _ _ _ hXb
            have HOy : Hid (Wy.ownsRow w10.heap.size 37 5 (.slice (some ⟨g, 0, none⟩) k cp2) k (hpCells ((rs.map lsH).take k))) := owns_sameH HOx.out (fun d hd => by
              have e : g = d := by simpa [Value.ownBlock] using hd
              subst e
              rw [hWy]; exact apart_set Wx bx 3 _ g HBx.out.2.2.2)
            have HBy : Hid (Below w10.heap.size w10 Wy) := by show Below _ _ _; rw [hWy]; exact HBx.out.1.setCell HBx.out.2.1 _
            clear hWy hXb HOx HBx hfz e0 e1 e2 e3 e4
            rw [← HWy.out]
            clear HWy
            have HO6 : Hid ((Wy.alloc (Obj.cells #[.int .i64 rx, .int .i64 ry, .int .i64 rf, .int .i64 (rt + 40), .int .i64 ry2] 37)).ownsRow w10.heap.size 37 5 (.slice (some ⟨g, 0, none⟩) k cp2) k (hpCells ((rs.map lsH).take k))) := HOy.out.alloc _
            have HB6 : Hid (Below w10.heap.size w10 (Wy.alloc (Obj.cells #[.int .i64 rx, .int .i64 ry, .int .i64 rf, .int .i64 (rt + 40), .int .i64 ry2] 37))) := chain HBy.out (below_alloc _ _)
            have HNw : Hid (∀ j u, [Value.int .i64 rx, .int .i64 ry, .int .i64 rf, .int .i64 (rt + 40), .int .i64 ry2][j]? = some u → (Wy.alloc (Obj.cells #[.int .i64 rx, .int .i64 ry, .int .i64 rf, .int .i64 (rt + 40), .int .i64 ry2] 37)).cell? ((⟨Wy.heap.size, 0, none⟩ : Addr).add j) = some u) := World.news_of_block (heapNew Wy (Obj.cells #[.int .i64 rx, .int .i64 ry, .int .i64 rf, .int .i64 (rt + 40), .int .i64 ry2] 37))
            have HZ6 : Hid (w10.heap.size ≤ (Wy.alloc (Obj.cells #[.int .i64 rx, .int .i64 ry, .int .i64 rf, .int .i64 (rt + 40), .int .i64 ry2] 37)).heap.size) := HB6.out.size
            clear HOy HBy
            go_wp2_with (first | (refine wpList_load_row rfl 37 (.tmp 18) rfl bx rfl 37 _ (0, 0) _ HYb.out Try.underlying37 rfl stopSize ?_) | (at_builtin; refine wpList_append_lies _ rfl _ _ 23 rfl w10.heap.size 37 i0 (.agg #[.int .i64 0, .int .i64 0, .int .i64 0, .int .i64 0, .int .i64 0]) 5 40 Try.underlying23 hi hi0 hi1 hi2 rfl (by decide) _ _ _ rfl HO6.out ⟨Wy.heap.size, 0, none⟩ 1 1 [.int .i64 rx, .int .i64 ry, .int .i64 rf, .int .i64 (rt + 40), .int .i64 ry2] rfl rfl HNw.out (one5H _ _ _ _ _) (by omega) (by unfold maxLen; omega) (by omega) HZ6.out _ rfl ?_; intro g1 cp1 w7 hown1 hgrow1 hat1 hglt1; have HO7B : Hid (w7.ownsRow w10.heap.size 37 5 (.slice (some ⟨g1, 0, none⟩) (k + 1) cp1) (k + 1) (hpCells ((rs.map lsH).take (k + 1))) ∧ Below w10.heap.size w10 w7) := ls_push HTk.out HO6.out HB6.out hown1 hgrow1; have HO7 := hid1 HO7B; have HB7 := hid2 HO7B; have y0 := (HFx.out w7 HB7.out).1.1; have v0 := (HFx.out w7 HB7.out).1.2; clear HO7B hown1 hgrow1 hat1 hglt1 HYb HO6 HB6 HNw HZ6 HTk))
            clear y0 v0
            have HC : Hid (∀ X, Below w7.heap.size w7 X → X.cell? ⟨b6, 1, none⟩ = some (.slice (some ⟨bs, os, none⟩) rs.length d2) ∧ X.cell? ⟨bs, os + k, none⟩ = some (.int .i64 av) ∧ X.cell? ⟨b0, o0 + m * 5 + 3, none⟩ = some (.int .i64 tm)) := fun X hX => (HFx.out X (chain HB7.out hX)).2
            clear HFx
            refine wp_region_held_drew (S := fun W' => Below w7.heap.size w7 W') (by kernel_rfl) (below_drew _) (fun hH => ?_)
            refine wpAnyH_take (i := 0) (v := .pointer (some ⟨b6, 1, none⟩)) rfl (by kernel_rfl) (by kernel_rfl) (by kernel_rfl) (fun _ _ _ h => h) (Or.inl ⟨by rfl, fun w hSw => by clear hSw; go_simp⟩) hH ?_
            refine wpAnyH_take (i := 1) (v := .slice (some ⟨bs, os, none⟩) rs.length d2) rfl (by kernel_rfl) (by kernel_rfl) (by kernel_rfl) (fun _ _ _ h => h) (Or.inl ⟨by rfl, fun w hSw => by obtain ⟨f0, f1, f2⟩ := HC.out w hSw; clear hSw; go_simp⟩) hH ?_
            try simp only [Act.put, List.setIfInBounds_toArray, List.set_cons_zero, List.set_cons_succ, List.getElem_toArray, List.getElem_cons_succ, List.getElem_cons_zero]
            refine wpAnyH_take (i := 2) (v := .int .i64 (k : Int)) rfl (by kernel_rfl) (by kernel_rfl) (by kernel_rfl) (fun _ _ _ h => h) (Or.inl ⟨by rfl, fun w hSw => by clear hSw; go_simp⟩) hH ?_
            try simp only [Act.put, List.setIfInBounds_toArray, List.set_cons_zero, List.set_cons_succ, List.getElem_toArray, List.getElem_cons_succ, List.getElem_cons_zero]
            refine wpAnyH_take (i := 3) (v := .pointer (some ⟨bs, os + k, none⟩)) rfl (by kernel_rfl) (by kernel_rfl) (by kernel_rfl) (fun _ _ _ h => h) (Or.inl ⟨by rfl, fun w hSw => by clear hSw; go_simp⟩) hH ?_
            try simp only [Act.put, List.setIfInBounds_toArray, List.set_cons_zero, List.set_cons_succ, List.getElem_toArray, List.getElem_cons_succ, List.getElem_cons_zero]
            refine wpAnyH_take (i := 4) (v := .int .i64 av) rfl (by kernel_rfl) (by kernel_rfl) (by kernel_rfl) (fun _ _ _ h => h) (Or.inl ⟨by rfl, fun w hSw => by obtain ⟨f0, f1, f2⟩ := HC.out w hSw; clear hSw; go_simp⟩) hH ?_
            try simp only [Act.put, List.setIfInBounds_toArray, List.set_cons_zero, List.set_cons_succ, List.getElem_toArray, List.getElem_cons_succ, List.getElem_cons_zero]
            refine wpAnyH_take (i := 5) (v := .slice (some ⟨b0, o0, none⟩) rs.length cp) rfl (by kernel_rfl) (by kernel_rfl) (by kernel_rfl) (fun _ _ _ h => h) (Or.inl ⟨by rfl, fun w hSw => by clear hSw; go_simp⟩) hH ?_
            try simp only [Act.put, List.setIfInBounds_toArray, List.set_cons_zero, List.set_cons_succ, List.getElem_toArray, List.getElem_cons_succ, List.getElem_cons_zero]
            refine wpAnyH_take (i := 6) (v := .int .i64 (m : Int)) rfl (by kernel_rfl) (by kernel_rfl) (by kernel_rfl) (fun _ _ _ h => h) (Or.inl ⟨by rfl, fun w hSw => by clear hSw; go_simp⟩) hH ?_
            try simp only [Act.put, List.setIfInBounds_toArray, List.set_cons_zero, List.set_cons_succ, List.getElem_toArray, List.getElem_cons_succ, List.getElem_cons_zero]
            refine wpAnyH_take (i := 7) (v := .pointer (some ⟨b0, o0 + m * 5, none⟩)) rfl (by kernel_rfl) (by kernel_rfl) (by kernel_rfl) (fun _ _ _ h => h) (Or.inl ⟨by rfl, fun w hSw => by clear hSw; go_simp⟩) hH ?_
            try simp only [Act.put, List.setIfInBounds_toArray, List.set_cons_zero, List.set_cons_succ, List.getElem_toArray, List.getElem_cons_succ, List.getElem_cons_zero]
            refine wpAnyH_take (i := 8) (v := .pointer (some ⟨b0, o0 + m * 5 + 3, none⟩)) rfl (by kernel_rfl) (by kernel_rfl) (by kernel_rfl) (fun _ _ _ h => h) (Or.inl ⟨by rfl, fun w hSw => by clear hSw; go_simp⟩) hH ?_
            try simp only [Act.put, List.setIfInBounds_toArray, List.set_cons_zero, List.set_cons_succ, List.getElem_toArray, List.getElem_cons_succ, List.getElem_cons_zero]
            refine wpAnyH_take (i := 9) (v := .int .i64 tm) rfl (by kernel_rfl) (by kernel_rfl) (by kernel_rfl) (fun _ _ _ h => h) (Or.inl ⟨by rfl, fun w hSw => by obtain ⟨f0, f1, f2⟩ := HC.out w hSw; clear hSw; go_simp⟩) hH ?_
            try simp only [Act.put, List.setIfInBounds_toArray, List.set_cons_zero, List.set_cons_succ, List.getElem_toArray, List.getElem_cons_succ, List.getElem_cons_zero]
            refine wpAnyH_take (i := 10) (v := .bool false) rfl (by kernel_rfl) (by kernel_rfl) (by kernel_rfl) (fun _ _ _ h => h) (Or.inl ⟨by rfl, fun w hSw => by clear hSw; go_simp⟩) hH ?_
            try simp only [Act.put, List.setIfInBounds_toArray, List.set_cons_zero, List.set_cons_succ, List.getElem_toArray, List.getElem_cons_succ, List.getElem_cons_zero]
            refine wpAnyH_done (by kernel_rfl) ?_ _
            clear hH HC
            have HO8 : Hid (w7.drew.ownsRow w10.heap.size 37 5 (.slice (some ⟨g1, 0, none⟩) (k + 1) cp1) (k + 1) (hpCells ((rs.map lsH).take (k + 1)))) := HO7.out
            have HB8 : Hid (Below w10.heap.size w10 w7.drew) := HB7.out.drew
            clear HO7 HB7
            generalize w7.drew = w8 at *
            go_wp2
            exact ⟨⟨k + 1, g1, cp1, rfl, by go_num, HMs.out.1, HO8.out, HB8.out⟩, HMs.out.2⟩
          · have hk2 : k = rs.length := by omega
            subst hk2
            have hlt' : ¬ (rs.length : Int) < (rs.length : Int) := by omega
            have HLs : Hid (ReadsHp wr.heap.size wr (some ⟨g, 0, none⟩) (rs.map lsH)) := by
              have h := HO.out
              have e : (rs.map lsH).take rs.length = rs.map lsH := List.take_of_length_le (by simp)
              have e2 : rs.length = (rs.map lsH).length := by simp
              rw [e] at h
              have hlt := (h.lt g rfl).2
              rw [e2] at h
              exact .inr ⟨g, 0, rfl, hlt, hps_of_row h⟩
            have Pr : Hid (wr.heap[b6]? = some (.cells #[.slice q2 rs.length c2, .slice s2 rs.length d2, .int .i64 wt, .int .i64 en] 28 (0, 0))) := (HBl2.out.block b6 (blkLt P10.out)).trans P10.out
            have Br : Hid (Below w.heap.size w wr) := chain B10.out HBl2.out
            clear HO HBl2 P10 B10 A10 O10 V10
            go_wp2_with fail
            (first | go_at_call 6 | skip)
            refine (HBl.out wr _ cp2 HLs.out).mono ?_
            rintro e w12 ⟨q12, n12, c12, s12, m12, d12, x12, rfl, hb⟩
            have P12 : Hid (w12.heap[b6]? = some (.cells #[.slice q2 rs.length c2, .slice s2 rs.length d2, .int .i64 wt, .int .i64 en] 28 (0, 0))) := (hb.block b6 (blkLt Pr.out)).trans Pr.out
            have B12 : Hid (Below w.heap.size w w12) := chain Br.out hb
            clear hb Pr Br HLs HBl
            obtain ⟨w13, hw13⟩ : ∃ w13, w13 = w12.alloc (Obj.cells #[.slice q12 n12 c12, .slice s12 m12 d12, .int .i64 x12, .int .i64 en3] 28) := ⟨_, rfl⟩
            obtain ⟨b20, hb20⟩ : ∃ b20, b20 = w12.heap.size := ⟨_, rfl⟩
            have HWw13 : Hid (w13 = w12.alloc (Obj.cells #[.slice q12 n12 c12, .slice s12 m12 d12, .int .i64 x12, .int .i64 en3] 28) ∧ b20 = w12.heap.size) := ⟨hw13, hb20⟩
            have hb : Below w12.heap.size w12 w13 := by rw [hw13]; exact below_alloc _ _
            have X13 : Hid (w13.heap[b20]? = some (.cells #[.slice q12 n12 c12, .slice s12 m12 d12, .int .i64 x12, .int .i64 en3] 28 (0, 0))) := by show _ = _; rw [hw13, hb20]; exact heapNew _ _
            clear hw13 hb20
            have P13 : Hid (w13.heap[b6]? = some (.cells #[.slice q2 rs.length c2, .slice s2 rs.length d2, .int .i64 wt, .int .i64 en] 28 (0, 0))) := (hb.block b6 (blkLt P12.out)).trans P12.out
            have B13 : Hid (Below w.heap.size w w13) := chain B12.out hb
            clear hb P12 B12
            go_upto_region 26 with fail
            rw [← HWw13.out.1, ← HWw13.out.2]
            clear HWw13
            have y3 := blkCell P13.out 3 _ rfl
            have z3 := blkCell X13.out 3 _ rfl
            simp only [List.getElem_toArray, List.getElem_cons_zero, List.getElem_cons_succ] at y3 z3
            have k9 : decide (en3 ≤ en) = true := decide_eq_true hen3
            go_wp2
            go_ret
            exact ⟨rfl, B13.out⟩

theorem own : ownKnob Try.prog.godebug = none := by kernel_rfl
theorem laidOut : laidOutB Try.prog = true := by kernel_rfl

set_option maxRecDepth 100000 in
theorem lifted (os : Os) (started : os.Started) (H : Type) (enc : TypeId × Value → H) :
    ReturnsInHanded {} Try.checked os 3 .any (Rows.fnRouteSpec.pre6 enc Try.prog Try.f3 Rows.fnRouteRow.domain false) (Rows.fnRouteSpec.post enc Try.prog Try.f3 false true false false) := by
  refine returnsInHanded_of_change (C := Try.checked) own started (by kernel_rfl) Try.func3
    (ChangeSpec.witness6 (enc := enc) (C := Try.checked) false ⟨#[], #[.slice none 0 0], []⟩ 8 (by kernel_rfl) (by kernel_rfl) (by kernel_rfl) (by kernel_rfl)) ?_
  intro W base args ds gs before hval0 hW hcnd _
  have hval : ∀ (j : Nat) t v, Try.f3.params[j]? = some t → args[j]? = some v → Value.okWide Try.prog W .any base t v := hval0
  have hW' := hW
  obtain ⟨p, q, hA0, hV, rfl, hfz, hnd⟩ := hW
  have hA : DataW.TrodAll enc Try.prog W 0 (fun _ => true) true Try.f3.params.toList args.toList ds p := hA0
  rw [Try.params3] at hA hval
  obtain ⟨v0, vs0, d0, ds0, p0, q0, hargs, rfl, rfl, h0, r0⟩ := trodAll_cons hA
  obtain ⟨rfl, rfl, rfl⟩ := trodAll_nil r0
  obtain rfl : args = #[v0] := by cases args; simp_all
  obtain ⟨rfl, rfl⟩ := trodVars_none hV
  have k0 := h0
  have lt0 : ∀ x ∈ p0, x.block < W.heap.size := by obtain ⟨m, hm⟩ := k0; exact DataW.trod_lt m _ _ _ hm
  obtain ⟨a0, len0, cap0, rfl⟩ := okWide_slice Try.underlying22 (hval 0 22 v0 rfl rfl)
  obtain ⟨z0, w0⟩ : ∃ zs, IsRow .u8 W a0 len0 cap0 zs := by
    obtain ⟨fuel, hf⟩ := h0
    rcases open_ints Try.underlying22 Try.underlying5 (by kernel_rfl) hf with ⟨hcs, _⟩ | ⟨x, l, c, zs, hcs, _, hl, hm, hz, _, hcell, hwz⟩
    · simp [Value.cells] at hcs
      obtain ⟨rfl, rfl, rfl⟩ := hcs
      exact ⟨[], .inl ⟨rfl, rfl, rfl, rfl⟩⟩
    · simp [Value.cells] at hcs
      obtain ⟨rfl, rfl, rfl⟩ := hcs
      exact ⟨zs, .inr ⟨_, rfl, hl, hm, by simpa using hz, hcell, hwz⟩⟩
  clear hA0 hval0
  refine (walk a0 len0 cap0 z0 W (rowB_of _ _ _ _ _ w0)).mono fun e W' ⟨he, bel⟩ => ?_
  subst he
  exact ⟨_, rfl, _, _, _, [], _, [], hW', trodAll_mk1 (shut_bool Try.underlying4 _), (trodAll_cons_mk (Below.trod laidOut (by kernel_rfl) (of_decide_eq_true (by kernel_rfl)) k0 bel lt0) trodAll_mk0), rfl, bel.frame _, fun h => by cases h⟩

theorem over : Rows.fnRouteRow.holds Try.pinned (OpenSpec.ofChange Rows.fnRouteSpec) :=
  OpenClaim.holds_of_wide 3 Try.f3 rfl rfl rfl rfl rfl rfl rfl ⟨rfl, rfl, rfl, rfl, rfl⟩ rfl rfl rfl rfl rfl (by kernel_rfl) Try.func3 (by kernel_rfl)
    (of_decide_eq_true (by kernel_rfl)) (by unfold Func.isWrapper; first | (rw [if_pos (by decide +kernel)]; kernel_rfl) | (rw [if_neg (by decide +kernel)]; exact ⟨rfl, rfl⟩))
    (fun os started H enc _ => lifted os started H enc)
end FnRoute

theorem fnRoute_holds : Rows.FnRouteSaid := FnRoute.over
end Go.Proofs.Ytoogphkojofkfaa
