/-
  The specification's drawn stops are right: the contract of StopsOf.
-/
import Derived.Test.YtoogphkojofkfaaRzM
import Derived.Test.YtoogphkojofkfaaOdrA
import Derived.Deep.AppendLies
import Derived.Laws.OwnMore
namespace Go.Proofs.Ytoogphkojofkfaa
open Go.ChangeShapes Go.WideShapes Go.ChangeAt Go.RowKit Go.Deep
set_option linter.unusedVariables false

/-- The cells of some stops. -/
def hpCells (rs : List RHp) : List Value := rs.flatMap fun r => [.int .i64 r.x, .int .i64 r.y, .int .i64 r.fr, .int .i64 r.to, .int .i64 r.sy]
theorem hpCells_append (a b : List RHp) : hpCells (a ++ b) = hpCells a ++ hpCells b := by simp [hpCells]
theorem hpCells_get : ∀ (rs : List RHp) (i : Nat), i < rs.length → (hpCells rs)[i * 5]? = some (.int .i64 (rs.getD i zHp).x) ∧ (hpCells rs)[i * 5 + 1]? = some (.int .i64 (rs.getD i zHp).y) ∧ (hpCells rs)[i * 5 + 2]? = some (.int .i64 (rs.getD i zHp).fr) ∧ (hpCells rs)[i * 5 + 3]? = some (.int .i64 (rs.getD i zHp).to) ∧ (hpCells rs)[i * 5 + 4]? = some (.int .i64 (rs.getD i zHp).sy)
  | r :: rs, 0, h => ⟨rfl, rfl, rfl, rfl, rfl⟩
  | r :: rs, i + 1, h => by
    have := hpCells_get rs i (by simpa using h)
    rw [show (i + 1) * 5 = i * 5 + 1 + 1 + 1 + 1 + 1 by omega]
    exact this
theorem hps_of_row {w : World} {B g cap : Nat} {rs : List RHp} (h : w.ownsRow B 37 5 (.slice (some ⟨g, 0, none⟩) rs.length cap) rs.length (hpCells rs)) : HpsAt w g 0 rs := fun i hi => by
  obtain ⟨q0, q1, q2, q3, q4⟩ := hpCells_get rs i hi
  refine ⟨?_, ?_, ?_, ?_, ?_⟩
  · rw [h.cellAt (0 + i * 5) (by omega), show 0 + i * 5 = i * 5 by omega, q0]
  · rw [h.cellAt (0 + i * 5 + 1) (by omega), show 0 + i * 5 + 1 = i * 5 + 1 by omega, q1]
  · rw [h.cellAt (0 + i * 5 + 2) (by omega), show 0 + i * 5 + 2 = i * 5 + 2 by omega, q2]
  · rw [h.cellAt (0 + i * 5 + 3) (by omega), show 0 + i * 5 + 3 = i * 5 + 3 by omega, q3]
  · rw [h.cellAt (0 + i * 5 + 4) (by omega), show 0 + i * 5 + 4 = i * 5 + 4 by omega, q4]
theorem owns_sameH {w w' : World} {B : Nat} {e : TypeId} {size : Nat} {v : Value} {n : Nat} {xs : List Value} (h : w.ownsRow B e size v n xs) (hs : ∀ k, v.ownBlock = some k → w'.heap[k]? = w.heap[k]?) : w'.ownsRow B e size v n xs := by
  obtain ⟨h1, h2⟩ := h
  refine ⟨h1, ?_⟩
  rcases h2 with h2 | ⟨g, cap, cur, e, hB, hg, r⟩
  · exact .inl h2
  · exact .inr ⟨g, cap, cur, e, hB, (hs g (by rw [e]; rfl)).trans hg, r⟩
theorem src_sameH {w w' : World} {b : Nat} {a : Option Addr} {len cap : Nat} {x s : Int} (h : Src w b a len cap x s) (e : w'.heap[b]? = w.heap[b]?) (hz : w.heap.size ≤ w'.heap.size) : Src w' b a len cap x s := by
  obtain ⟨s0, s1, s2, f1, f2, sb, r⟩ := h
  exact ⟨(World.cell?_of_block (w := w) (a := ⟨b, 0, none⟩) e).trans s0, (World.cell?_of_block (w := w) (a := ⟨b, 1, none⟩) e).trans s1, (World.cell?_of_block (w := w) (a := ⟨b, 2, none⟩) e).trans s2, (World.frozen?_of_block (w := w) (a := ⟨b, 1, none⟩) e).trans f1, (World.frozen?_of_block (w := w) (a := ⟨b, 2, none⟩) e).trans f2, Nat.lt_of_lt_of_le sb hz, r⟩
/-- The source in block b, the stops drawn so far in a row of their own. -/
def HpSt (w : World) (b : Nat) (a : Option Addr) (len cap : Nat) (v : Value) (rs : List RHp) (at' sd : Int) (wr : World) : Prop :=
  wr.ownsRow (b + 1) 37 5 v rs.length (hpCells rs) ∧ b + 1 ≤ wr.heap.size ∧ Src wr b a len cap at' sd ∧ Below b w wr
theorem HpSt.draw {w : World} {b : Nat} {a : Option Addr} {len cap : Nat} {v : Value} {rs : List RHp} {at' sd at2 sd2 : Int} {wr w' : World} (h : HpSt w b a len cap v rs at' sd wr) (ha : Apt b wr w') (hb : Below b wr w') (hs : Src w' b a len cap at2 sd2) : HpSt w b a len cap v rs at2 sd2 w' := by
  obtain ⟨h1, h2, h3, h4⟩ := h
  exact ⟨owns_sameH h1 (fun k hk => ha k (by have := (h1.lt k hk).1; omega)), Nat.le_trans h2 hb.size, hs, h4.trans hb⟩
theorem HpSt.drew {w : World} {b : Nat} {a : Option Addr} {len cap : Nat} {v : Value} {rs : List RHp} {at' sd : Int} {wr : World} (h : HpSt w b a len cap v rs at' sd wr) : HpSt w b a len cap v rs at' sd wr.drew := ⟨h.1, h.2.1, h.2.2.1, h.2.2.2.drew⟩
theorem HpSt.alloc {w : World} {b : Nat} {a : Option Addr} {len cap : Nat} {v : Value} {rs : List RHp} {at' sd : Int} {wr : World} (h : HpSt w b a len cap v rs at' sd wr) (o : Obj) : HpSt w b a len cap v rs at' sd (wr.alloc o) := by
  obtain ⟨h1, h2, h3, h4⟩ := h
  exact ⟨h1.alloc _, by simp; omega, src_sameH h3 (Below.heap_alloc _ _ _ h3.2.2.2.2.2.1) (by simp), h4.alloc (by omega) _⟩
theorem HpSt.push {w : World} {b : Nat} {a : Option Addr} {len cap : Nat} {v : Value} {rs : List RHp} {at' sd : Int} {wr w' : World} {g cp : Nat} {r : RHp} (h : HpSt w b a len cap v rs at' sd wr)
    (ho : w'.ownsRow (b + 1) 37 5 (.slice (some ⟨g, 0, none⟩) (rs.length + 1) cp) (rs.length + 1) (hpCells rs ++ [.int .i64 r.x, .int .i64 r.y, .int .i64 r.fr, .int .i64 r.to, .int .i64 r.sy])) (hg : wr.grownBy w' v.ownBlock) : HpSt w b a len cap (.slice (some ⟨g, 0, none⟩) (rs.length + 1) cp) (rs ++ [r]) at' sd w' := by
  obtain ⟨q1, q2, q3, q4⟩ := h
  refine ⟨?_, Nat.le_trans q2 hg.size, src_sameH q3 (hg.block b q3.2.2.2.2.2.1 (fun e => by have := (q1.lt b e.symm).1; omega)) hg.size, q4.grown hg (by omega) (fun k hk => by have := (q1.lt k hk).1; omega)⟩
  rw [List.length_append, hpCells_append]; exact ho
theorem HpSt.start {w0 w : World} {b : Nat} {a : Option Addr} {len cap : Nat} {at' sd : Int} (hs : Src w b a len cap at' sd) (hb : Below b w0 w) : HpSt w0 b a len cap (.slice (some ⟨w.heap.size, 0, none⟩) 0 0) [] at' sd (w.alloc (Obj.cells #[] 37)) := by
  have hl := hs.2.2.2.2.2.1
  exact ⟨⟨rfl, .inr ⟨w.heap.size, 0, #[], rfl, hl, heapNew w _, Nat.le_refl _, by unfold maxLen; omega, rfl, rfl⟩⟩, by simp; omega, src_sameH hs (Below.heap_alloc _ _ _ hl) (by simp), hb.alloc (by omega) _⟩
theorem hpInf : (Try.prog.info? 37).map (fun i => (i.zero, i.size, i.bytes)) = some (some (.agg #[.int .i64 0, .int .i64 0, .int .i64 0, .int .i64 0, .int .i64 0]), 5, 40) := by kernel_rfl
theorem one5H (x0 x1 x2 x3 x4 : Int) : ∀ u ∈ [Value.int .i64 x0, .int .i64 x1, .int .i64 x2, .int .i64 x3, .int .i64 x4], u.oneCell' = true := by
  intro u hu
  simp at hu
  rcases hu with rfl | rfl | rfl | rfl | rfl <;> rfl
theorem HpSt.apart {w : World} {b : Nat} {a : Option Addr} {len cap : Nat} {v : Value} {rs : List RHp} {at' sd at2 sd2 : Int} {wr w' : World} (h : HpSt w b a len cap v rs at' sd wr) (ha : Apart b wr w') (hb : Below b wr w') (hs : Src w' b a len cap at2 sd2) : HpSt w b a len cap v rs at2 sd2 w' := by
  obtain ⟨h1, h2, h3, h4⟩ := h
  exact ⟨owns_sameH h1 (fun k hk => ha.2 k (by have := (h1.lt k hk).1; omega) (h1.lt k hk).2), Nat.le_trans h2 hb.size, hs, h4.trans hb⟩
theorem hpSt_room {w : World} {b : Nat} {a : Option Addr} {len cap g n cp : Nat} {rs : List RHp} {at' sd : Int} {wr : World} (h : HpSt w b a len cap (.slice (some ⟨g, 0, none⟩) n cp) rs at' sd wr) (hn : n = rs.length) : ReadsHp wr.heap.size wr (some ⟨g, 0, none⟩) rs := by
  subst hn
  exact .inr ⟨g, 0, rfl, (h.1.lt g rfl).2, hps_of_row h.1⟩
def PostSt (w : World) (e : Ending) (w' : World) : Prop := ∃ (rs : List RHp) (bg : Int) (L : List Int) (g cp gL cL : Nat), e = .returned (.tuple #[.slice (some ⟨g, 0, none⟩) rs.length cp, .int .i64 bg, .slice (some ⟨gL, 0, none⟩) L.length cL]) ∧ DrS rs bg ∧ OnP L rs.length ∧ ReadsHp w'.heap.size w' (some ⟨g, 0, none⟩) rs ∧ Reads w'.heap.size w' (some ⟨gL, 0, none⟩) L ∧ Below w.heap.size w w'
set_option maxHeartbeats 4000000 in
set_option maxRecDepth 4000 in
theorem stopsOf_any (a : Option Addr) (len cap : Nat) (zs : List Int) (w : World) (hr : RowB w.heap.size w a len zs) :
    Calls Try.prog 5 #[.slice a len cap] w (PostSt w) := by
  have HR : Hid (RowB w.heap.size w a len zs) := hr
  have hsrc := source_any a len cap w hr.1
  have hlen := hr.1
  clear hr
  obtain ⟨b, hbe⟩ : ∃ b, b = w.heap.size := ⟨_, rfl⟩
  have HBe : Hid (b = w.heap.size) := hbe
  rw [← hbe] at HR hsrc
  clear hbe
  have HNx : Hid (∀ (n at' sd : Int) (W : World), n ≤ 256 → at' ≤ 1000 → Src W b a len cap at' sd → Below b w W → Calls Try.prog 20 #[.pointer (some ⟨b, 0, none⟩), .int .i64 n] W fun e w' => ∃ x at2 s' : Int, e = .returned (.int .i64 x) ∧ Drawn x n ∧ at' ≤ at2 ∧ at2 ≤ at' + 3 ∧ Src w' b a len cap at2 s' ∧ Below b W w' ∧ Apt b W w') := fun n at' sd W hn ha hS hB => next_anyA b b a len cap zs n at' sd W (Nat.le_refl _) hS (HR.out.below hB) (by omega) hn
  have HSz : Hid (∀ (at' sd : Int) (W : World), Src W b a len cap at' sd → Calls Try.prog 21 #[.pointer (some ⟨b, 0, none⟩), .int .i64 5] W fun e w' => ∃ x : Int, e = .returned (.int .i64 x) ∧ 1 ≤ x ∧ x ≤ 5 ∧ W = w') := fun at' sd W hS => (size_src b a len cap 5 at' sd W hS hlen (by omega) (by omega)).mono (fun e w' h => by obtain ⟨⟨x, h1, h2, h3⟩, h4⟩ := h; exact ⟨x, h1, h2, h3, h4.symm⟩)
  have HOd : Hid (∀ (n : Nat) (at' sd : Int) (W : World), n ≤ 9 → at' ≤ 1000 → Src W b a len cap at' sd → Below b w W → Calls Try.prog 22 #[.pointer (some ⟨b, 0, none⟩), .int .i64 (n : Int)] W (PostOd b a len cap n at' W)) := fun n at' sd W hn ha hS hB => order_any b a len cap zs n hn at' sd W hS (HR.out.below hB) (by omega)
  obtain ⟨i0, hi, hzz⟩ := Option.map_eq_some_iff.1 hpInf
  simp only [Prod.mk.injEq] at hzz
  obtain ⟨hi0, hi1, hi2⟩ := hzz
  clear HR
  go_enter Try.func5, Try.ntmps5
  go_wp2_with fail
  (first | go_at_call 19 | skip)
  refine hsrc.mono ?_
  rintro e w1 ⟨s1, rfl, hs1, hb1⟩
  have HL0 : Hid (HpSt w b a len cap (.slice (some ⟨w1.heap.size, 0, none⟩) 0 0) [] 0 s1 (w1.alloc (Obj.cells #[] 37))) := HpSt.start hs1 hb1
  clear hs1 hb1 hsrc
  go_upto_region 3 with fail
  obtain ⟨g0, hg0⟩ : ∃ g0, g0 = w1.heap.size := ⟨_, rfl⟩
  obtain ⟨W1, hW1⟩ : ∃ W1, W1 = w1.alloc (Obj.cells #[] 37) := ⟨_, rfl⟩
  rw [← hg0, ← hW1] at HL0 ⊢
  clear hg0 hW1
  go_wp2_with fail
  (first | go_at_call 21 | skip)
  refine (HSz.out 0 s1 W1 HL0.out.2.2.1).mono ?_
  rintro e v2 ⟨y, rfl, hy1, hy2, hv2⟩
  subst hv2
  have hw2 : IntKind.i64.wrap (y + 1) = y + 1 := wrap_id _ (by omega) (by omega)
  go_wp2_with fail
  (first | go_at_call 20 | skip)
  refine (HNx.out (y + 1) 0 s1 W1 (by omega) (by omega) HL0.out.2.2.1 HL0.out.2.2.2).mono ?_
  rintro e w3 ⟨z, at3, s3, rfl, hz, q3, q4, hs3, hb3, ha3⟩
  have hz2 : 0 ≤ z ∧ z ≤ 5 := by obtain ⟨u1, u2⟩ := hz; omega
  have HL1 : Hid (HpSt w b a len cap (.slice (some ⟨g0, 0, none⟩) 0 0) [] at3 s3 w3) := HL0.out.draw ha3 hb3 hs3
  clear hs3 hb3 ha3 HL0 hz HSz hw2
  go_wp2_with fail
  go_loopw [6, 7, 8] (fun v iv _ wr => ∃ (rs : List RHp) (g cp : Nat) (i at' sd : Int), v = .slice (some ⟨g, 0, none⟩) rs.length cp ∧ iv = .int .i64 i ∧ 0 ≤ i ∧ i + (rs.length : Int) ≤ 5 ∧ (∀ r ∈ rs, DrH r) ∧ at' ≤ 6 + 15 * (rs.length : Int) ∧ HpSt w b a len cap (.slice (some ⟨g, 0, none⟩) rs.length cp) rs at' sd wr) (fun _ iv _ _ => (intOf iv).toNat)
  case atStart => exact ⟨[], g0, 0, z, at3, s3, rfl, rfl, by omega, by simp; omega, by simp, by simp; omega, HL1.out⟩
  case round =>
    clear HL1
    obtain ⟨rs, g, cp, i, at', sd, rfl, rfl, hi4, hLi, hdr, hat, hF⟩ := hrel
    have HF : Hid (HpSt w b a len cap (.slice (some ⟨g, 0, none⟩) rs.length cp) rs at' sd wr) := hF
    have HD : Hid (∀ r ∈ rs, DrH r) := hdr
    clear hF hdr
    by_cases hc : 0 < i
    · go_wp2_with fail
      (first | go_at_call 20 | skip)
      refine (HNx.out 60 at' sd wr (by omega) (by omega) HF.out.2.2.1 HF.out.2.2.2).mono ?_
      rintro e w11 ⟨p11, at11, s11, rfl, hp, q11, r11, hs, hb, ha⟩
      have HF1 : Hid (HpSt w b a len cap (.slice (some ⟨g, 0, none⟩) rs.length cp) rs at11 s11 w11) := HF.out.draw ha hb hs
      have hp11 : 0 ≤ p11 ∧ p11 < 60 := by obtain ⟨u1, u2⟩ := hp; omega
      clear hs hb ha hp HF
      go_wp2_with fail
      (first | go_at_call 20 | skip)
      refine (HNx.out 41 at11 s11 w11 (by omega) (by omega) HF1.out.2.2.1 HF1.out.2.2.2).mono ?_
      rintro e w12 ⟨p12, at12, s12, rfl, hp, q12, r12, hs, hb, ha⟩
      have HF2 : Hid (HpSt w b a len cap (.slice (some ⟨g, 0, none⟩) rs.length cp) rs at12 s12 w12) := HF1.out.draw ha hb hs
      have hp12 : 0 ≤ p12 ∧ p12 < 41 := by obtain ⟨u1, u2⟩ := hp; omega
      clear hs hb ha hp HF1
      go_wp2_with fail
      (first | go_at_call 20 | skip)
      refine (HNx.out 41 at12 s12 w12 (by omega) (by omega) HF2.out.2.2.1 HF2.out.2.2.2).mono ?_
      rintro e w13 ⟨p13, at13, s13, rfl, hp, q13, r13, hs, hb, ha⟩
      have HF3 : Hid (HpSt w b a len cap (.slice (some ⟨g, 0, none⟩) rs.length cp) rs at13 s13 w13) := HF2.out.draw ha hb hs
      have hp13 : 0 ≤ p13 ∧ p13 < 41 := by obtain ⟨u1, u2⟩ := hp; omega
      clear hs hb ha hp HF2
      go_wp2_with fail
      (first | go_at_call 20 | skip)
      refine (HNx.out 200 at13 s13 w13 (by omega) (by omega) HF3.out.2.2.1 HF3.out.2.2.2).mono ?_
      rintro e w14 ⟨p14, at14, s14, rfl, hp, q14, r14, hs, hb, ha⟩
      have HF4 : Hid (HpSt w b a len cap (.slice (some ⟨g, 0, none⟩) rs.length cp) rs at14 s14 w14) := HF3.out.draw ha hb hs
      have hp14 : 0 ≤ p14 ∧ p14 < 200 := by obtain ⟨u1, u2⟩ := hp; omega
      clear hs hb ha hp HF3
      go_wp2_with fail
      (first | go_at_call 20 | skip)
      refine (HNx.out 12 at14 s14 w14 (by omega) (by omega) HF4.out.2.2.1 HF4.out.2.2.2).mono ?_
      rintro e w15 ⟨p15, at15, s15, rfl, hp, q15, r15, hs, hb, ha⟩
      have HF5 : Hid (HpSt w b a len cap (.slice (some ⟨g, 0, none⟩) rs.length cp) rs at15 s15 w15) := HF4.out.draw ha hb hs
      have hp15 : 0 ≤ p15 ∧ p15 < 12 := by obtain ⟨u1, u2⟩ := hp; omega
      clear hs hb ha hp HF4
      have hwa : IntKind.i64.wrap (p12 - 20) = p12 - 20 := wrap_id _ (by omega) (by omega)
      have hwb : IntKind.i64.wrap (p13 - 20) = p13 - 20 := wrap_id _ (by omega) (by omega)
      have hwc : IntKind.i64.wrap (p11 + 20) = p11 + 20 := wrap_id _ (by omega) (by omega)
      have hwe : IntKind.i64.wrap (p11 + 20 + p14) = p11 + 20 + p14 := wrap_id _ (by omega) (by omega)
      have HF7 : Hid (HpSt w b a len cap (.slice (some ⟨g, 0, none⟩) rs.length cp) rs at15 s15 (w15.alloc (Obj.cells #[.int .i64 (p12 - 20), .int .i64 (p13 - 20), .int .i64 p11, .int .i64 (p11 + 20 + p14), .int .i64 p15] 37))) := HF5.out.alloc _
      have HNw : Hid (∀ j u, [Value.int .i64 (p12 - 20), .int .i64 (p13 - 20), .int .i64 p11, .int .i64 (p11 + 20 + p14), .int .i64 p15][j]? = some u → (w15.alloc (Obj.cells #[.int .i64 (p12 - 20), .int .i64 (p13 - 20), .int .i64 p11, .int .i64 (p11 + 20 + p14), .int .i64 p15] 37)).cell? ((⟨w15.heap.size, 0, none⟩ : Addr).add j) = some u) := World.news_of_block (heapNew w15 (Obj.cells #[.int .i64 (p12 - 20), .int .i64 (p13 - 20), .int .i64 p11, .int .i64 (p11 + 20 + p14), .int .i64 p15] 37))
      have HLen : Hid ((rs ++ [(⟨p12 - 20, p13 - 20, p11, p11 + 20 + p14, p15⟩ : RHp)]).length = rs.length + 1) := by show _ = _; simp
      have HD2 : Hid (∀ r ∈ rs ++ [(⟨p12 - 20, p13 - 20, p11, p11 + 20 + p14, p15⟩ : RHp)], DrH r) := fun r hr => by
        rcases List.mem_append.1 hr with h | h
        · exact HD.out r h
        · simp at h; subst h; unfold DrH; dsimp only; omega
      clear HF5 HD
      have hwi : IntKind.i64.wrap (i - 1) = i - 1 := wrap_id _ (by omega) (by omega)
      go_wp2_with (at_builtin; refine wpList_append_lies _ rfl _ _ 23 rfl (b + 1) 37 i0 (.agg #[.int .i64 0, .int .i64 0, .int .i64 0, .int .i64 0, .int .i64 0]) 5 40 Try.underlying23 hi hi0 hi1 hi2 rfl (by decide) _ _ _ rfl HF7.out.1 ⟨w15.heap.size, 0, none⟩ 1 1 [.int .i64 (p12 - 20), .int .i64 (p13 - 20), .int .i64 p11, .int .i64 (p11 + 20 + p14), .int .i64 p15] rfl rfl HNw.out (one5H _ _ _ _ _) (by omega) (by unfold maxLen; omega) (by omega) HF7.out.2.1 _ rfl ?_; intro g1 cp1 w7 hown1 hgrow1 hat1 hglt1; have HF8 : Hid (HpSt w b a len cap (.slice (some ⟨g1, 0, none⟩) (rs.length + 1) cp1) (rs ++ [(⟨p12 - 20, p13 - 20, p11, p11 + 20 + p14, p15⟩ : RHp)]) at15 s15 w7) := HF7.out.push (r := (⟨p12 - 20, p13 - 20, p11, p11 + 20 + p14, p15⟩ : RHp)) hown1 hgrow1; clear hown1 hgrow1 hat1)
      go_roundw
      case rel => exact ⟨rs ++ [(⟨p12 - 20, p13 - 20, p11, p11 + 20 + p14, p15⟩ : RHp)], g1, cp1, i - 1, at15, s15, by rw [HLen.out], rfl, by omega, by rw [HLen.out]; omega, HD2.out, by rw [HLen.out]; omega, by rw [HLen.out]; exact HF8.out⟩
      case measure => simp [intOf]; omega
    · have hi9 : ¬ 0 < i := hc
      go_wp2_with fail
      (first | go_at_call 20 | skip)
      refine (HNx.out 30 at' sd wr (by omega) (by omega) HF.out.2.2.1 HF.out.2.2.2).mono ?_
      rintro e w21 ⟨p21, at21, s21, rfl, hp, q21, r21, hs, hb, ha⟩
      have HF1 : Hid (HpSt w b a len cap (.slice (some ⟨g, 0, none⟩) rs.length cp) rs at21 s21 w21) := HF.out.draw ha hb hs
      have hp21 : 0 ≤ p21 ∧ p21 < 30 := by obtain ⟨u1, u2⟩ := hp; omega
      clear hs hb ha hp HF
      have hl9 : rs.length ≤ 9 := by omega
      have hl5 : rs.length ≤ 5 := by omega
      go_wp2_with fail
      (first | go_at_call 22 | skip)
      refine (HOd.out rs.length at21 s21 w21 hl9 (by omega) HF1.out.2.2.1 HF1.out.2.2.2).mono ?_
      rintro e w22 ⟨L, gL, cL, at22, s22, rfl, hon, _, hfo⟩
      have HF9 : Hid (HpSt w b a len cap (.slice (some ⟨g, 0, none⟩) rs.length cp) rs at22 s22 w22) := HF1.out.apart hfo.ap hfo.low hfo.src
      have HFin : Hid (OnP L rs.length ∧ ReadsHp w22.heap.size w22 (some ⟨g, 0, none⟩) rs ∧ Reads w22.heap.size w22 (some ⟨gL, 0, none⟩) L ∧ Below w.heap.size w w22) := ⟨hon, hpSt_room HF9.out rfl, hfo.readsL rfl, by rw [← HBe.out]; exact HF9.out.2.2.2⟩
      clear HF1 HF9 hon hfo
      go_wp2_with fail
      refine bodyPost_ret (v := .tuple #[.slice (some ⟨g, 0, none⟩) rs.length cp, .int .i64 p21, .slice (some ⟨gL, 0, none⟩) L.length cL]) (by simp [results, Try.results5, go_sem]) rfl ⟨rs, p21, L, g, cp, gL, cL, rfl, ⟨hl5, HD.out, by omega⟩, HFin.out⟩
end Go.Proofs.Ytoogphkojofkfaa
