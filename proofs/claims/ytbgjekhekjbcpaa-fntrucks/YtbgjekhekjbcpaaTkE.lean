/-
  The specification's drawn loads are right: the contract of LoadsOf.
-/
import Derived.Test.YtbgjekhekjbcpaaTkA
import Derived.Test.YtbgjekhekjbcpaaSrc
import Derived.Test.YtbgjekhekjbcpaaSrcApt
import Derived.Test.YtbgjekhekjbcpaaSrcSize
import Derived.Deep.AppendLies
import Derived.Laws.OwnMore
namespace Go.Proofs.Ytbgjekhekjbcpaa
open Go.ChangeShapes Go.WideShapes Go.ChangeAt Go.RowKit Go.Deep
set_option linter.unusedVariables false

/-- The cells of some loads. -/
def ldCells (rs : List RLd) : List Value := rs.flatMap fun r => [.int .i64 r.pl, .int .i64 r.ex]
theorem ldCells_append (a b : List RLd) : ldCells (a ++ b) = ldCells a ++ ldCells b := by simp [ldCells]
theorem ldCells_get : ∀ (rs : List RLd) (i : Nat), i < rs.length → (ldCells rs)[i * 2]? = some (.int .i64 (rs.getD i zLd).pl) ∧ (ldCells rs)[i * 2 + 1]? = some (.int .i64 (rs.getD i zLd).ex)
  | r :: rs, 0, h => ⟨rfl, rfl⟩
  | r :: rs, i + 1, h => by
    have := ldCells_get rs i (by simpa using h)
    rw [show (i + 1) * 2 = i * 2 + 1 + 1 by omega]
    exact this
theorem lds_of_row {w : World} {B g cap : Nat} {rs : List RLd} (h : w.ownsRow B 37 2 (.slice (some ⟨g, 0, none⟩) rs.length cap) rs.length (ldCells rs)) : LdsAt w g 0 rs := fun i hi => by
  obtain ⟨q0, q1⟩ := ldCells_get rs i hi
  refine ⟨?_, ?_⟩
  · rw [h.cellAt (0 + i * 2) (by omega), show 0 + i * 2 = i * 2 by omega, q0]
  · rw [h.cellAt (0 + i * 2 + 1) (by omega), show 0 + i * 2 + 1 = i * 2 + 1 by omega, q1]
theorem owns_sameL {w w' : World} {B : Nat} {e : TypeId} {size : Nat} {v : Value} {n : Nat} {xs : List Value} (h : w.ownsRow B e size v n xs) (hs : ∀ k, v.ownBlock = some k → w'.heap[k]? = w.heap[k]?) : w'.ownsRow B e size v n xs := by
  obtain ⟨h1, h2⟩ := h
  refine ⟨h1, ?_⟩
  rcases h2 with h2 | ⟨g, cap, cur, e, hB, hg, r⟩
  · exact .inl h2
  · exact .inr ⟨g, cap, cur, e, hB, (hs g (by rw [e]; rfl)).trans hg, r⟩
theorem src_sameL {w w' : World} {b : Nat} {a : Option Addr} {len cap : Nat} {x s : Int} (h : Src w b a len cap x s) (e : w'.heap[b]? = w.heap[b]?) (hz : w.heap.size ≤ w'.heap.size) : Src w' b a len cap x s := by
  obtain ⟨s0, s1, s2, f1, f2, sb, r⟩ := h
  exact ⟨(World.cell?_of_block (w := w) (a := ⟨b, 0, none⟩) e).trans s0, (World.cell?_of_block (w := w) (a := ⟨b, 1, none⟩) e).trans s1, (World.cell?_of_block (w := w) (a := ⟨b, 2, none⟩) e).trans s2, (World.frozen?_of_block (w := w) (a := ⟨b, 1, none⟩) e).trans f1, (World.frozen?_of_block (w := w) (a := ⟨b, 2, none⟩) e).trans f2, Nat.lt_of_lt_of_le sb hz, r⟩
/-- The source in block b, the loads drawn so far in a row of their own. -/
def LdSt (w : World) (b : Nat) (a : Option Addr) (len cap : Nat) (v : Value) (rs : List RLd) (at' sd : Int) (wr : World) : Prop :=
  wr.ownsRow (b + 1) 37 2 v rs.length (ldCells rs) ∧ b + 1 ≤ wr.heap.size ∧ Src wr b a len cap at' sd ∧ Below b w wr
theorem LdSt.draw {w : World} {b : Nat} {a : Option Addr} {len cap : Nat} {v : Value} {rs : List RLd} {at' sd at2 sd2 : Int} {wr w' : World} (h : LdSt w b a len cap v rs at' sd wr) (ha : Apt b wr w') (hb : Below b wr w') (hs : Src w' b a len cap at2 sd2) : LdSt w b a len cap v rs at2 sd2 w' := by
  obtain ⟨h1, h2, h3, h4⟩ := h
  exact ⟨owns_sameL h1 (fun k hk => ha k (by have := (h1.lt k hk).1; omega)), Nat.le_trans h2 hb.size, hs, h4.trans hb⟩
theorem LdSt.drew {w : World} {b : Nat} {a : Option Addr} {len cap : Nat} {v : Value} {rs : List RLd} {at' sd : Int} {wr : World} (h : LdSt w b a len cap v rs at' sd wr) : LdSt w b a len cap v rs at' sd wr.drew := ⟨h.1, h.2.1, h.2.2.1, h.2.2.2.drew⟩
theorem LdSt.alloc {w : World} {b : Nat} {a : Option Addr} {len cap : Nat} {v : Value} {rs : List RLd} {at' sd : Int} {wr : World} (h : LdSt w b a len cap v rs at' sd wr) (o : Obj) : LdSt w b a len cap v rs at' sd (wr.alloc o) := by
  obtain ⟨h1, h2, h3, h4⟩ := h
  exact ⟨h1.alloc _, by simp; omega, src_sameL h3 (Below.heap_alloc _ _ _ h3.2.2.2.2.2.1) (by simp), h4.alloc (by omega) _⟩
theorem LdSt.push {w : World} {b : Nat} {a : Option Addr} {len cap : Nat} {v : Value} {rs : List RLd} {at' sd : Int} {wr w' : World} {g cp : Nat} {r : RLd} (h : LdSt w b a len cap v rs at' sd wr)
    (ho : w'.ownsRow (b + 1) 37 2 (.slice (some ⟨g, 0, none⟩) (rs.length + 1) cp) (rs.length + 1) (ldCells rs ++ [.int .i64 r.pl, .int .i64 r.ex])) (hg : wr.grownBy w' v.ownBlock) : LdSt w b a len cap (.slice (some ⟨g, 0, none⟩) (rs.length + 1) cp) (rs ++ [r]) at' sd w' := by
  obtain ⟨q1, q2, q3, q4⟩ := h
  refine ⟨?_, Nat.le_trans q2 hg.size, src_sameL q3 (hg.block b q3.2.2.2.2.2.1 (fun e => by have := (q1.lt b e.symm).1; omega)) hg.size, q4.grown hg (by omega) (fun k hk => by have := (q1.lt k hk).1; omega)⟩
  rw [List.length_append, ldCells_append]; exact ho
theorem LdSt.start {w0 w : World} {b : Nat} {a : Option Addr} {len cap : Nat} {at' sd : Int} (hs : Src w b a len cap at' sd) (hb : Below b w0 w) : LdSt w0 b a len cap (.slice (some ⟨w.heap.size, 0, none⟩) 0 0) [] at' sd (w.alloc (Obj.cells #[] 37)) := by
  have hl := hs.2.2.2.2.2.1
  exact ⟨⟨rfl, .inr ⟨w.heap.size, 0, #[], rfl, hl, heapNew w _, Nat.le_refl _, by unfold maxLen; omega, rfl, rfl⟩⟩, by simp; omega, src_sameL hs (Below.heap_alloc _ _ _ hl) (by simp), hb.alloc (by omega) _⟩
theorem ldInf : (Try.prog.info? 37).map (fun i => (i.zero, i.size, i.bytes)) = some (some (.agg #[.int .i64 0, .int .i64 0]), 2, 16) := by kernel_rfl
theorem one2L (x0 x1 : Int) : ∀ u ∈ [Value.int .i64 x0, .int .i64 x1], u.oneCell' = true := by
  intro u hu
  simp at hu
  rcases hu with rfl | rfl <;> rfl
theorem ldSt_room {w : World} {b : Nat} {a : Option Addr} {len cap g n cp : Nat} {rs : List RLd} {at' sd : Int} {wr : World} (h : LdSt w b a len cap (.slice (some ⟨g, 0, none⟩) n cp) rs at' sd wr) (hn : n = rs.length) : ReadsLd wr.heap.size wr (some ⟨g, 0, none⟩) rs := by
  subst hn
  exact .inr ⟨g, 0, rfl, (h.1.lt g rfl).2, lds_of_row h.1⟩
/-- What is drawn. -/
def DrT (rs : List RLd) (tr : Int) : Prop := rs.length ≤ 7 ∧ (∀ r ∈ rs, (0 ≤ r.pl ∧ r.pl ≤ 1000) ∧ 0 ≤ r.ex ∧ r.ex ≤ 1000) ∧ 1 ≤ tr ∧ tr ≤ 30
def PostTr (w : World) (e : Ending) (w' : World) : Prop := ∃ (rs : List RLd) (tr : Int) (g cp : Nat), e = .returned (.tuple #[.slice (some ⟨g, 0, none⟩) rs.length cp, .int .i64 tr]) ∧ DrT rs tr ∧ ReadsLd w'.heap.size w' (some ⟨g, 0, none⟩) rs ∧ Below w.heap.size w w'
set_option maxHeartbeats 4000000 in
set_option maxRecDepth 4000 in
theorem loadsOf_any (a : Option Addr) (len cap : Nat) (zs : List Int) (w : World) (hr : RowB w.heap.size w a len zs) :
    Calls Try.prog 13 #[.slice a len cap] w (PostTr w) := by
  have HR : Hid (RowB w.heap.size w a len zs) := hr
  have hsrc := source_any a len cap w hr.1
  have hlen := hr.1
  clear hr
  obtain ⟨b, hbe⟩ : ∃ b, b = w.heap.size := ⟨_, rfl⟩
  have HBe : Hid (b = w.heap.size) := hbe
  rw [← hbe] at HR hsrc
  clear hbe
  have HNx : Hid (∀ (n at' sd : Int) (W : World), n ≤ 256 → at' ≤ 1000 → Src W b a len cap at' sd → Below b w W → Calls Try.prog 32 #[.pointer (some ⟨b, 0, none⟩), .int .i64 n] W fun e w' => ∃ x at2 s' : Int, e = .returned (.int .i64 x) ∧ Drawn x n ∧ at' ≤ at2 ∧ at2 ≤ at' + 3 ∧ Src w' b a len cap at2 s' ∧ Below b W w' ∧ Apt b W w') := fun n at' sd W hn ha hS hB => next_anyA b b a len cap zs n at' sd W (Nat.le_refl _) hS (HR.out.below hB) (by omega) hn
  have HSz : Hid (∀ (at' sd : Int) (W : World), Src W b a len cap at' sd → Calls Try.prog 37 #[.pointer (some ⟨b, 0, none⟩), .int .i64 7] W fun e w' => ∃ x : Int, e = .returned (.int .i64 x) ∧ 1 ≤ x ∧ x ≤ 7 ∧ W = w') := fun at' sd W hS => (size_src b a len cap 7 at' sd W hS hlen (by omega) (by omega)).mono (fun e w' h => by obtain ⟨⟨x, h1, h2, h3⟩, h4⟩ := h; exact ⟨x, h1, h2, h3, h4.symm⟩)
  obtain ⟨i0, hi, hzz⟩ := Option.map_eq_some_iff.1 ldInf
  simp only [Prod.mk.injEq] at hzz
  obtain ⟨hi0, hi1, hi2⟩ := hzz
  clear HR
  go_enter Try.func13, Try.ntmps13
  go_wp2_with fail
  (first | go_at_call 31 | skip)
  refine hsrc.mono ?_
  rintro e w1 ⟨s1, rfl, hs1, hb1⟩
  have HL0 : Hid (LdSt w b a len cap (.slice (some ⟨w1.heap.size, 0, none⟩) 0 0) [] 0 s1 (w1.alloc (Obj.cells #[] 37))) := LdSt.start hs1 hb1
  clear hs1 hb1 hsrc
  go_upto_region 3 with fail
  obtain ⟨g0, hg0⟩ : ∃ g0, g0 = w1.heap.size := ⟨_, rfl⟩
  obtain ⟨W1, hW1⟩ : ∃ W1, W1 = w1.alloc (Obj.cells #[] 37) := ⟨_, rfl⟩
  rw [← hg0, ← hW1] at HL0 ⊢
  clear hg0 hW1
  go_wp2_with fail
  (first | go_at_call 37 | skip)
  refine (HSz.out 0 s1 W1 HL0.out.2.2.1).mono ?_
  rintro e v2 ⟨y, rfl, hy1, hy2, hv2⟩
  subst hv2
  have hw2 : IntKind.i64.wrap (y + 1) = y + 1 := wrap_id _ (by omega) (by omega)
  go_wp2_with fail
  (first | go_at_call 32 | skip)
  refine (HNx.out (y + 1) 0 s1 W1 (by omega) (by omega) HL0.out.2.2.1 HL0.out.2.2.2).mono ?_
  rintro e w3 ⟨z, at3, s3, rfl, hz, q3, q4, hs3, hb3, ha3⟩
  have hz2 : 0 ≤ z ∧ z ≤ 7 := by obtain ⟨u1, u2⟩ := hz; omega
  have HL1 : Hid (LdSt w b a len cap (.slice (some ⟨g0, 0, none⟩) 0 0) [] at3 s3 w3) := HL0.out.draw ha3 hb3 hs3
  clear hs3 hb3 ha3 HL0 hz HSz hw2
  go_wp2_with fail
  go_loopw [5, 6] (fun v iv wr => ∃ (rs : List RLd) (g cp : Nat) (i at' sd : Int), v = .slice (some ⟨g, 0, none⟩) rs.length cp ∧ iv = .int .i64 i ∧ 0 ≤ i ∧ i + (rs.length : Int) ≤ 7 ∧ (∀ r ∈ rs, (0 ≤ r.pl ∧ r.pl ≤ 1000) ∧ 0 ≤ r.ex ∧ r.ex ≤ 1000) ∧ at' ≤ 6 + 6 * (rs.length : Int) ∧ LdSt w b a len cap (.slice (some ⟨g, 0, none⟩) rs.length cp) rs at' sd wr) (fun _ iv _ => (intOf iv).toNat)
  case atStart => exact ⟨[], g0, 0, z, at3, s3, rfl, rfl, by omega, by simp; omega, by simp, by simp; omega, HL1.out⟩
  case round =>
    clear HL1
    obtain ⟨rs, g, cp, i, at', sd, rfl, rfl, hi4, hLi, hdr, hat, hF⟩ := hrel
    have HF : Hid (LdSt w b a len cap (.slice (some ⟨g, 0, none⟩) rs.length cp) rs at' sd wr) := hF
    have HD : Hid (∀ r ∈ rs, (0 ≤ r.pl ∧ r.pl ≤ 1000) ∧ 0 ≤ r.ex ∧ r.ex ≤ 1000) := hdr
    clear hF hdr
    by_cases hc : 0 < i
    · go_wp2_with fail
      (first | go_at_call 32 | skip)
      refine (HNx.out 12 at' sd wr (by omega) (by omega) HF.out.2.2.1 HF.out.2.2.2).mono ?_
      rintro e w5 ⟨p, at5, s5, rfl, hp, q5, q6, hs5, hb5, ha5⟩
      have HF5 : Hid (LdSt w b a len cap (.slice (some ⟨g, 0, none⟩) rs.length cp) rs at5 s5 w5) := HF.out.draw ha5 hb5 hs5
      have hp2 : 0 ≤ p ∧ p < 12 := by obtain ⟨u1, u2⟩ := hp; omega
      clear hs5 hb5 ha5 HF hp
      go_wp2_with fail
      (first | go_at_call 32 | skip)
      refine (HNx.out 5 at5 s5 w5 (by omega) (by omega) HF5.out.2.2.1 HF5.out.2.2.2).mono ?_
      rintro e w6 ⟨q, at6, s6, rfl, hq, q7, q8, hs6, hb6, ha6⟩
      have HF6 : Hid (LdSt w b a len cap (.slice (some ⟨g, 0, none⟩) rs.length cp) rs at6 s6 w6) := HF5.out.draw ha6 hb6 hs6
      have hq2 : 0 ≤ q ∧ q < 5 := by obtain ⟨u1, u2⟩ := hq; omega
      clear hs6 hb6 ha6 HF5 hq
      have HF7 : Hid (LdSt w b a len cap (.slice (some ⟨g, 0, none⟩) rs.length cp) rs at6 s6 (w6.alloc (Obj.cells #[.int .i64 p, .int .i64 q] 37))) := HF6.out.alloc _
      have HNw : Hid (∀ j u, [Value.int .i64 p, .int .i64 q][j]? = some u → (w6.alloc (Obj.cells #[.int .i64 p, .int .i64 q] 37)).cell? ((⟨w6.heap.size, 0, none⟩ : Addr).add j) = some u) := World.news_of_block (heapNew w6 (Obj.cells #[.int .i64 p, .int .i64 q] 37))
      have HLen : Hid ((rs ++ [(⟨p, q⟩ : RLd)]).length = rs.length + 1) := by show _ = _; simp
      have HD2 : Hid (∀ r ∈ rs ++ [(⟨p, q⟩ : RLd)], (0 ≤ r.pl ∧ r.pl ≤ 1000) ∧ 0 ≤ r.ex ∧ r.ex ≤ 1000) := fun r hr => by
        rcases List.mem_append.1 hr with h | h
        · exact HD.out r h
        · simp at h; subst h; dsimp only; omega
      clear HF6 HD
      have hwi : IntKind.i64.wrap (i - 1) = i - 1 := wrap_id _ (by omega) (by omega)
      go_wp2_with (at_builtin; refine wpList_append_lies _ rfl _ _ 30 rfl (b + 1) 37 i0 (.agg #[.int .i64 0, .int .i64 0]) 2 16 Try.underlying30 hi hi0 hi1 hi2 rfl (by decide) _ _ _ rfl HF7.out.1 ⟨w6.heap.size, 0, none⟩ 1 1 [.int .i64 p, .int .i64 q] rfl rfl HNw.out (one2L _ _) (by omega) (by unfold maxLen; omega) (by omega) HF7.out.2.1 _ rfl ?_; intro g1 cp1 w7 hown1 hgrow1 hat1 hglt1; have HF8 : Hid (LdSt w b a len cap (.slice (some ⟨g1, 0, none⟩) (rs.length + 1) cp1) (rs ++ [(⟨p, q⟩ : RLd)]) at6 s6 w7) := HF7.out.push (r := ⟨p, q⟩) hown1 hgrow1; clear hown1 hgrow1 hat1)
      go_roundw
      case rel => exact ⟨rs ++ [⟨p, q⟩], g1, cp1, i - 1, at6, s6, by rw [HLen.out], rfl, by omega, by rw [HLen.out]; omega, HD2.out, by rw [HLen.out]; omega, by rw [HLen.out]; exact HF8.out⟩
      case measure => simp [intOf]; omega
    · have hi9 : ¬ 0 < i := hc
      go_wp2_with fail
      (first | go_at_call 32 | skip)
      refine (HNx.out 30 at' sd wr (by omega) (by omega) HF.out.2.2.1 HF.out.2.2.2).mono ?_
      rintro e w8 ⟨p8, at8, s8, rfl, hp, q8, r8, hs, hb, ha⟩
      have HF8 : Hid (LdSt w b a len cap (.slice (some ⟨g, 0, none⟩) rs.length cp) rs at8 s8 w8) := HF.out.draw ha hb hs
      have hp8 : 0 ≤ p8 ∧ p8 < 30 := by obtain ⟨u1, u2⟩ := hp; omega
      clear hs hb ha hp HF
      have hwd : IntKind.i64.wrap (1 + p8) = 1 + p8 := wrap_id _ (by omega) (by omega)
      have HFin : Hid (ReadsLd w8.heap.size w8 (some ⟨g, 0, none⟩) rs ∧ Below w.heap.size w w8) := ⟨ldSt_room HF8.out rfl, by rw [← HBe.out]; exact HF8.out.2.2.2⟩
      have hL7 : rs.length ≤ 7 := by omega
      clear HF8
      go_wp2_with fail
      refine bodyPost_ret (v := .tuple #[.slice (some ⟨g, 0, none⟩) rs.length cp, .int .i64 (1 + p8)]) (by simp [results, Try.results13, go_sem]) rfl ⟨rs, 1 + p8, g, cp, rfl, ⟨hL7, HD.out, by omega, by omega⟩, HFin.out⟩
end Go.Proofs.Ytbgjekhekjbcpaa
