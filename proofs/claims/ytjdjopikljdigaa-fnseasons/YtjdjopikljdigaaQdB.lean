/-
  Contracts of the specification's SalesOf and TableOf: what is drawn are right sales with a right share, a right table with right days and a right share.
-/
import Derived.Test.YtjdjopikljdigaaQdA
import Derived.Test.YtjdjopikljdigaaQsA
namespace Go.Proofs.Ytjdjopikljdigaa
open Go.ChangeShapes Go.WideShapes Go.ChangeAt Go.RowKit Go.Deep
set_option linter.unusedVariables false

/-- Drawn numbers: the first from 1 to f, the others from 0 to e - 1. -/
def DrL (f e : Int) (L : List Int) : Prop := (1 ≤ L.getD 0 0 ∧ L.getD 0 0 ≤ f) ∧ ∀ x ∈ L, 0 ≤ x ∧ (x < e ∨ x ≤ f)
theorem drl_one {f e x : Int} (h0 : 1 ≤ x) (h1 : x ≤ f) : DrL f e [x] := ⟨⟨by simpa using h0, by simpa using h1⟩, fun y hy => by simp at hy; subst hy; exact ⟨by omega, .inr h1⟩⟩
theorem DrL.push {f e p : Int} {L : List Int} (h : DrL f e L) (hl : 1 ≤ L.length) (h0 : 0 ≤ p) (h1 : p < e) : DrL f e (L ++ [p]) := by
  refine ⟨?_, fun x hx => ?_⟩
  · rw [List.getD_eq_getElem?_getD, List.getElem?_append_left (by omega), ← List.getD_eq_getElem?_getD]; exact h.1
  · rcases List.mem_append.1 hx with h2 | h2
    · exact h.2 x h2
    · simp at h2; subst h2; exact ⟨h0, .inl h1⟩
def PostSalesOf (w : World) (e : Ending) (w' : World) : Prop := ∃ (L : List Int) (num den : Int) (g cp : Nat), e = .returned (.tuple #[.slice (some ⟨g, 0, none⟩) L.length cp, .int .i64 num, .int .i64 den]) ∧ (1 ≤ L.length ∧ L.length ≤ 22) ∧ DrL 30 40 L ∧ (1 ≤ den ∧ den ≤ 20) ∧ (0 ≤ num ∧ num ≤ den) ∧ L.length ≤ cp ∧ Reads w'.heap.size w' (some ⟨g, 0, none⟩) L ∧ Below w.heap.size w w'
def PostTableOf (w : World) (e : Ending) (w' : World) : Prop := ∃ (L : List Int) (days num den : Int) (g cp : Nat), e = .returned (.tuple #[.slice (some ⟨g, 0, none⟩) L.length cp, .int .i64 days, .int .i64 num, .int .i64 den]) ∧ (1 ≤ L.length ∧ L.length ≤ 7) ∧ DrL 9 9 L ∧ (1 ≤ days ∧ days ≤ 4) ∧ (1 ≤ den ∧ den ≤ 100) ∧ (1 ≤ num ∧ num ≤ den) ∧ L.length ≤ cp ∧ Reads w'.heap.size w' (some ⟨g, 0, none⟩) L ∧ Below w.heap.size w w'
set_option maxHeartbeats 4000000 in
set_option maxRecDepth 4000 in
theorem SalesOf_any (a : Option Addr) (len cap : Nat) (zs : List Int) (w : World) (hr : RowB w.heap.size w a len zs) :
    Calls Try.prog 9 #[.slice a len cap] w (PostSalesOf w) := by
  have HR : Hid (RowB w.heap.size w a len zs) := hr
  have hsrc := source_any a len cap w hr.1
  have hlen := hr.1
  clear hr
  obtain ⟨b, hbe⟩ : ∃ b, b = w.heap.size := ⟨_, rfl⟩
  have HBe : Hid (b = w.heap.size) := hbe
  rw [← hbe] at HR hsrc
  clear hbe
  have HNx : Hid (∀ (n at' sd : Int) (W : World), n ≤ 256 → at' ≤ 999999999000 → Src W b a len cap at' sd → Below b w W → Calls Try.prog 30 #[.pointer (some ⟨b, 0, none⟩), .int .i64 n] W fun e w' => ∃ x at2 s' : Int, e = .returned (.int .i64 x) ∧ Drawn x n ∧ at' ≤ at2 ∧ at2 ≤ at' + 3 ∧ Src w' b a len cap at2 s' ∧ Below b W w' ∧ Apt b W w') := fun n at' sd W hn ha hS hB => next_anyA b b a len cap zs n at' sd W (Nat.le_refl _) hS (HR.out.below hB) ha hn
  have HSz : Hid (∀ (at' sd : Int) (W : World), Src W b a len cap at' sd → Calls Try.prog 31 #[.pointer (some ⟨b, 0, none⟩), .int .i64 20] W fun e w' => ∃ x : Int, e = .returned (.int .i64 x) ∧ 1 ≤ x ∧ x ≤ 20 ∧ W = w') := fun at' sd W hS => (size_src b a len cap 20 at' sd W hS hlen (by omega) (by omega)).mono (fun e w' h => by obtain ⟨⟨x, h1, h2, h3⟩, h4⟩ := h; exact ⟨x, h1, h2, h3, h4.symm⟩)
  obtain ⟨i0, hi, hzz⟩ := Option.map_eq_some_iff.1 intInfo
  simp only [Prod.mk.injEq] at hzz
  obtain ⟨hi0, hi1, hi2⟩ := hzz
  clear HR
  go_enter Try.func9, Try.ntmps9
  go_wp2_with fail
  (first | go_at_call 29 | skip)
  refine hsrc.mono ?_
  rintro e w1 ⟨s1, rfl, hs1, hb1⟩
  have HS1 : Hid (Src w1 b a len cap 0 s1) := hs1
  have HB1 : Hid (Below b w w1) := hb1
  clear hs1 hb1 hsrc
  go_wp2_with fail
  (first | go_at_call 30 | skip)
  refine (HNx.out 30 0 s1 w1 (by omega) (by omega) HS1.out HB1.out).mono ?_
  rintro e w2 ⟨x, at2, s2, rfl, hx, q1, q2, hs2, hb2, ha2⟩
  have hx2 : 0 ≤ x ∧ x < 30 := by obtain ⟨u1, u2⟩ := hx; omega
  have HB2 : Hid (Below b w w2) := HB1.out.trans hb2
  have HF0 : Hid (FoSt b a len cap w2 (.slice (some ⟨w2.heap.size, 0, none⟩) 1 1) [1 + x] at2 s2 (w2.alloc (Obj.cells #[.int .i64 (1 + x)] 3))) := FoSt.one hs2 (1 + x)
  clear hs2 hb2 ha2 HS1 HB1 hx
  have hw1 : IntKind.i64.wrap (1 + x) = 1 + x := wrap_id _ (by omega) (by omega)
  go_upto_region 3 with fail
  obtain ⟨H, hH⟩ : ∃ H, H = w2.heap.size := ⟨_, rfl⟩
  obtain ⟨v1, hv1⟩ : ∃ v1, v1 = w2.alloc (Obj.cells #[.int .i64 (1 + x)] 3) := ⟨_, rfl⟩
  rw [← hv1, ← hH] at HF0 ⊢
  clear hv1 hH hw1
  go_wp2_with fail
  (first | go_at_call 31 | skip)
  refine (HSz.out at2 s2 v1 HF0.out.src).mono ?_
  rintro e v2 ⟨y, rfl, hy1, hy2, hv2⟩
  subst hv2
  have hw2 : IntKind.i64.wrap (y + 2) = y + 2 := wrap_id _ (by omega) (by omega)
  go_wp2_with fail
  (first | go_at_call 30 | skip)
  refine (HNx.out (y + 2) at2 s2 v1 (by omega) (by omega) HF0.out.src (HB2.out.trans HF0.out.low)).mono ?_
  rintro e w3 ⟨z, at3, s3, rfl, hz, q3, q4, hs3, hb3, ha3⟩
  have hz2 : 0 ≤ z ∧ z < 22 := by obtain ⟨u1, u2⟩ := hz; omega
  have HF1 : Hid (FoSt b a len cap w2 (.slice (some ⟨H, 0, none⟩) 1 1) [1 + x] at3 s3 w3) := HF0.out.step (ha3.apart hb3) hb3 hs3
  have HG1 : Hid (DrL 30 40 [1 + x]) := drl_one (by omega) (by omega)
  clear hs3 hb3 ha3 HF0 hz HSz hw2
  go_wp2_with fail
  go_loopw [6, 7] (fun v iv wr => ∃ (L : List Int) (g cp : Nat) (i at' sd : Int), v = .slice (some ⟨g, 0, none⟩) L.length cp ∧ iv = .int .i64 i ∧ 0 ≤ i ∧ 1 ≤ L.length ∧ i + (L.length : Int) ≤ 22 ∧ DrL 30 40 L ∧ at' ≤ 6 + 3 * (L.length : Int) ∧ FoSt b a len cap w2 (.slice (some ⟨g, 0, none⟩) L.length cp) L at' sd wr) (fun _ iv _ => (intOf iv).toNat)
  case atStart => exact ⟨[1 + x], H, 1, z, at3, s3, rfl, rfl, by omega, by simp, by simp; omega, HG1.out, by simp; omega, HF1.out⟩
  case round =>
    clear HF1 HG1
    obtain ⟨L, g, cp, i, at', sd, rfl, rfl, hi4, hL1, hLi, hdr, hat, hF⟩ := hrel
    have HF : Hid (FoSt b a len cap w2 (.slice (some ⟨g, 0, none⟩) L.length cp) L at' sd wr) := hF
    have HD : Hid (DrL 30 40 L) := hdr
    clear hF hdr
    by_cases hc : 0 < i
    · go_wp2_with fail
      (first | go_at_call 30 | skip)
      refine (HNx.out 40 at' sd wr (by omega) (by omega) HF.out.src (HB2.out.trans HF.out.low)).mono ?_
      rintro e w5 ⟨p, at5, s5, rfl, hp, q5, q6, hs5, hb5, ha5⟩
      have HF5 : Hid (FoSt b a len cap w2 (.slice (some ⟨g, 0, none⟩) L.length cp) L at5 s5 w5) := HF.out.step (ha5.apart hb5) hb5 hs5
      have hp2 : 0 ≤ p ∧ p < 40 := by obtain ⟨u1, u2⟩ := hp; omega
      clear hs5 hb5 ha5 HF hp
      have HF6 : Hid (FoSt b a len cap w2 (.slice (some ⟨g, 0, none⟩) L.length cp) L at5 s5 (w5.alloc (Obj.cells #[.int .i64 p] 3))) := HF5.out.later (below_alloc _ _)
      have HNw : Hid (∀ j u, [Value.int .i64 p][j]? = some u → (w5.alloc (Obj.cells #[.int .i64 p] 3)).cell? ((⟨w5.heap.size, 0, none⟩ : Addr).add j) = some u) := World.news_of_block (heapNew w5 (Obj.cells #[.int .i64 p] 3))
      have HLen : Hid ((L ++ [p]).length = L.length + 1) := by show _ = _; simp
      have HZb : Hid (w2.heap.size ≤ (w5.alloc (Obj.cells #[.int .i64 p] 3)).heap.size) := HF6.out.ap.1
      have HD2 : Hid (DrL 30 40 (L ++ [p])) := HD.out.push hL1 hp2.1 hp2.2
      clear HF5 HD
      have hwi : IntKind.i64.wrap (i - 1) = i - 1 := wrap_id _ (by omega) (by omega)
      go_wp2_with (at_builtin; refine wpList_append_lies _ rfl _ _ 23 rfl w2.heap.size 3 i0 (.int .i64 0) 1 8 Try.underlying23 hi hi0 hi1 hi2 rfl (by decide) _ _ _ rfl HF6.out.row ⟨w5.heap.size, 0, none⟩ 1 1 [.int .i64 p] rfl rfl HNw.out (by intro u hu; simp at hu; rcases hu with rfl; rfl) (by omega) (by unfold maxLen; omega) (by omega) HZb.out _ rfl ?_; intro g1 cp1 w7 hown1 hgrow1 hat1 hglt1; have HF7 : Hid (FoSt b a len cap w2 (.slice (some ⟨g1, 0, none⟩) (L.length + 1) cp1) (L ++ [p]) at5 s5 w7) := HF6.out.push hown1 hgrow1; clear hown1 hgrow1 hat1)
      go_roundw
      case rel => exact ⟨L ++ [p], g1, cp1, i - 1, at5, s5, by rw [HLen.out], rfl, by omega, by rw [HLen.out]; omega, by rw [HLen.out]; omega, HD2.out, by rw [HLen.out]; omega, by rw [HLen.out]; exact HF7.out⟩
      case measure => simp [intOf]; omega
    · have hi9 : ¬ 0 < i := hc
      go_wp2_with fail
      (first | go_at_call 30 | skip)
      refine (HNx.out 20 at' sd wr (by omega) (by omega) HF.out.src (HB2.out.trans HF.out.low)).mono ?_
      rintro e w8 ⟨p8, at8, s8, rfl, hp, q8, r8, hs, hb, ha⟩
      have HF8 : Hid (FoSt b a len cap w2 (.slice (some ⟨g, 0, none⟩) L.length cp) L at8 s8 w8) := HF.out.step (ha.apart hb) hb hs
      have hp8 : 0 ≤ p8 ∧ p8 < 20 := by obtain ⟨u1, u2⟩ := hp; omega
      clear hs hb ha hp HF
      have hwd : IntKind.i64.wrap (1 + p8) = 1 + p8 := wrap_id _ (by omega) (by omega)
      have hwe : IntKind.i64.wrap (1 + p8 + 1) = 1 + p8 + 1 := wrap_id _ (by omega) (by omega)
      go_wp2_with fail
      (first | go_at_call 30 | skip)
      refine (HNx.out (1 + p8 + 1) at8 s8 w8 (by omega) (by omega) HF8.out.src (HB2.out.trans HF8.out.low)).mono ?_
      rintro e w9 ⟨p9, at9, s9, rfl, hp, q9, r9, hs, hb, ha⟩
      have HF9 : Hid (FoSt b a len cap w2 (.slice (some ⟨g, 0, none⟩) L.length cp) L at9 s9 w9) := HF8.out.step (ha.apart hb) hb hs
      have hp9 : 0 ≤ p9 ∧ p9 ≤ 1 + p8 := by obtain ⟨u1, u2⟩ := hp; omega
      clear hs hb ha hp HF8
      have HFin : Hid (L.length ≤ cp ∧ Reads w9.heap.size w9 (some ⟨g, 0, none⟩) L ∧ Below w.heap.size w w9) := ⟨HF9.out.room rfl, HF9.out.readsL rfl, by rw [← HBe.out]; exact HB2.out.trans HF9.out.low⟩
      have hL22 : L.length ≤ 22 := by omega
      clear HF9
      go_wp2_with fail
      refine bodyPost_ret (v := .tuple #[.slice (some ⟨g, 0, none⟩) L.length cp, .int .i64 p9, .int .i64 (1 + p8)]) (by simp [results, Try.results9, go_sem]) rfl ⟨L, p9, 1 + p8, g, cp, rfl, ⟨hL1, hL22⟩, HD.out, ⟨by omega, by omega⟩, hp9, HFin.out⟩
set_option maxHeartbeats 4000000 in
set_option maxRecDepth 4000 in
theorem TableOf_any (a : Option Addr) (len cap : Nat) (zs : List Int) (w : World) (hr : RowB w.heap.size w a len zs) :
    Calls Try.prog 16 #[.slice a len cap] w (PostTableOf w) := by
  have HR : Hid (RowB w.heap.size w a len zs) := hr
  have hsrc := source_any a len cap w hr.1
  have hlen := hr.1
  clear hr
  obtain ⟨b, hbe⟩ : ∃ b, b = w.heap.size := ⟨_, rfl⟩
  have HBe : Hid (b = w.heap.size) := hbe
  rw [← hbe] at HR hsrc
  clear hbe
  have HNx : Hid (∀ (n at' sd : Int) (W : World), n ≤ 256 → at' ≤ 999999999000 → Src W b a len cap at' sd → Below b w W → Calls Try.prog 30 #[.pointer (some ⟨b, 0, none⟩), .int .i64 n] W fun e w' => ∃ x at2 s' : Int, e = .returned (.int .i64 x) ∧ Drawn x n ∧ at' ≤ at2 ∧ at2 ≤ at' + 3 ∧ Src w' b a len cap at2 s' ∧ Below b W w' ∧ Apt b W w') := fun n at' sd W hn ha hS hB => next_anyA b b a len cap zs n at' sd W (Nat.le_refl _) hS (HR.out.below hB) ha hn
  have HSz : Hid (∀ (at' sd : Int) (W : World), Src W b a len cap at' sd → Calls Try.prog 31 #[.pointer (some ⟨b, 0, none⟩), .int .i64 6] W fun e w' => ∃ x : Int, e = .returned (.int .i64 x) ∧ 1 ≤ x ∧ x ≤ 6 ∧ W = w') := fun at' sd W hS => (size_src b a len cap 6 at' sd W hS hlen (by omega) (by omega)).mono (fun e w' h => by obtain ⟨⟨x, h1, h2, h3⟩, h4⟩ := h; exact ⟨x, h1, h2, h3, h4.symm⟩)
  obtain ⟨i0, hi, hzz⟩ := Option.map_eq_some_iff.1 intInfo
  simp only [Prod.mk.injEq] at hzz
  obtain ⟨hi0, hi1, hi2⟩ := hzz
  clear HR
  go_enter Try.func16, Try.ntmps16
  go_wp2_with fail
  (first | go_at_call 29 | skip)
  refine hsrc.mono ?_
  rintro e w1 ⟨s1, rfl, hs1, hb1⟩
  have HS1 : Hid (Src w1 b a len cap 0 s1) := hs1
  have HB1 : Hid (Below b w w1) := hb1
  clear hs1 hb1 hsrc
  go_wp2_with fail
  (first | go_at_call 30 | skip)
  refine (HNx.out 9 0 s1 w1 (by omega) (by omega) HS1.out HB1.out).mono ?_
  rintro e w2 ⟨x, at2, s2, rfl, hx, q1, q2, hs2, hb2, ha2⟩
  have hx2 : 0 ≤ x ∧ x < 9 := by obtain ⟨u1, u2⟩ := hx; omega
  have HB2 : Hid (Below b w w2) := HB1.out.trans hb2
  have HF0 : Hid (FoSt b a len cap w2 (.slice (some ⟨w2.heap.size, 0, none⟩) 1 1) [1 + x] at2 s2 (w2.alloc (Obj.cells #[.int .i64 (1 + x)] 3))) := FoSt.one hs2 (1 + x)
  clear hs2 hb2 ha2 HS1 HB1 hx
  have hw1 : IntKind.i64.wrap (1 + x) = 1 + x := wrap_id _ (by omega) (by omega)
  go_upto_region 3 with fail
  obtain ⟨H, hH⟩ : ∃ H, H = w2.heap.size := ⟨_, rfl⟩
  obtain ⟨v1, hv1⟩ : ∃ v1, v1 = w2.alloc (Obj.cells #[.int .i64 (1 + x)] 3) := ⟨_, rfl⟩
  rw [← hv1, ← hH] at HF0 ⊢
  clear hv1 hH hw1
  go_wp2_with fail
  (first | go_at_call 31 | skip)
  refine (HSz.out at2 s2 v1 HF0.out.src).mono ?_
  rintro e v2 ⟨y, rfl, hy1, hy2, hv2⟩
  subst hv2
  have hw2 : IntKind.i64.wrap (y + 1) = y + 1 := wrap_id _ (by omega) (by omega)
  go_wp2_with fail
  (first | go_at_call 30 | skip)
  refine (HNx.out (y + 1) at2 s2 v1 (by omega) (by omega) HF0.out.src (HB2.out.trans HF0.out.low)).mono ?_
  rintro e w3 ⟨z, at3, s3, rfl, hz, q3, q4, hs3, hb3, ha3⟩
  have hz2 : 0 ≤ z ∧ z < 7 := by obtain ⟨u1, u2⟩ := hz; omega
  have HF1 : Hid (FoSt b a len cap w2 (.slice (some ⟨H, 0, none⟩) 1 1) [1 + x] at3 s3 w3) := HF0.out.step (ha3.apart hb3) hb3 hs3
  have HG1 : Hid (DrL 9 9 [1 + x]) := drl_one (by omega) (by omega)
  clear hs3 hb3 ha3 HF0 hz HSz hw2
  go_wp2_with fail
  go_loopw [7, 8] (fun v iv wr => ∃ (L : List Int) (g cp : Nat) (i at' sd : Int), v = .slice (some ⟨g, 0, none⟩) L.length cp ∧ iv = .int .i64 i ∧ 0 ≤ i ∧ 1 ≤ L.length ∧ i + (L.length : Int) ≤ 7 ∧ DrL 9 9 L ∧ at' ≤ 6 + 3 * (L.length : Int) ∧ FoSt b a len cap w2 (.slice (some ⟨g, 0, none⟩) L.length cp) L at' sd wr) (fun _ iv _ => (intOf iv).toNat)
  case atStart => exact ⟨[1 + x], H, 1, z, at3, s3, rfl, rfl, by omega, by simp, by simp; omega, HG1.out, by simp; omega, HF1.out⟩
  case round =>
    clear HF1 HG1
    obtain ⟨L, g, cp, i, at', sd, rfl, rfl, hi4, hL1, hLi, hdr, hat, hF⟩ := hrel
    have HF : Hid (FoSt b a len cap w2 (.slice (some ⟨g, 0, none⟩) L.length cp) L at' sd wr) := hF
    have HD : Hid (DrL 9 9 L) := hdr
    clear hF hdr
    by_cases hc : 0 < i
    · go_wp2_with fail
      (first | go_at_call 30 | skip)
      refine (HNx.out 9 at' sd wr (by omega) (by omega) HF.out.src (HB2.out.trans HF.out.low)).mono ?_
      rintro e w5 ⟨p, at5, s5, rfl, hp, q5, q6, hs5, hb5, ha5⟩
      have HF5 : Hid (FoSt b a len cap w2 (.slice (some ⟨g, 0, none⟩) L.length cp) L at5 s5 w5) := HF.out.step (ha5.apart hb5) hb5 hs5
      have hp2 : 0 ≤ p ∧ p < 9 := by obtain ⟨u1, u2⟩ := hp; omega
      clear hs5 hb5 ha5 HF hp
      have HF6 : Hid (FoSt b a len cap w2 (.slice (some ⟨g, 0, none⟩) L.length cp) L at5 s5 (w5.alloc (Obj.cells #[.int .i64 p] 3))) := HF5.out.later (below_alloc _ _)
      have HNw : Hid (∀ j u, [Value.int .i64 p][j]? = some u → (w5.alloc (Obj.cells #[.int .i64 p] 3)).cell? ((⟨w5.heap.size, 0, none⟩ : Addr).add j) = some u) := World.news_of_block (heapNew w5 (Obj.cells #[.int .i64 p] 3))
      have HLen : Hid ((L ++ [p]).length = L.length + 1) := by show _ = _; simp
      have HZb : Hid (w2.heap.size ≤ (w5.alloc (Obj.cells #[.int .i64 p] 3)).heap.size) := HF6.out.ap.1
      have HD2 : Hid (DrL 9 9 (L ++ [p])) := HD.out.push hL1 hp2.1 hp2.2
      clear HF5 HD
      have hwi : IntKind.i64.wrap (i - 1) = i - 1 := wrap_id _ (by omega) (by omega)
      go_wp2_with (at_builtin; refine wpList_append_lies _ rfl _ _ 23 rfl w2.heap.size 3 i0 (.int .i64 0) 1 8 Try.underlying23 hi hi0 hi1 hi2 rfl (by decide) _ _ _ rfl HF6.out.row ⟨w5.heap.size, 0, none⟩ 1 1 [.int .i64 p] rfl rfl HNw.out (by intro u hu; simp at hu; rcases hu with rfl; rfl) (by omega) (by unfold maxLen; omega) (by omega) HZb.out _ rfl ?_; intro g1 cp1 w7 hown1 hgrow1 hat1 hglt1; have HF7 : Hid (FoSt b a len cap w2 (.slice (some ⟨g1, 0, none⟩) (L.length + 1) cp1) (L ++ [p]) at5 s5 w7) := HF6.out.push hown1 hgrow1; clear hown1 hgrow1 hat1)
      go_roundw
      case rel => exact ⟨L ++ [p], g1, cp1, i - 1, at5, s5, by rw [HLen.out], rfl, by omega, by rw [HLen.out]; omega, by rw [HLen.out]; omega, HD2.out, by rw [HLen.out]; omega, by rw [HLen.out]; exact HF7.out⟩
      case measure => simp [intOf]; omega
    · have hi9 : ¬ 0 < i := hc
      go_wp2_with fail
      (first | go_at_call 30 | skip)
      refine (HNx.out 100 at' sd wr (by omega) (by omega) HF.out.src (HB2.out.trans HF.out.low)).mono ?_
      rintro e w8 ⟨p8, at8, s8, rfl, hp, q8, r8, hs, hb, ha⟩
      have HF8 : Hid (FoSt b a len cap w2 (.slice (some ⟨g, 0, none⟩) L.length cp) L at8 s8 w8) := HF.out.step (ha.apart hb) hb hs
      have hp8 : 0 ≤ p8 ∧ p8 < 100 := by obtain ⟨u1, u2⟩ := hp; omega
      clear hs hb ha hp HF
      have hwd : IntKind.i64.wrap (1 + p8) = 1 + p8 := wrap_id _ (by omega) (by omega)
      go_wp2_with fail
      (first | go_at_call 30 | skip)
      refine (HNx.out 4 at8 s8 w8 (by omega) (by omega) HF8.out.src (HB2.out.trans HF8.out.low)).mono ?_
      rintro e w9 ⟨p9, at9, s9, rfl, hp, q9, r9, hs, hb, ha⟩
      have HF9 : Hid (FoSt b a len cap w2 (.slice (some ⟨g, 0, none⟩) L.length cp) L at9 s9 w9) := HF8.out.step (ha.apart hb) hb hs
      have hp9 : 0 ≤ p9 ∧ p9 < 4 := by obtain ⟨u1, u2⟩ := hp; omega
      clear hs hb ha hp HF8
      have hwe : IntKind.i64.wrap (1 + p9) = 1 + p9 := wrap_id _ (by omega) (by omega)
      go_wp2_with fail
      (first | go_at_call 30 | skip)
      refine (HNx.out (1 + p8) at9 s9 w9 (by omega) (by omega) HF9.out.src (HB2.out.trans HF9.out.low)).mono ?_
      rintro e w10 ⟨p10, at10, s10, rfl, hp, q10, r10, hs, hb, ha⟩
      have HF10 : Hid (FoSt b a len cap w2 (.slice (some ⟨g, 0, none⟩) L.length cp) L at10 s10 w10) := HF9.out.step (ha.apart hb) hb hs
      have hp10 : 0 ≤ p10 ∧ p10 < 1 + p8 := by obtain ⟨u1, u2⟩ := hp; omega
      clear hs hb ha hp HF9
      have hwf : IntKind.i64.wrap (1 + p10) = 1 + p10 := wrap_id _ (by omega) (by omega)
      have HFin : Hid (L.length ≤ cp ∧ Reads w10.heap.size w10 (some ⟨g, 0, none⟩) L ∧ Below w.heap.size w w10) := ⟨HF10.out.room rfl, HF10.out.readsL rfl, by rw [← HBe.out]; exact HB2.out.trans HF10.out.low⟩
      have hL22 : L.length ≤ 7 := by omega
      clear HF10
      go_wp2_with fail
      refine bodyPost_ret (v := .tuple #[.slice (some ⟨g, 0, none⟩) L.length cp, .int .i64 (1 + p9), .int .i64 (1 + p10), .int .i64 (1 + p8)]) (by simp [results, Try.results16, go_sem]) rfl ⟨L, 1 + p9, 1 + p10, 1 + p8, g, cp, rfl, ⟨hL1, hL22⟩, HD.out, ⟨by omega, by omega⟩, ⟨by omega, by omega⟩, ⟨by omega, by omega⟩, HFin.out⟩
end Go.Proofs.Ytjdjopikljdigaa
