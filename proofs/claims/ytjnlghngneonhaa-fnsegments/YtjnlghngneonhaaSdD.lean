/-
  The specification's draw of segments: at most six, each of one of four tags and at most three parts out of eight texts.
-/
import Derived.Test.YtjnlghngneonhaaScU
import Derived.Deep.AppendLies
namespace Go.Proofs.Ytjnlghngneonhaa
open Go.ChangeShapes Go.WideShapes Go.ChangeAt Go.RowKit Go.Joins Go.Deep
set_option linter.unusedVariables false

def tg4 : List ByteArray := [⟨#[85, 78, 72]⟩, ⟨#[76, 73, 78]⟩, ⟨#[81, 84, 89]⟩, ⟨#[68, 84, 77]⟩]
def tx8 : List ByteArray := [⟨#[]⟩, ⟨#[50, 49]⟩, ⟨#[97, 43, 98]⟩, ⟨#[105, 116, 39, 115]⟩, ⟨#[119, 104, 97, 116, 63]⟩, ⟨#[107, 195, 164, 115, 101]⟩, ⟨#[49, 50, 63, 51, 43, 39]⟩, ⟨#[10]⟩]
def DrSg (c : CSg) : Prop := c.nm ∈ tg4 ∧ c.ps.length ≤ 3 ∧ ∀ s ∈ c.ps, s ∈ tx8
theorem four_cells {W : World} {q : Nat} (h : W.heap[q]? = some (.cells #[.string ⟨#[85, 78, 72]⟩, .string ⟨#[76, 73, 78]⟩, .string ⟨#[81, 84, 89]⟩, .string ⟨#[68, 84, 77]⟩] 9 (0, 0))) : ∀ j, j < tg4.length → W.cell? ⟨q, j, none⟩ = some (.string (tg4.getD j ⟨#[]⟩)) := fun j hj => by
  have hk : j = 0 ∨ j = 1 ∨ j = 2 ∨ j = 3 := by simp [tg4] at hj; omega
  rcases hk with rfl | rfl | rfl | rfl <;> exact blkCell h _ _ rfl
theorem eight_cells {W : World} {q : Nat} (h : W.heap[q]? = some (.cells #[.string ⟨#[]⟩, .string ⟨#[50, 49]⟩, .string ⟨#[97, 43, 98]⟩, .string ⟨#[105, 116, 39, 115]⟩, .string ⟨#[119, 104, 97, 116, 63]⟩, .string ⟨#[107, 195, 164, 115, 101]⟩, .string ⟨#[49, 50, 63, 51, 43, 39]⟩, .string ⟨#[10]⟩] 9 (0, 0))) : ∀ j, j < tx8.length → W.cell? ⟨q, j, none⟩ = some (.string (tx8.getD j ⟨#[]⟩)) := fun j hj => by
  have hk : j = 0 ∨ j = 1 ∨ j = 2 ∨ j = 3 ∨ j = 4 ∨ j = 5 ∨ j = 6 ∨ j = 7 := by simp [tx8] at hj; omega
  rcases hk with rfl | rfl | rfl | rfl | rfl | rfl | rfl | rfl <;> exact blkCell h _ _ rfl
theorem get_in {ss : List ByteArray} {j : Nat} (h : j < ss.length) : ss.getD j ⟨#[]⟩ ∈ ss := by
  have e : ss.getD j ⟨#[]⟩ = ss[j] := by simp [List.getD_eq_getElem?_getD, h]
  rw [e]; exact List.getElem_mem _
set_option maxHeartbeats 8000000 in
set_option maxRecDepth 4000 in
theorem segments_draw (b : Nat) (a : Option Addr) (len cap : Nat) (zs : List Int) (w0 : World) (hR : RowB b w0 a len zs) (sd : Int) (V : World) (hS : Src V b a len cap 0 sd) (hB : Below b w0 V) :
    Calls Try.prog 18 #[.pointer (some ⟨b, 0, none⟩)] V fun e w' => ∃ (E : List SgE) (la : Option Addr) (lk : Nat), e = .returned (.slice la E.length lk) ∧ E.length ≤ 6 ∧ (∀ e ∈ E, DrSg e.c) ∧ SpR V.heap.size E la lk w' ∧ Below b V w' := by
  have hlen := hR.1
  have HNx : Hid (∀ (n at' sd : Int) (W : World), n ≤ 256 → at' ≤ 999999999000 → Src W b a len cap at' sd → Below b w0 W → Calls Try.prog 31 #[.pointer (some ⟨b, 0, none⟩), .int .i64 n] W fun e w' => ∃ x at2 s' : Int, e = .returned (.int .i64 x) ∧ Drawn x n ∧ at' ≤ at2 ∧ at2 ≤ at' + 3 ∧ Src w' b a len cap at2 s' ∧ Below b W w' ∧ Apt b W w') := fun n at' sd W hn ha hS hB => next_anyA b b a len cap zs n at' sd W (Nat.le_refl _) hS (hR.below hB) ha hn
  have HP4 : Hid (∀ (at' sd : Int) (W : World) (q : Nat), at' ≤ 999999999000 → Src W b a len cap at' sd → Below b w0 W → q ≠ b → W.heap[q]? = some (.cells #[.string ⟨#[85, 78, 72]⟩, .string ⟨#[76, 73, 78]⟩, .string ⟨#[81, 84, 89]⟩, .string ⟨#[68, 84, 77]⟩] 9 (0, 0)) → Calls Try.prog 33 #[.pointer (some ⟨b, 0, none⟩), .slice (some ⟨q, 0, none⟩) 4 4] W fun e w' => ∃ (x : ByteArray) (at2 s' : Int), x ∈ tg4 ∧ e = .returned (.string x) ∧ at' ≤ at2 ∧ at2 ≤ at' + 3 ∧ Src w' b a len cap at2 s' ∧ Below b W w' ∧ Apt b W w') := fun at' sd W q ha hS hB hq hc => (pick_v b b q a len cap zs at' sd tg4 W (Nat.le_refl _) hS (hR.below hB) ha (by decide) (by decide) hq (four_cells hc) 4).mono (by
    rintro e w' ⟨j, at2, s', hj, h1, h2⟩
    exact ⟨_, at2, s', get_in hj, h1, h2⟩)
  have HP8 : Hid (∀ (at' sd : Int) (W : World) (q : Nat), at' ≤ 999999999000 → Src W b a len cap at' sd → Below b w0 W → q ≠ b → W.heap[q]? = some (.cells #[.string ⟨#[]⟩, .string ⟨#[50, 49]⟩, .string ⟨#[97, 43, 98]⟩, .string ⟨#[105, 116, 39, 115]⟩, .string ⟨#[119, 104, 97, 116, 63]⟩, .string ⟨#[107, 195, 164, 115, 101]⟩, .string ⟨#[49, 50, 63, 51, 43, 39]⟩, .string ⟨#[10]⟩] 9 (0, 0)) → Calls Try.prog 33 #[.pointer (some ⟨b, 0, none⟩), .slice (some ⟨q, 0, none⟩) 8 8] W fun e w' => ∃ (x : ByteArray) (at2 s' : Int), x ∈ tx8 ∧ e = .returned (.string x) ∧ at' ≤ at2 ∧ at2 ≤ at' + 3 ∧ Src w' b a len cap at2 s' ∧ Below b W w' ∧ Apt b W w') := fun at' sd W q ha hS hB hq hc => (pick_v b b q a len cap zs at' sd tx8 W (Nat.le_refl _) hS (hR.below hB) ha (by decide) (by decide) hq (eight_cells hc) 8).mono (by
    rintro e w' ⟨j, at2, s', hj, h1, h2⟩
    exact ⟨_, at2, s', get_in hj, h1, h2⟩)
  have HSz : Hid (∀ (at' sd : Int) (W : World), Src W b a len cap at' sd → Calls Try.prog 32 #[.pointer (some ⟨b, 0, none⟩), .int .i64 6] W fun e w' => ∃ x : Int, e = .returned (.int .i64 x) ∧ 1 ≤ x ∧ x ≤ 6 ∧ W = w') := fun at' sd W hS => (size_src b a len cap 6 at' sd W hS hlen (by omega) (by omega)).mono (fun e w' h => by obtain ⟨⟨x, h1, h2, h3⟩, h4⟩ := h; exact ⟨x, h1, h2, h3, h4.symm⟩)
  have hbV := src_ltW hS
  have D0 : Hid (DrS b V.heap.size a len cap V 0 sd V) := ⟨⟨Nat.le_refl _, fun _ _ _ => rfl⟩, Below.refl _ _, hS, hbV, Nat.le_refl _⟩
  have HB0 : Hid (Below b w0 V) := hB
  have S0 : Hid (SpR V.heap.size [] (some ⟨V.heap.size, 0, none⟩) 0 (V.alloc (Obj.cells #[] 43))) := ⟨⟨rfl, .inr ⟨V.heap.size, 0, #[], rfl, Nat.le_refl _, heapNew V _, Nat.le_refl _, by unfold maxLen; omega, rfl, rfl⟩⟩, (fun e he => by cases he), List.Pairwise.nil, by simp⟩
  clear hR hS hB
  go_enter Try.func18, Try.ntmps18
  go_upto_region 2 with fail
  have D1 : Hid (DrS b V.heap.size a len cap V 0 sd (V.alloc (Obj.cells #[] 43))) := D0.out.own rfl (below_alloc _ _)
  generalize V.alloc (Obj.cells #[] 43) = W1 at *
  generalize hH : V.heap.size = H at *
  clear D0
  go_wp2_with fail
  (first | go_at_call 32 | skip)
  refine (HSz.out 0 sd W1 D1.out.src).mono ?_
  rintro e W2 ⟨y, rfl, hy1, hy2, hv2⟩
  subst hv2
  have hw2 : IntKind.i64.wrap (y + 1) = y + 1 := wrap_id _ (by omega) (by omega)
  go_wp2_with fail
  (first | go_at_call 31 | skip)
  refine (HNx.out (y + 1) 0 sd W1 (by omega) (by omega) D1.out.src (HB0.out.trans D1.out.low)).mono ?_
  rintro e W3 ⟨z, at3, s3, rfl, hz, q3, q4, hs3, hb3, ha3⟩
  have hz2 : 0 ≤ z ∧ z < 7 := by obtain ⟨u1, u2⟩ := hz; omega
  have D3 : Hid (DrS b H a len cap V at3 s3 W3) := D1.out.draw (ha3.apart hb3) hb3 hs3
  have S3 : Hid (SpR H [] (some ⟨H, 0, none⟩) 0 W3) := S0.out.apart (ha3.apart hb3) D1.out.bv.1
  clear hs3 hb3 ha3 D1 S0 hz HSz hw2
  go_wp2_with fail
  go_loopw [3, 4] (fun v iv wr => ∃ (E : List SgE) (la : Option Addr) (lk : Nat) (i at' sd : Int), v = .slice la E.length lk ∧ iv = .int .i64 i ∧ 0 ≤ i ∧ i + (E.length : Int) ≤ 6 ∧ (∀ e ∈ E, DrSg e.c) ∧ at' ≤ 6 + 15 * (E.length : Int) ∧ SpR H E la lk wr ∧ DrS b H a len cap V at' sd wr) (fun _ iv _ => (intOf iv).toNat)
  case atStart => exact ⟨[], _, 0, z, at3, s3, rfl, rfl, by omega, by simp; omega, (fun x hx => by cases hx), by simp; omega, S3.out, D3.out⟩
  case round =>
    clear S3 D3
    obtain ⟨E, la, lk, i, at', sd', rfl, rfl, hi4, hLi, hdr, hat, hSp, hDr⟩ := hrel
    have S4 : Hid (SpR H E la lk wr ∧ DrS b H a len cap V at' sd' wr) := ⟨hSp, hDr⟩
    have HD : Hid (∀ e ∈ E, DrSg e.c) := hdr
    clear hSp hDr hdr
    by_cases hc : 0 < i
    · go_upto_region 5 with fail
      obtain ⟨V1, hV1⟩ : ∃ V1, V1 = wr.alloc (Obj.cells #[.string ⟨#[85, 78, 72]⟩, .string ⟨#[76, 73, 78]⟩, .string ⟨#[81, 84, 89]⟩, .string ⟨#[68, 84, 77]⟩] 9) := ⟨_, rfl⟩
      have HV1 : Hid (Below wr.heap.size wr V1 ∧ V1.heap[wr.heap.size]? = some (.cells #[.string ⟨#[85, 78, 72]⟩, .string ⟨#[76, 73, 78]⟩, .string ⟨#[81, 84, 89]⟩, .string ⟨#[68, 84, 77]⟩] 9 (0, 0))) := by
        refine (show _ ∧ _ from ?_)
        rw [hV1]; exact ⟨below_alloc _ _, heapNew _ _⟩
      have S5 : Hid (SpR H E la lk V1 ∧ DrS b H a len cap V at' sd' V1) := ⟨S4.out.1.later HV1.out.1, S4.out.2.own hH.symm (HV1.out.1.mono S4.out.1.low)⟩
      go_wp2_with fail
      (first | go_at_call 33 | skip)
      rw [← hV1]
      clear hV1
      refine (HP4.out at' sd' V1 wr.heap.size (by omega) S5.out.2.src (HB0.out.trans S5.out.2.low) (by have := S4.out.1.low; have := S4.out.2.bv.1; omega) HV1.out.2).mono ?_
      rintro e V2 ⟨tg, at5, s5, htg, rfl, q5, q6, hs5, hb5, ha5⟩
      have S6 : Hid (SpR H E la lk V2 ∧ DrS b H a len cap V at5 s5 V2) := ⟨S5.out.1.apart (ha5.apart hb5) S5.out.2.bv.1, S5.out.2.draw (ha5.apart hb5) hb5 hs5⟩
      have HTg : Hid (tg ∈ tg4) := htg
      clear hs5 hb5 ha5 S5 HV1 S4 htg
      go_upto_region 6 with fail
      have G0 : Hid (SpG H V2.heap.size V2.heap.size E la lk tg [] none 0 (V2.alloc (Obj.cells #[.string tg, .slice none 0 0] 43)) ∧ DrS b H a len cap V at5 s5 (V2.alloc (Obj.cells #[.string tg, .slice none 0 0] 43))) := ⟨S6.out.1.start tg, S6.out.2.own hH.symm ((below_alloc _ _).mono S6.out.1.low)⟩
      generalize V2.alloc (Obj.cells #[.string tg, .slice none 0 0] 43) = V3 at *
      clear S6
      generalize V2.heap.size = gb at *
      go_wp2_with fail
      (first | go_at_call 31 | skip)
      refine (HNx.out 4 at5 s5 V3 (by omega) (by omega) G0.out.2.src (HB0.out.trans G0.out.2.low)).mono ?_
      rintro e V4 ⟨z2, at6, s6, rfl, hzz, q7, q8, hs6, hb6, ha6⟩
      have hz4 : 0 ≤ z2 ∧ z2 < 4 := by obtain ⟨u1, u2⟩ := hzz; omega
      have G4 : Hid (SpG H gb gb E la lk tg [] none 0 V4 ∧ DrS b H a len cap V at6 s6 V4) := ⟨G0.out.1.apart (ha6.apart hb6) G0.out.2.bv.1, G0.out.2.draw (ha6.apart hb6) hb6 hs6⟩
      clear hs6 hb6 ha6 hzz G0
      go_wp2_with fail
      go_loopw [6] (fun iv wq => ∃ (ps : List ByteArray) (pa : Option Addr) (pk : Nat) (j at' sd : Int), iv = .int .i64 j ∧ 0 ≤ j ∧ j + (ps.length : Int) ≤ 3 ∧ (∀ s ∈ ps, s ∈ tx8) ∧ at' ≤ 12 + 15 * (E.length : Int) + 3 * (ps.length : Int) ∧ SpG H gb gb E la lk tg ps pa pk wq ∧ DrS b H a len cap V at' sd wq) (fun iv _ => (intOf iv).toNat)
      case atStart => exact ⟨[], none, 0, z2, at6, s6, rfl, by omega, by simp; omega, (fun x hx => by cases hx), by simp; omega, G4.out.1, G4.out.2⟩
      case round =>
        clear G4
        obtain ⟨ps, pa, pk, j, at7, s7, rfl, hj0, hj3, hps, hat7, hGq, hDq⟩ := hrel
        have G5 : Hid (SpG H gb gb E la lk tg ps pa pk wr ∧ DrS b H a len cap V at7 s7 wr) := ⟨hGq, hDq⟩
        have HPs : Hid (∀ s ∈ ps, s ∈ tx8) := hps
        clear hGq hDq hps
        by_cases hj : 0 < j
        · have hwj : IntKind.i64.wrap (j - 1) = j - 1 := wrap_id _ (by omega) (by omega)
          obtain ⟨i0, hi, hinf⟩ := Option.map_eq_some_iff.1 strInfo
          simp only [Prod.mk.injEq] at hinf
          obtain ⟨hi0, hi1, hi2⟩ := hinf
          have hHb : b < H := G5.out.2.bv.1
          go_upto_region 9 with fail
          refine wp_region_z (S := fun W' => W'.heap[gb]? = wr.heap[gb]?) 8 (by kernel_rfl) rfl (fun hH' => ?_)
          have hH0 : Hid (Apart b wr wr.drew ∧ Below b wr wr.drew ∧ Src wr.drew b a len cap at7 s7) := ⟨⟨Nat.le_refl _, fun _ _ _ => rfl⟩, (Below.refl _ _).drew, G5.out.2.src⟩
          have hgbb : gb ≠ b := by have := G5.out.1.ge; omega
          have hgl : gb < wr.heap.size := blkLt G5.out.1.box
          have Q0 : Hid (wr.drew.heap[gb]? = wr.heap[gb]?) := rfl
          clear hH'
          generalize wr.drew = W0 at *
          refine wpAnyZ_take (i := 0) (v := .pointer (some ⟨gb, 1, none⟩)) rfl (by kernel_rfl) (by kernel_rfl) (by kernel_rfl) (by kernel_rfl) (fun _ _ _ h => h) (Or.inl ⟨by rfl, fun w hSw => by clear hSw; go_simp⟩) Q0.out ?_
          refine wpAnyZ_take (i := 1) (v := .slice pa ps.length pk) rfl (by kernel_rfl) (by kernel_rfl) (by kernel_rfl) (by kernel_rfl) (fun _ _ _ h => h) (Or.inl ⟨by rfl, fun w hSw => by have f0 := blkCell (hSw.trans G5.out.1.box) 1 _ rfl; clear hSw; go_simp⟩) Q0.out ?_
          try simp only [Act.put, List.setIfInBounds_toArray, List.set_cons_zero, List.set_cons_succ, List.getElem_toArray, List.getElem_cons_succ, List.getElem_cons_zero]
          refine wpAnyZ_take (i := 2) (v := .pointer (some ⟨b, 0, none⟩)) rfl (by kernel_rfl) (by kernel_rfl) (by kernel_rfl) (by kernel_rfl) (fun _ _ _ h => h) (Or.inl ⟨by rfl, fun w hSw => by clear hSw; go_simp⟩) Q0.out ?_
          try simp only [Act.put, List.setIfInBounds_toArray, List.set_cons_zero, List.set_cons_succ, List.getElem_toArray, List.getElem_cons_succ, List.getElem_cons_zero]
          refine wpAnyZ_ready (rs := [3]) (by kernel_rfl) (by simp) ?_
          refine AllReadyZ.cons rfl (fun K hK => ?_) AllReadyZ.nil
          go_simp
          obtain ⟨W1', hW1⟩ : ∃ W1', W1' = W0.alloc (Obj.cells #[.string ⟨#[]⟩, .string ⟨#[50, 49]⟩, .string ⟨#[97, 43, 98]⟩, .string ⟨#[105, 116, 39, 115]⟩, .string ⟨#[119, 104, 97, 116, 63]⟩, .string ⟨#[107, 195, 164, 115, 101]⟩, .string ⟨#[49, 50, 63, 51, 43, 39]⟩, .string ⟨#[10]⟩] 9) := ⟨_, rfl⟩
          rw [← hW1]
          have H1 : Hid ((Apart b wr W1' ∧ Below b wr W1') ∧ Src W1' b a len cap at7 s7 ∧ W1'.heap[W0.heap.size]? = some (.cells #[.string ⟨#[]⟩, .string ⟨#[50, 49]⟩, .string ⟨#[97, 43, 98]⟩, .string ⟨#[105, 116, 39, 115]⟩, .string ⟨#[119, 104, 97, 116, 63]⟩, .string ⟨#[107, 195, 164, 115, 101]⟩, .string ⟨#[49, 50, 63, 51, 43, 39]⟩, .string ⟨#[10]⟩] 9 (0, 0))) := by
            have h0 := src_ltW hH0.out.2.2
            refine (show _ ∧ _ ∧ _ from ?_)
            rw [hW1]
            exact ⟨⟨hH0.out.1.trans (apart_alloc b _ _), hH0.out.2.1.alloc (by omega) _⟩, hH0.out.2.2.allocT _, heapNew _ _⟩
          have hqb : W0.heap.size ≠ b := by have := src_ltW hH0.out.2.2; omega
          clear hW1 hH0
          generalize W0.heap.size = q8' at *
          have Q1 : Hid (W1'.heap[gb]? = wr.heap[gb]?) := H1.out.1.1.2 gb hgbb hgl
          refine hK.out _ _ (Or.inr Q1.out) (fun _ => ?_)
          clear hK K
          try simp only [Act.put, List.setIfInBounds_toArray, List.set_cons_zero, List.set_cons_succ, List.getElem_toArray, List.getElem_cons_succ, List.getElem_cons_zero]
          refine wpAnyZ_ready (rs := [4]) (by kernel_rfl) (by simp) ?_
          refine AllReadyZ.cons rfl (fun K hK => ?_) AllReadyZ.nil
          go_simp
          go_at_call 33
          refine (HP8.out at7 s7 W1' q8' (by omega) H1.out.2.1 (HB0.out.trans (G5.out.2.low.trans H1.out.1.2)) hqb H1.out.2.2).mono ?_
          rintro e W2' ⟨x, at8, s8, hx, rfl, q9, q10, hs8, hb8, ha8⟩
          have H2 : Hid ((Apart b wr W2' ∧ Below b wr W2') ∧ Src W2' b a len cap at8 s8) := ⟨⟨H1.out.1.1.trans (ha8.apart hb8), H1.out.1.2.trans hb8⟩, hs8⟩
          have HX : Hid (x ∈ tx8) := hx
          clear hs8 hb8 ha8 hx H1 hqb
          have Q2 : Hid (W2'.heap[gb]? = wr.heap[gb]?) := H2.out.1.1.2 gb hgbb hgl
          refine hK.out _ _ (Or.inr Q2.out) (fun _ => ?_)
          clear hK K
          try simp only [Act.put, List.setIfInBounds_toArray, List.set_cons_zero, List.set_cons_succ, List.getElem_toArray, List.getElem_cons_succ, List.getElem_cons_zero]
          refine wpAnyZ_ready (rs := [5]) (by kernel_rfl) (by simp) ?_
          refine AllReadyZ.cons rfl (fun K hK => ?_) AllReadyZ.nil
          go_simp
          have n3 := heapNew W2' (Obj.cells #[.string x] 9)
          have H3 : Hid ((Apart b wr (W2'.alloc (Obj.cells #[.string x] 9)) ∧ Below b wr (W2'.alloc (Obj.cells #[.string x] 9))) ∧ Src (W2'.alloc (Obj.cells #[.string x] 9)) b a len cap at8 s8) := ⟨⟨H2.out.1.1.trans (apart_alloc b _ _), H2.out.1.2.alloc (by have := src_ltW H2.out.2; omega) _⟩, H2.out.2.allocT _⟩
          generalize W2'.alloc (Obj.cells #[.string x] 9) = W3' at *
          have N3 : Hid (W3'.heap[W2'.heap.size]? = some (.cells #[.string x] 9 (0, 0))) := n3
          clear n3 H2
          generalize W2'.heap.size = q9' at *
          have Q3 : Hid (W3'.heap[gb]? = wr.heap[gb]?) := H3.out.1.1.2 gb hgbb hgl
          refine hK.out _ _ (Or.inr Q3.out) (fun _ => ?_)
          clear hK K
          try simp only [Act.put, List.setIfInBounds_toArray, List.set_cons_zero, List.set_cons_succ, List.getElem_toArray, List.getElem_cons_succ, List.getElem_cons_zero]
          have G6 : Hid (SpG H gb gb E la lk tg ps pa pk W3' ∧ DrS b H a len cap V at8 s8 W3') := ⟨G5.out.1.apart H3.out.1.1 hHb, G5.out.2.draw H3.out.1.1 H3.out.1.2 H3.out.2⟩
          refine wpAnyZ_ready (rs := [6]) (by kernel_rfl) (by simp) ?_
          refine AllReadyZ.cons rfl (fun K hK => ?_) AllReadyZ.nil
          refine step_append_lies _ rfl (.tmp 28) (.tmp 32) 41 rfl gb 9 i0 (.string ⟨#[]⟩) 1 16 Try.underlying41 hi hi0 hi1 hi2 rfl (by decide) (.slice pa ps.length pk) ps.length (strV ps) (by simp [Act.eval]) G6.out.1.rowP ⟨q9', 0, none⟩ 1 1 [.string x] (by simp [Act.eval]) rfl (World.news_of_block N3.out) (by simp [Value.oneCell']) (by omega) (by unfold maxLen; omega) (by omega) G6.out.1.ge.2.2 _ rfl (fun g7 c7 W4' hr7 hg7 _ _ => ?_)
          have hgo : ∀ q, (Value.slice pa ps.length pk).ownBlock = some q → q ≠ gb := fun q hq => offBox G6.out.1.box G6.out.1.rowP (by decide) hq
          have e4 : W4'.heap[gb]? = W3'.heap[gb]? := hg7.block gb (blkLt G6.out.1.box) (fun e => hgo gb e.symm rfl)
          have Q4 : Hid (W4'.heap[gb]? = wr.heap[gb]?) := e4.trans Q3.out
          obtain ⟨P1, P2⟩ := G6.out.1.pushP hr7 hg7
          have G7 : Hid (SpG H gb gb E la lk tg (ps ++ [x]) (some ⟨g7, 0, none⟩) c7 (W4'.setCell ⟨gb, 1, none⟩ (.slice (some ⟨g7, 0, none⟩) (ps.length + 1) c7)) ∧ DrS b H a len cap V at8 s8 (W4'.setCell ⟨gb, 1, none⟩ (.slice (some ⟨g7, 0, none⟩) (ps.length + 1) c7))) := ⟨P1, G6.out.2.own hH.symm P2⟩
          clear P1 P2 hgo hr7 hg7 e4 G6 N3 H3
          refine hK.out _ _ (Or.inr Q4.out) (fun _ => ?_)
          clear hK K
          try simp only [Act.put, List.setIfInBounds_toArray, List.set_cons_zero, List.set_cons_succ, List.getElem_toArray, List.getElem_cons_succ, List.getElem_cons_zero]
          refine wpAnyZ_take (i := 7) (v := .pointer (some ⟨gb, 1, none⟩)) rfl (by kernel_rfl) (by kernel_rfl) (by kernel_rfl) (by kernel_rfl) (fun _ _ _ h => h) (Or.inl ⟨by rfl, fun w hSw => by clear hSw; go_simp⟩) Q4.out ?_
          try simp only [Act.put, List.setIfInBounds_toArray, List.set_cons_zero, List.set_cons_succ, List.getElem_toArray, List.getElem_cons_succ, List.getElem_cons_zero]
          refine wpAnyZ_ready (rs := [8]) (by kernel_rfl) (by simp) ?_
          refine AllReadyZ.cons rfl (fun K hK => ?_) AllReadyZ.nil
          have f1 := blkCell (Q4.out.trans G5.out.1.box) 1 _ rfl
          have f2 := blkFree (Q4.out.trans G5.out.1.box) 1
          go_simp
          generalize W4'.setCell ⟨gb, 1, none⟩ (.slice (some ⟨g7, 0, none⟩) (ps.length + 1) c7) = W5' at *
          clear f1 f2
          refine hK.out _ _ (Or.inl rfl) (fun _ => ?_)
          clear hK K
          try simp only [Act.put, List.setIfInBounds_toArray, List.set_cons_zero, List.set_cons_succ, List.getElem_toArray, List.getElem_cons_succ, List.getElem_cons_zero]
          refine wpAnyZ_done (by kernel_rfl) ?_ _
          clear Q0 Q1 Q2 Q3 Q4 G5
          have HLen : Hid ((ps ++ [x]).length = ps.length + 1) := by show _ = _; simp
          have HP2 : Hid (∀ s ∈ ps ++ [x], s ∈ tx8) := by
            refine (show ∀ s ∈ ps ++ [x], s ∈ tx8 from fun s hs => ?_)
            rcases List.mem_append.1 hs with h | h
            · exact HPs.out s h
            · rw [List.mem_singleton] at h; rw [h]; exact HX.out
          go_wp2_with fail
          go_roundw
          case rel => exact ⟨ps ++ [x], some ⟨g7, 0, none⟩, c7, j - 1, at8, s8, rfl, by omega, by rw [HLen.out]; omega, HP2.out, by rw [HLen.out]; omega, G7.out.1, G7.out.2⟩
          case measure => simp [intOf]; omega
        · have hj9 : ¬ 0 < j := hj
          have hwi : IntKind.i64.wrap (i - 1) = i - 1 := wrap_id _ (by omega) (by omega)
          obtain ⟨i0, hi, hinf⟩ := Option.map_eq_some_iff.1 sgInfo
          simp only [Prod.mk.injEq] at hinf
          obtain ⟨hi0, hi1, hi2⟩ := hinf
          obtain ⟨cg0, cg1, _⟩ := G5.out.1.cells
          have G8 : Hid (SpG H gb gb E la lk tg ps pa pk (wr.alloc (Obj.cells #[.string tg, .slice pa ps.length pk] 43)) ∧ DrS b H a len cap V at7 s7 (wr.alloc (Obj.cells #[.string tg, .slice pa ps.length pk] 43))) := ⟨G5.out.1.later (below_alloc _ _), G5.out.2.own hH.symm ((below_alloc _ _).mono G5.out.1.base.low)⟩
          have HNw : Hid ((wr.alloc (Obj.cells #[.string tg, .slice pa ps.length pk] 43)).heap[wr.heap.size]? = some (.cells #[.string tg, .slice pa ps.length pk] 43 (0, 0))) := heapNew wr (Obj.cells #[.string tg, .slice pa ps.length pk] 43)
          clear G5
          have HLen : Hid ((E ++ [(⟨⟨tg, ps⟩, pa, pk⟩ : SgE)]).length = E.length + 1) := by show _ = _; simp
          have HD2 : Hid (∀ e ∈ E ++ [(⟨⟨tg, ps⟩, pa, pk⟩ : SgE)], DrSg e.c) := by
            refine (show ∀ e ∈ E ++ [(⟨⟨tg, ps⟩, pa, pk⟩ : SgE)], DrSg e.c from fun e he => ?_)
            rcases List.mem_append.1 he with h | h
            · exact HD.out e h
            · rw [List.mem_singleton] at h; rw [h]; exact ⟨HTg.out, by show ps.length ≤ 3; omega, HPs.out⟩
          go_wp2_with (at_builtin; refine wpList_append_lies _ rfl _ _ 23 rfl H 43 i0 (.agg #[.string ⟨#[]⟩, .slice none 0 0]) 2 40 Try.underlying23 hi hi0 hi1 hi2 rfl (by decide) (.slice la E.length lk) _ _ rfl G8.out.1.base.rowL ⟨wr.heap.size, 0, none⟩ 1 1 [.string tg, .slice pa ps.length pk] rfl rfl (World.news_of_block HNw.out) (by simp [Value.oneCell']) (by omega) (by unfold maxLen; omega) (by omega) G8.out.1.base.low _ rfl ?_; intro g9 c9 w9 hr9 hg9 _ _; have S9 : Hid (SpR H (E ++ [⟨⟨tg, ps⟩, pa, pk⟩]) (some ⟨g9, 0, none⟩) c9 w9 ∧ DrS b H a len cap V at7 s7 w9) := (let z := G8.out.1.pushL hr9 hg9; ⟨z.1, G8.out.2.own hH.symm z.2⟩); clear hr9 hg9)
          clear cg0 cg1 G8 HNw
          go_roundw
          case rel => exact ⟨E ++ [⟨⟨tg, ps⟩, pa, pk⟩], some ⟨g9, 0, none⟩, c9, i - 1, at7, s7, by rw [HLen.out], rfl, by omega, by rw [HLen.out]; omega, HD2.out, by rw [HLen.out]; omega, S9.out.1, S9.out.2⟩
          case measure => simp [intOf]; omega
    · have hi9 : ¬ 0 < i := hc
      go_wp2
      go_ret
      exact ⟨E, la, lk, rfl, by omega, HD.out, S4.out.1, S4.out.2.low⟩
end Go.Proofs.Ytjnlghngneonhaa
