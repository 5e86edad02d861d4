/-
  The specification's drawn price rows: whatever the code, they are right.
-/
import Derived.Test.YtgfgecpgfcipnaaDrawPrc1
import Derived.Deep.RegionHeld3
namespace Go.Proofs.Ytgfgecpgfcipnaa
open Go.ChangeShapes Go.WideShapes Go.ChangeAt Go.RowKit
set_option linter.unusedVariables false

def PcPost (a : Option Addr) (len cap : Nat) (b : Nat) (w : World) (e : Ending) (w' : World) : Prop := ∃ (rs : List RPr) (g cp : Nat) (at' sd : Int), e = .returned (.slice (some ⟨g, 0, none⟩) rs.length cp) ∧ rs.length ≤ 11 ∧ (∀ r ∈ rs, DrP r) ∧ PcSt w b a len cap (.slice (some ⟨g, 0, none⟩) rs.length cp) rs at' sd w'

set_option maxHeartbeats 8000000 in
set_option maxRecDepth 8000 in
theorem prices_any (b : Nat) (a : Option Addr) (len cap : Nat) (zs : List Int) (seed : Int) (w : World) (hs : Src w b a len cap 0 seed) (hr : RowB b w a len zs) :
    Calls Try.prog 11 #[.pointer (some ⟨b, 0, none⟩)] w (PcPost a len cap b w) := by
  have hlen : len ≤ maxLen := hr.1
  have HR : Hid (RowB b w a len zs) := hr
  have HNx : Hid (∀ (n at' sd : Int) (W : World), n ≤ 256 → at' ≤ 999999999000 → Src W b a len cap at' sd → Below b w W → Calls Try.prog 22 #[.pointer (some ⟨b, 0, none⟩), .int .i64 n] W fun e w' => ∃ x at2 s' : Int, e = .returned (.int .i64 x) ∧ Drawn x n ∧ at' ≤ at2 ∧ at2 ≤ at' + 3 ∧ Src w' b a len cap at2 s' ∧ Below b W w' ∧ Apt b W w') := fun n at' sd W hn ha hS hB => next_anyA b b a len cap zs n at' sd W (Nat.le_refl _) hS (HR.out.below hB) ha hn
  have HAr : Hid (∀ (at' sd : Int) (W : World), at' ≤ 999999999000 → Src W b a len cap at' sd → Below b w W → Calls Try.prog 24 #[.pointer (some ⟨b, 0, none⟩)] W fun e w' => ∃ (j : Nat) (at2 s' : Int), j < 3 ∧ e = .returned (.string (arts.getD j ⟨#[]⟩)) ∧ at' ≤ at2 ∧ at2 ≤ at' + 3 ∧ Src w' b a len cap at2 s' ∧ Below b W w' ∧ Apart b W w') := fun at' sd W ha hS hB => article_any b b a len cap zs at' sd W (Nat.le_refl _) hS (HR.out.below hB) ha
  have HZo : Hid (∀ (at' sd : Int) (W : World), at' ≤ 999999999000 → Src W b a len cap at' sd → Below b w W → Calls Try.prog 25 #[.pointer (some ⟨b, 0, none⟩)] W fun e w' => ∃ (j : Nat) (at2 s' : Int), j < 3 ∧ e = .returned (.string (zons.getD j ⟨#[]⟩)) ∧ at' ≤ at2 ∧ at2 ≤ at' + 3 ∧ Src w' b a len cap at2 s' ∧ Below b W w' ∧ Apart b W w') := fun at' sd W ha hS hB => zone_any b b a len cap zs at' sd W (Nat.le_refl _) hS (HR.out.below hB) ha
  have HT0 : Hid (PcSt w b a len cap (.slice (some ⟨w.heap.size, 0, none⟩) 0 0) [] 0 seed (w.alloc (Obj.cells #[] 36))) := PcSt.start hs
  have HSz : Hid (Calls Try.prog 23 #[.pointer (some ⟨b, 0, none⟩), .int .i64 9] (w.alloc (Obj.cells #[] 36)) fun e w' => (∃ x : Int, e = .returned (.int .i64 x) ∧ 1 ≤ x ∧ x ≤ 9) ∧ w' = w.alloc (Obj.cells #[] 36)) := size_src b a len cap 9 0 seed _ HT0.out.2.1 hlen (by omega) (by omega)
  obtain ⟨i0, hti, hzz⟩ := Option.map_eq_some_iff.1 prInfo
  simp only [Prod.mk.injEq] at hzz
  obtain ⟨hi0, hi1, hi2⟩ := hzz
  clear hs hr
  go_enter Try.func11, Try.ntmps11
  go_wp2_with fail
  (first | go_at_call 23 | skip)
  refine HSz.out.mono ?_
  rintro e w0 ⟨⟨y, rfl, y1, y2⟩, hw0⟩
  rw [hw0]
  clear hw0 w0
  go_wp2_with fail
  (first | go_at_call 22 | skip)
  refine (HNx.out _ _ _ _ (by omega) (by omega) HT0.out.2.1 HT0.out.2.2.2).mono ?_
  rintro e w0 ⟨x0, a0, s0, rfl, hx0, ql0, qu0, hs0, hb0, ha0⟩
  have HT1 : Hid (PcSt w b a len cap (.slice (some ⟨w.heap.size, 0, none⟩) 0 0) [] a0 s0 w0) := HT0.out.step (ha0.apart hb0) hb0 hs0
  have hx00 : 0 ≤ x0 := hx0.1
  have hx01 : x0 ≤ 11 := by rcases hx0.2 with h | h <;> omega
  clear hs0 hb0 ha0 hx0 HT0 HSz
  go_wp2_with fail
  go_loopw [3, 4, 5] (fun v c _ wr => ∃ (rs : List RPr) (g cp : Nat) (i at' sd : Int), v = .slice (some ⟨g, 0, none⟩) rs.length cp ∧ c = .int .i64 i ∧ 0 ≤ i ∧ (rs.length : Int) + i ≤ 11 ∧ at' + 18 * i ≤ 300 ∧ (∀ r ∈ rs, DrP r) ∧ PcSt w b a len cap (.slice (some ⟨g, 0, none⟩) rs.length cp) rs at' sd wr) (fun _ c _ _ => (intOf c).toNat)
  case atStart => exact ⟨[], w.heap.size, 0, x0, a0, s0, rfl, rfl, hx00, by simp; omega, by omega, by simp, HT1.out⟩
  case round =>
    clear HT1
    obtain ⟨rs, g, cp, i, at', sd, rfl, rfl, hi, hil, hat, hdr, hT⟩ := hrel
    have HT : Hid (PcSt w b a len cap (.slice (some ⟨g, 0, none⟩) rs.length cp) rs at' sd wr) := hT
    have HG : Hid (∀ r ∈ rs, DrP r) := hdr
    have hat0 : 0 ≤ at' := hT.2.1.2.2.2.2.2.2.1
    clear hT hdr
    by_cases hz : i = 0
    · subst hz
      go_wp2
      go_ret
      exact ⟨rs, g, cp, at', sd, rfl, by omega, HG.out, HT.out⟩
    · have hpos : 1 ≤ i := by omega
      clear hz
      go_wp2_with fail
      (first | go_at_call 22 | skip)
      refine (HNx.out 50 at' sd wr (by omega) (by omega) HT.out.2.1 HT.out.2.2.2).mono ?_
      rintro e w1 ⟨x1, a1, s1, rfl, hx1, ql1, qu1, hs1, hb1, ha1⟩
      have HT1 : Hid (PcSt w b a len cap (.slice (some ⟨g, 0, none⟩) rs.length cp) rs a1 s1 w1) := HT.out.step (ha1.apart hb1) hb1 hs1
      have d1 : 0 ≤ x1 ∧ x1 ≤ 49 := ⟨hx1.1, by rcases hx1.2 with h | h <;> omega⟩
      obtain ⟨d10, d11⟩ := d1
      clear hs1 hb1 ha1 hx1
      go_wp2_with fail
      (first | go_at_call 24 | skip)
      refine (HAr.out a1 s1 w1 (by omega) HT1.out.2.1 HT1.out.2.2.2).mono ?_
      rintro e w2 ⟨ja, a2, s2, hja, rfl, ql2, qu2, hs2, hb2, ha2⟩
      have HT2 : Hid (PcSt w b a len cap (.slice (some ⟨g, 0, none⟩) rs.length cp) rs a2 s2 w2) := HT1.out.step ha2 hb2 hs2
      have HP : Hid (∃ j, j < 3 ∧ arts.getD ja ⟨#[]⟩ = arts.getD j ⟨#[]⟩) := ⟨ja, hja, rfl⟩
      clear hs2 hb2 ha2 hja
      generalize arts.getD ja ⟨#[]⟩ = p at *
      go_wp2_with fail
      (first | go_at_call 25 | skip)
      refine (HZo.out a2 s2 w2 (by omega) HT2.out.2.1 HT2.out.2.2.2).mono ?_
      rintro e w3 ⟨jz, a3, s3, hjz, rfl, ql3, qu3, hs3, hb3, ha3⟩
      have HT3 : Hid (PcSt w b a len cap (.slice (some ⟨g, 0, none⟩) rs.length cp) rs a3 s3 w3) := HT2.out.step ha3 hb3 hs3
      have HQ : Hid (∃ j, j < 3 ∧ zons.getD jz ⟨#[]⟩ = zons.getD j ⟨#[]⟩) := ⟨jz, hjz, rfl⟩
      clear hs3 hb3 ha3 hjz
      generalize zons.getD jz ⟨#[]⟩ = q at *
      go_wp2_with fail
      (first | go_at_call 22 | skip)
      refine (HNx.out 3 a3 s3 w3 (by omega) (by omega) HT3.out.2.1 HT3.out.2.2.2).mono ?_
      rintro e w4 ⟨x4, a4, s4, rfl, hx4, ql4, qu4, hs4, hb4, ha4⟩
      have HT4 : Hid (PcSt w b a len cap (.slice (some ⟨g, 0, none⟩) rs.length cp) rs a4 s4 w4) := HT3.out.step (ha4.apart hb4) hb4 hs4
      have d4 : 0 ≤ x4 ∧ x4 ≤ 2 := ⟨hx4.1, by rcases hx4.2 with h | h <;> omega⟩
      obtain ⟨d40, d41⟩ := d4
      clear hs4 hb4 ha4 hx4
      go_wp2_with fail
      (first | go_at_call 22 | skip)
      refine (HNx.out 60 a4 s4 w4 (by omega) (by omega) HT4.out.2.1 HT4.out.2.2.2).mono ?_
      rintro e w5 ⟨x5, a5, s5, rfl, hx5, ql5, qu5, hs5, hb5, ha5⟩
      have HT5 : Hid (PcSt w b a len cap (.slice (some ⟨g, 0, none⟩) rs.length cp) rs a5 s5 w5) := HT4.out.step (ha5.apart hb5) hb5 hs5
      have d5 : 0 ≤ x5 ∧ x5 ≤ 59 := ⟨hx5.1, by rcases hx5.2 with h | h <;> omega⟩
      obtain ⟨d50, d51⟩ := d5
      clear hs5 hb5 ha5 hx5
      go_wp2_with fail
      (first | go_at_call 22 | skip)
      refine (HNx.out 9 a5 s5 w5 (by omega) (by omega) HT5.out.2.1 HT5.out.2.2.2).mono ?_
      rintro e w6 ⟨x6, a6, s6, rfl, hx6, ql6, qu6, hs6, hb6, ha6⟩
      have HT6 : Hid (PcSt w b a len cap (.slice (some ⟨g, 0, none⟩) rs.length cp) rs a6 s6 w6) := HT5.out.step (ha6.apart hb6) hb6 hs6
      have d6 : 0 ≤ x6 ∧ x6 ≤ 8 := ⟨hx6.1, by rcases hx6.2 with h | h <;> omega⟩
      obtain ⟨d60, d61⟩ := d6
      clear hs6 hb6 ha6 hx6 HT HT1 HT2 HT3 HT4 HT5
      have hrl : rs.length ≤ 10 := by omega
      have HT7 : Hid (PcSt w b a len cap (.slice (some ⟨g, 0, none⟩) rs.length cp) rs a6 s6 (w6.alloc (Obj.cells #[.string p, .string q, .int .i64 (1 + x4), .int .i64 x1, .int .i64 (x1 + 1 + x5), .int .i64 (50 + 10 * x6)] 36))) := HT6.out.later (below_alloc _ _)
      have HD : Hid (∀ r ∈ rs ++ [(⟨p, q, 1 + x4, x1, x1 + 1 + x5, 50 + 10 * x6⟩ : RPr)], DrP r) := fun r hr => by
        rcases List.mem_append.1 hr with h | h
        · exact HG.out r h
        · rw [List.mem_singleton.1 h]
          exact ⟨HP.out, HQ.out, by dsimp only; omega, by dsimp only; omega, d10, by dsimp only; omega, by dsimp only; omega, by dsimp only; omega, by dsimp only; omega⟩
      clear HG
      go_wp2_with (at_builtin; refine wpList_append_lies _ rfl _ _ 23 rfl (b + 1) 36 i0 (.agg #[.string ⟨#[]⟩, .string ⟨#[]⟩, .int .i64 0, .int .i64 0, .int .i64 0, .int .i64 0]) 6 64 Try.underlying23 hti hi0 hi1 hi2 rfl (by decide) _ _ _ rfl HT7.out.1 ⟨w6.heap.size, 0, none⟩ 1 1 [.string p, .string q, .int .i64 (1 + x4), .int .i64 x1, .int .i64 (x1 + 1 + x5), .int .i64 (50 + 10 * x6)] rfl rfl (World.news_of_block (heapNew w6 _)) (oneRowP (⟨p, q, 1 + x4, x1, x1 + 1 + x5, 50 + 10 * x6⟩ : RPr)) (by omega) (by unfold maxLen; omega) (by omega) HT7.out.2.2.1 _ rfl ?_; intro g7 cp7 W7 own7 grow7 hat7 hlt7; have HT8 : Hid (PcSt w b a len cap (.slice (some ⟨g7, 0, none⟩) (rs.length + 1) cp7) (rs ++ [(⟨p, q, 1 + x4, x1, x1 + 1 + x5, 50 + 10 * x6⟩ : RPr)]) a6 s6 W7) := HT7.out.push (r := (⟨p, q, 1 + x4, x1, x1 + 1 + x5, 50 + 10 * x6⟩ : RPr)) own7 grow7; clear own7 grow7 hat7 hlt7)
      go_roundw
      case rel => exact ⟨rs ++ [(⟨p, q, 1 + x4, x1, x1 + 1 + x5, 50 + 10 * x6⟩ : RPr)], g7, cp7, i - 1, a6, s6, by rw [List.length_append]; rfl, by go_num, by omega, by rw [List.length_append]; simp; omega, by omega, HD.out, by rw [List.length_append]; exact HT8.out⟩
      case measure => simp [intOf]; omega

def RowsPost (w : World) (e : Ending) (w' : World) : Prop := ∃ (rs : List RPr) (g cp : Nat), e = .returned (.slice (some ⟨g, 0, none⟩) rs.length cp) ∧ rs.length ≤ 11 ∧ (∀ r ∈ rs, DrP r) ∧ ReadsPr w'.heap.size w' (some ⟨g, 0, none⟩) rs ∧ Below w.heap.size w w'
theorem rowsOf_any (a : Option Addr) (len cap : Nat) (zs : List Int) (w : World) (hr : RowB w.heap.size w a len zs) :
    Calls Try.prog 4 #[.slice a len cap] w (RowsPost w) := by
  have HR : Hid (RowB w.heap.size w a len zs) := hr
  have hlen : len ≤ maxLen := hr.1
  clear hr
  go_enter Try.func4, Try.ntmps4
  go_wp2_with fail
  (first | go_at_call 10 | skip)
  refine (source_any a len cap w hlen).mono ?_
  rintro e w1 ⟨sd1, rfl, hs1, hb1⟩
  go_wp2_with fail
  (first | go_at_call 11 | skip)
  refine (prices_any w.heap.size a len cap zs sd1 w1 hs1 (HR.out.below hb1)).mono ?_
  rintro e w2 ⟨rs, g, cp, at', sd, rfl, hl, hd, hT⟩
  have HX : Hid (rs.length ≤ 11 ∧ (∀ r ∈ rs, DrP r) ∧ ReadsPr w2.heap.size w2 (some ⟨g, 0, none⟩) rs ∧ Below w.heap.size w w2) := ⟨hl, hd, prc_reads hT.1, hb1.trans hT.2.2.2⟩
  clear hl hd hT hs1 hb1
  go_wp2
  go_ret
  exact ⟨rs, g, cp, rfl, HX.out⟩
end Go.Proofs.Ytgfgecpgfcipnaa
