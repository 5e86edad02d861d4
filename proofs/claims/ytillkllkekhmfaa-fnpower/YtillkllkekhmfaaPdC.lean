/-
  The specification's PowersOf: what is drawn are right powers.
-/
import Derived.Test.YtillkllkekhmfaaPwG
import Derived.Test.YtillkllkekhmfaaQdA
namespace Go.Proofs.Ytillkllkekhmfaa
open Go.ChangeShapes Go.WideShapes Go.ChangeAt Go.RowKit Go.Deep
set_option linter.unusedVariables false
attribute [local go_sem] run_store_float

/-- Powers as cells. -/
def pwCs : List RPw → List Value
  | [] => []
  | r :: rs => .float .f64 r.re :: .float .f64 r.im :: pwCs rs
theorem pwCs_len : ∀ L, (pwCs L).length = L.length * 2
  | [] => rfl
  | r :: rs => by rw [pwCs, List.length_cons, List.length_cons, pwCs_len rs, List.length_cons]; omega
theorem pwCs_app : ∀ L M, pwCs (L ++ M) = pwCs L ++ pwCs M
  | [], _ => rfl
  | r :: rs, M => by rw [List.cons_append, pwCs, pwCs_app rs M, pwCs]; rfl
theorem pwCs_at : ∀ (L : List RPw) (i : Nat), i < L.length → (pwCs L)[i * 2]? = some (.float .f64 (L.getD i zPw).re) ∧ (pwCs L)[i * 2 + 1]? = some (.float .f64 (L.getD i zPw).im)
  | r :: rs, 0, _ => ⟨rfl, rfl⟩
  | r :: rs, i + 1, h => by
    have q := pwCs_at rs i (by simpa using h)
    rw [pwCs, show (i + 1) * 2 = i * 2 + 1 + 1 by omega]
    exact q
/-- Powers drawn so far, in a row behind V's heap. -/
structure FoP (b : Nat) (a : Option Addr) (len cap : Nat) (V : World) (v : Value) (L : List RPw) (at' sd : Int) (wr : World) : Prop where
  ap : Apart b V wr
  low : Below b V wr
  src : Src wr b a len cap at' sd
  row : wr.ownsRow V.heap.size 43 2 v L.length (pwCs L)
  bv : b < V.heap.size
theorem FoP.start {b : Nat} {a : Option Addr} {len cap : Nat} {V : World} {at' sd : Int} (hs : Src V b a len cap at' sd) : FoP b a len cap V (.slice (some ⟨V.heap.size, 0, none⟩) 0 0) [] at' sd (V.alloc (Obj.cells #[] 43)) :=
  ⟨apart_alloc b V _, (Below.refl _ _).alloc (by have := src_ltW hs; omega) _, hs.allocT _, ⟨rfl, .inr ⟨V.heap.size, 0, #[], rfl, Nat.le_refl _, heapNew V _, Nat.le_refl _, by unfold maxLen; omega, rfl, rfl⟩⟩, src_ltW hs⟩
theorem FoP.step {b : Nat} {a : Option Addr} {len cap : Nat} {V : World} {v : Value} {L : List RPw} {at' sd at2 sd2 : Int} {wr w' : World} (h : FoP b a len cap V v L at' sd wr) (ha : Apart b wr w') (hb : Below b wr w') (hs : Src w' b a len cap at2 sd2) : FoP b a len cap V v L at2 sd2 w' := by
  have hbv := h.bv
  exact ⟨h.ap.trans ha, h.low.trans hb, hs, ownsRow_sameW h.row (fun k hk => ha.2 k (by have := (h.row.lt k hk).1; omega) (h.row.lt k hk).2), h.bv⟩
theorem FoP.later {b : Nat} {a : Option Addr} {len cap : Nat} {V : World} {v : Value} {L : List RPw} {at' sd : Int} {wr w' : World} (h : FoP b a len cap V v L at' sd wr) (hb : Below wr.heap.size wr w') : FoP b a len cap V v L at' sd w' :=
  h.step (later_apart hb) (hb.mono (by have := src_ltW h.src; omega)) (src_sameW h.src (hb.block b (src_ltW h.src)) hb.size)
theorem FoP.push {b : Nat} {a : Option Addr} {len cap : Nat} {V : World} {v : Value} {L : List RPw} {at' sd : Int} {x : RPw} {g c : Nat} {wr w' : World} (h : FoP b a len cap V v L at' sd wr)
    (ho : w'.ownsRow V.heap.size 43 2 (.slice (some ⟨g, 0, none⟩) (L.length + 1) c) (L.length + 1) (pwCs L ++ [.float .f64 x.re, .float .f64 x.im])) (hg : wr.grownBy w' v.ownBlock) : FoP b a len cap V (.slice (some ⟨g, 0, none⟩) (L.length + 1) c) (L ++ [x]) at' sd w' := by
  have hbv := h.bv
  have hk : ∀ k, k < V.heap.size → w'.heap[k]? = wr.heap[k]? := fun k h1 => hg.block k (by have := h.ap.1; omega) (fun e => by have := (h.row.lt k e.symm).1; omega)
  exact ⟨⟨Nat.le_trans h.ap.1 hg.size, fun k h1 h2 => (hk k h2).trans (h.ap.2 k h1 h2)⟩, h.low.grown hg (by have := h.ap.1; omega) (fun k e => by have := (h.row.lt k e).1; omega), src_sameW h.src (hk b hbv) hg.size, by rw [List.length_append, pwCs_app]; exact ho, hbv⟩
theorem FoP.reads {b : Nat} {a : Option Addr} {len cap : Nat} {V : World} {g n c : Nat} {L : List RPw} {at' sd : Int} {wr : World} (h : FoP b a len cap V (.slice (some ⟨g, 0, none⟩) n c) L at' sd wr) (hn : n = L.length) : ReadsPw wr.heap.size wr (some ⟨g, 0, none⟩) L := by
  subst hn
  exact .inr ⟨g, 0, rfl, (h.row.lt g rfl).2, fun i hi => by
    rw [Nat.zero_add]
    have q := pwCs_at L i hi
    exact ⟨by rw [h.row.cellAt _ (by omega)]; exact q.1, by rw [h.row.cellAt _ (by omega)]; exact q.2⟩⟩
theorem FoP.room {b : Nat} {a : Option Addr} {len cap : Nat} {V : World} {g n c : Nat} {L : List RPw} {at' sd : Int} {wr : World} (h : FoP b a len cap V (.slice (some ⟨g, 0, none⟩) n c) L at' sd wr) (hn : n = L.length) : L.length ≤ c := by
  subst hn
  rcases h.row.2 with ⟨q, _⟩ | ⟨g', c', cur, q, _, _, hc, _⟩
  · simp at q
  · simp only [Value.slice.injEq] at q
    omega
/-- All first parts, and all second ones, that can be drawn are told and right. -/
def okRe (i : Nat) : Bool := match floatBits .quo .f64 (floatOfInt .f64 (1 + (i : Int))) 4616189618054758400 with | some r => inF r loP hiP | none => false
def okIm (j : Nat) : Bool := match floatBits .quo .f64 (floatOfInt .f64 ((j : Int) - 80)) 4620693217682128896 with | some r => inF r loP hiP | none => false
theorem okRes : ((List.range 480).all okRe) = true := by decide +kernel
theorem okIms : ((List.range 160).all okIm) = true := by decide +kernel
theorem dr_re {x : Int} (h0 : 0 ≤ x) (h1 : x < 480) : ∃ r, floatBits .quo .f64 (floatOfInt .f64 (1 + x)) 4616189618054758400 = some r ∧ inF r loP hiP = true := by
  obtain ⟨i, rfl⟩ : ∃ i : Nat, x = (i : Int) := ⟨x.toNat, by omega⟩
  have h := okRes
  rw [List.all_eq_true] at h
  have h2 := h i (List.mem_range.2 (by omega))
  unfold okRe at h2
  split at h2
  · rename_i r e
    exact ⟨r, e, h2⟩
  · cases h2
theorem dr_im {x : Int} (h0 : 0 ≤ x) (h1 : x < 160) : ∃ r, floatBits .quo .f64 (floatOfInt .f64 (x - 80)) 4620693217682128896 = some r ∧ inF r loP hiP = true := by
  obtain ⟨i, rfl⟩ : ∃ i : Nat, x = (i : Int) := ⟨x.toNat, by omega⟩
  have h := okIms
  rw [List.all_eq_true] at h
  have h2 := h i (List.mem_range.2 (by omega))
  unfold okIm at h2
  split at h2
  · rename_i r e
    exact ⟨r, e, h2⟩
  · cases h2
theorem pwInfo2 : (Try.prog.info? 43).map (fun i => (i.zero, i.size, i.bytes)) = some (some (.agg #[.float .f64 0, .float .f64 0]), 2, 16) := by kernel_rfl
theorem pwsB_snoc {L : List RPw} {r : RPw} (h : pwsB L = true) (hr : pwB r = true) : pwsB (L ++ [r]) = true := by
  unfold pwsB at *
  rw [List.all_append, h]
  simp [hr]
def PostPowersOf (w : World) (e : Ending) (w' : World) : Prop := ∃ (L : List RPw) (g cp : Nat), e = .returned (.slice (some ⟨g, 0, none⟩) L.length cp) ∧ L.length ≤ 5 ∧ pwsB L = true ∧ (L.length ≤ cp ∧ cp ≤ maxLen) ∧ ReadsPw w'.heap.size w' (some ⟨g, 0, none⟩) L ∧ Below w.heap.size w w'
set_option maxHeartbeats 4000000 in
set_option maxRecDepth 4000 in
theorem PowersOf_any (a : Option Addr) (len cap : Nat) (zs : List Int) (w : World) (hr : RowB w.heap.size w a len zs) :
    Calls Try.prog 15 #[.slice a len cap] w (PostPowersOf w) := by
  have HR : Hid (RowB w.heap.size w a len zs) := hr
  have hsrc := source_any a len cap w hr.1
  have hlen := hr.1
  clear hr
  obtain ⟨b, hbe⟩ : ∃ b, b = w.heap.size := ⟨_, rfl⟩
  have HBe : Hid (b = w.heap.size) := hbe
  rw [← hbe] at HR hsrc
  clear hbe
  have HNx : Hid (∀ (n at' sd : Int) (W : World), n ≤ 256 → at' ≤ 999999999000 → Src W b a len cap at' sd → Below b w W → Calls Try.prog 30 #[.pointer (some ⟨b, 0, none⟩), .int .i64 n] W fun e w' => ∃ x at2 s' : Int, e = .returned (.int .i64 x) ∧ Drawn x n ∧ at' ≤ at2 ∧ at2 ≤ at' + 3 ∧ Src w' b a len cap at2 s' ∧ Below b W w' ∧ Apt b W w') := fun n at' sd W hn ha hS hB => next_anyA b b a len cap zs n at' sd W (Nat.le_refl _) hS (HR.out.below hB) ha hn
  have HNb : Hid (∀ (at' sd : Int) (W : World), at' ≤ 999999999000 → Src W b a len cap at' sd → Below b w W → Calls Try.prog 30 #[.pointer (some ⟨b, 0, none⟩), .int .i64 480] W fun e w' => ∃ x at2 s' : Int, e = .returned (.int .i64 x) ∧ Drawn x 480 ∧ at' ≤ at2 ∧ at2 ≤ at' + 3 ∧ Src w' b a len cap at2 s' ∧ Below b W w' ∧ Apt b W w') := fun at' sd W ha hS hB => next_bigW b b a len cap zs 480 at' sd W (Nat.le_refl _) hS (HR.out.below hB) ha (by omega) (by omega) (by omega)
  have HSz : Hid (∀ (at' sd : Int) (W : World), Src W b a len cap at' sd → Calls Try.prog 31 #[.pointer (some ⟨b, 0, none⟩), .int .i64 5] W fun e w' => ∃ x : Int, e = .returned (.int .i64 x) ∧ 1 ≤ x ∧ x ≤ 5 ∧ W = w') := fun at' sd W hS => (size_src b a len cap 5 at' sd W hS hlen (by omega) (by omega)).mono (fun e w' h => by obtain ⟨⟨x, h1, h2, h3⟩, h4⟩ := h; exact ⟨x, h1, h2, h3, h4.symm⟩)
  obtain ⟨i0, hi, hzz⟩ := Option.map_eq_some_iff.1 pwInfo2
  simp only [Prod.mk.injEq] at hzz
  obtain ⟨hi0, hi1, hi2⟩ := hzz
  clear HR
  have hcv := fun W k => run_convert_int_float (P := Try.prog) W 3 24 .i64 .f64 k (by rw [Try.underlying3]; rfl) Try.underlying24
  go_enter Try.func15, Try.ntmps15
  go_wp2_with fail
  (first | go_at_call 29 | skip)
  refine hsrc.mono ?_
  rintro e w1 ⟨s1, rfl, hs1, hb1⟩
  have HF0 : Hid (FoP b a len cap w1 (.slice (some ⟨w1.heap.size, 0, none⟩) 0 0) [] 0 s1 (w1.alloc (Obj.cells #[] 43))) := FoP.start hs1
  have HB1 : Hid (Below b w w1) := hb1
  clear hs1 hb1 hsrc
  go_upto_region 3 with fail
  obtain ⟨H, hH⟩ : ∃ H, H = w1.heap.size := ⟨_, rfl⟩
  obtain ⟨v1, hv1⟩ : ∃ v1, v1 = w1.alloc (Obj.cells #[] 43) := ⟨_, rfl⟩
  rw [← hv1, ← hH] at HF0 ⊢
  clear hv1 hH
  go_wp2_with fail
  (first | go_at_call 31 | skip)
  refine (HSz.out 0 s1 v1 HF0.out.src).mono ?_
  rintro e v2 ⟨y, rfl, hy1, hy2, hv2⟩
  subst hv2
  have hw2 : IntKind.i64.wrap (y + 1) = y + 1 := wrap_id _ (by omega) (by omega)
  go_wp2_with fail
  (first | go_at_call 30 | skip)
  refine (HNx.out (y + 1) 0 s1 v1 (by omega) (by omega) HF0.out.src (HB1.out.trans HF0.out.low)).mono ?_
  rintro e w3 ⟨z, at3, s3, rfl, hz, q3, q4, hs3, hb3, ha3⟩
  have hz2 : 0 ≤ z ∧ z < 6 := by obtain ⟨u1, u2⟩ := hz; omega
  have HF1 : Hid (FoP b a len cap w1 (.slice (some ⟨H, 0, none⟩) 0 0) [] at3 s3 w3) := HF0.out.step (ha3.apart hb3) hb3 hs3
  clear hs3 hb3 ha3 HF0 hz HSz hw2
  go_wp2_with fail
  go_loopw [4, 5] (fun v iv wr => ∃ (L : List RPw) (g cp : Nat) (i at' sd : Int), v = .slice (some ⟨g, 0, none⟩) L.length cp ∧ iv = .int .i64 i ∧ 0 ≤ i ∧ i + (L.length : Int) ≤ 5 ∧ pwsB L = true ∧ at' ≤ 6 + 6 * (L.length : Int) ∧ FoP b a len cap w1 (.slice (some ⟨g, 0, none⟩) L.length cp) L at' sd wr) (fun _ iv _ => (intOf iv).toNat)
  case atStart => exact ⟨[], H, 0, z, at3, s3, rfl, rfl, by omega, by simp; omega, rfl, by simp; omega, HF1.out⟩
  case round =>
    clear HF1
    obtain ⟨L, g, cp, i, at', sd, rfl, rfl, hi4, hLi, hdr, hat, hF⟩ := hrel
    have HF : Hid (FoP b a len cap w1 (.slice (some ⟨g, 0, none⟩) L.length cp) L at' sd wr) := hF
    have HD : Hid (pwsB L = true) := hdr
    clear hF hdr
    by_cases hc : 0 < i
    · go_wp2_with fail
      (first | go_at_call 30 | skip)
      refine (HNb.out at' sd wr (by omega) HF.out.src (HB1.out.trans HF.out.low)).mono ?_
      rintro e w5 ⟨p, at5, s5, rfl, hp, q5, q6, hs5, hb5, ha5⟩
      have HF5 : Hid (FoP b a len cap w1 (.slice (some ⟨g, 0, none⟩) L.length cp) L at5 s5 w5) := HF.out.step (ha5.apart hb5) hb5 hs5
      have hp2 : 0 ≤ p ∧ p < 480 := by obtain ⟨u1, u2⟩ := hp; omega
      obtain ⟨x, hx1, hx2⟩ := dr_re hp2.1 hp2.2
      have hwp : IntKind.i64.wrap (1 + p) = 1 + p := wrap_id _ (by omega) (by omega)
      have r1 := fun t W => run_float_arith (P := Try.prog) W .quo t .f64 _ _ _ hx1
      clear hs5 hb5 ha5 HF hp hx1
      go_wp2_with fail
      (first | go_at_call 30 | skip)
      refine (HNx.out 160 at5 s5 w5 (by omega) (by omega) HF5.out.src (HB1.out.trans HF5.out.low)).mono ?_
      rintro e w6 ⟨p', at6, s6, rfl, hp', q7, q8, hs6, hb6, ha6⟩
      have HF6' : Hid (FoP b a len cap w1 (.slice (some ⟨g, 0, none⟩) L.length cp) L at6 s6 w6) := HF5.out.step (ha6.apart hb6) hb6 hs6
      have hp3 : 0 ≤ p' ∧ p' < 160 := by obtain ⟨u1, u2⟩ := hp'; omega
      obtain ⟨y', hy1', hy2'⟩ := dr_im hp3.1 hp3.2
      have hwq : IntKind.i64.wrap (p' - 80) = p' - 80 := wrap_id _ (by omega) (by omega)
      have r2 := fun t W => run_float_arith (P := Try.prog) W .quo t .f64 _ _ _ hy1'
      have HD2 : Hid (pwsB (L ++ [⟨x, y'⟩]) = true) := pwsB_snoc HD.out (by unfold pwB; rw [hx2, hy2']; rfl)
      clear hs6 hb6 ha6 HF5 hp' hy1' hx2 hy2' HD
      have HF6 : Hid (FoP b a len cap w1 (.slice (some ⟨g, 0, none⟩) L.length cp) L at6 s6 (w6.alloc (Obj.cells #[.float .f64 x, .float .f64 y'] 43))) := HF6'.out.later (below_alloc _ _)
      have HNw : Hid (∀ j u, [Value.float .f64 x, Value.float .f64 y'][j]? = some u → (w6.alloc (Obj.cells #[.float .f64 x, .float .f64 y'] 43)).cell? ((⟨w6.heap.size, 0, none⟩ : Addr).add j) = some u) := World.news_of_block (heapNew w6 (Obj.cells #[.float .f64 x, .float .f64 y'] 43))
      have HLen : Hid ((L ++ [(⟨x, y'⟩ : RPw)]).length = L.length + 1) := by show _ = _; simp
      have HZb : Hid (w1.heap.size ≤ (w6.alloc (Obj.cells #[.float .f64 x, .float .f64 y'] 43)).heap.size) := HF6.out.ap.1
      clear HF6'
      have hwi : IntKind.i64.wrap (i - 1) = i - 1 := wrap_id _ (by omega) (by omega)
      go_wp2_with (at_builtin; refine wpList_append_lies _ rfl _ _ 40 rfl w1.heap.size 43 i0 (.agg #[.float .f64 0, .float .f64 0]) 2 16 Try.underlying40 hi hi0 hi1 hi2 rfl (by decide) _ _ _ rfl HF6.out.row ⟨w6.heap.size, 0, none⟩ 1 1 [.float .f64 x, .float .f64 y'] rfl rfl HNw.out (by intro u hu; simp at hu; rcases hu with rfl | rfl <;> rfl) (by omega) (by unfold maxLen; omega) (by omega) HZb.out _ rfl ?_; intro g1 cp1 w7 hown1 hgrow1 hat1 hglt1; have HF7 : Hid (FoP b a len cap w1 (.slice (some ⟨g1, 0, none⟩) (L.length + 1) cp1) (L ++ [⟨x, y'⟩]) at6 s6 w7) := HF6.out.push hown1 hgrow1; clear hown1 hgrow1 hat1)
      go_roundw
      case rel => exact ⟨L ++ [⟨x, y'⟩], g1, cp1, i - 1, at6, s6, by rw [HLen.out], rfl, by omega, by rw [HLen.out]; omega, HD2.out, by rw [HLen.out]; omega, by rw [HLen.out]; exact HF7.out⟩
      case measure => simp [intOf]; omega
    · have hi9 : ¬ 0 < i := hc
      have HFin : Hid ((L.length ≤ cp ∧ cp ≤ maxLen) ∧ ReadsPw wr.heap.size wr (some ⟨g, 0, none⟩) L ∧ Below w.heap.size w wr) := ⟨⟨HF.out.room rfl, by
        rcases HF.out.row.2 with ⟨q, _⟩ | ⟨g', c', cur, q, _, _, hc', hm', _⟩
        · simp at q
        · simp only [Value.slice.injEq] at q
          omega⟩, HF.out.reads rfl, by rw [← HBe.out]; exact HB1.out.trans HF.out.low⟩
      have hL5 : L.length ≤ 5 := by omega
      clear HF
      go_wp2
      go_ret
      exact ⟨L, g, cp, rfl, hL5, HD.out, HFin.out.1, HFin.out.2.1, HFin.out.2.2⟩
end Go.Proofs.Ytillkllkekhmfaa
