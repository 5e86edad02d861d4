/-
  The specification's TraceOf: what is drawn is a right trace of few, near values; what is missing is any number that is none.
-/
import Derived.Test.YtillkllkekhmfaaFlS
import Derived.Test.YtillkllkekhmfaaQdA
import Derived.Deep.Slices
namespace Go.Proofs.Ytillkllkekhmfaa
open Go.ChangeShapes Go.WideShapes Go.ChangeAt Go.RowKit Go.Deep
set_option linter.unusedVariables false
attribute [local go_sem] run_store_float

/-- What stands for a number that is none: the tape's word. -/
def nanQ : Question := .nanBits .f64 0 0
def nanR (W : World) : Nat := nanQ.cut (W.tape W.drawn nanQ)
theorem nan_ms (W : World) : msF (nanR W) = true := by
  have key : ∀ t : Nat, msF ((t % 2) * 9223372036854775808 + 9218868437227405312 + 1 + (t / 2) % 4503599627370495) = true := fun t => by
    unfold msF kF keyW Ieee.Format.read
    have e1 : (FloatKind.format .f64).signWeight = 9223372036854775808 := by decide +kernel
    have e2 : (FloatKind.format .f64).binade = 4503599627370496 := by decide +kernel
    have e3 : (FloatKind.format .f64).infRung = 9218868437227405312 := by decide +kernel
    dsimp only
    rw [e1, e2, e3]
    have h1 : ((t % 2) * 9223372036854775808 + 9218868437227405312 + 1 + (t / 2) % 4503599627370495) % 9223372036854775808 = 9218868437227405312 + 1 + (t / 2) % 4503599627370495 := by omega
    rw [h1, if_neg (by omega), if_neg (by omega), if_neg (by omega)]
    rfl
  exact key _
theorem run_nan {P : Program} (t : TypeId) (W : World) : (binOp .quo t (.float .f64 0) (.float .f64 0)).run P W = .ok (.float .f64 (nanR W)) W.drew := by
  have h : (FloatKind.format .f64).div 0 0 = none := by decide +kernel
  simp [binOp, Op.floatArith, h]
  rw [if_neg (by decide)]
  rfl
theorem none_any (w : World) : Calls Try.prog 52 #[] w fun e w' => ∃ r, e = .returned (.float .f64 r) ∧ msF r = true ∧ w' = w.drew := by
  have r1 := fun t W => run_nan (P := Try.prog) t W
  go_enter Try.func52, Try.ntmps52
  go_wp2
  go_ret
  exact ⟨_, rfl, nan_ms _, rfl⟩

/-- The values that are drawn. -/
def sixF : List Nat := [0, 13826050856027422720, 4619567317775286272, 4652007308841189376, 13875379345695965184, 4619566191875379429]
def tenF (i : Nat) : Nat := (floatBits .quo .f64 (floatOfInt .f64 ((i : Int) - 60)) 4621819117588971520).getD 0
def drV : List Nat := sixF ++ (List.range 200).map tenF
def okDr (x : Nat) : Prop := msF x = true ∨ x ∈ drV
theorem drV_ok : drV.all dgF = true := by decide +kernel
theorem okDr_ok {x : Nat} (h : okDr x) : okF x = true := by
  unfold okF
  rcases h with h | h
  · rw [h]; rfl
  · have := drV_ok
    rw [List.all_eq_true] at this
    rw [this x h]
    simp
def okTen (i : Nat) : Bool := (floatBits .quo .f64 (floatOfInt .f64 ((i : Int) - 60)) 4621819117588971520).isSome
theorem okTens : ((List.range 200).all okTen) = true := by decide +kernel
theorem ten_some {x : Int} (h0 : 0 ≤ x) (h1 : x < 200) : ∃ r, floatBits .quo .f64 (floatOfInt .f64 (x - 60)) 4621819117588971520 = some r ∧ okDr r := by
  obtain ⟨i, rfl⟩ : ∃ i : Nat, x = (i : Int) := ⟨x.toNat, by omega⟩
  have h := okTens
  rw [List.all_eq_true] at h
  have h2 := h i (List.mem_range.2 (by omega))
  obtain ⟨r, hr⟩ := Option.isSome_iff_exists.1 h2
  refine ⟨r, hr, .inr (List.mem_append_right _ (List.mem_map.2 ⟨i, List.mem_range.2 (by omega), ?_⟩))⟩
  unfold tenF
  rw [hr]; rfl
/-- What the limits are. -/
def hiOK (hi lo : Nat) : Prop := ∃ i j : Nat, i < 8 ∧ j < 4 ∧ lo = floatOfInt .f64 (i : Int) ∧ floatBits .add .f64 lo (floatOfInt .f64 (j : Int)) = some hi
def okHi (i j : Nat) : Bool := (floatBits .add .f64 (floatOfInt .f64 (i : Int)) (floatOfInt .f64 (j : Int))).isSome
theorem okHis : ((List.range 8).all fun i => (List.range 4).all fun j => okHi i j) = true := by decide +kernel
theorem hi_some {x y : Int} (h0 : 0 ≤ x) (h1 : x < 8) (h2 : 0 ≤ y) (h3 : y < 4) : ∃ r, floatBits .add .f64 (floatOfInt .f64 x) (floatOfInt .f64 y) = some r ∧ hiOK r (floatOfInt .f64 x) := by
  obtain ⟨i, rfl⟩ : ∃ i : Nat, x = (i : Int) := ⟨x.toNat, by omega⟩
  obtain ⟨j, rfl⟩ : ∃ i : Nat, y = (i : Int) := ⟨y.toNat, by omega⟩
  have h := okHis
  rw [List.all_eq_true] at h
  have h4 := h i (List.mem_range.2 (by omega))
  rw [List.all_eq_true] at h4
  have h5 := h4 j (List.mem_range.2 (by omega))
  obtain ⟨r, hr⟩ := Option.isSome_iff_exists.1 h5
  exact ⟨r, hr, i, j, by omega, by omega, rfl, hr⟩
set_option maxHeartbeats 4000000 in
theorem degree_draw (b : Nat) (a : Option Addr) (len cap : Nat) (zs : List Int) (w : World) (hR : RowB b w a len zs) (at' sd : Int) (W : World) (ha : at' ≤ 999999990000) (hS : Src W b a len cap at' sd) (hB : Below b w W) :
    Calls Try.prog 32 #[.pointer (some ⟨b, 0, none⟩)] W fun e w' => ∃ (x : Nat) (at2 s' : Int), e = .returned (.float .f64 x) ∧ okDr x ∧ at' ≤ at2 ∧ at2 ≤ at' + 6 ∧ Src w' b a len cap at2 s' ∧ Below b W w' ∧ Apart b W w' := by
  have HNx : Hid (∀ (n at' sd : Int) (W : World), n ≤ 256 → at' ≤ 999999999000 → Src W b a len cap at' sd → Below b w W → Calls Try.prog 30 #[.pointer (some ⟨b, 0, none⟩), .int .i64 n] W fun e w' => ∃ x at2 s' : Int, e = .returned (.int .i64 x) ∧ Drawn x n ∧ at' ≤ at2 ∧ at2 ≤ at' + 3 ∧ Src w' b a len cap at2 s' ∧ Below b W w' ∧ Apt b W w') := fun n at' sd W hn ha hS hB => next_anyA b b a len cap zs n at' sd W (Nat.le_refl _) hS (hR.below hB) ha hn
  have HS : Hid (Src W b a len cap at' sd ∧ Below b w W) := ⟨hS, hB⟩
  have HNo : Hid (∀ W, Calls Try.prog 52 #[] W fun e w' => ∃ r, e = .returned (.float .f64 r) ∧ msF r = true ∧ w' = W.drew) := none_any
  have hcv := fun W k => run_convert_int_float (P := Try.prog) W 3 24 .i64 .f64 k (by rw [Try.underlying3]; rfl) Try.underlying24
  clear hR hS hB
  go_enter Try.func32, Try.ntmps32
  go_wp2_with fail
  (first | go_at_call 30 | skip)
  refine (HNx.out 10 at' sd W (by omega) (by omega) HS.out.1 HS.out.2).mono ?_
  rintro e w1 ⟨p, at1, s1, rfl, hp, q1, q2, hs1, hb1, ha1⟩
  have H1 : Hid (Src w1 b a len cap at1 s1 ∧ Below b W w1 ∧ Apart b W w1) := ⟨hs1, hb1, ha1.apart hb1⟩
  clear hs1 hb1 ha1 hp
  by_cases hp0 : p = 0
  · subst hp0
    go_wp2_with fail
    (first | go_at_call 52 | skip)
    refine (HNo.out w1).mono ?_
    rintro e w2 ⟨r, rfl, hr, rfl⟩
    go_wp2
    go_ret
    exact ⟨r, at1, s1, rfl, .inl hr, q1, by omega, H1.out.1, H1.out.2.1.drew, H1.out.2.2⟩
  · have hp0' : (p == 0) = false := by simpa using hp0
    by_cases hp1 : p = 1
    · subst hp1
      go_upto_region 5 with fail
      obtain ⟨V, hV⟩ : ∃ V, V = w1.alloc (Obj.cells #[.float .f64 0, .float .f64 13826050856027422720, .float .f64 4619567317775286272, .float .f64 4652007308841189376, .float .f64 13875379345695965184, .float .f64 4619566191875379429] 24) := ⟨_, rfl⟩
      have HVb : Hid (Below w1.heap.size w1 V ∧ V.heap[w1.heap.size]? = some (.cells #[.float .f64 0, .float .f64 13826050856027422720, .float .f64 4619567317775286272, .float .f64 4652007308841189376, .float .f64 13875379345695965184, .float .f64 4619566191875379429] 24 (0, 0))) := by
        refine (show _ ∧ _ from ?_)
        rw [hV]; exact ⟨below_alloc _ _, heapNew _ _⟩
      have H2 : Hid (Src V b a len cap at1 s1 ∧ Below b W V ∧ Apart b W V) := by
        have h0 := src_ltW H1.out.1
        have h3 := HVb.out.1.mono (show b ≤ w1.heap.size by omega)
        exact ⟨src_sameW H1.out.1 (HVb.out.1.block b h0) HVb.out.1.size, H1.out.2.1.trans h3, H1.out.2.2.trans ⟨HVb.out.1.size, fun k _ hk => HVb.out.1.block k hk⟩⟩
      go_wp2_with fail
      (first | go_at_call 30 | skip)
      rw [← hV]
      clear hV
      refine (HNx.out 6 at1 s1 V (by omega) (by omega) H2.out.1 (HS.out.2.trans H2.out.2.1)).mono ?_
      rintro e w2 ⟨y, at2, s2, rfl, hy, q3, q4, hs2, hb2, ha2⟩
      have hy2 : 0 ≤ y ∧ y < 6 := by obtain ⟨u1, u2⟩ := hy; omega
      obtain ⟨k, rfl⟩ : ∃ k : Nat, y = (k : Int) := ⟨y.toNat, by omega⟩
      have hk6 : k < 6 := by omega
      have hblk : w2.heap[w1.heap.size]? = some (.cells #[.float .f64 0, .float .f64 13826050856027422720, .float .f64 4619567317775286272, .float .f64 4652007308841189376, .float .f64 13875379345695965184, .float .f64 4619566191875379429] 24 (0, 0)) := (ha2 _ (by have := src_ltW H1.out.1; omega)).trans HVb.out.2
      have hk' : k = 0 ∨ k = 1 ∨ k = 2 ∨ k = 3 ∨ k = 4 ∨ k = 5 := by omega
      have hcell : w2.cell? ⟨w1.heap.size, k, none⟩ = some (.float .f64 (sixF.getD k 0)) := by
        rcases hk' with rfl | rfl | rfl | rfl | rfl | rfl <;> exact blkCell hblk _ _ rfl
      have hmem : sixF.getD k 0 ∈ sixF := by
        rcases hk' with rfl | rfl | rfl | rfl | rfl | rfl <;> decide
      have HM : Hid (sixF.getD k 0 ∈ sixF) := hmem
      have H3 : Hid (Src w2 b a len cap at2 s2 ∧ Below b W w2 ∧ Apart b W w2) := ⟨hs2, H2.out.2.1.trans hb2, H2.out.2.2.trans (ha2.apart hb2)⟩
      clear hs2 hb2 ha2 hy hk' hblk hmem H2 HVb H1
      generalize sixF.getD k 0 = xv at *
      go_wp2
      go_ret
      exact ⟨xv, at2, s2, rfl, .inr (List.mem_append_left _ HM.out), by omega, by omega, H3.out.1, H3.out.2.1, H3.out.2.2⟩
    · have hp1' : (p == 1) = false := by simpa using hp1
      go_wp2_with fail
      (first | go_at_call 30 | skip)
      refine (HNx.out 200 at1 s1 w1 (by omega) (by omega) H1.out.1 (HS.out.2.trans H1.out.2.1)).mono ?_
      rintro e w2 ⟨y, at2, s2, rfl, hy, q3, q4, hs2, hb2, ha2⟩
      have hy2 : 0 ≤ y ∧ y < 200 := by obtain ⟨u1, u2⟩ := hy; omega
      obtain ⟨r, hr, hok⟩ := ten_some hy2.1 hy2.2
      have hw : IntKind.i64.wrap (y - 60) = y - 60 := wrap_id _ (by omega) (by omega)
      have r1 := fun t W => run_float_arith (P := Try.prog) W .quo t .f64 _ _ _ hr
      have H2 : Hid (Src w2 b a len cap at2 s2 ∧ Below b W w2 ∧ Apart b W w2) := ⟨hs2, H1.out.2.1.trans hb2, H1.out.2.2.trans (ha2.apart hb2)⟩
      clear hs2 hb2 ha2 hr hy
      go_wp2
      go_ret
      exact ⟨r, at2, s2, rfl, hok, by omega, by omega, H2.out.1, H2.out.2.1, H2.out.2.2⟩

theorem flInfo2 : (Try.prog.info? 24).map (fun i => (i.zero, i.size, i.bytes)) = some (some (.float .f64 0), 1, 8) := by kernel_rfl
def fV (x : Nat) : Value := .float .f64 x
/-- A trace drawn so far, in a row behind V's heap. -/
structure FoF (b : Nat) (a : Option Addr) (len cap : Nat) (V : World) (v : Value) (L : List Nat) (at' sd : Int) (wr : World) : Prop where
  ap : Apart b V wr
  low : Below b V wr
  src : Src wr b a len cap at' sd
  row : wr.ownsRow V.heap.size 24 1 v L.length (L.map fV)
  bv : b < V.heap.size
theorem FoF.start {b : Nat} {a : Option Addr} {len cap : Nat} {V : World} {at' sd : Int} (hs : Src V b a len cap at' sd) : FoF b a len cap V (.slice (some ⟨V.heap.size, 0, none⟩) 0 0) [] at' sd (V.alloc (Obj.cells #[] 24)) :=
  ⟨apart_alloc b V _, (Below.refl _ _).alloc (by have := src_ltW hs; omega) _, hs.allocT _, ⟨rfl, .inr ⟨V.heap.size, 0, #[], rfl, Nat.le_refl _, heapNew V _, Nat.le_refl _, by unfold maxLen; omega, rfl, rfl⟩⟩, src_ltW hs⟩
theorem FoF.step {b : Nat} {a : Option Addr} {len cap : Nat} {V : World} {v : Value} {L : List Nat} {at' sd at2 sd2 : Int} {wr w' : World} (h : FoF b a len cap V v L at' sd wr) (ha : Apart b wr w') (hb : Below b wr w') (hs : Src w' b a len cap at2 sd2) : FoF b a len cap V v L at2 sd2 w' := by
  have hbv := h.bv
  exact ⟨h.ap.trans ha, h.low.trans hb, hs, ownsRow_sameW h.row (fun k hk => ha.2 k (by have := (h.row.lt k hk).1; omega) (h.row.lt k hk).2), h.bv⟩
theorem FoF.later {b : Nat} {a : Option Addr} {len cap : Nat} {V : World} {v : Value} {L : List Nat} {at' sd : Int} {wr w' : World} (h : FoF b a len cap V v L at' sd wr) (hb : Below wr.heap.size wr w') : FoF b a len cap V v L at' sd w' :=
  h.step (later_apart hb) (hb.mono (by have := src_ltW h.src; omega)) (src_sameW h.src (hb.block b (src_ltW h.src)) hb.size)
theorem FoF.push {b : Nat} {a : Option Addr} {len cap : Nat} {V : World} {v : Value} {L : List Nat} {at' sd : Int} {x : Nat} {g c : Nat} {wr w' : World} (h : FoF b a len cap V v L at' sd wr)
    (ho : w'.ownsRow V.heap.size 24 1 (.slice (some ⟨g, 0, none⟩) (L.length + 1) c) (L.length + 1) (L.map fV ++ [.float .f64 x])) (hg : wr.grownBy w' v.ownBlock) : FoF b a len cap V (.slice (some ⟨g, 0, none⟩) (L.length + 1) c) (L ++ [x]) at' sd w' := by
  have hbv := h.bv
  have hk : ∀ k, k < V.heap.size → w'.heap[k]? = wr.heap[k]? := fun k h1 => hg.block k (by have := h.ap.1; omega) (fun e => by have := (h.row.lt k e.symm).1; omega)
  exact ⟨⟨Nat.le_trans h.ap.1 hg.size, fun k h1 h2 => (hk k h2).trans (h.ap.2 k h1 h2)⟩, h.low.grown hg (by have := h.ap.1; omega) (fun k e => by have := (h.row.lt k e).1; omega), src_sameW h.src (hk b hbv) hg.size, by rw [List.length_append, List.map_append]; exact ho, hbv⟩
theorem FoF.reads {b : Nat} {a : Option Addr} {len cap : Nat} {V : World} {g n c : Nat} {L : List Nat} {at' sd : Int} {wr : World} (h : FoF b a len cap V (.slice (some ⟨g, 0, none⟩) n c) L at' sd wr) (hn : n = L.length) : g < wr.heap.size ∧ FltsAt wr g 0 L := by
  subst hn
  exact ⟨(h.row.lt g rfl).2, fun i hi => by
    rw [Nat.zero_add, h.row.cellAt _ (by omega)]
    simp [fV, List.getD_eq_getElem?_getD, hi]⟩
theorem FoF.room {b : Nat} {a : Option Addr} {len cap : Nat} {V : World} {g n c : Nat} {L : List Nat} {at' sd : Int} {wr : World} (h : FoF b a len cap V (.slice (some ⟨g, 0, none⟩) n c) L at' sd wr) (hn : n = L.length) : L.length ≤ c := by
  subst hn
  rcases h.row.2 with ⟨q, _⟩ | ⟨g', c', cur, q, _, _, hc, _⟩
  · simp at q
  · simp only [Value.slice.injEq] at q
    omega
def PostTraceOf (w : World) (e : Ending) (w' : World) : Prop := ∃ (L : List Nat) (g cp hi lo : Nat) (hold : Int), e = .returned (.tuple #[.slice (some ⟨g, 0, none⟩) L.length cp, .float .f64 hi, .float .f64 lo, .int .i64 hold]) ∧ L.length ≤ 25 ∧ (∀ x ∈ L, okDr x) ∧ hiOK hi lo ∧ (1 ≤ hold ∧ hold ≤ 3) ∧ (L.length ≤ cp ∧ cp ≤ maxLen) ∧ g < w'.heap.size ∧ FltsAt w' g 0 L ∧ Below w.heap.size w w'
set_option maxHeartbeats 4000000 in
set_option maxRecDepth 4000 in
theorem TraceOf_any (a : Option Addr) (len cap : Nat) (zs : List Int) (w : World) (hr : RowB w.heap.size w a len zs) :
    Calls Try.prog 9 #[.slice a len cap] w (PostTraceOf w) := by
  have HR : Hid (RowB w.heap.size w a len zs) := hr
  have hsrc := source_any a len cap w hr.1
  have hlen := hr.1
  clear hr
  obtain ⟨b, hbe⟩ : ∃ b, b = w.heap.size := ⟨_, rfl⟩
  have HBe : Hid (b = w.heap.size) := hbe
  rw [← hbe] at HR hsrc
  clear hbe
  have HNx : Hid (∀ (n at' sd : Int) (W : World), n ≤ 256 → at' ≤ 999999999000 → Src W b a len cap at' sd → Below b w W → Calls Try.prog 30 #[.pointer (some ⟨b, 0, none⟩), .int .i64 n] W fun e w' => ∃ x at2 s' : Int, e = .returned (.int .i64 x) ∧ Drawn x n ∧ at' ≤ at2 ∧ at2 ≤ at' + 3 ∧ Src w' b a len cap at2 s' ∧ Below b W w' ∧ Apt b W w') := fun n at' sd W hn ha hS hB => next_anyA b b a len cap zs n at' sd W (Nat.le_refl _) hS (HR.out.below hB) ha hn
  have HDg : Hid (∀ (at' sd : Int) (W : World), at' ≤ 999999990000 → Src W b a len cap at' sd → Below b w W → Calls Try.prog 32 #[.pointer (some ⟨b, 0, none⟩)] W fun e w' => ∃ (x : Nat) (at2 s' : Int), e = .returned (.float .f64 x) ∧ okDr x ∧ at' ≤ at2 ∧ at2 ≤ at' + 6 ∧ Src w' b a len cap at2 s' ∧ Below b W w' ∧ Apart b W w') := fun at' sd W ha hS hB => degree_draw b a len cap zs w HR.out at' sd W ha hS hB
  have HSz : Hid (∀ (at' sd : Int) (W : World), Src W b a len cap at' sd → Calls Try.prog 31 #[.pointer (some ⟨b, 0, none⟩), .int .i64 24] W fun e w' => ∃ x : Int, e = .returned (.int .i64 x) ∧ 1 ≤ x ∧ x ≤ 24 ∧ W = w') := fun at' sd W hS => (size_src b a len cap 24 at' sd W hS hlen (by omega) (by omega)).mono (fun e w' h => by obtain ⟨⟨x, h1, h2, h3⟩, h4⟩ := h; exact ⟨x, h1, h2, h3, h4.symm⟩)
  obtain ⟨i0, hi, hzz⟩ := Option.map_eq_some_iff.1 flInfo2
  simp only [Prod.mk.injEq] at hzz
  obtain ⟨hi0, hi1, hi2⟩ := hzz
  clear HR
  have hcv := fun W k => run_convert_int_float (P := Try.prog) W 3 24 .i64 .f64 k (by rw [Try.underlying3]; rfl) Try.underlying24
  go_enter Try.func9, Try.ntmps9
  go_wp2_with fail
  (first | go_at_call 29 | skip)
  refine hsrc.mono ?_
  rintro e w1 ⟨s1, rfl, hs1, hb1⟩
  have HF0 : Hid (FoF b a len cap w1 (.slice (some ⟨w1.heap.size, 0, none⟩) 0 0) [] 0 s1 (w1.alloc (Obj.cells #[] 24))) := FoF.start hs1
  have HB1 : Hid (Below b w w1) := hb1
  clear hs1 hb1 hsrc
  go_upto_region 3 with fail
  obtain ⟨H, hH⟩ : ∃ H, H = w1.heap.size := ⟨_, rfl⟩
  obtain ⟨v1, hv1⟩ : ∃ v1, v1 = w1.alloc (Obj.cells #[] 24) := ⟨_, rfl⟩
  rw [← hv1, ← hH] at HF0 ⊢
  clear hv1 hH
  go_wp2_with fail
  (first | go_at_call 31 | skip)
  refine (HSz.out 0 s1 v1 HF0.out.src).mono ?_
  rintro e v2 ⟨y, rfl, hy1, hy2, hv2⟩
  subst hv2
  have hw2 : IntKind.i64.wrap (y + 1) = y + 1 := wrap_id _ (by omega) (by omega)
  go_wp2_with fail
  (first | go_at_call 30 | skip)
  refine (HNx.out (y + 1) 0 s1 v1 (by omega) (by omega) HF0.out.src (HB1.out.trans HF0.out.low)).mono ?_
  rintro e w3 ⟨z, at3, s3, rfl, hz, q3, q4, hs3, hb3, ha3⟩
  have hz2 : 0 ≤ z ∧ z < 25 := by obtain ⟨u1, u2⟩ := hz; omega
  have HF1 : Hid (FoF b a len cap w1 (.slice (some ⟨H, 0, none⟩) 0 0) [] at3 s3 w3) := HF0.out.step (ha3.apart hb3) hb3 hs3
  clear hs3 hb3 ha3 HF0 hz HSz hw2
  go_wp2_with fail
  go_loopw [7, 8] (fun v iv wr => ∃ (L : List Nat) (g cp : Nat) (i at' sd : Int), v = .slice (some ⟨g, 0, none⟩) L.length cp ∧ iv = .int .i64 i ∧ 0 ≤ i ∧ i + (L.length : Int) ≤ 24 ∧ (∀ x ∈ L, okDr x) ∧ at' ≤ 6 + 6 * (L.length : Int) ∧ FoF b a len cap w1 (.slice (some ⟨g, 0, none⟩) L.length cp) L at' sd wr) (fun _ iv _ => (intOf iv).toNat)
  case atStart => exact ⟨[], H, 0, z, at3, s3, rfl, rfl, by omega, by simp; omega, (fun x hx => by cases hx), by simp; omega, HF1.out⟩
  case round =>
    clear HF1
    obtain ⟨L, g, cp, i, at', sd, rfl, rfl, hi4, hLi, hdr, hat, hF⟩ := hrel
    have HF : Hid (FoF b a len cap w1 (.slice (some ⟨g, 0, none⟩) L.length cp) L at' sd wr) := hF
    have HD : Hid (∀ x ∈ L, okDr x) := hdr
    clear hF hdr
    by_cases hc : 0 < i
    · go_wp2_with fail
      (first | go_at_call 32 | skip)
      refine (HDg.out at' sd wr (by omega) HF.out.src (HB1.out.trans HF.out.low)).mono ?_
      rintro e w5 ⟨x, at5, s5, rfl, hx, q5, q6, hs5, hb5, ha5⟩
      have HF5' : Hid (FoF b a len cap w1 (.slice (some ⟨g, 0, none⟩) L.length cp) L at5 s5 w5) := HF.out.step ha5 hb5 hs5
      have HD2 : Hid (∀ z ∈ L ++ [x], okDr z) := by
        refine (show ∀ z ∈ L ++ [x], okDr z from fun z hz => ?_)
        rcases List.mem_append.1 hz with h | h
        · exact HD.out z h
        · have : z = x := by simpa using h
          rw [this]; exact hx
      clear hs5 hb5 ha5 HF hx HD
      have HF6 : Hid (FoF b a len cap w1 (.slice (some ⟨g, 0, none⟩) L.length cp) L at5 s5 (w5.alloc (Obj.cells #[.float .f64 x] 24))) := HF5'.out.later (below_alloc _ _)
      have HNw : Hid (∀ j u, [Value.float .f64 x][j]? = some u → (w5.alloc (Obj.cells #[.float .f64 x] 24)).cell? ((⟨w5.heap.size, 0, none⟩ : Addr).add j) = some u) := World.news_of_block (heapNew w5 (Obj.cells #[.float .f64 x] 24))
      have HLen : Hid ((L ++ [x]).length = L.length + 1) := by show _ = _; simp
      have HZb : Hid (w1.heap.size ≤ (w5.alloc (Obj.cells #[.float .f64 x] 24)).heap.size) := HF6.out.ap.1
      clear HF5'
      have hwi : IntKind.i64.wrap (i - 1) = i - 1 := wrap_id _ (by omega) (by omega)
      go_wp2_with (at_builtin; refine wpList_append_lies _ rfl _ _ 23 rfl w1.heap.size 24 i0 (.float .f64 0) 1 8 Try.underlying23 hi hi0 hi1 hi2 rfl (by decide) _ _ _ rfl HF6.out.row ⟨w5.heap.size, 0, none⟩ 1 1 [.float .f64 x] rfl rfl HNw.out (by intro u hu; simp at hu; rcases hu with rfl; rfl) (by omega) (by unfold maxLen; omega) (by omega) HZb.out _ rfl ?_; intro g1 cp1 w7 hown1 hgrow1 hat1 hglt1; have HF7 : Hid (FoF b a len cap w1 (.slice (some ⟨g1, 0, none⟩) (L.length + 1) cp1) (L ++ [x]) at5 s5 w7) := HF6.out.push hown1 hgrow1; clear hown1 hgrow1 hat1)
      go_roundw
      case rel => exact ⟨L ++ [x], g1, cp1, i - 1, at5, s5, by rw [HLen.out], rfl, by omega, by rw [HLen.out]; omega, HD2.out, by rw [HLen.out]; omega, by rw [HLen.out]; exact HF7.out⟩
      case measure => simp [intOf]; omega
    · have hi9 : ¬ 0 < i := hc
      have hL5 : L.length ≤ 24 := by omega
      go_wp2_with fail
      (first | go_at_call 30 | skip)
      refine (HNx.out 8 at' sd wr (by omega) (by omega) HF.out.src (HB1.out.trans HF.out.low)).mono ?_
      rintro e w5 ⟨p, at5, s5, rfl, hp, q5, q6, hs5, hb5, ha5⟩
      have HF5 : Hid (FoF b a len cap w1 (.slice (some ⟨g, 0, none⟩) L.length cp) L at5 s5 w5) := HF.out.step (ha5.apart hb5) hb5 hs5
      have hp2 : 0 ≤ p ∧ p < 8 := by obtain ⟨u1, u2⟩ := hp; omega
      clear hs5 hb5 ha5 HF hp
      go_wp2_with fail
      (first | go_at_call 30 | skip)
      refine (HNx.out 4 at5 s5 w5 (by omega) (by omega) HF5.out.src (HB1.out.trans HF5.out.low)).mono ?_
      rintro e w6 ⟨p', at6, s6, rfl, hp', q7, q8, hs6, hb6, ha6⟩
      have HF6 : Hid (FoF b a len cap w1 (.slice (some ⟨g, 0, none⟩) L.length cp) L at6 s6 w6) := HF5.out.step (ha6.apart hb6) hb6 hs6
      have hp3 : 0 ≤ p' ∧ p' < 4 := by obtain ⟨u1, u2⟩ := hp'; omega
      obtain ⟨hi', hh1, hh2⟩ := hi_some hp2.1 hp2.2 hp3.1 hp3.2
      have r1 := fun t W => run_float_arith (P := Try.prog) W .add t .f64 _ _ _ hh1
      clear hs6 hb6 ha6 HF5 hp' hh1
      go_wp2_with fail
      (first | go_at_call 30 | skip)
      refine (HNx.out 3 at6 s6 w6 (by omega) (by omega) HF6.out.src (HB1.out.trans HF6.out.low)).mono ?_
      rintro e w7 ⟨y', at7, s7, rfl, hy', q9, q10, hs7, hb7, ha7⟩
      have HF7 : Hid (FoF b a len cap w1 (.slice (some ⟨g, 0, none⟩) L.length cp) L at7 s7 w7) := HF6.out.step (ha7.apart hb7) hb7 hs7
      have hy3 : 0 ≤ y' ∧ y' < 3 := by obtain ⟨u1, u2⟩ := hy'; omega
      have hwy : IntKind.i64.wrap (1 + y') = 1 + y' := wrap_id _ (by omega) (by omega)
      clear hs7 hb7 ha7 HF6 hy'
      have HFin : Hid ((L.length ≤ cp ∧ cp ≤ maxLen) ∧ (g < w7.heap.size ∧ FltsAt w7 g 0 L) ∧ Below w.heap.size w w7) := ⟨⟨HF7.out.room rfl, by
        rcases HF7.out.row.2 with ⟨q, _⟩ | ⟨g', c', cur, q, _, _, hc', hm', _⟩
        · simp at q
        · simp only [Value.slice.injEq] at q
          omega⟩, HF7.out.reads rfl, by rw [← HBe.out]; exact HB1.out.trans HF7.out.low⟩
      have HHi : Hid (hiOK hi' (floatOfInt .f64 p)) := hh2
      clear HF7 hh2
      go_wp2
      refine bodyPost_ret (v := .tuple #[.slice (some ⟨g, 0, none⟩) L.length cp, .float .f64 hi', .float .f64 (floatOfInt .f64 p), .int .i64 (1 + y')]) (by simp [results, Try.results9, go_sem]) rfl ?_
      exact ⟨L, g, cp, hi', _, 1 + y', rfl, by omega, HD.out, HHi.out, by omega, HFin.out.1, HFin.out.2.1.1, HFin.out.2.1.2, HFin.out.2.2⟩
end Go.Proofs.Ytillkllkekhmfaa
