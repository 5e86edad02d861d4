/-
  A drawn week and drawn holidays are right: the contract of the specification's WeekOf.
-/
import Derived.Test.YtbgjekhekjbcpaaDyM
import Derived.Test.YtbgjekhekjbcpaaBlA
import Derived.Test.YtbgjekhekjbcpaaQdA
import Derived.Deep.AppendLies
import Derived.Laws.OwnMore
namespace Go.Proofs.Ytbgjekhekjbcpaa
open Go.ChangeShapes Go.WideShapes Go.ChangeAt Go.RowKit Go.Joins Go.Deep
set_option linter.unusedVariables false

theorem chance_dy (B b : Nat) (a : Option Addr) (len cap : Nat) (zs : List Int) (n at' seed : Int) (w : World) (hB : B ≤ b) (hs : Src w b a len cap at' seed) (hr : RowB B w a len zs) (a1 : at' ≤ 1000000) (hn : 1 ≤ n) (hn' : n ≤ 256) :
    Calls Try.prog 41 #[.pointer (some ⟨b, 0, none⟩), .int .i64 n] w fun e w' => ∃ (x : Bool) (at2 s' : Int), e = .returned (.bool x) ∧ at' ≤ at2 ∧ at2 ≤ at' + 3 ∧ Src w' b a len cap at2 s' ∧ Below B w w' ∧ Apt b w w' := by
  have hnx := next_anyA B b a len cap zs n at' seed w hB hs hr (by omega) hn'
  go_enter Try.func41, Try.ntmps41
  go_wp2_with (go_at_call 32; refine hnx.mono ?_; rintro e w1 ⟨x, a2, s2, rfl, hx, h1, h2, h3, h4, h5⟩)
  go_ret
  exact ⟨_, a2, s2, rfl, h1, h2, h3, h4, h5⟩

/-- The flags drawn so far, in a row behind V's heap. -/
structure BoSt (b : Nat) (a : Option Addr) (len cap : Nat) (V : World) (v : Value) (L : List Bool) (at' sd : Int) (wr : World) : Prop where
  ap : Apart b V wr
  low : Below b V wr
  src : Src wr b a len cap at' sd
  row : wr.ownsRow V.heap.size 4 1 v L.length (L.map Value.bool)
  bv : b < V.heap.size
theorem BoSt.start {b : Nat} {a : Option Addr} {len cap : Nat} {V : World} {at' sd : Int} (hs : Src V b a len cap at' sd) : BoSt b a len cap V (.slice (some ⟨V.heap.size, 0, none⟩) 0 0) [] at' sd (V.alloc (Obj.cells #[] 4)) :=
  ⟨apart_alloc b V _, (Below.refl _ _).alloc (by have := src_ltW hs; omega) _, hs.allocT _, ⟨rfl, .inr ⟨V.heap.size, 0, #[], rfl, Nat.le_refl _, heapNew V _, Nat.le_refl _, by unfold maxLen; omega, rfl, rfl⟩⟩, src_ltW hs⟩
theorem BoSt.step {b : Nat} {a : Option Addr} {len cap : Nat} {V : World} {v : Value} {L : List Bool} {at' sd at2 sd2 : Int} {wr w' : World} (h : BoSt b a len cap V v L at' sd wr) (ha : Apart b wr w') (hb : Below b wr w') (hs : Src w' b a len cap at2 sd2) : BoSt b a len cap V v L at2 sd2 w' := by
  have hbv := h.bv
  exact ⟨h.ap.trans ha, h.low.trans hb, hs, ownsRow_sameW h.row (fun k hk => ha.2 k (by have := (h.row.lt k hk).1; omega) (h.row.lt k hk).2), h.bv⟩
theorem BoSt.later {b : Nat} {a : Option Addr} {len cap : Nat} {V : World} {v : Value} {L : List Bool} {at' sd : Int} {wr w' : World} (h : BoSt b a len cap V v L at' sd wr) (hb : Below wr.heap.size wr w') : BoSt b a len cap V v L at' sd w' :=
  h.step (later_apart hb) (hb.mono (by have := src_ltW h.src; omega)) (src_sameW h.src (hb.block b (src_ltW h.src)) hb.size)
theorem BoSt.push {b : Nat} {a : Option Addr} {len cap : Nat} {V : World} {v : Value} {L : List Bool} {at' sd : Int} {x : Bool} {g c : Nat} {wr w' : World} (h : BoSt b a len cap V v L at' sd wr)
    (ho : w'.ownsRow V.heap.size 4 1 (.slice (some ⟨g, 0, none⟩) (L.length + 1) c) (L.length + 1) (L.map Value.bool ++ [.bool x])) (hg : wr.grownBy w' v.ownBlock) : BoSt b a len cap V (.slice (some ⟨g, 0, none⟩) (L.length + 1) c) (L ++ [x]) at' sd w' := by
  have hbv := h.bv
  have hk : ∀ k, k < V.heap.size → w'.heap[k]? = wr.heap[k]? := fun k h1 => hg.block k (by have := h.ap.1; omega) (fun e => by have := (h.row.lt k e.symm).1; omega)
  exact ⟨⟨Nat.le_trans h.ap.1 hg.size, fun k h1 h2 => (hk k h2).trans (h.ap.2 k h1 h2)⟩, h.low.grown hg (by have := h.ap.1; omega) (fun k e => by have := (h.row.lt k e).1; omega), src_sameW h.src (hk b hbv) hg.size, by rw [List.length_append, List.map_append]; exact ho, hbv⟩
theorem BoSt.readsL {b : Nat} {a : Option Addr} {len cap : Nat} {V : World} {g n c : Nat} {L : List Bool} {at' sd : Int} {wr : World} (h : BoSt b a len cap V (.slice (some ⟨g, 0, none⟩) n c) L at' sd wr) (hn : n = L.length) : ReadsBl wr.heap.size wr (some ⟨g, 0, none⟩) L := by
  subst hn
  exact .inr ⟨g, 0, rfl, (h.row.lt g rfl).2, fun i hi => by rw [Nat.zero_add, h.row.cellAt i (by omega)]; simp [List.getD_eq_getElem?_getD, hi]⟩
theorem BoSt.room {b : Nat} {a : Option Addr} {len cap : Nat} {V : World} {g n c : Nat} {L : List Bool} {at' sd : Int} {wr : World} (h : BoSt b a len cap V (.slice (some ⟨g, 0, none⟩) n c) L at' sd wr) (hn : n = L.length) : L.length ≤ c := by
  subst hn
  rcases h.row.2 with ⟨q, _⟩ | ⟨g', c', cur, q, _, _, hc, _⟩
  · simp at q
  · simp only [Value.slice.injEq] at q
    omega
theorem boolInf : (Try.prog.info? 4).map (fun i => (i.zero, i.size, i.bytes)) = some (some (.bool false), 1, 1) := by kernel_rfl
theorem rsN_app (L M : List Int) : ∀ k, k ≤ L.length → rsN (L ++ M) k = rsN L k
  | 0, _ => rfl
  | k + 1, h => by
    rw [rsN, rsN, rsN_app L M k (by omega)]
    have e1 : (L ++ M).getD k 0 = L.getD k 0 := by rw [List.getD_eq_getElem?_getD, List.getElem?_append_left (by omega), ← List.getD_eq_getElem?_getD]
    have e2 : (L ++ M).getD (k - 1) 0 = L.getD (k - 1) 0 := by rw [List.getD_eq_getElem?_getD, List.getElem?_append_left (by omega), ← List.getD_eq_getElem?_getD]
    rw [e1, e2]
/-- Holidays drawn so far, the next one not below t. -/
def DrH (L : List Int) (t : Int) : Prop := (∀ x ∈ L, 0 ≤ x ∧ x < t) ∧ rsN L L.length = true
theorem DrH.push {L : List Int} {t u : Int} (h : DrH L t) (h0 : 0 ≤ t) (hu : t < u) : DrH (L ++ [t]) u := by
  refine ⟨fun x hx => ?_, ?_⟩
  · rcases List.mem_append.1 hx with q | q
    · have := h.1 x q; omega
    · simp at q; omega
  · rw [List.length_append]
    show rsN (L ++ [t]) (L.length + 1) = true
    refine rsN_next (by rw [rsN_app L [t] _ (Nat.le_refl _)]; exact h.2) ?_
    by_cases h1 : L.length = 0
    · exact .inl h1
    · refine .inr ?_
      have e1 : (L ++ [t]).getD L.length 0 = t := by simp [List.getD_eq_getElem?_getD]
      have e2 : (L ++ [t]).getD (L.length - 1) 0 = L.getD (L.length - 1) 0 := by rw [List.getD_eq_getElem?_getD, List.getElem?_append_left (by omega), ← List.getD_eq_getElem?_getD]
      rw [e1, e2]
      have hb := (getD_bound (L := L) (lo := 0) (hi := t - 1) (fun x hx => by have := h.1 x hx; omega) (L.length - 1) (by omega)).2
      omega
def PostWk (w : World) (e : Ending) (w' : World) : Prop := ∃ (wk : List Bool) (hs : List Int) (day : Int) (gw cw gh ch : Nat), e = .returned (.tuple #[.slice (some ⟨gw, 0, none⟩) wk.length cw, .slice (some ⟨gh, 0, none⟩) hs.length ch, .int .i64 day]) ∧ (wk.length = 7 ∧ hs.length ≤ 8 ∧ alB 0 100000 hs = true ∧ rsN hs hs.length = true ∧ 0 ≤ day ∧ day < 60) ∧ ReadsBl w'.heap.size w' (some ⟨gw, 0, none⟩) wk ∧ Reads w'.heap.size w' (some ⟨gh, 0, none⟩) hs ∧ Below w.heap.size w w'
set_option maxHeartbeats 4000000 in
set_option maxRecDepth 4000 in
theorem weekOf_any (a : Option Addr) (len cap : Nat) (zs : List Int) (w : World) (hr : RowB w.heap.size w a len zs) :
    Calls Try.prog 16 #[.slice a len cap] w (PostWk w) := by
  have HR : Hid (RowB w.heap.size w a len zs) := hr
  have hsrc := source_any a len cap w hr.1
  have hlen := hr.1
  clear hr
  obtain ⟨b, hbe⟩ : ∃ b, b = w.heap.size := ⟨_, rfl⟩
  have HBe : Hid (b = w.heap.size) := hbe
  rw [← hbe] at HR hsrc
  clear hbe
  have HNx : Hid (∀ (n at' sd : Int) (W : World), n ≤ 256 → at' ≤ 1000 → Src W b a len cap at' sd → Below b w W → Calls Try.prog 32 #[.pointer (some ⟨b, 0, none⟩), .int .i64 n] W fun e w' => ∃ x at2 s' : Int, e = .returned (.int .i64 x) ∧ Drawn x n ∧ at' ≤ at2 ∧ at2 ≤ at' + 3 ∧ Src w' b a len cap at2 s' ∧ Below b W w' ∧ Apt b W w') := fun n at' sd W hn ha hS hB => next_anyA b b a len cap zs n at' sd W (Nat.le_refl _) hS (HR.out.below hB) (by omega) hn
  have HCh : Hid (∀ (at' sd : Int) (W : World), at' ≤ 1000 → Src W b a len cap at' sd → Below b w W → Calls Try.prog 41 #[.pointer (some ⟨b, 0, none⟩), .int .i64 3] W fun e w' => ∃ (x : Bool) (at2 s' : Int), e = .returned (.bool x) ∧ at' ≤ at2 ∧ at2 ≤ at' + 3 ∧ Src w' b a len cap at2 s' ∧ Below b W w' ∧ Apt b W w') := fun at' sd W ha hS hB => chance_dy b b a len cap zs 3 at' sd W (Nat.le_refl _) hS (HR.out.below hB) (by omega) (by omega) (by omega)
  have HSz : Hid (∀ (at' sd : Int) (W : World), Src W b a len cap at' sd → Calls Try.prog 37 #[.pointer (some ⟨b, 0, none⟩), .int .i64 8] W fun e w' => ∃ x : Int, e = .returned (.int .i64 x) ∧ 1 ≤ x ∧ x ≤ 8 ∧ W = w') := fun at' sd W hS => (size_src b a len cap 8 at' sd W hS hlen (by omega) (by omega)).mono (fun e w' h => by obtain ⟨⟨x, h1, h2, h3⟩, h4⟩ := h; exact ⟨x, h1, h2, h3, h4.symm⟩)
  obtain ⟨i0, hi, hzz⟩ := Option.map_eq_some_iff.1 intInfo
  simp only [Prod.mk.injEq] at hzz
  obtain ⟨hi0, hi1, hi2⟩ := hzz
  obtain ⟨j0, hj, hyy⟩ := Option.map_eq_some_iff.1 boolInf
  simp only [Prod.mk.injEq] at hyy
  obtain ⟨hj0, hj1, hj2⟩ := hyy
  clear HR
  go_enter Try.func16, Try.ntmps16
  go_wp2_with fail
  (first | go_at_call 31 | skip)
  refine hsrc.mono ?_
  rintro e w1 ⟨s1, rfl, hs1, hb1⟩
  have HF0 : Hid (BoSt b a len cap w1 (.slice (some ⟨w1.heap.size, 0, none⟩) 0 0) [] 0 s1 (w1.alloc (Obj.cells #[] 4))) := BoSt.start hs1
  have HB1 : Hid (Below b w w1) := hb1
  clear hs1 hb1 hsrc
  go_upto_region 3 with fail
  obtain ⟨g0, hg0⟩ : ∃ g0, g0 = w1.heap.size := ⟨_, rfl⟩
  obtain ⟨W1, hW1⟩ : ∃ W1, W1 = w1.alloc (Obj.cells #[] 4) := ⟨_, rfl⟩
  have HG0 : Hid (g0 = w1.heap.size) := hg0
  rw [← hg0, ← hW1] at HF0 ⊢
  clear hg0 hW1
  go_wp2_with fail
  go_loopw [6, 7] (fun v iv wr => ∃ (L : List Bool) (g cp : Nat) (at' sd : Int), v = .slice (some ⟨g, 0, none⟩) L.length cp ∧ iv = .int .i64 (L.length : Int) ∧ L.length ≤ 7 ∧ at' ≤ 3 * (L.length : Int) ∧ BoSt b a len cap w1 (.slice (some ⟨g, 0, none⟩) L.length cp) L at' sd wr) (fun _ iv _ => 7 - (intOf iv).toNat)
  case atStart => exact ⟨[], g0, 0, 0, s1, rfl, rfl, by simp, by simp, HF0.out⟩
  case round =>
    clear HF0 HG0
    obtain ⟨L, g, cp, at', sd, rfl, rfl, hL7, hat, hF⟩ := hrel
    have HF : Hid (BoSt b a len cap w1 (.slice (some ⟨g, 0, none⟩) L.length cp) L at' sd wr) := hF
    clear hF
    by_cases hc : L.length < 7
    · have hc' : (L.length : Int) < 7 := by omega
      go_wp2_with fail
      (first | go_at_call 41 | skip)
      refine (HCh.out at' sd wr (by omega) HF.out.src (HB1.out.trans HF.out.low)).mono ?_
      rintro e w5 ⟨p, at5, s5, rfl, q5, q6, hs5, hb5, ha5⟩
      have HF5 : Hid (BoSt b a len cap w1 (.slice (some ⟨g, 0, none⟩) L.length cp) L at5 s5 w5) := HF.out.step (ha5.apart hb5) hb5 hs5
      clear hs5 hb5 ha5 HF
      have HF6 : Hid (BoSt b a len cap w1 (.slice (some ⟨g, 0, none⟩) L.length cp) L at5 s5 (w5.alloc (Obj.cells #[.bool p] 4))) := HF5.out.later (below_alloc _ _)
      have HNw : Hid (∀ j u, [Value.bool p][j]? = some u → (w5.alloc (Obj.cells #[.bool p] 4)).cell? ((⟨w5.heap.size, 0, none⟩ : Addr).add j) = some u) := World.news_of_block (heapNew w5 (Obj.cells #[.bool p] 4))
      have HLen : Hid ((L ++ [p]).length = L.length + 1) := by show _ = _; simp
      have HZb : Hid (w1.heap.size ≤ (w5.alloc (Obj.cells #[.bool p] 4)).heap.size) := HF6.out.ap.1
      clear HF5
      go_wp2_with (at_builtin; refine wpList_append_lies _ rfl _ _ 39 rfl w1.heap.size 4 j0 (.bool false) 1 1 Try.underlying39 hj hj0 hj1 hj2 rfl (by decide) _ _ _ rfl HF6.out.row ⟨w5.heap.size, 0, none⟩ 1 1 [.bool p] rfl rfl HNw.out (by intro u hu; simp at hu; rcases hu with rfl; rfl) (by omega) (by unfold maxLen; omega) (by omega) HZb.out _ rfl ?_; intro g1 cp1 w7 hown1 hgrow1 hat1 hglt1; have HF7 : Hid (BoSt b a len cap w1 (.slice (some ⟨g1, 0, none⟩) (L.length + 1) cp1) (L ++ [p]) at5 s5 w7) := HF6.out.push hown1 hgrow1; clear hown1 hgrow1 hat1)
      go_roundw
      case rel => exact ⟨L ++ [p], g1, cp1, at5, s5, by rw [HLen.out], by rw [HLen.out]; go_num, by rw [HLen.out]; omega, by rw [HLen.out]; omega, by rw [HLen.out]; exact HF7.out⟩
      case measure => simp [intOf]; omega
    · have hc' : ¬ (L.length : Int) < 7 := by omega
      have h7 : L.length = 7 := by omega
      have HL7 : Hid (L.length = 7) := h7
      have HSr : Hid (Src wr b a len cap at' sd) := HF.out.src
      have HLw : Hid (Below b w wr) := HB1.out.trans HF.out.low
      have HWk : Hid (ReadsBl wr.heap.size wr (some ⟨g, 0, none⟩) L ∧ g ≠ b ∧ g < wr.heap.size) := ⟨HF.out.readsL rfl, by have h1 := (HF.out.row.lt g rfl).1; have h2 := HF.out.bv; omega, (HF.out.row.lt g rfl).2⟩
      have hat2 : at' ≤ 21 := by omega
      clear HF h7 hat
      generalize hn7 : L.length = n7 at *
      have HLn : Hid (L.length = n7) := hn7
      clear hn7
      go_wp2_with fail
      have HI0 : Hid (FoSt b a len cap wr (.slice (some ⟨wr.heap.size, 0, none⟩) 0 0) [] at' sd (wr.alloc (Obj.cells #[] 3))) := FoSt.start HSr.out
      go_upto_region 8 with fail
      obtain ⟨h0, hh0⟩ : ∃ h0, h0 = wr.heap.size := ⟨_, rfl⟩
      obtain ⟨W2, hW2⟩ : ∃ W2, W2 = wr.alloc (Obj.cells #[] 3) := ⟨_, rfl⟩
      rw [← hh0, ← hW2] at HI0 ⊢
      clear hh0 hW2
      go_wp2_with fail
      (first | go_at_call 32 | skip)
      refine (HNx.out 9 at' sd W2 (by omega) (by omega) HI0.out.src (HLw.out.trans HI0.out.low)).mono ?_
      rintro e w4 ⟨x, at4, s4, rfl, hx, q1, q2, hs4, hb4, ha4⟩
      have hx2 : 0 ≤ x ∧ x < 9 := by obtain ⟨u1, u2⟩ := hx; omega
      have HI1 : Hid (FoSt b a len cap wr (.slice (some ⟨h0, 0, none⟩) 0 0) [] at4 s4 w4) := HI0.out.step (ha4.apart hb4) hb4 hs4
      clear hs4 hb4 ha4 HI0 hx
      go_wp2_with fail
      (first | go_at_call 37 | skip)
      refine (HSz.out at4 s4 w4 HI1.out.src).mono ?_
      rintro e v2 ⟨y, rfl, hy1, hy2, hv2⟩
      subst hv2
      have hw2 : IntKind.i64.wrap (y + 1) = y + 1 := wrap_id _ (by omega) (by omega)
      go_wp2_with fail
      (first | go_at_call 32 | skip)
      refine (HNx.out (y + 1) at4 s4 w4 (by omega) (by omega) HI1.out.src (HLw.out.trans HI1.out.low)).mono ?_
      rintro e w6 ⟨z, at6, s6, rfl, hz, q3, q4, hs6, hb6, ha6⟩
      have hz2 : 0 ≤ z ∧ z ≤ 8 := by obtain ⟨u1, u2⟩ := hz; omega
      have HI2 : Hid (FoSt b a len cap wr (.slice (some ⟨h0, 0, none⟩) 0 0) [] at6 s6 w6) := HI1.out.step (ha6.apart hb6) hb6 hs6
      clear hs6 hb6 ha6 HI1 hz HSz hw2 HCh
      go_wp2_with fail
      obtain ⟨wv, hwv⟩ : ∃ wv, wv = wr := ⟨_, rfl⟩
      have HWv : Hid (wv = wr) := hwv
      rw [← hwv] at HI2 HSr HLw HWk
      clear hwv
      go_loopw [8, 9, 10] (fun v tv iv wr => ∃ (M : List Int) (g2 cp2 : Nat) (i t at' sd : Int), v = .slice (some ⟨g2, 0, none⟩) M.length cp2 ∧ tv = .int .i64 t ∧ iv = .int .i64 i ∧ 0 ≤ i ∧ i + (M.length : Int) ≤ 8 ∧ 0 ≤ t ∧ t ≤ 9 + 6 * (M.length : Int) ∧ DrH M t ∧ at' ≤ 60 + 3 * (M.length : Int) ∧ FoSt b a len cap wv (.slice (some ⟨g2, 0, none⟩) M.length cp2) M at' sd wr) (fun _ _ iv _ => (intOf iv).toNat)
      case atStart => exact ⟨[], h0, 0, z, x, at6, s6, rfl, rfl, rfl, by omega, by simp; omega, hx2.1, by simp; omega, ⟨by simp, rfl⟩, by simp; omega, HI2.out⟩
      case round =>
        clear HI2 HWv
        obtain ⟨M, g2, cp2, i, t, at', sd, rfl, rfl, rfl, hi4, hLi, ht0, ht1, hdr, hat, hF⟩ := hrel
        have HF : Hid (FoSt b a len cap wv (.slice (some ⟨g2, 0, none⟩) M.length cp2) M at' sd wr) := hF
        have HD : Hid (DrH M t) := hdr
        clear hF hdr
        by_cases hc2 : 0 < i
        · have HF6 : Hid (FoSt b a len cap wv (.slice (some ⟨g2, 0, none⟩) M.length cp2) M at' sd (wr.alloc (Obj.cells #[.int .i64 t] 3))) := HF.out.later (below_alloc _ _)
          have HNw : Hid (∀ j u, [Value.int .i64 t][j]? = some u → (wr.alloc (Obj.cells #[.int .i64 t] 3)).cell? ((⟨wr.heap.size, 0, none⟩ : Addr).add j) = some u) := World.news_of_block (heapNew wr (Obj.cells #[.int .i64 t] 3))
          have HLen : Hid ((M ++ [t]).length = M.length + 1) := by show _ = _; simp
          have HZb : Hid (wv.heap.size ≤ (wr.alloc (Obj.cells #[.int .i64 t] 3)).heap.size) := HF6.out.ap.1
          clear HF
          go_wp2_with (at_builtin; refine wpList_append_lies _ rfl _ _ 33 rfl wv.heap.size 3 i0 (.int .i64 0) 1 8 Try.underlying33 hi hi0 hi1 hi2 rfl (by decide) _ _ _ rfl HF6.out.row ⟨wr.heap.size, 0, none⟩ 1 1 [.int .i64 t] rfl rfl HNw.out (by intro u hu; simp at hu; rcases hu with rfl; rfl) (by omega) (by unfold maxLen; omega) (by omega) HZb.out _ rfl ?_; intro g1 cp1 w7 hown1 hgrow1 hat1 hglt1; have HF7 : Hid (FoSt b a len cap wv (.slice (some ⟨g1, 0, none⟩) (M.length + 1) cp1) (M ++ [t]) at' sd w7) := HF6.out.push hown1 hgrow1; clear hown1 hgrow1 hat1)
          (first | go_at_call 32 | skip)
          refine (HNx.out 6 at' sd w7 (by omega) (by omega) HF7.out.src (HLw.out.trans HF7.out.low)).mono ?_
          rintro e w8 ⟨u, at8, s8, rfl, hu, q7, q8, hs8, hb8, ha8⟩
          have hu2 : 0 ≤ u ∧ u < 6 := by obtain ⟨u1, u2⟩ := hu; omega
          have HF8 : Hid (FoSt b a len cap wv (.slice (some ⟨g1, 0, none⟩) (M.length + 1) cp1) (M ++ [t]) at8 s8 w8) := HF7.out.step (ha8.apart hb8) hb8 hs8
          clear hs8 hb8 ha8 HF7 hu
          have hw3 : IntKind.i64.wrap (1 + u) = 1 + u := wrap_id _ (by omega) (by omega)
          have hw4 : IntKind.i64.wrap (t + (1 + u)) = t + (1 + u) := wrap_id _ (by omega) (by omega)
          have hw5 : IntKind.i64.wrap (i - 1) = i - 1 := wrap_id _ (by omega) (by omega)
          have HD2 : Hid (DrH (M ++ [t]) (t + (1 + u))) := HD.out.push ht0 (by omega)
          go_wp2
          exact ⟨⟨M ++ [t], g1, cp1, i - 1, t + (1 + u), at8, s8, by rw [HLen.out], rfl, rfl, by omega, by rw [HLen.out]; omega, by omega, by rw [HLen.out]; omega, HD2.out, by rw [HLen.out]; omega, by rw [HLen.out]; exact HF8.out⟩, by simp [intOf]; omega⟩
        · have hc3 : ¬ 0 < i := hc2
          go_wp2_with fail
          (first | go_at_call 32 | skip)
          refine (HNx.out 60 at' sd wr (by omega) (by omega) HF.out.src (HLw.out.trans HF.out.low)).mono ?_
          rintro e w8 ⟨u, at8, s8, rfl, hu, q7, q8, hs8, hb8, ha8⟩
          have hu2 : 0 ≤ u ∧ u < 60 := by obtain ⟨u1, u2⟩ := hu; omega
          have HF8 : Hid (FoSt b a len cap wv (.slice (some ⟨g2, 0, none⟩) M.length cp2) M at8 s8 w8) := HF.out.step (ha8.apart hb8) hb8 hs8
          clear hs8 hb8 ha8 HF hu
          have HFin : Hid (Reads w8.heap.size w8 (some ⟨g2, 0, none⟩) M ∧ Below w.heap.size w w8) := ⟨HF8.out.readsL rfl, by rw [← HBe.out]; exact HLw.out.trans HF8.out.low⟩
          have HWk2 : Hid (ReadsBl w8.heap.size w8 (some ⟨g, 0, none⟩) L) := by
            rcases HWk.out.1 with h | ⟨b', o', hg', hlt', ib⟩
            · exact .inl h
            · cases hg'
              refine .inr ⟨g, 0, rfl, Nat.lt_of_lt_of_le hlt' HF8.out.ap.1, fun i hi => ?_⟩
              exact (World.cell?_of_block (w := wv) (a := ⟨g, 0 + i, none⟩) (HF8.out.ap.2 g HWk.out.2.1 hlt')).trans (ib i hi)
          have hM8 : M.length ≤ 8 := by omega
          have HAl : Hid (alB 0 100000 M = true) := al_of (fun x hx => by have := HD.out.1 x hx; omega)
          clear HF8
          go_wp2_with fail
          refine bodyPost_ret (v := .tuple #[.slice (some ⟨g, 0, none⟩) n7 cp, .slice (some ⟨g2, 0, none⟩) M.length cp2, .int .i64 u]) (by simp [results, Try.results16, go_sem]) rfl ⟨L, M, u, g, cp, g2, cp2, by rw [HLn.out], ⟨by rw [HLn.out]; exact HL7.out, hM8, HAl.out, HD.out.2, hu2.1, hu2.2⟩, HWk2.out, HFin.out⟩
end Go.Proofs.Ytbgjekhekjbcpaa
