/-
  The specification's MarksOf: a right price, stock, percents and demand, and right steps.
-/
import Derived.Test.YtlcnhkhkhlpghaaMsB
namespace Go.Proofs.Ytlcnhkhkhlpghaa
open Go.ChangeShapes Go.WideShapes Go.ChangeAt Go.RowKit Go.Deep
set_option linter.unusedVariables false

/-- Steps of n percents that do not go back, none above hi. -/
def StG (n : Nat) (L : List Int) (hi : Int) : Prop := ∀ k, k < L.length → (0 ≤ L.getD k 0 ∧ L.getD k 0 ≤ (n : Int) - 1) ∧ ahs L k ≤ L.getD k 0 ∧ L.getD k 0 ≤ hi
theorem StG.push {n : Nat} {L : List Int} {p q : Int} (h : StG n L p) (hp : p ≤ q) (h0 : 0 ≤ q) (h1 : q ≤ (n : Int) - 1) : StG n (L ++ [q]) q := fun k hk => by
  rw [List.length_append] at hk
  by_cases e : k = L.length
  · subst e
    rw [getD_end]
    refine ⟨⟨h0, h1⟩, ?_, Int.le_refl _⟩
    cases hL : L.length with
    | zero => exact h0
    | succ j =>
      show (L ++ [q]).getD j 0 ≤ _
      rw [getD_app (by omega)]
      have := (h j (by omega)).2.2
      omega
  · have hk' : k < L.length := by simp at hk; omega
    rw [getD_app hk']
    obtain ⟨a1, a2, a3⟩ := h k hk'
    refine ⟨a1, ?_, by omega⟩
    cases k with
    | zero => exact a2
    | succ j =>
      show (L ++ [q]).getD j 0 ≤ _
      rw [getD_app (by omega)]
      exact a2
theorem StG.ok {n m : Nat} {L : List Int} {hi : Int} (h : StG n L hi) (hl : L.length = m) : stB n m L = true := by
  unfold stB
  rw [hl, decide_eq_true rfl, Bool.true_and]
  refine upTo_of fun k hk => ?_
  obtain ⟨a1, a2, _⟩ := h k (by omega)
  unfold stAt
  rw [Bool.and_eq_true, inB_iff]
  exact ⟨a1, decide_eq_true a2⟩
/-- What is drawn. -/
structure Drm (price stock : Int) (ps : List Int) (cs : LL) (ss : List Int) : Prop where
  pr : 20 ≤ price ∧ price ≤ 319
  st : 0 ≤ stock ∧ stock ≤ 49
  pc : pcB ps = true ∧ ps.length ≤ 4
  cl : 1 ≤ cs.length ∧ cs.length ≤ 6
  cr : ∀ r ∈ cs, r.length = ps.length ∧ ∀ x ∈ r, 0 ≤ x ∧ x ≤ 200
  ss : stB ps.length cs.length ss = true
theorem Drm.right {price stock : Int} {ps : List Int} {cs : LL} {ss : List Int} (h : Drm price stock ps cs ss) {s2 : Int} (h0 : 0 ≤ s2) (h2 : s2 ≤ 200) : mkF price s2 ps cs = 0 := by
  have hp := h.pr
  have hc := h.cl
  have hpl := h.pc.2
  unfold mkF
  rw [if_neg (by omega)]
  have : mkR price s2 ps cs = true := by
    unfold mkR dmB
    simp only [Bool.and_eq_true, inB_iff]
    refine ⟨⟨by omega, by omega⟩, ⟨h0, h2⟩, h.pc.1, ⟨by omega, by omega⟩, List.all_eq_true.2 fun r hr => ?_⟩
    obtain ⟨r1, r2⟩ := h.cr r hr
    unfold daB daX
    rw [Bool.and_eq_true]
    exact ⟨decide_eq_true r1, List.all_eq_true.2 fun x hx => (inB_iff _ _ _).2 (r2 x hx)⟩
  rw [if_pos this]
def MsPost (w : World) (e : Ending) (w' : World) : Prop := ∃ (price stock : Int) (ps : List Int) (cs : LL) (ss : List Int) (gp cp gd cd gs cs' : Nat), e = .returned (.tuple #[.int .i64 price, .int .i64 stock, .slice (some ⟨gp, 0, none⟩) ps.length cp, .slice (some ⟨gd, 0, none⟩) cs.length cd, .slice (some ⟨gs, 0, none⟩) ss.length cs']) ∧ Drm price stock ps cs ss ∧ Reads w'.heap.size w' (some ⟨gp, 0, none⟩) ps ∧ ReadsDm w'.heap.size w' (some ⟨gd, 0, none⟩) cs ∧ Reads w'.heap.size w' (some ⟨gs, 0, none⟩) ss ∧ Below w.heap.size w w'
theorem reads_apart {b : Nat} {w w' : World} {h : Option Addr} {L : List Int} (r : Reads w.heap.size w h L) (ha : Apart b w w') (hb : ∀ q o, h = some ⟨q, o, none⟩ → q ≠ b ∨ L = []) : Reads w'.heap.size w' h L := by
  rcases r with r | ⟨q, o, e, hq, hi⟩
  · exact .inl r
  · rcases hb q o e with h1 | h1
    · exact .inr ⟨q, o, e, Nat.lt_of_lt_of_le hq ha.1, intsAt_of hi (ha.2 q h1 hq)⟩
    · exact .inl h1
theorem FoSt.readsL {b : Nat} {a : Option Addr} {len cap : Nat} {V : World} {g n c : Nat} {L : List Int} {at' sd : Int} {wr : World} (h : FoSt b a len cap V (.slice (some ⟨g, 0, none⟩) n c) L at' sd wr) (hn : n = L.length) : Reads wr.heap.size wr (some ⟨g, 0, none⟩) L := by
  subst hn
  exact .inr ⟨g, 0, rfl, (h.row.lt g rfl).2, fun i hi => by rw [Nat.zero_add, h.row.cellAt i (by omega)]; simp [List.getD_eq_getElem?_getD, hi]⟩
set_option maxHeartbeats 8000000 in
theorem marksOf_any (a : Option Addr) (len cap : Nat) (zs : List Int) (w : World) (hr : RowB w.heap.size w a len zs) :
    Calls Try.prog 7 #[.slice a len cap] w (MsPost w) := by
  have HR : Hid (RowB w.heap.size w a len zs) := hr
  have hsrc := source_any a len cap w hr.1
  clear hr
  obtain ⟨b, hbe⟩ : ∃ b, b = w.heap.size := ⟨_, rfl⟩
  have HBe : Hid (b = w.heap.size) := hbe
  rw [← hbe] at HR hsrc
  clear hbe
  have HNx : Hid (∀ (n at' sd : Int) (W : World), n ≤ 256 → at' ≤ 999999999000 → Src W b a len cap at' sd → Below b w W → Calls Try.prog 29 #[.pointer (some ⟨b, 0, none⟩), .int .i64 n] W fun e w' => ∃ x at2 s' : Int, e = .returned (.int .i64 x) ∧ Drawn x n ∧ at' ≤ at2 ∧ at2 ≤ at' + 3 ∧ Src w' b a len cap at2 s' ∧ Below b W w' ∧ Apt b W w') := fun n at' sd W hn ha hS hB => next_anyA b b a len cap zs n at' sd W (Nat.le_refl _) hS (HR.out.below hB) ha hn
  have HNb : Hid (∀ (at' sd : Int) (W : World), at' ≤ 999999999000 → Src W b a len cap at' sd → Below b w W → Calls Try.prog 29 #[.pointer (some ⟨b, 0, none⟩), .int .i64 300] W fun e w' => ∃ x at2 s' : Int, e = .returned (.int .i64 x) ∧ Drawn x 300 ∧ at' ≤ at2 ∧ at2 ≤ at' + 3 ∧ Src w' b a len cap at2 s' ∧ Below b W w' ∧ Apt b W w') := fun at' sd W ha hS hB => next_bigW b b a len cap zs 300 at' sd W (Nat.le_refl _) hS (HR.out.below hB) ha (by omega) (by omega) (by omega)
  have HCh : Hid (∀ (at' sd : Int) (W : World), at' ≤ 1000000 → Src W b a len cap at' sd → Below b w W → Calls Try.prog 28 #[.pointer (some ⟨b, 0, none⟩), .int .i64 3] W fun e w' => ∃ (x : Bool) (at2 s' : Int), e = .returned (.bool x) ∧ at' ≤ at2 ∧ at2 ≤ at' + 3 ∧ Src w' b a len cap at2 s' ∧ Below b W w' ∧ Apt b W w') := fun at' sd W ha hS hB => chance_ms b b a len cap zs 3 at' sd W (Nat.le_refl _) hS (HR.out.below hB) ha (by omega) (by omega)
  have HPe : Hid (∀ (sd : Int) (W : World), Src W b a len cap 0 sd → Below b w W → Calls Try.prog 26 #[.pointer (some ⟨b, 0, none⟩)] W (PcPost a len cap b 0 W)) := fun sd W hS hB => percents_any b a len cap zs 0 sd W hS (HR.out.below hB) (by omega)
  have HDm : Hid (∀ (n : Nat) (at' sd : Int) (W : World), n ≤ 4 → at' ≤ 30 → Src W b a len cap at' sd → Below b w W → Calls Try.prog 27 #[.pointer (some ⟨b, 0, none⟩), .int .i64 (n : Int)] W (DePost a len cap b n at' W)) := fun n at' sd W hn ha hS hB => demand_any b a len cap zs n hn at' sd W hS (HR.out.below hB) (by omega)
  obtain ⟨i0, hi, hzz⟩ := Option.map_eq_some_iff.1 intInfo
  simp only [Prod.mk.injEq] at hzz
  obtain ⟨hi0, hi1, hi2⟩ := hzz
  go_enter Try.func7, Try.ntmps7
  go_wp2_with fail
  (first | go_at_call 25 | skip)
  refine hsrc.mono ?_
  rintro e w1 ⟨s1, rfl, hs1, hb1⟩
  have HS1 : Hid (Src w1 b a len cap 0 s1) := hs1
  have HB1 : Hid (Below b w w1) := hb1
  clear hs1 hb1 hsrc
  go_wp2_with fail
  (first | go_at_call 26 | skip)
  refine (HPe.out s1 w1 HS1.out HB1.out).mono ?_
  rintro e w2 ⟨ps, gp, cp, at2, s2, rfl, ⟨hp1, hp4⟩, hpc, hat2, hT2⟩
  have HT2 : Hid (FoSt b a len cap w1 (.slice (some ⟨gp, 0, none⟩) ps.length cp) ps at2 s2 w2) := hT2
  have HPc : Hid (pcB ps = true) := hpc
  clear hT2 hpc HS1 HPe
  go_wp2_with fail
  (first | go_at_call 27 | skip)
  refine (HDm.out ps.length at2 s2 w2 hp4 (by omega) HT2.out.src (HB1.out.trans HT2.out.low)).mono ?_
  rintro e w3 ⟨RR, gd, cd, at3, s3, rfl, ⟨hd1, hd6⟩, hdr, hat3, hT3⟩
  have HT3 : Hid (DeSt b a len cap w2 (.slice (some ⟨gd, 0, none⟩) RR.length cd) RR at3 s3 w3) := hT3
  have HDr : Hid (∀ r ∈ RR, r.2.2.length = ps.length ∧ ∀ x ∈ r.2.2, 0 ≤ x ∧ x ≤ 200) := hdr
  have HF0 : Hid (FoSt b a len cap w3 (.slice (some ⟨w3.heap.size, 0, none⟩) 0 0) [] at3 s3 (w3.alloc (Obj.cells #[] 3))) := FoSt.start hT3.src
  have HB3 : Hid (Below b w w3) := (HB1.out.trans HT2.out.low).trans hT3.low
  clear hT3 hdr HDm
  go_upto_region 5 with fail
  obtain ⟨H, hH⟩ : ∃ H, H = w3.heap.size := ⟨_, rfl⟩
  obtain ⟨v1, hv1⟩ : ∃ v1, v1 = w3.alloc (Obj.cells #[] 3) := ⟨_, rfl⟩
  rw [← hv1, ← hH] at HF0 ⊢
  clear hv1 hH
  go_wp2_with fail
  go_loopw [10, 11, 12] (fun v av c wr => ∃ (L : List Int) (g2 c2 : Nat) (p at' sd : Int), v = .slice (some ⟨g2, 0, none⟩) L.length c2 ∧ av = .int .i64 p ∧ c = .int .i64 (L.length : Int) ∧ L.length ≤ RR.length ∧ (0 ≤ p ∧ p ≤ (ps.length : Int) - 1) ∧ StG ps.length L p ∧ at' ≤ 130 + 3 * (L.length : Int) ∧ FoSt b a len cap w3 (.slice (some ⟨g2, 0, none⟩) L.length c2) L at' sd wr) (fun _ _ c _ => RR.length - (intOf c).toNat)
  case atStart => exact ⟨[], H, 0, 0, at3, s3, rfl, rfl, rfl, Nat.zero_le _, ⟨by omega, by omega⟩, (fun k hk => by simp at hk), by simp; omega, HF0.out⟩
  case round =>
    clear HF0
    obtain ⟨L, g2, c2, p, at', sd, rfl, rfl, rfl, hLl, hp, hsg, hat, hF⟩ := hrel
    have HF : Hid (FoSt b a len cap w3 (.slice (some ⟨g2, 0, none⟩) L.length c2) L at' sd wr) := hF
    have HSg : Hid (StG ps.length L p) := hsg
    clear hF hsg
    by_cases hlt : L.length < RR.length
    · have hlt' : (L.length : Int) < (RR.length : Int) := by omega
      have hwp : IntKind.i64.wrap (p + 1) = p + 1 := wrap_id _ (by omega) (by omega)
      have hwn : IntKind.i64.wrap ((ps.length : Int) - 1) = (ps.length : Int) - 1 := wrap_id _ (by omega) (by omega)
      go_wp2_with fail
      (first | go_at_call 28 | skip)
      refine (HCh.out at' sd wr (by omega) HF.out.src (HB3.out.trans HF.out.low)).mono ?_
      rintro e w5 ⟨x, at5, s5, rfl, q5, q6, hs5, hb5, ha5⟩
      have HF5 : Hid (FoSt b a len cap w3 (.slice (some ⟨g2, 0, none⟩) L.length c2) L at5 s5 w5) := HF.out.step (ha5.apart hb5) hb5 hs5
      clear hs5 hb5 ha5 HF
      have HEnd : Hid (∀ (q : Int), p ≤ q → 0 ≤ q → q ≤ (ps.length : Int) - 1 → FoSt b a len cap w3 (.slice (some ⟨g2, 0, none⟩) L.length c2) L at5 s5 (w5.alloc (Obj.cells #[.int .i64 q] 3)) ∧ (∀ j u, [Value.int .i64 q][j]? = some u → (w5.alloc (Obj.cells #[.int .i64 q] 3)).cell? ((⟨w5.heap.size, 0, none⟩ : Addr).add j) = some u) ∧ StG ps.length (L ++ [q]) q ∧ (L ++ [q]).length = L.length + 1) := fun q h1 h2 h3 => ⟨HF5.out.later (below_alloc _ _), World.news_of_block (heapNew w5 (Obj.cells #[.int .i64 q] 3)), HSg.out.push h1 h2 h3, by simp⟩
      cases x
      · obtain ⟨e1, e2, e3, e4⟩ := HEnd.out p (Int.le_refl _) hp.1 hp.2
        have HF6 : Hid (FoSt b a len cap w3 (.slice (some ⟨g2, 0, none⟩) L.length c2) L at5 s5 (w5.alloc (Obj.cells #[.int .i64 p] 3))) := e1
        have HNw : Hid (∀ j u, [Value.int .i64 p][j]? = some u → (w5.alloc (Obj.cells #[.int .i64 p] 3)).cell? ((⟨w5.heap.size, 0, none⟩ : Addr).add j) = some u) := e2
        have HSg2 : Hid (StG ps.length (L ++ [p]) p) := e3
        have HLen : Hid ((L ++ [p]).length = L.length + 1) := e4
        have HZb : Hid (w3.heap.size ≤ (w5.alloc (Obj.cells #[.int .i64 p] 3)).heap.size) := HF6.out.ap.1
        clear e1 e2 e3 e4 HEnd HSg
        go_wp2_with (at_builtin; refine wpList_append_lies _ rfl _ _ 23 rfl w3.heap.size 3 i0 (.int .i64 0) 1 8 Try.underlying23 hi hi0 hi1 hi2 rfl (by decide) _ _ _ rfl HF6.out.row ⟨w5.heap.size, 0, none⟩ 1 1 [.int .i64 p] rfl rfl HNw.out (by intro u hu; simp at hu; rcases hu with rfl; rfl) (by omega) (by unfold maxLen; omega) (by omega) HZb.out _ rfl ?_; intro g1 cp1 w7 hown1 hgrow1 hat1 hglt1; have HF7 : Hid (FoSt b a len cap w3 (.slice (some ⟨g1, 0, none⟩) (L.length + 1) cp1) (L ++ [p]) at5 s5 w7) := HF6.out.push hown1 hgrow1; clear hown1 hgrow1 hat1)
        go_roundw
        case rel => exact ⟨L ++ [p], g1, cp1, p, at5, s5, by rw [HLen.out], rfl, by rw [HLen.out]; go_num, by rw [HLen.out]; omega, hp, HSg2.out, by rw [HLen.out]; omega, by rw [HLen.out]; exact HF7.out⟩
        case measure => simp [intOf]; omega
      · by_cases hmin : p + 1 ≤ (ps.length : Int) - 1
        · obtain ⟨e1, e2, e3, e4⟩ := HEnd.out (p + 1) (by omega) (by omega) hmin
          have HF6 : Hid (FoSt b a len cap w3 (.slice (some ⟨g2, 0, none⟩) L.length c2) L at5 s5 (w5.alloc (Obj.cells #[.int .i64 (p + 1)] 3))) := e1
          have HNw : Hid (∀ j u, [Value.int .i64 (p + 1)][j]? = some u → (w5.alloc (Obj.cells #[.int .i64 (p + 1)] 3)).cell? ((⟨w5.heap.size, 0, none⟩ : Addr).add j) = some u) := e2
          have HSg2 : Hid (StG ps.length (L ++ [p + 1]) (p + 1)) := e3
          have HLen : Hid ((L ++ [p + 1]).length = L.length + 1) := e4
          have HZb : Hid (w3.heap.size ≤ (w5.alloc (Obj.cells #[.int .i64 (p + 1)] 3)).heap.size) := HF6.out.ap.1
          clear e1 e2 e3 e4 HEnd HSg
          go_wp2_with (at_builtin; refine wpList_append_lies _ rfl _ _ 23 rfl w3.heap.size 3 i0 (.int .i64 0) 1 8 Try.underlying23 hi hi0 hi1 hi2 rfl (by decide) _ _ _ rfl HF6.out.row ⟨w5.heap.size, 0, none⟩ 1 1 [.int .i64 (p + 1)] rfl rfl HNw.out (by intro u hu; simp at hu; rcases hu with rfl; rfl) (by omega) (by unfold maxLen; omega) (by omega) HZb.out _ rfl ?_; intro g1 cp1 w7 hown1 hgrow1 hat1 hglt1; have HF7 : Hid (FoSt b a len cap w3 (.slice (some ⟨g1, 0, none⟩) (L.length + 1) cp1) (L ++ [p + 1]) at5 s5 w7) := HF6.out.push hown1 hgrow1; clear hown1 hgrow1 hat1)
          go_roundw
          case rel => exact ⟨L ++ [p + 1], g1, cp1, p + 1, at5, s5, by rw [HLen.out], rfl, by rw [HLen.out]; go_num, by rw [HLen.out]; omega, ⟨by omega, hmin⟩, HSg2.out, by rw [HLen.out]; omega, by rw [HLen.out]; exact HF7.out⟩
          case measure => simp [intOf]; omega
        · have hpn : p = (ps.length : Int) - 1 := by omega
          obtain ⟨e1, e2, e3, e4⟩ := HEnd.out ((ps.length : Int) - 1) (by omega) (by omega) (Int.le_refl _)
          have HF6 : Hid (FoSt b a len cap w3 (.slice (some ⟨g2, 0, none⟩) L.length c2) L at5 s5 (w5.alloc (Obj.cells #[.int .i64 ((ps.length : Int) - 1)] 3))) := e1
          have HNw : Hid (∀ j u, [Value.int .i64 ((ps.length : Int) - 1)][j]? = some u → (w5.alloc (Obj.cells #[.int .i64 ((ps.length : Int) - 1)] 3)).cell? ((⟨w5.heap.size, 0, none⟩ : Addr).add j) = some u) := e2
          have HSg2 : Hid (StG ps.length (L ++ [(ps.length : Int) - 1]) ((ps.length : Int) - 1)) := e3
          have HLen : Hid ((L ++ [(ps.length : Int) - 1]).length = L.length + 1) := e4
          have HZb : Hid (w3.heap.size ≤ (w5.alloc (Obj.cells #[.int .i64 ((ps.length : Int) - 1)] 3)).heap.size) := HF6.out.ap.1
          have hlt2 : (ps.length : Int) - 1 < p + 1 := by omega
          clear e1 e2 e3 e4 HEnd HSg hpn hmin
          go_wp2_with (at_builtin; refine wpList_append_lies _ rfl _ _ 23 rfl w3.heap.size 3 i0 (.int .i64 0) 1 8 Try.underlying23 hi hi0 hi1 hi2 rfl (by decide) _ _ _ rfl HF6.out.row ⟨w5.heap.size, 0, none⟩ 1 1 [.int .i64 ((ps.length : Int) - 1)] rfl rfl HNw.out (by intro u hu; simp at hu; rcases hu with rfl; rfl) (by omega) (by unfold maxLen; omega) (by omega) HZb.out _ rfl ?_; intro g1 cp1 w7 hown1 hgrow1 hat1 hglt1; have HF7 : Hid (FoSt b a len cap w3 (.slice (some ⟨g1, 0, none⟩) (L.length + 1) cp1) (L ++ [(ps.length : Int) - 1]) at5 s5 w7) := HF6.out.push hown1 hgrow1; clear hown1 hgrow1 hat1)
          go_roundw
          case rel => exact ⟨L ++ [(ps.length : Int) - 1], g1, cp1, (ps.length : Int) - 1, at5, s5, by rw [HLen.out], rfl, by rw [HLen.out]; go_num, by rw [HLen.out]; omega, ⟨by omega, by omega⟩, HSg2.out, by rw [HLen.out]; omega, by rw [HLen.out]; exact HF7.out⟩
          case measure => simp [intOf]; omega
    · have hLe : L.length = RR.length := by omega
      have HLe : Hid (L.length = RR.length) := hLe
      have hge : ¬ (L.length : Int) < (RR.length : Int) := by omega
      have hls : L.length ≤ 6 := by omega
      clear hLe
      go_wp2_with fail
      (first | go_at_call 29 | skip)
      refine (HNb.out at' sd wr (by omega) HF.out.src (HB3.out.trans HF.out.low)).mono ?_
      rintro e w5 ⟨x, at5, s5, rfl, hx, q5, q6, hs5, hb5, ha5⟩
      have HF5 : Hid (FoSt b a len cap w3 (.slice (some ⟨g2, 0, none⟩) L.length c2) L at5 s5 w5) := HF.out.step (ha5.apart hb5) hb5 hs5
      have hx2 : 0 ≤ x ∧ x < 300 := by obtain ⟨u1, u2⟩ := hx; omega
      clear hs5 hb5 ha5 HF hx
      have hwx : IntKind.i64.wrap (20 + x) = 20 + x := wrap_id _ (by omega) (by omega)
      go_wp2_with fail
      (first | go_at_call 29 | skip)
      refine (HNx.out 50 at5 s5 w5 (by omega) (by omega) HF5.out.src (HB3.out.trans HF5.out.low)).mono ?_
      rintro e w6 ⟨y, at6, s6, rfl, hy, q7, q8, hs6, hb6, ha6⟩
      have HF6 : Hid (FoSt b a len cap w3 (.slice (some ⟨g2, 0, none⟩) L.length c2) L at6 s6 w6) := HF5.out.step (ha6.apart hb6) hb6 hs6
      have hy2 : 0 ≤ y ∧ y < 50 := by obtain ⟨u1, u2⟩ := hy; omega
      clear hs6 hb6 ha6 HF5 hy
      have HFin : Hid (Drm (20 + x) y ps (RR.map (fun r => r.2.2)) L ∧ Reads w6.heap.size w6 (some ⟨gp, 0, none⟩) ps ∧ ReadsDm w6.heap.size w6 (some ⟨gd, 0, none⟩) (RR.map (fun r => r.2.2)) ∧ Reads w6.heap.size w6 (some ⟨g2, 0, none⟩) L ∧ Below w.heap.size w w6) := by
        have hml : (RR.map (fun r => r.2.2)).length = RR.length := by simp
        have hb2 := HT2.out.bv
        refine ⟨⟨⟨by omega, by omega⟩, ⟨by omega, by omega⟩, ⟨HPc.out, hp4⟩, ⟨by rw [hml]; exact hd1, by rw [hml]; exact hd6⟩, fun r hr => ?_, HSg.out.ok (by rw [hml]; exact HLe.out)⟩, ?_, ?_, HF6.out.readsL rfl, ?_⟩
        · obtain ⟨q, hq, rfl⟩ := List.mem_map.mp hr
          exact HDr.out q hq
        · have hgp := HT2.out.row.lt gp rfl
          exact reads_apart (reads_apart (HT2.out.readsL rfl) HT3.out.ap (fun q o e => .inl (by cases e; omega))) HF6.out.ap (fun q o e => .inl (by cases e; omega))
        · exact (HT3.out.over HF6.out).reads rfl
        · rw [← HBe.out]; exact HB3.out.trans HF6.out.low
      have HMl : Hid ((RR.map (fun r => r.2.2)).length = RR.length) := by show _ = _; simp
      clear HF6 HT2 HT3 HDr HSg HPc
      go_wp2_with fail
      refine bodyPost_ret (v := .tuple #[.int .i64 (20 + x), .int .i64 y, .slice (some ⟨gp, 0, none⟩) ps.length cp, .slice (some ⟨gd, 0, none⟩) RR.length cd, .slice (some ⟨g2, 0, none⟩) L.length c2]) (by simp [results, Try.results7, go_sem]) rfl ⟨20 + x, y, ps, RR.map (fun r => r.2.2), L, gp, cp, gd, cd, g2, c2, by rw [HMl.out], HFin.out⟩
end Go.Proofs.Ytlcnhkhkhlpghaa
