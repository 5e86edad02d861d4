/-
  Contracts of the program's NextDay and DeliveryDays, for all arguments.
-/
import Derived.Test.YtbgjekhekjbcpaaDyC
namespace Go.Proofs.Ytbgjekhekjbcpaa
open Go.ChangeShapes Go.WideShapes Go.ChangeAt Go.RowKit Go.Joins Go.Deep
set_option linter.unusedVariables false

theorem nd_ways (wk : List Bool) (hs : List Int) (d : Int) : (cyC wk hs ≠ 0 ∧ ndD wk hs d = 0 ∧ ndC wk hs d = cyC wk hs) ∨ (cyC wk hs = 0 ∧ inB d 0 100000 = false ∧ ndD wk hs d = 0 ∧ ndC wk hs d = 5) ∨ (cyC wk hs = 0 ∧ inB d 0 100000 = true ∧ nx (opB wk hs) d 400 = d + 400 ∧ ndD wk hs d = 0 ∧ ndC wk hs d = 8) ∨ (cyC wk hs = 0 ∧ inB d 0 100000 = true ∧ nx (opB wk hs) d 400 ≠ d + 400 ∧ ndD wk hs d = nx (opB wk hs) d 400 ∧ ndC wk hs d = 0) := by
  unfold ndD ndC
  by_cases h1 : cyC wk hs = 0
  · by_cases h2 : inB d 0 100000 = false
    · rw [if_neg (by rw [h2]; simp), if_neg (by simp [h1]), if_pos h2]; exact .inr (.inl ⟨h1, h2, rfl, rfl⟩)
    · have h2' : inB d 0 100000 = true := by simpa using h2
      by_cases h3 : nx (opB wk hs) d 400 = d + 400
      · rw [if_neg (by simp [h3]), if_neg (by simp [h1]), if_neg h2, if_pos h3]; exact .inr (.inr (.inl ⟨h1, h2', h3, rfl, rfl⟩))
      · rw [if_pos ⟨h1, h2', h3⟩, if_neg (by simp [h1]), if_neg h2, if_neg h3]; exact .inr (.inr (.inr ⟨h1, h2', h3, rfl, rfl⟩))
  · rw [if_neg (by simp [h1]), if_pos h1]; exact .inl ⟨h1, rfl, rfl⟩
theorem dd_ways (wk : List Bool) (hs : List Int) (f t : Int) : (cyC wk hs ≠ 0 ∧ ddL wk hs f t = [] ∧ ddC wk hs f t = cyC wk hs) ∨ (cyC wk hs = 0 ∧ stB f t = false ∧ ddL wk hs f t = [] ∧ ddC wk hs f t = 5) ∨ (cyC wk hs = 0 ∧ stB f t = true ∧ ddL wk hs f t = dl (opB wk hs) f (t - f).toNat ∧ ddC wk hs f t = 0) := by
  by_cases h1 : cyC wk hs = 0
  · by_cases h2 : stB f t = false
    · have e : ddC wk hs f t = 5 := by unfold ddC; rw [if_neg (by simp [h1]), if_pos h2]
      exact .inr (.inl ⟨h1, h2, by unfold ddL; rw [e, if_neg (by decide)], e⟩)
    · have e : ddC wk hs f t = 0 := by unfold ddC; rw [if_neg (by simp [h1]), if_neg h2]
      exact .inr (.inr ⟨h1, by simpa using h2, by unfold ddL; rw [if_pos e], e⟩)
  · have e : ddC wk hs f t = cyC wk hs := by unfold ddC; rw [if_pos h1]
    exact .inl ⟨h1, by unfold ddL; rw [e, if_neg h1], e⟩
theorem cy_ok {wk : List Bool} {hs : List Int} (h : cyC wk hs = 0) : wk.length = 7 ∧ hs.length ≤ 60 ∧ cyB wk hs = true := by
  rcases cy_ways wk hs with ⟨_, e⟩ | ⟨_, _, e⟩ | ⟨_, _, _, e⟩ | ⟨_, _, h3, _⟩
  · omega
  · omega
  · omega
  · exact ⟨(cy_facts h3).1, (cy_facts h3).2.1, h3⟩
def AnsN (w : World) (d c : Int) (e : Ending) (w' : World) : Prop := e = .returned (.tuple #[.int .i64 d, .int .i64 c]) ∧ Below w.heap.size w w'
set_option maxHeartbeats 2000000 in
theorem implNext_any (wa ha : Option Addr) (wc hc : Nat) (wk : List Bool) (hs : List Int) (d : Int) (hl1 : wk.length ≤ 100000000) (hl : hs.length ≤ 100000000) (w : World) (hrw : ReadsBl w.heap.size w wa wk) (hrh : Reads w.heap.size w ha hs) :
    Calls Try.prog 18 #[.slice wa wk.length wc, .slice ha hs.length hc, .int .i64 d] w (AnsN w (ndD wk hs d) (ndC wk hs d)) := by
  have HCo := calOf_any wa ha wc hc wk hs hl1 hl w hrh
  unfold calV at HCo
  rcases nd_ways wk hs d with ⟨h1, e1, e2⟩ | ⟨h1, h2, e1, e2⟩ | ⟨h1, h2, h3, e1, e2⟩ | ⟨h1, h2, h3, e1, e2⟩ <;> rw [e1, e2] <;> clear e1 e2
  · rw [if_neg h1] at HCo
    have l1 : (cyC wk hs != 0) = true := by simp [h1]
    generalize cyC wk hs = c at *
    clear hrw hrh h1
    go_enter Try.func18, Try.ntmps18
    go_wp2_with (go_at_call 42; refine HCo.mono ?_; rintro e w2 ⟨rfl, hb2⟩)
    go_ret2
    exact ⟨rfl, chain hb2 (below_alloc _ _)⟩
  · rw [if_pos h1, h1] at HCo
    clear hrw hrh h1
    unfold inB at h2
    simp only [decide_eq_false_iff_not] at h2
    rcases (by omega : d < 0 ∨ (0 ≤ d ∧ 100000 < d)) with g | ⟨g1, g2⟩
    all_goals
      clear h2
      go_enter Try.func18, Try.ntmps18
      go_wp2_with (go_at_call 42; refine HCo.mono ?_; rintro e w2 ⟨rfl, hb2⟩)
      go_ret2
      exact ⟨rfl, chain hb2 (below_alloc _ _)⟩
  · rw [if_pos h1, h1] at HCo
    obtain ⟨q7, q60, _⟩ := cy_ok h1
    unfold inB at h2
    simp only [decide_eq_true_eq] at h2
    obtain ⟨g1, g2⟩ := h2
    obtain ⟨x, hx⟩ : ∃ x, d + 400 = x := ⟨_, rfl⟩
    have wx : IntKind.i64.wrap (d + 400) = x := by rw [← hx]; exact wrap_id _ (by omega) (by omega)
    have HNo : Hid (∀ W, Below w.heap.size w W → Calls Try.prog 44 #[.agg #[.slice wa wk.length wc, .slice ha hs.length hc], .int .i64 d, .int .i64 x] W fun e w' => e = .returned (.int .i64 (nx (opB wk hs) d 400)) ∧ Below W.heap.size W w') := fun W hW => by
      have := nextOpen_any wa ha wc hc wk hs d 400 q7 q60 g1 (by omega) W (hrw.later hW) (readsL hrh hW)
      rw [show d + ((400 : Nat) : Int) = x by omega] at this
      exact this
    rw [hx] at h3
    have l1 : (nx (opB wk hs) d 400 == x) = true := by simp [h3]
    
    generalize nx (opB wk hs) d 400 = y at *
    clear hrw hrh h1 h3 hx q7 q60
    generalize wk.length = wl at *
    generalize hs.length = hl2 at *
    go_enter Try.func18, Try.ntmps18
    go_wp2_with (first | (go_at_call 42; refine HCo.mono ?_; rintro e w2 ⟨rfl, hb2⟩) | (go_at_call 44; refine (HNo.out _ (chain hb2 (below_alloc _ _))).mono ?_; rintro e w3 ⟨rfl, hb3⟩))
    go_ret2
    exact ⟨rfl, chain (chain hb2 (below_alloc _ _)) hb3⟩
  · rw [if_pos h1, h1] at HCo
    obtain ⟨q7, q60, _⟩ := cy_ok h1
    unfold inB at h2
    simp only [decide_eq_true_eq] at h2
    obtain ⟨g1, g2⟩ := h2
    obtain ⟨x, hx⟩ : ∃ x, d + 400 = x := ⟨_, rfl⟩
    have wx : IntKind.i64.wrap (d + 400) = x := by rw [← hx]; exact wrap_id _ (by omega) (by omega)
    have HNo : Hid (∀ W, Below w.heap.size w W → Calls Try.prog 44 #[.agg #[.slice wa wk.length wc, .slice ha hs.length hc], .int .i64 d, .int .i64 x] W fun e w' => e = .returned (.int .i64 (nx (opB wk hs) d 400)) ∧ Below W.heap.size W w') := fun W hW => by
      have := nextOpen_any wa ha wc hc wk hs d 400 q7 q60 g1 (by omega) W (hrw.later hW) (readsL hrh hW)
      rw [show d + ((400 : Nat) : Int) = x by omega] at this
      exact this
    rw [hx] at h3
    have l1 : (nx (opB wk hs) d 400 == x) = false := by simp [h3]
    have l2 : ¬ nx (opB wk hs) d 400 = x := h3
    generalize nx (opB wk hs) d 400 = y at *
    clear hrw hrh h1 h3 hx q7 q60
    generalize wk.length = wl at *
    generalize hs.length = hl2 at *
    go_enter Try.func18, Try.ntmps18
    go_wp2_with (first | (go_at_call 42; refine HCo.mono ?_; rintro e w2 ⟨rfl, hb2⟩) | (go_at_call 44; refine (HNo.out _ (chain hb2 (below_alloc _ _))).mono ?_; rintro e w3 ⟨rfl, hb3⟩))
    go_ret2
    exact ⟨rfl, chain (chain hb2 (below_alloc _ _)) hb3⟩
theorem oneNil (w : World) : One w w.heap.size (.slice none 0 0) [] w := ⟨⟨rfl, .inl ⟨rfl, rfl⟩⟩, Nat.le_refl _, Below.refl _ _⟩
set_option maxHeartbeats 4000000 in
set_option maxRecDepth 4000 in
theorem implDays_any (wa ha : Option Addr) (wc hc : Nat) (wk : List Bool) (hs : List Int) (f t : Int) (hl1 : wk.length ≤ 100000000) (hl : hs.length ≤ 100000000) (w : World) (hrw : ReadsBl w.heap.size w wa wk) (hrh : Reads w.heap.size w ha hs) :
    Calls Try.prog 17 #[.slice wa wk.length wc, .slice ha hs.length hc, .int .i64 f, .int .i64 t] w (AnsL w (ddL wk hs f t) (ddC wk hs f t)) := by
  have HCo := calOf_any wa ha wc hc wk hs hl1 hl w hrh
  have HSt : Hid (∀ W, Calls Try.prog 43 #[.int .i64 f, .int .i64 t] W fun e w' => e = .returned (.bool (stB f t)) ∧ W = w') := fun W => stretch_any f t W
  unfold calV at HCo
  rcases dd_ways wk hs f t with ⟨h1, e1, e2⟩ | ⟨h1, h2, e1, e2⟩ | ⟨h1, h2, e1, e2⟩ <;> rw [e1, e2] <;> clear e1 e2
  · rw [if_neg h1] at HCo
    have l1 : (cyC wk hs != 0) = true := by simp [h1]
    generalize cyC wk hs = c at *
    clear hrw hrh h1
    go_enter Try.func17, Try.ntmps17
    go_wp2_with (go_at_call 42; refine HCo.mono ?_; rintro e w2 ⟨rfl, hb2⟩)
    go_ret2
    exact AnsL.nil _ _ (chain hb2 (below_alloc _ _))
  · rw [if_pos h1, h1] at HCo
    rw [h2] at HSt
    clear hrw hrh h1 h2
    go_enter Try.func17, Try.ntmps17
    go_wp2_with (first | (go_at_call 42; refine HCo.mono ?_; rintro e w2 ⟨rfl, hb2⟩) | (go_at_call 43; refine (HSt.out _).mono ?_; rintro e w3 ⟨rfl, rfl⟩))
    go_ret2
    exact AnsL.nil _ _ (chain hb2 (below_alloc _ _))
  · rw [if_pos h1, h1] at HCo
    obtain ⟨q7, q60, _⟩ := cy_ok h1
    obtain ⟨g1, g2, g3, g4⟩ := st_facts h2
    rw [h2] at HSt
    obtain ⟨n, hn⟩ : ∃ n : Nat, (t - f).toNat = n := ⟨_, rfl⟩
    rw [hn]
    have ht : t = f + (n : Int) := by omega
    have hn4 : n ≤ 400 := by omega
    have HNo : Hid (∀ (g : Int) (k : Nat) W, 0 ≤ g → g + (k : Int) = t → Below w.heap.size w W → Calls Try.prog 44 #[.agg #[.slice wa wk.length wc, .slice ha hs.length hc], .int .i64 g, .int .i64 t] W fun e w' => e = .returned (.int .i64 (nx (opB wk hs) g k)) ∧ Below W.heap.size W w') := fun g k W hg hk hW => by
      have := nextOpen_any wa ha wc hc wk hs g k q7 q60 hg (by omega) W (hrw.later hW) (readsL hrh hW)
      rw [hk] at this
      exact this
    have HT : Hid (t = f + (n : Int)) := ht
    clear hrw hrh h1 h2 q7 q60 hn ht g2 g4
    generalize opB wk hs = p at *
    generalize wk.length = wl at *
    generalize hs.length = hl2 at *
    obtain ⟨i0, hi, hzz⟩ := Option.map_eq_some_iff.1 intInfo1
    simp only [Prod.mk.injEq] at hzz
    obtain ⟨hi0, hi1, hi2⟩ := hzz
    go_enter Try.func17, Try.ntmps17
    go_wp2_with fail
    (first | go_at_call 42 | skip)
    refine HCo.mono ?_
    rintro e w2 ⟨rfl, hb2⟩
    have HB3 : Hid (Below w.heap.size w (w2.alloc (Obj.cells #[.slice wa wl wc, .slice ha hl2 hc] 71))) := chain hb2 (below_alloc _ _)
    have HC3 : Hid (∀ W, Below (w2.alloc (Obj.cells #[.slice wa wl wc, .slice ha hl2 hc] 71)).heap.size (w2.alloc (Obj.cells #[.slice wa wl wc, .slice ha hl2 hc] 71)) W → W.cell? ⟨w2.heap.size, 0, none⟩ = some (.slice wa wl wc) ∧ W.cell? ⟨w2.heap.size, 1, none⟩ = some (.slice ha hl2 hc)) := fun W hW => ⟨(hW.cell (p := ⟨w2.heap.size, 0, none⟩) (by simp)).trans (by simp), (hW.cell (p := ⟨w2.heap.size, 1, none⟩) (by simp)).trans (by simp)⟩
    clear hb2 HCo
    go_upto_region 4 with fail
    generalize (w2.alloc (Obj.cells #[.slice wa wl wc, .slice ha hl2 hc] 71)) = W3 at *
    generalize w2.heap.size = bb at *
    obtain ⟨cA, cB⟩ := HC3.out W3 (Below.refl _ _)
    have hno0 := HNo.out f n W3 g1 HT.out.symm HB3.out
    go_wp2_with (first | (go_at_call 43; refine (HSt.out _).mono ?_; rintro e w3 ⟨rfl, rfl⟩) | (go_at_call 44; refine hno0.mono ?_; rintro e w4 ⟨rfl, hb4⟩))
    have H0 : Hid (One W3 W3.heap.size (.slice none 0 0) [] w4) := ⟨⟨rfl, .inl ⟨rfl, rfl⟩⟩, hb4.size, hb4⟩
    clear hno0 hb4 cA cB HSt
    go_loopw [12, 13] (fun v dv wr => ∃ (m : Nat) (L : List Int), m ≤ n ∧ dv = .int .i64 (nx p (f + (m : Int)) (n - m)) ∧ dl p f n = L ++ dl p (f + (m : Int)) (n - m) ∧ L.length ≤ m ∧ One W3 W3.heap.size v L wr) (fun _ dv _ => (t - intOf dv).toNat)
    case atStart => exact ⟨0, [], Nat.zero_le _, by simp, by simp, Nat.le_refl _, H0.out⟩
    case round =>
      clear H0
      obtain ⟨m, L, hm, rfl, hdl, hLm, hO⟩ := hrel
      obtain ⟨gv, cv, hv⟩ := row_slice hO.1
      subst hv
      have HO : Hid (One W3 W3.heap.size (.slice gv L.length cv) L wr) := hO
      have hrg := nx_range p (n - m) (f + (m : Int))
      have hd2 := dl_nx p (n - m) (f + (m : Int))
      have HDl : Hid (dl p f n = L ++ dl p (f + (m : Int)) (n - m)) := hdl
      have HD2 : Hid _ := hd2
      clear hO hdl hd2
      have htt := HT.out
      by_cases hlt : nx p (f + (m : Int)) (n - m) < t
      · have hd3 := HD2.out
        rw [if_pos (by omega)] at hd3
        obtain ⟨y, hy⟩ : ∃ y, nx p (f + (m : Int)) (n - m) = y := ⟨_, rfl⟩
        rw [hy] at hrg hd3 hlt ⊢
        obtain ⟨m2, hm2⟩ : ∃ m2 : Nat, y + 1 = f + (m2 : Int) := ⟨(y + 1 - f).toNat, by omega⟩
        have hm3 : m2 ≤ n ∧ m < m2 := by omega
        have hd4 : dl p f n = (L ++ [y]) ++ dl p (f + (m2 : Int)) (n - m2) := by
          rw [HDl.out, hd3, hm2, show (f + (m : Int) + ((n - m : Nat) : Int) - y - 1).toNat = n - m2 by omega]; simp
        have HD4 : Hid (dl p f n = (L ++ [y]) ++ dl p (f + (m2 : Int)) (n - m2)) := hd4
        have HLen : Hid ((L ++ [y]).length = L.length + 1) := by show _ = _; simp
        have wy : IntKind.i64.wrap (y + 1) = f + (m2 : Int) := by rw [hm2]; exact wrap_id _ (by omega) (by omega)
        have hno1 : Hid (∀ W, Below w.heap.size w W → Calls Try.prog 44 #[.agg #[.slice wa wl wc, .slice ha hl2 hc], .int .i64 (f + (m2 : Int)), .int .i64 t] W fun e w' => e = .returned (.int .i64 (nx p (f + (m2 : Int)) (n - m2))) ∧ Below W.heap.size W w') := fun W hW => HNo.out (f + (m2 : Int)) (n - m2) W (by omega) (by omega) hW
        have hL4 : L.length ≤ 400 := by omega
        have HM3 : Hid (m2 ≤ n ∧ m < m2 ∧ y < t ∧ y + 1 = f + (m2 : Int) ∧ L.length ≤ m) := ⟨hm3.1, hm3.2, hlt, hm2, hLm⟩
        have HRg2 : Hid (f + (m2 : Int) ≤ nx p (f + (m2 : Int)) (n - m2)) := (nx_range p (n - m2) (f + (m2 : Int))).1
        clear hd3 hd4 hy HDl HD2 hrg hm2 hm3 hLm hm htt
        obtain ⟨y2, hy2⟩ : ∃ y2, nx p (f + (m2 : Int)) (n - m2) = y2 := ⟨_, rfl⟩
        have HY2 : Hid (nx p (f + (m2 : Int)) (n - m2) = y2) := hy2
        rw [hy2] at hno1 HRg2
        clear hy2
        go_wp2_with (first | (at_builtin; refine wpList_append_lies _ rfl _ _ 33 rfl W3.heap.size 3 i0 (.int .i64 0) 1 8 Try.underlying33 hi hi0 hi1 hi2 rfl (by decide) _ _ _ rfl (by have h9 := HO.out.1; exact h9.alloc _) ⟨wr.heap.size, 0, none⟩ 1 1 [.int .i64 y] rfl rfl (newsOne wr _ _) (by intro u hu; simp at hu; subst hu; rfl) (by omega) (by unfold maxLen; omega) (by omega) (by have := HO.out.2.1; simp; omega) _ rfl ?_; intro g1' cp1 w5 hown1 hgrow1 hat1 hglt1; have HT5 : Hid _ := (HO.out.alloc _).push hown1 hgrow1; clear hown1 hgrow1 hat1 hglt1; have hcc := HC3.out w5 HT5.out.2.2; obtain ⟨cA, cB⟩ := hcc) | (go_at_call 44; refine (hno1.out _ (HB3.out.trans (HT5.out.2.2.mono HB3.out.size))).mono ?_; rintro e w6 ⟨rfl, hb6⟩))
        exact ⟨⟨m2, L ++ [y], HM3.out.1, by rw [HY2.out], HD4.out, by rw [HLen.out]; have := HM3.out; omega, One.later HT5.out hb6⟩, by have := HM3.out; have := HRg2.out; simp [intOf]; omega⟩
      · have hd3 := HD2.out
        rw [if_neg (by omega)] at hd3
        have HE : Hid (dl p f n = L) := by show _ = _; rw [HDl.out, hd3]; simp
        generalize nx p (f + (m : Int)) (n - m) = y at *
        clear hd3 HDl HD2 htt hrg
        go_wp2
        go_ret2
        exact ⟨gv, cv, by rw [HE.out]; rfl, by rw [HE.out]; exact own2_mono (HO.out.own2 rfl) HB3.out.size, HB3.out.trans (HO.out.2.2.mono HB3.out.size)⟩
end Go.Proofs.Ytbgjekhekjbcpaa
