/-
  Contract of the program's PriceSteps, for every list of rows, article, zone and stretch.
-/
import Derived.Test.YtgfgecpgfcipnaaStepC
namespace Go.Proofs.Ytgfgecpgfcipnaa
open Go.ChangeShapes Go.WideShapes Go.ChangeAt Go.RowKit
set_option linter.unusedVariables false

theorem prAll_len {rs : List RPr} (h : prAll rs = true) : rs.length ≤ 80 := by
  unfold prAll at h
  split at h
  · cases h
  · omega
/-- One turn of the walk: the end, a step more, or none. -/
theorem st_turn {f : Int → Int} {fr to am t : Int} {T : List Int} :
    (to ≤ t ∧ stGo f fr to (t :: T) am = []) ∨ (t < to ∧ fr < t ∧ f t ≠ am ∧ stGo f fr to (t :: T) am = t :: f t :: stGo f fr to T (f t)) ∨ (t < to ∧ fr < t ∧ f t = am ∧ stGo f fr to (t :: T) am = stGo f fr to T am) ∨ (t < to ∧ t ≤ fr ∧ stGo f fr to (t :: T) am = stGo f fr to T am) := by
  by_cases h1 : to ≤ t
  · exact .inl ⟨h1, by rw [stGo, if_pos h1]⟩
  · by_cases h2 : fr < t
    · by_cases h3 : f t = am
      · exact .inr (.inr (.inl ⟨by omega, h2, h3, by rw [stGo, if_neg h1, if_neg (fun q => q.2 h3)]⟩))
      · exact .inr (.inl ⟨by omega, h2, h3, by rw [stGo, if_neg h1, if_pos ⟨h2, h3⟩]⟩)
    · exact .inr (.inr (.inr ⟨by omega, by omega, by rw [stGo, if_neg h1, if_neg (fun q => h2 q.1)]⟩))
/-- The state of the walk over the turns. -/
def StSt (rs : List RPr) (art zn : ByteArray) (fr to : Int) (w9 : World) (gT k g cp n : Nat) (L : List Int) (am : Int) (wr : World) : Prop :=
  StpT w9 w9.heap.size (.slice (some ⟨g, 0, none⟩) n cp) n L wr ∧ stepsL rs art zn fr to = L ++ stGo (amtAt rs art zn) fr to ((turnsS rs).drop k) am ∧ L.getD ((n - 1) * 2 + 1) 0 = am ∧ IntsAt wr gT 0 (turnsS rs) ∧ gT < wr.heap.size ∧ g ≠ gT
theorem getD_last (L : List Int) (n : Nat) (x y : Int) (h : L.length = n * 2) : (L ++ [x, y]).getD ((n + 1 - 1) * 2 + 1) 0 = y := by
  rw [List.getD_eq_getElem?_getD, List.getElem?_append_right (by omega), show (n + 1 - 1) * 2 + 1 - L.length = 1 by omega]; rfl

theorem st_grown {w12 w7 : World} {o : Obj} {gT g g1 n cp : Nat} {T : List Int} (hi : IntsAt w12 gT 0 T) (hl : gT < w12.heap.size) (hne : g ≠ gT) (hg : (w12.alloc o).grownBy w7 (Value.slice (some ⟨g, 0, none⟩) n cp).ownBlock) (hat : (Value.slice (some ⟨g, 0, none⟩) n cp).ownBlock = some g1 ∨ g1 = (w12.alloc o).heap.size) (hlt : g1 < w7.heap.size) : IntsAt w7 gT 0 T ∧ gT < w7.heap.size ∧ g1 ≠ gT := by
  have hl' : gT < (w12.alloc o).heap.size := Nat.lt_of_lt_of_le hl (below_alloc w12 o).size
  have hq : (Value.slice (some ⟨g, 0, none⟩) n cp).ownBlock ≠ some gT := fun e => hne (by simpa [Value.ownBlock] using e)
  refine ⟨ints_grown (hi.below (below_alloc w12 o) hl) hl' hg hq, Nat.lt_of_lt_of_le hl' hg.size, ?_⟩
  rcases hat with h | h
  · intro e; subst e; exact hq h
  · omega

set_option maxHeartbeats 4000000 in
set_option maxRecDepth 4000 in
theorem implSteps_main (a : Option Addr) (cap : Nat) (rs : List RPr) (hl : rs.length ≤ 80) (art zn : ByteArray) (fr to : Int) (h0 : 0 ≤ fr) (h1 : fr < to) (h2 : to ≤ 10000000) (w : World) (hr : ReadsPr w.heap.size w a rs)
    (hf : Calls Try.prog 12 #[.slice a rs.length cap, .string art, .string zn] (w.alloc (Obj.cells #[.slice a rs.length cap] 23)) fun e w' => e = .returned (.int .i64 0) ∧ Below (w.alloc (Obj.cells #[.slice a rs.length cap] 23)).heap.size (w.alloc (Obj.cells #[.slice a rs.length cap] 23)) w') :
    Calls Try.prog 6 #[.slice a rs.length cap, .string art, .string zn, .int .i64 fr, .int .i64 to] w fun e w' => ∃ g c, e = .returned (.tuple #[.slice g ((stepsL rs art zn fr to).length / 2) c, .int .i64 0]) ∧ Own2 w.heap.size w' g (stepsL rs art zn fr to) ∧ Below w.heap.size w w' := by
  have HR : Hid (ReadsPr w.heap.size w a rs) := hr
  have HM : Hid (∀ W, Calls Try.prog 13 #[.slice a rs.length cap, .string art, .string zn] W fun e w' => ∃ p1 p2 p3, e = .returned (.func (.func 28) #[] #[.pointer (some ⟨p1, 0, none⟩), .pointer (some ⟨p2, 0, none⟩), .pointer (some ⟨p3, 0, none⟩)]) ∧ CtEnv w' a rs.length cap art zn p1 p2 p3 ∧ Below W.heap.size W w') := fun W => countingRows_make a rs.length cap art zn W
  have HA : Hid (∀ m p q W, ReadsPr W.heap.size W a rs → SpEnv W a rs.length cap art zn p q → Calls Try.prog 14 #[.int .i64 m, .pointer (some ⟨p, 0, none⟩), .pointer (some ⟨q, 0, none⟩)] W fun e w' => e = .returned (.int .i64 (amtAt rs art zn m)) ∧ Below W.heap.size W w') := fun m p q W h he => implAmt_any a cap rs (by omega) art zn m p q W h he
  have HTu : Hid (∀ W, ReadsPr W.heap.size W a rs → Calls Try.prog 15 #[.slice a rs.length cap] W fun e w' => ∃ g c, e = .returned (.slice (some ⟨g, 0, none⟩) (rs.length * 2) c) ∧ Reads w'.heap.size w' (some ⟨g, 0, none⟩) (turnsS rs) ∧ (W.heap.size ≤ g ∧ g < w'.heap.size) ∧ Below W.heap.size W w') := fun W h => turns_any a cap rs hl W h
  have q1 : (w.alloc (Obj.cells #[.slice a rs.length cap] 23)).cell? ⟨w.heap.size, 0, none⟩ = some (.slice a rs.length cap) := by simp
  have z1 : w.heap.size < (w.alloc (Obj.cells #[.slice a rs.length cap] 23)).heap.size := by simp
  have HB0 : Hid (Below w.heap.size w (w.alloc (Obj.cells #[.slice a rs.length cap] 23))) := below_alloc _ _
  clear hr
  go_enter Try.func6, Try.ntmps6
  have hst := storeFn
  have n2 : ∀ n : Nat, n < n + 2 := fun n => by omega
  go_wp2
  go_step3
  go_wp2_with (first
    | (go_at_call 12
       refine hf.mono ?_
       rintro e w2 ⟨rfl, hb2⟩
       have q2 : w2.cell? ⟨w.heap.size, 0, none⟩ = some (.slice a rs.length cap) := (hb2.cell (p := ⟨w.heap.size, 0, none⟩) z1).trans q1
       have z2 : w.heap.size < w2.heap.size := Nat.lt_of_lt_of_le z1 hb2.size
       have B2 : Hid (Below w.heap.size w w2) := chain HB0.out hb2
       clear hb2 hf q1 z1 HB0)
    | (go_at_call 13
       refine (HM.out _).mono ?_
       rintro e w3 ⟨p1, p2, p3, rfl, he3, hb3⟩
       have q3 : w3.cell? ⟨w.heap.size, 0, none⟩ = some (.slice a rs.length cap) := (hb3.cell (p := ⟨w.heap.size, 0, none⟩) z2).trans q2
       have z3 : w.heap.size < w3.heap.size := Nat.lt_of_lt_of_le z2 hb3.size
       have B3 : Hid (Below w.heap.size w w3) := chain B2.out hb3
       have HE3 : Hid (CtEnv w3 a rs.length cap art zn p1 p2 p3) := he3
       have HE4 : Hid (∀ W, Below w3.heap.size w3 W → w3.heap.size < W.heap.size → W.cell? ⟨w3.heap.size, 0, none⟩ = some (.func (.func 28) #[] #[.pointer (some ⟨p1, 0, none⟩), .pointer (some ⟨p2, 0, none⟩), .pointer (some ⟨p3, 0, none⟩)]) → SpEnv W a rs.length cap art zn w3.heap.size w.heap.size) := fun W hW hz hc => ⟨p1, p2, p3, hc, (hW.cell (p := ⟨w.heap.size, 0, none⟩) z3).trans q3, hz, Nat.lt_of_lt_of_le z3 hW.size, HE3.out.below hW⟩
       clear hb3 he3 q2 z2 B2 HE3)
    | (go_at_call 14
       refine (HA.out fr _ _ _ ?_ ?_).mono ?_
       · refine (HR.out.below ?_).mono ?_
         · first
           | exact chain B3.out (below_alloc _ _)
           | exact chain B3.out ((below_alloc _ _).setCell (by simp) _)
         · first
           | exact (chain B3.out (below_alloc _ _)).size
           | exact (chain B3.out ((below_alloc _ _).setCell (by simp) _)).size
       · refine HE4.out _ ?_ ?_ ?_
         · first
           | exact below_alloc _ _
           | exact (below_alloc _ _).setCell (by simp) _
         · simp
         · simp
       rintro e w9 ⟨rfl, hb9⟩
       have B9 : Hid (Below w.heap.size w w9) := by
         first
         | exact chain (chain B3.out (below_alloc _ _)) hb9
         | exact chain (chain B3.out ((below_alloc _ _).setCell (by simp) _)) hb9
       have HE9 : Hid (SpEnv w9 a rs.length cap art zn w3.heap.size w.heap.size) := by
         refine SpEnv.below (HE4.out _ ?_ ?_ ?_) hb9
         · first
           | exact below_alloc _ _
           | exact (below_alloc _ _).setCell (by simp) _
         · simp
         · simp
       have q9 : w9.cell? ⟨w.heap.size, 0, none⟩ = some (.slice a rs.length cap) := by obtain ⟨_, _, _, _, h, _⟩ := HE9.out; exact h
       have z9 : w.heap.size < w9.heap.size := Nat.lt_of_lt_of_le z3 (by have := hb9.size; simp at this; omega)
       clear hb9 q3 z3 HE4
       generalize w3.heap.size = bp at *
       have HS9 : Hid (StpT w9 w9.heap.size (.slice (some ⟨w9.heap.size, 0, none⟩) 1 1) 1 [fr, amtAt rs art zn fr] (w9.alloc (Obj.cells #[.int .i64 fr, .int .i64 (amtAt rs art zn fr)] 32))) := StpT.fresh w9 _ _
       have q10 : (w9.alloc (Obj.cells #[.int .i64 fr, .int .i64 (amtAt rs art zn fr)] 32)).cell? ⟨w.heap.size, 0, none⟩ = some (.slice a rs.length cap) := ((below_alloc w9 _).cell (p := ⟨w.heap.size, 0, none⟩) z9).trans q9))
  go_step3
  go_wp2_with (go_at_call 15; refine (HTu.out _ ((HR.out.below (chain B9.out (below_alloc _ _))).mono (chain B9.out (below_alloc _ _)).size)).mono ?_; rintro e w11 ⟨gT, cT, rfl, hr11, ⟨hg11, hl11⟩, hb11⟩)
  have hTl : (turnsS rs).length = rs.length * 2 := turnsS_len rs
  obtain ⟨i0, hti, hzz⟩ := Option.map_eq_some_iff.1 stepInfo
  simp only [Prod.mk.injEq] at hzz
  obtain ⟨hi0, hi1, hi2⟩ := hzz
  have HS11 : Hid (StpT w9 w9.heap.size (.slice (some ⟨w9.heap.size, 0, none⟩) 1 1) 1 [fr, amtAt rs art zn fr] w11) := HS9.out.later hb11
  have hi11 : IntsAt w11 gT 0 (turnsS rs) := by
    rcases hr11 with h | ⟨b, off, h, _, hi⟩
    · rw [h]; intro i hi; simp at hi
    · simp at h
      obtain ⟨rfl, rfl⟩ := h
      exact hi
  have hne : w9.heap.size ≠ gT := by simp at hg11; omega
  have HSt : Hid (StSt rs art zn fr to w9 gT 0 w9.heap.size 1 1 [fr, amtAt rs art zn fr] (amtAt rs art zn fr) w11) := ⟨HS11.out, rfl, rfl, hi11, hl11, hne⟩
  clear HS11 HS9 hr11 hi11 hl11 hg11 hb11 hne q10 q9 z9 HTu HM
  go_loopw [15, 17, 18, 51] (fun v _ _ c wr => ∃ (k g cp m : Nat) (L : List Int) (am : Int), k ≤ rs.length * 2 ∧ c = .int .i64 (k : Int) ∧ v = .slice (some ⟨g, 0, none⟩) (m + 1) cp ∧ m ≤ k ∧ StSt rs art zn fr to w9 gT k g cp (m + 1) L am wr) (fun _ _ _ c _ => rs.length * 2 - (intOf c).toNat)
  case atStart => exact ⟨0, w9.heap.size, 1, 0, _, _, Nat.zero_le _, rfl, rfl, Nat.le_refl _, HSt.out⟩
  case round =>
    clear HSt
    obtain ⟨k, g, cp, m, L, am, hk, rfl, rfl, hm, hS⟩ := hrel
    have HS : Hid (StSt rs art zn fr to w9 gT k g cp (m + 1) L am wr) := hS
    have HBw : Hid (Below w9.heap.size w9 wr) := hS.1.2.2
    have HBa : Hid (Below w.heap.size w wr) := chain B9.out hS.1.2.2
    clear hS
    by_cases hlt : k < rs.length * 2
    · have hlt' : (k : Int) < ((rs.length * 2 : Nat) : Int) := by omega
      have hlt2 : (k : Int) < (rs.length : Int) * 2 := by omega
      have ct := HS.out.2.2.2.1 k (by omega)
      rw [Nat.zero_add] at ct
      have HTn : Hid ((turnsS rs).drop k = (turnsS rs).getD k 0 :: (turnsS rs).drop (k + 1)) := getD_drop _ k (by omega)
      have hAm := HA.out ((turnsS rs).getD k 0) bp w.heap.size wr ((HR.out.below HBa.out).mono HBa.out.size) (HE9.out.below HBw.out)
      have HSw := st_turn (f := amtAt rs art zn) (fr := fr) (to := to) (am := am) (t := (turnsS rs).getD k 0) (T := (turnsS rs).drop (k + 1))
      have HL : Hid (L.length = (m + 1) * 2) := HS.out.1.len
      have HSt2 : Hid (∀ W, Below wr.heap.size wr W → StpT w9 w9.heap.size (.slice (some ⟨g, 0, none⟩) (m + 1) cp) (m + 1) L W ∧ IntsAt W gT 0 (turnsS rs) ∧ gT < W.heap.size) := fun W hW => ⟨HS.out.1.later hW, HS.out.2.2.2.1.below hW HS.out.2.2.2.2.1, Nat.lt_of_lt_of_le HS.out.2.2.2.2.1 hW.size⟩
      have HE : Hid (stepsL rs art zn fr to = L ++ stGo (amtAt rs art zn) fr to ((turnsS rs).getD k 0 :: (turnsS rs).drop (k + 1)) am) := by have := HS.out.2.1; rw [HTn.out] at this; exact this
      have HLa : Hid (L.getD ((m + 1 - 1) * 2 + 1) 0 = am ∧ g ≠ gT) := ⟨HS.out.2.2.1, HS.out.2.2.2.2.2⟩
      have HMk : Hid (∀ L' am' g' cp' m' W, m' ≤ k + 1 → StpT w9 w9.heap.size (.slice (some ⟨g', 0, none⟩) (m' + 1) cp') (m' + 1) L' W → stepsL rs art zn fr to = L' ++ stGo (amtAt rs art zn) fr to ((turnsS rs).drop (k + 1)) am' → L'.getD ((m' + 1 - 1) * 2 + 1) 0 = am' → IntsAt W gT 0 (turnsS rs) → gT < W.heap.size → g' ≠ gT → StSt rs art zn fr to w9 gT (k + 1) g' cp' (m' + 1) L' am' W) := fun L' am' g' cp' m' W _ h1 h2 h3 h4 h5 h6 => ⟨h1, h2, h3, h4, h5, h6⟩
      have HCa : Hid (∀ W, Below wr.heap.size wr W → W.cell? ⟨g, m * 2 + 1, none⟩ = some (.int .i64 am)) := fun W hW => by
        rw [(HSt2.out W hW).1.cell (m * 2 + 1) (by omega)]
        have := HLa.out.1
        rw [show m + 1 - 1 = m by omega] at this
        rw [this]
      have HFin : Hid (∀ W, stepsL rs art zn fr to = L → Below wr.heap.size wr W → ∃ g' c, Ending.returned (.tuple #[.slice (some ⟨g, 0, none⟩) (m + 1) cp, .int .i64 0]) = .returned (.tuple #[.slice g' ((stepsL rs art zn fr to).length / 2) c, .int .i64 0]) ∧ Own2 w.heap.size W g' (stepsL rs art zn fr to) ∧ Below w.heap.size w W) := fun W hE hW => by
        refine ⟨some ⟨g, 0, none⟩, cp, ?_, ?_, chain HBa.out hW⟩
        · rw [hE, HL.out, show (m + 1) * 2 / 2 = m + 1 by omega]
        · rw [hE]; exact (HSt2.out W hW).1.own2 B9.out.size
      clear HTn HS
      generalize (turnsS rs).getD k 0 = t at *
      generalize hx : amtAt rs art zn t = x at *
      rcases HSw with ⟨e1, e2⟩ | ⟨e1, e2, e3, e4⟩ | ⟨e1, e2, e3, e4⟩ | ⟨e1, e2, e4⟩
      · have HF : Hid (stepsL rs art zn fr to = L) := by show _ = _; rw [HE.out, e2]; simp
        clear e2 HE HMk
        go_wp2_with (go_at_call 14; refine hAm.mono ?_; rintro e w12 ⟨rfl, hb12⟩; have B12 : Hid (Below wr.heap.size wr w12) := hb12; clear hb12)
        first
        | go_ret2
        | (simp only [Exit.noGoto]; go_ret2)
        exact HFin.out _ HF.out B12.out
      · have HF : Hid (stepsL rs art zn fr to = (L ++ [t, x]) ++ stGo (amtAt rs art zn) fr to ((turnsS rs).drop (k + 1)) x) := by show _ = _; rw [HE.out, e4]; simp
        have hx1 : (x != am) = true := by simp [e3]
        have hx2 : (x == am) = false := by simp [e3]
        have d1 : decide (to ≤ t) = false := decide_eq_false (by omega)
        have d2 : decide (fr < t) = true := decide_eq_true e2
        clear e4 HE HFin
        go_wp2_with (first
          | (go_at_call 14; refine hAm.mono ?_; rintro e w12 ⟨rfl, hb12⟩; have B12 : Hid (Below wr.heap.size wr w12) := hb12; have ca := HCa.out w12 hb12; clear hb12)
          | (at_builtin; refine wpList_append_lies _ rfl _ _ 27 rfl w9.heap.size 32 i0 (.agg #[.int .i64 0, .int .i64 0]) 2 16 Try.underlying27 hti hi0 hi1 hi2 rfl (by decide) _ _ _ rfl ((HSt2.out w12 B12.out).1.alloc _).1 ⟨w12.heap.size, 0, none⟩ 1 1 [.int .i64 t, .int .i64 x] rfl rfl (World.news_of_block (heapNew w12 _)) (oneTwo _ _) (by omega) (by unfold maxLen; omega) (by omega) ((HSt2.out w12 B12.out).1.alloc _).2.1 _ rfl ?_; intro g1 cp1 w7 hown1 hgrow1 hat1 hglt1; have HO7 : Hid (StpT w9 w9.heap.size (.slice (some ⟨g1, 0, none⟩) (m + 1 + 1) cp1) (m + 1 + 1) (L ++ [t, x]) w7) := ((HSt2.out w12 B12.out).1.alloc _).push hown1 hgrow1; have HG7 : Hid (IntsAt w7 gT 0 (turnsS rs) ∧ gT < w7.heap.size ∧ g1 ≠ gT) := st_grown (HSt2.out w12 B12.out).2.1 (HSt2.out w12 B12.out).2.2 HLa.out.2 hgrow1 hat1 hglt1; clear hown1 hgrow1 hat1 hglt1))
        go_roundw
        case rel => exact ⟨k + 1, g1, cp1, m + 1, L ++ [t, x], x, by omega, by go_num, rfl, by omega, HMk.out _ _ _ _ _ _ (by omega) HO7.out HF.out (getD_last L (m + 1) t x HL.out) HG7.out.1 HG7.out.2.1 HG7.out.2.2⟩
        case measure => simp [intOf]; omega
      · have HF : Hid (stepsL rs art zn fr to = L ++ stGo (amtAt rs art zn) fr to ((turnsS rs).drop (k + 1)) am) := by show _ = _; rw [HE.out, e4]
        have d1 : decide (to ≤ t) = false := decide_eq_false (by omega)
        have d2 : decide (fr < t) = true := decide_eq_true e2
        have hx1 : (x != am) = false := by simp [e3]
        clear e4 HE HFin
        go_wp2_with (go_at_call 14; refine hAm.mono ?_; rintro e w12 ⟨rfl, hb12⟩; have B12 : Hid (Below wr.heap.size wr w12) := hb12; have ca := HCa.out w12 hb12; clear hb12)
        go_roundw
        case rel => exact ⟨k + 1, g, cp, m, L, am, by omega, by go_num, rfl, by omega, HMk.out _ _ _ _ _ _ (by omega) (HSt2.out w12 B12.out).1 HF.out HLa.out.1 (HSt2.out w12 B12.out).2.1 (HSt2.out w12 B12.out).2.2 HLa.out.2⟩
        case measure => simp [intOf]; omega
      · have HF : Hid (stepsL rs art zn fr to = L ++ stGo (amtAt rs art zn) fr to ((turnsS rs).drop (k + 1)) am) := by show _ = _; rw [HE.out, e4]
        have d1 : decide (to ≤ t) = false := decide_eq_false (by omega)
        have d2 : decide (fr < t) = false := decide_eq_false (by omega)
        clear e4 HE HFin
        go_wp2_with (go_at_call 14; refine hAm.mono ?_; rintro e w12 ⟨rfl, hb12⟩; have B12 : Hid (Below wr.heap.size wr w12) := hb12; have ca := HCa.out w12 hb12; clear hb12)
        go_roundw
        case rel => exact ⟨k + 1, g, cp, m, L, am, by omega, by go_num, rfl, by omega, HMk.out _ _ _ _ _ _ (by omega) (HSt2.out w12 B12.out).1 HF.out HLa.out.1 (HSt2.out w12 B12.out).2.1 (HSt2.out w12 B12.out).2.2 HLa.out.2⟩
        case measure => simp [intOf]; omega
    · obtain rfl : k = rs.length * 2 := by omega
      have HF : Hid (stepsL rs art zn fr to = L) := by
        show _ = _
        have := HS.out.2.1
        rw [List.drop_of_length_le (by omega)] at this
        rw [this]; simp [stGo]
      have HFin : Hid (∃ g' c, Ending.returned (.tuple #[.slice (some ⟨g, 0, none⟩) (m + 1) cp, .int .i64 0]) = .returned (.tuple #[.slice g' ((stepsL rs art zn fr to).length / 2) c, .int .i64 0]) ∧ Own2 w.heap.size wr g' (stepsL rs art zn fr to) ∧ Below w.heap.size w wr) := by
        refine ⟨some ⟨g, 0, none⟩, cp, ?_, ?_, HBa.out⟩
        · rw [HF.out, HS.out.1.len, show (m + 1) * 2 / 2 = m + 1 by omega]
        · rw [HF.out]; exact HS.out.1.own2 B9.out.size
      go_wp2
      first
      | go_ret2
      | (simp only [Exit.noGoto]; go_ret2)
      exact HFin.out
end Go.Proofs.Ytgfgecpgfcipnaa
