/-
  Texts of this claim laid together: BsJ.
-/
import Derived.Test.YtbijgoaanphojaaM36
/-
  The specification's most where a unit is left.
-/
namespace Go.Proofs.Ytbijgoaanphojaa
open Go.ChangeShapes Go.WideShapes Go.ChangeAt Go.RowKit Go.Deep
set_option linter.unusedVariables false

/-- Sets in blocks of their own. -/
structure SetR (B : Nat) (v : Value) (L : List (List Nat)) (E : List Value) (W : World) : Prop where
  own : W.ownsRow B 34 1 v L.length E
  fit : FitE W E L
  hi : HiB B E L.length
theorem SetR.fr {B mb : Nat} {v : Value} {L : List (List Nat)} {E : List Value} {W W' : World} (h : SetR B v L E W) (hmb : mb < B) (hf : Fr (fun q => q = mb) W W') : SetR B v L E W' := by
  refine ⟨row_of h.own (fun q hq => hf.block q (row_lt h.own q hq).2 (by have := (row_lt h.own q hq).1; omega)), ⟨h.fit.1, fun i hi => ?_⟩, h.hi⟩
  obtain ⟨g, c, h1, h2, h3⟩ := h.fit.2 i hi
  refine ⟨g, c, h1, h2, ?_⟩
  rcases h3 with h3 | ⟨b, off, cur, ha, hb, hc⟩
  · exact .inl h3
  · have := h.hi i hi g _ c h1 b off ha
    exact .inr ⟨b, off, cur, ha, (hf.block b (blkLt hb) (by omega)).trans hb, hc⟩
/-- What a set of a deal is. -/
theorem set_facts {us : List RUn} {ds : List CDl} (h1 : unAll us = true) (h2 : dlAll ds = true) (hu8 : us.length ≤ 8) {mask x k : Nat} {l : List Nat} (hm : mask < 256) (hl : freeL us.length mask = x :: l) (hk : k < ds.length) {s : List Nat} (hs : s ∈ setsK us ds (x :: l) k) :
    (∀ y ∈ s, y < 8) ∧ s.length ≤ 8 ∧ InR us (zN s) ∧ PsOK ((zN s).map (prAt us)) ∧ TvOK (ds.getD k zDl).kd (ds.getD k zDl).vl ∧ (0 ≤ svU us (ds.getD k zDl) s ∧ svU us (ds.getD k zDl) s ≤ 400000000) ∧ mask ||| bitsN s < 256 ∧ (freeL us.length (mask ||| bitsN s)).length ≤ l.length := by
  obtain ⟨c, hc, rfl⟩ := List.mem_map.1 hs
  have hr : Ris us.length (x :: l) := by rw [← hl]; exact freeL_ris _ _
  have hg := good_of_use h1 h2 (takes_use h2 hr hk hc)
  have hd : dlAt ds ((k : Nat) : Int) = ds.getD k zDl := by unfold dlAt; rw [Int.toNat_natCast]
  have hsv := takes_sv h1 h2 hr hk hc
  have hlf := takes_left h2 hr hk hc
  have hfr : c.2 = freeL us.length (mask ||| bitsN c.1) := takes_free h2 hk (by rw [hl]; exact hc)
  have hin : ∀ y ∈ c.1, y < 8 := fun y hy => by
    have := hg.2.1 (y : Int) (List.mem_map.2 ⟨y, hy, rfl⟩)
    omega
  have hlen : c.1.length ≤ 8 := by
    have := hg.2.2.1.1
    unfold cuOf at this
    rw [List.length_map, zN_len] at this
    have h4 : c.1.length ≤ 4 := this.2
    omega
  refine ⟨hin, hlen, hg.2.1, hg.2.2.1, by have := hg.2.2.2; unfold cuOf at this; dsimp only at this; rwa [hd] at this, hsv, Nat.or_lt_two_pow (n := 8) hm (bitsN_lt hin), ?_⟩
  rw [← hfr]
  have := hlf.2
  simp at this
  omega
theorem most_bound {us : List RUn} {ds : List CDl} (h1 : unAll us = true) (h2 : dlAll ds = true) (hu8 : us.length ≤ 8) (mask sp : Nat) : 0 ≤ mostM us ds mask sp ∧ mostM us ds mask sp ≤ 4000000000 := by
  have h := sr_bound h1 h2 _ (freeL us.length mask) sp (Nat.le_refl _) (freeL_ris _ _)
  have hl := (freeL_ris us.length mask).le
  unfold mostM
  omega
theorem dealAtM {B : Nat} {W : World} {da : Option Addr} {ds : List CDl} (h : ReadsDl B W da ds) {d : Nat} (hd : d < ds.length) : ∃ db off hh cp, da = some ⟨db, off, none⟩ ∧ db < B ∧ DlAt W db (off + d * 6) hh cp (ds.getD d zDl) := by
  rcases h with h | ⟨b, off, ha, hB, hi⟩
  · rw [h] at hd; simp at hd
  · obtain ⟨hh, cp, k, _, _⟩ := hi d hd
    exact ⟨b, off, hh, cp, ha, hB, k⟩
/-- The step of most's inner loop. -/
def mstI (us : List RUn) (ds : List CDl) (mask sp k : Nat) (m : Int) (s : List Nat) : Int := max m (svU us (ds.getD k zDl) s + mostM us ds (mask ||| bitsN s) (spD (ds.getD k zDl) sp k))
theorem mostD_yes {us : List RUn} {ds : List CDl} {mask sp k : Nat} {left : List Nat} {m : Int} (h : sp.testBit k = true) : mostD us ds mask sp left m k = m := by unfold mostD; rw [if_pos h]
theorem mostD_no {us : List RUn} {ds : List CDl} {mask sp k : Nat} {left : List Nat} {m : Int} (h : sp.testBit k = false) : mostD us ds mask sp left m k = (setsK us ds left k).foldl (mstI us ds mask sp k) m := by unfold mostD; rw [if_neg (by rw [h]; simp)]; rfl
theorem fold_next {α β : Type} (f : α → β → α) (l : List β) (d : β) (i : Nat) (h : i < l.length) (a : α) : (l.take (i + 1)).foldl f a = f ((l.take i).foldl f a) (l.getD i d) := by
  rw [List.take_succ_eq_append_getElem h, List.foldl_append]
  simp [List.getD_eq_getElem?_getD, h]
theorem spD_ok {ds : List CDl} (h2 : dlAll ds = true) {sp k : Nat} (hs : sp < 64) (hk : k < ds.length) : spD (ds.getD k zDl) sp k < 64 := spD_lt hs (Nat.lt_of_lt_of_le hk (dlAll_yes h2).1)
theorem setsK_small {us : List RUn} {ds : List CDl} (hu8 : us.length ≤ 8) {mask x k : Nat} {l : List Nat} (hl : freeL us.length mask = x :: l) : (setsK us ds (x :: l) k).length ≤ 256 := by
  have h8 := (freeL_ris us.length mask).le
  rw [hl, List.length_cons] at h8
  unfold setsK
  rw [takes_sets]
  split
  · rw [List.length_map]; exact setsR_small _ _ (Nat.le_trans (List.length_filter_le _ _) (by omega))
  · simp
theorem fr_cell {mb b o : Nat} {W W' : World} {v : Value} (h : Fr (fun q => q = mb) W W') (hb : b ≠ mb) (hc : W.cell? ⟨b, o, none⟩ = some v) : W'.cell? ⟨b, o, none⟩ = some v :=
  (World.cell?_of_block (w := W) (a := ⟨b, o, none⟩) (h.block b (World.block_lt_of_cell? _ _ hc) hb)).trans hc
set_option maxHeartbeats 8000000 in
set_option maxRecDepth 4000 in
theorem most_some (B sb mb : Nat) (us : List RUn) (ua : Option Addr) (uc : Nat) (ds : List CDl) (da : Option Addr) (dc : Nat) (hu8 : us.length ≤ 8) (h1 : unAll us = true) (h2 : dlAll ds = true) (hq : ∀ r ∈ ds, DlOK r) (mask sp : Nat) (F : Nat → Int) (w : World) (hm : mask < 256) (hsp : sp < 64) (hSp : SpOK ds sp) (x : Nat) (l : List Nat) (hf : freeL us.length mask = x :: l)
    (IH : MostP B sb mb us ua uc ds da dc l.length) (h : MoS B sb mb us ua uc ds da dc F w) :
    Calls Try.prog 38 #[.pointer (some ⟨sb, 0, none⟩), .int .i64 (mask : Int), .int .i64 (sp : Int)] w fun e w' => e = .returned (.int .i64 (mostM us ds mask sp)) ∧ (∃ F', MoS B sb mb us ua uc ds da dc F' w') ∧ Fr (fun q => q = mb) w w' := by
  have HS : Hid (MoS B sb mb us ua uc ds da dc F w) := h
  have HIH : Hid (MostP B sb mb us ua uc ds da dc l.length) := IH
  have HLe : Hid (x < us.length ∧ mask.testBit x = false ∧ ∀ y, y < x → mask.testBit y = true) := freeL_least hf
  have hxl := HLe.out.1
  have x0 : w.cell? ⟨sb, 0, none⟩ = some (.slice ua us.length uc) := blkCell h.sv 0 _ rfl
  have x2 : w.cell? ⟨sb, 2, none⟩ = some (.slice (some ⟨mb, 0, none⟩) 16384 16384) := blkCell h.sv 2 _ rfl
  obtain ⟨ad, had⟩ : ∃ ad, ad = sp * 256 + mask := ⟨_, rfl⟩
  have hadl : ad < 16384 := by omega
  have hat : bits .or .i64 ((sp : Int) * 256) (mask : Int) = (ad : Int) := by rw [had]; exact at_bits mask sp hm hsp
  have HAd : Hid (ad = sp * 256 + mask) := had
  have t0 := h.tab.cell hadl
  have HTab : Hid (F ad = -1 ∨ F ad = mostM us ds mask sp) := by rw [had]; exact h.ok mask sp hm hsp hSp
  have HBd : Hid (0 ≤ mostM us ds mask sp ∧ mostM us ds mask sp ≤ 4000000000) := most_bound h1 h2 hu8 mask sp
  obtain ⟨m1, hm1⟩ : ∃ m1, m1 = mask ||| 2 ^ x := ⟨_, rfl⟩
  have hor : bits .or .i64 (mask : Int) (wrap64 ((2 : Int) ^ x)) = (m1 : Int) := by
    have := pow_lt x (by omega)
    rw [powI x (by omega), orI mask (2 ^ x) (by omega) (by omega), hm1]
  have hm1l : m1 < 256 := by rw [hm1]; exact Nat.or_lt_two_pow (n := 8) hm (by have := pow_lt x (by omega); omega)
  have HM1 : Hid (m1 = mask ||| 2 ^ x) := hm1
  have HFl : Hid ((freeL us.length m1).length ≤ l.length) := by show _ ≤ _; rw [hm1, freeL_tail hf]; exact Nat.le_refl _
  clear h IH had hm1
  go_enter Try.func38, Try.ntmps38
  go_wp2
  go_loop [7] (fun c => ∃ k : Nat, k ≤ x ∧ c = .int .i64 (k : Int)) (fun c => x - (intOf c).toNat)
  case atStart => exact ⟨0, Nat.zero_le _, rfl⟩
  case round =>
    obtain ⟨k, hk, rfl⟩ := hrel
    have hlt' : (k : Int) < (us.length : Int) := by omega
    have hju := wrapJ k (by omega)
    have hsh := shr_bit mask k (Nat.lt_trans hm (by decide))
    by_cases hlt : k < x
    · rw [HLe.out.2.2 k hlt, if_pos rfl] at hsh
      have hsh1 : bits .and .i64 ((mask : Int) / 2 ^ k) 1 = (1 : Int) := by rw [hsh]; rfl
      clear hsh
      go_wp2
      exact ⟨⟨k + 1, hlt, by go_num⟩, by simp [intOf]; omega⟩
    · obtain rfl : x = k := by omega
      rw [HLe.out.2.1, if_neg (by simp)] at hsh
      have hsh1 : bits .and .i64 ((mask : Int) / 2 ^ x) 1 = (0 : Int) := by rw [hsh]; rfl
      clear hsh
      have hne : ((x : Int) == (us.length : Int)) = false := by rw [beq_eq_false_iff_ne]; omega
      rcases HTab.out with hF | hF
      · rw [hF] at t0
        clear HTab
        go_wp2_with fail
        (first | go_at_call 38 | skip)
        refine (HIH.out m1 sp F w hm1l hsp hSp HFl.out HS.out).mono ?_
        rintro e w2 ⟨rfl, ⟨F2, hS2⟩, hf2⟩
        have HS2 : Hid (MoS B sb mb us ua uc ds da dc F2 w2) := hS2
        have HF2 : Hid (Fr (fun q => q = mb) w w2) := hf2
        have HC : Hid (mostM us ds mask sp = (List.range ds.length).foldl (mostD us ds mask sp (x :: l)) (mostM us ds m1 sp)) := by show _ = _; rw [HM1.out]; exact most_cons h2 hSp hf
        have hmbw : mb < w.heap.size := HS.out.tab.lt
        clear hS2 hf2 x0 x2 t0 hat hor hsh1 hju hne HFl hF HM1 hm1l
        obtain ⟨b0, hb0⟩ : ∃ b0, b0 = mostM us ds m1 sp := ⟨_, rfl⟩
        rw [← hb0] at HC ⊢
        clear hb0
        go_wp2
        go_loopw [9, 10, 11, 12] (fun b c _ _ wr => ∃ (d : Nat) (Fd : Nat → Int), d ≤ ds.length ∧ c = .int .i64 (d : Int) ∧ b = .int .i64 ((List.range d).foldl (mostD us ds mask sp (x :: l)) b0) ∧ MoS B sb mb us ua uc ds da dc Fd wr ∧ Fr (fun q => q = mb) w wr) (fun _ c _ _ _ => ds.length - (intOf c).toNat)
        case atStart => exact ⟨0, F2, Nat.zero_le _, rfl, rfl, HS2.out, HF2.out⟩
        case round =>
          clear HS2 HF2
          obtain ⟨d, Fd, hd, rfl, rfl, hSd, hFd⟩ := hrel
          obtain ⟨wd, rfl⟩ : ∃ wd, wd = wr := ⟨_, rfl⟩
          have HSd : Hid (MoS B sb mb us ua uc ds da dc Fd wd) := hSd
          have HFd : Hid (Fr (fun q => q = mb) w wd) := hFd
          have x1 : wd.cell? ⟨sb, 1, none⟩ = some (.slice da ds.length dc) := blkCell hSd.sv 1 _ rfl
          clear hSd hFd
          have hd6 := (dlAll_yes h2).1
          by_cases hlt2 : d < ds.length
          · have hlt2' : (d : Int) < (ds.length : Int) := by omega
            have hju2 := wrapJ d (by omega)
            have hsh2 := shr_bit sp d (Nat.lt_trans hsp (by decide))
            have HRg : Hid ((List.range (d + 1)).foldl (mostD us ds mask sp (x :: l)) b0 = mostD us ds mask sp (x :: l) ((List.range d).foldl (mostD us ds mask sp (x :: l)) b0) d) := by show _ = _; rw [List.range_succ, List.foldl_append]; rfl
            obtain ⟨bd, hbd⟩ : ∃ bd, bd = (List.range d).foldl (mostD us ds mask sp (x :: l)) b0 := ⟨_, rfl⟩
            rw [← hbd] at HRg ⊢
            clear hbd
            cases hbit : sp.testBit d
            · rw [hbit, if_neg (by simp)] at hsh2
              have hsh3 : bits .and .i64 ((sp : Int) / 2 ^ d) 1 = (0 : Int) := by rw [hsh2]; rfl
              have HN : Hid ((List.range (d + 1)).foldl (mostD us ds mask sp (x :: l)) b0 = (setsK us ds (x :: l) d).foldl (mstI us ds mask sp d) bd) := by show _ = _; rw [HRg.out, mostD_no hbit]
              have HUs := uses_any sb us ua uc ds da dc mb d x mask l hlt2 hq wd HSd.out.sv (HSd.out.un.mono HSd.out.top) (HSd.out.dl.mono HSd.out.top) hu8 hm ((dlAll_yes h2).2 _ (by rw [show ds.getD d zDl = ds[d] by simp [List.getD_eq_getElem?_getD, hlt2]]; exact List.getElem_mem _)).1 hf
              have HFacts : Hid (∀ s ∈ setsK us ds (x :: l) d, (∀ y ∈ s, y < 8) ∧ s.length ≤ 8 ∧ InR us (zN s) ∧ PsOK ((zN s).map (prAt us)) ∧ TvOK (ds.getD d zDl).kd (ds.getD d zDl).vl ∧ (0 ≤ svU us (ds.getD d zDl) s ∧ svU us (ds.getD d zDl) s ≤ 400000000) ∧ mask ||| bitsN s < 256 ∧ (freeL us.length (mask ||| bitsN s)).length ≤ l.length) := fun s hs => set_facts h1 h2 hu8 hm hf hlt2 hs
              have hLs := setsK_small (ds := ds) (k := d) hu8 hf
              clear hsh2 hbit HRg
              obtain ⟨L, hL⟩ : ∃ L, L = setsK us ds (x :: l) d := ⟨_, rfl⟩
              rw [← hL] at HN HUs HFacts hLs
              clear hL
              go_wp2_with fail
              (first | go_at_call 39 | skip)
              refine HUs.mono ?_
              rintro e w3 ⟨g, cp, E, rfl, hO3, hHi⟩
              have HS3 : Hid (MoS B sb mb us ua uc ds da dc Fd w3) := HSd.out.later hO3.low
              have HF3 : Hid (Fr (fun q => q = mb) w w3) := HFd.out.trans (Fr.of hO3.low)
              have HR3 : Hid (SetR wd.heap.size (.slice g L.length cp) L E w3) := ⟨hO3.own, hO3.fit, hHi⟩
              have hmbd : mb < wd.heap.size := HSd.out.tab.lt
              clear hO3 hHi HUs HSd HFd x1 hsh3 hju2
              go_wp2
              go_loopw [9, 12] (fun b c wq => ∃ (i : Nat) (Fi : Nat → Int), i ≤ L.length ∧ c = .int .i64 (i : Int) ∧ b = .int .i64 ((L.take i).foldl (mstI us ds mask sp d) bd) ∧ MoS B sb mb us ua uc ds da dc Fi wq ∧ Fr (fun q => q = mb) w wq ∧ SetR wd.heap.size (.slice g L.length cp) L E wq) (fun _ c _ => L.length - (intOf c).toNat)
              case atStart => exact ⟨0, Fd, Nat.zero_le _, rfl, rfl, HS3.out, HF3.out, HR3.out⟩
              case round =>
                clear HS3 HF3 HR3
                obtain ⟨i, Fi, hi, rfl, rfl, hSq, hFq, hRq⟩ := hrel
                obtain ⟨wq, rfl⟩ : ∃ wq, wq = wr := ⟨_, rfl⟩
                have HSq : Hid (MoS B sb mb us ua uc ds da dc Fi wq) := hSq
                have HFq : Hid (Fr (fun q => q = mb) w wq) := hFq
                have HRq : Hid (SetR wd.heap.size (.slice g L.length cp) L E wq) := hRq
                clear hSq hFq hRq
                by_cases hil : i < L.length
                · have hil' : (i : Int) < (L.length : Int) := by omega
                  have HNi : Hid ((L.take (i + 1)).foldl (mstI us ds mask sp d) bd = mstI us ds mask sp d ((L.take i).foldl (mstI us ds mask sp d) bd) (L.getD i [])) := fold_next _ L [] i hil bd
                  obtain ⟨bi, hbi⟩ : ∃ bi, bi = (L.take i).foldl (mstI us ds mask sp d) bd := ⟨_, rfl⟩
                  rw [← hbi] at HNi ⊢
                  clear hbi
                  obtain ⟨gb, cp', hqv⟩ := row_some HRq.out.own (by omega)
                  have hg : g = some ⟨gb, 0, none⟩ := by simp only [Value.slice.injEq] at hqv; exact hqv.1
                  subst hg
                  obtain ⟨sh, sc, hs1, hs2, hs3⟩ := HRq.out.fit.2 i hil
                  have hF := HFacts.out _ (show L.getD i [] ∈ L by rw [show L.getD i [] = L[i] by simp [List.getD_eq_getElem?_getD, hil]]; exact List.getElem_mem _)
                  have cs : wq.cell? ⟨gb, i, none⟩ = some (.slice sh (L.getD i []).length sc) := by rw [HRq.out.own.cellAt i (by omega)]; exact hs1
                  obtain ⟨s, hs⟩ : ∃ s, s = L.getD i [] := ⟨_, rfl⟩
                  rw [← hs] at hs2 hs3 hF cs HNi
                  obtain ⟨hin, hsl, hinr, hps, htv, hsv, hm2, hfl⟩ := hF
                  obtain ⟨db, off, hh, cpd, hda, hdB, hDl⟩ := dealAtM HSq.out.dl hlt2
                  subst hda
                  have HMst : Hid (mstI us ds mask sp d bi s = max bi (svU us (ds.getD d zDl) s + mostM us ds (mask ||| bitsN s) (spD (ds.getD d zDl) sp d))) := rfl
                  have hgl := row_lt HRq.out.own gb rfl
                  have HCF : Hid (∀ W, Fr (fun q => q = mb) wq W → W.cell? ⟨sb, 0, none⟩ = some (.slice ua us.length uc) ∧ W.cell? ⟨sb, 1, none⟩ = some (.slice (some ⟨db, off, none⟩) ds.length dc) ∧ DlAt W db (off + d * 6) hh cpd (ds.getD d zDl) ∧ W.cell? ⟨gb, i, none⟩ = some (.slice sh s.length sc)) := fun W hW => by
                    have hne := HSq.out.ne
                    have hdm : db ≠ mb := by have := HSq.out.bm; omega
                    obtain ⟨q0, q1, q2, q3, q4, q5⟩ := hDl
                    exact ⟨fr_cell hW hne (blkCell HSq.out.sv 0 _ rfl), fr_cell hW hne (blkCell HSq.out.sv 1 _ rfl), ⟨fr_cell hW hdm q0, fr_cell hW hdm q1, fr_cell hW hdm q2, fr_cell hW hdm q3, fr_cell hW hdm q4, fr_cell hW hdm q5⟩, fr_cell hW (by omega) cs⟩
                  have HSv : Hid (∀ W, Below wq.heap.size wq W → Calls Try.prog 40 #[.slice ua us.length uc, .agg #[.string (ds.getD d zDl).nm, .int .i64 (ds.getD d zDl).kd, .slice hh (ds.getD d zDl).arts.length cpd, .int .i64 (ds.getD d zDl).nd, .int .i64 (ds.getD d zDl).vl, .bool (ds.getD d zDl).on], .slice sh s.length sc] W fun e w' => e = .returned (.int .i64 (svU us (ds.getD d zDl) s)) ∧ Below W.heap.size W w') := fun W hW => by
                    have := specSaves_any ua uc us hu8 (ds.getD d zDl) hh cpd sh sc (zN s) hinr hps htv W (((HSq.out.un.mono HSq.out.top).below hW).mono hW.size) (hs3.later hW).reads
                    rw [zN_len] at this
                    exact this
                  have HMk : Hid (∀ W, Below wq.heap.size wq W → Calls Try.prog 41 #[.slice sh s.length sc] W fun e w' => e = .returned (.int .i64 (bitsN s : Int)) ∧ w' = W) := fun W hW => mask_any sh sc s hsl hin W (hs3.later hW)
                  have HSt : Hid (∀ W, Below wq.heap.size wq W → Calls Try.prog 42 #[.pointer (some ⟨sb, 0, none⟩), .int .i64 (sp : Int), .int .i64 (d : Int)] W fun e w' => e = .returned (.int .i64 (spD (ds.getD d zDl) sp d : Int)) ∧ w' = W) := fun W hW => spent_any sb ua us.length uc (some ⟨db, off, none⟩) dc mb ds hd6 sp d hsp hlt2 W (HSq.out.later hW).sv ((HSq.out.later hW).dl.mono (HSq.out.later hW).top)
                  have HMo : Hid (∀ W, Below wq.heap.size wq W → Calls Try.prog 38 #[.pointer (some ⟨sb, 0, none⟩), .int .i64 ((mask ||| bitsN s : Nat) : Int), .int .i64 ((spD (ds.getD d zDl) sp d : Nat) : Int)] W fun e w' => e = .returned (.int .i64 (mostM us ds (mask ||| bitsN s) (spD (ds.getD d zDl) sp d))) ∧ (∃ F', MoS B sb mb us ua uc ds (some ⟨db, off, none⟩) dc F' w') ∧ Fr (fun q => q = mb) W w') := fun W hW => HIH.out _ _ Fi W hm2 (spD_ok h2 hsp hlt2) (hSp.next d) hfl (HSq.out.later hW)
                  have hmb2 := most_bound h1 h2 hu8 (mask ||| bitsN s) (spD (ds.getD d zDl) sp d)
                  have hor2 : bits .or .i64 (mask : Int) (bitsN s : Int) = ((mask ||| bitsN s : Nat) : Int) := orI mask (bitsN s) (by omega) (by have := bitsN_lt hin; omega)
                  have HRn : Hid (∀ W, Fr (fun q => q = mb) wq W → SetR wd.heap.size (.slice (some ⟨gb, 0, none⟩) L.length cp) L E W) := fun W hW => HRq.out.fr hmbd hW
                  have HFn : Hid (∀ W, Fr (fun q => q = mb) wq W → Fr (fun q => q = mb) w W) := fun W hW => HFq.out.trans hW
                  obtain ⟨dd, hdd⟩ : ∃ dd, dd = ds.getD d zDl := ⟨_, rfl⟩
                  rw [← hdd] at HMst HCF HSv HSt HMo hmb2 hsv
                  obtain ⟨m2, hm2e⟩ : ∃ m2, m2 = mask ||| bitsN s := ⟨_, rfl⟩
                  rw [← hm2e] at HMst HMo hmb2 hor2
                  obtain ⟨sp2, hsp2⟩ : ∃ sp2, sp2 = spD dd sp d := ⟨_, rfl⟩
                  rw [← hsp2] at HMst HSt HMo hmb2
                  obtain ⟨sv, hsve⟩ : ∃ sv, sv = svU us dd s := ⟨_, rfl⟩
                  rw [← hsve] at HMst HSv hsv
                  obtain ⟨mo, hmoe⟩ : ∃ mo, mo = mostM us ds m2 sp2 := ⟨_, rfl⟩
                  rw [← hmoe] at HMst HMo hmb2
                  clear hs1 hs2 hs3 hin hsl hinr hps htv hm2 hfl hDl cs hqv hs hdd hm2e hsp2 hsve hmoe HRq
                  have hws : IntKind.i64.wrap (sv + mo) = sv + mo := wrap_id _ (by omega) (by omega)
                  obtain ⟨bm, hbm⟩ : ∃ bm, bm = max bi (sv + mo) := ⟨_, rfl⟩
                  have hmx1 : max bi (sv + mo) = bm := hbm.symm
                  have HBm : Hid (bm = max bi (sv + mo)) := hbm
                  have HWs : Hid (IntKind.i64.wrap (sv + mo) = sv + mo) := hws
                  have HMx : Hid (max bi (sv + mo) = bm) := hmx1
                  have HOr : Hid (bits .or .i64 (mask : Int) (bitsN s : Int) = (m2 : Int)) := hor2
                  clear hws hbm hmx1 hor2
                  go_wp2_with fail
                  refine wp_region_held_drew (S := fun W => Fr (fun q => q = mb) wq W) (by kernel_rfl) (Fr.of (below_drew _)) (fun hH => ?_)
                  refine wpAnyH_take (i := 0) (v := .int .i64 bi) rfl (by kernel_rfl) (by kernel_rfl) (by kernel_rfl) (fun _ _ _ h => h) (Or.inl ⟨by rfl, fun w hSw => by clear hSw; go_simp⟩) hH ?_
                  refine wpAnyH_take (i := 1) (v := .pointer (some ⟨sb, 0, none⟩)) rfl (by kernel_rfl) (by kernel_rfl) (by kernel_rfl) (fun _ _ _ h => h) (Or.inl ⟨by rfl, fun w hSw => by clear hSw; go_simp⟩) hH ?_
                  try simp only [Act.put, List.setIfInBounds_toArray, List.set_cons_zero, List.set_cons_succ, List.getElem_toArray, List.getElem_cons_succ, List.getElem_cons_zero]
                  refine wpAnyH_take (i := 2) (v := .pointer (some ⟨sb, 0, none⟩)) rfl (by kernel_rfl) (by kernel_rfl) (by kernel_rfl) (fun _ _ _ h => h) (Or.inl ⟨by rfl, fun w hSw => by clear hSw; go_simp⟩) hH ?_
                  try simp only [Act.put, List.setIfInBounds_toArray, List.set_cons_zero, List.set_cons_succ, List.getElem_toArray, List.getElem_cons_succ, List.getElem_cons_zero]
                  refine wpAnyH_take (i := 3) (v := .pointer (some ⟨sb, 0, none⟩)) rfl (by kernel_rfl) (by kernel_rfl) (by kernel_rfl) (fun _ _ _ h => h) (Or.inl ⟨by rfl, fun w hSw => by clear hSw; go_simp⟩) hH ?_
                  try simp only [Act.put, List.setIfInBounds_toArray, List.set_cons_zero, List.set_cons_succ, List.getElem_toArray, List.getElem_cons_succ, List.getElem_cons_zero]
                  refine wpAnyH_take (i := 4) (v := .slice ua us.length uc) rfl (by kernel_rfl) (by kernel_rfl) (by kernel_rfl) (fun _ _ _ h => h) (Or.inl ⟨by rfl, fun w hSw => by have f0 := (HCF.out _ hSw).1; clear hSw; go_simp⟩) hH ?_
                  try simp only [Act.put, List.setIfInBounds_toArray, List.set_cons_zero, List.set_cons_succ, List.getElem_toArray, List.getElem_cons_succ, List.getElem_cons_zero]
                  refine wpAnyH_take (i := 5) (v := .pointer (some ⟨sb, 0, none⟩)) rfl (by kernel_rfl) (by kernel_rfl) (by kernel_rfl) (fun _ _ _ h => h) (Or.inl ⟨by rfl, fun w hSw => by clear hSw; go_simp⟩) hH ?_
                  try simp only [Act.put, List.setIfInBounds_toArray, List.set_cons_zero, List.set_cons_succ, List.getElem_toArray, List.getElem_cons_succ, List.getElem_cons_zero]
                  refine wpAnyH_take (i := 6) (v := .pointer (some ⟨sb, 0, none⟩)) rfl (by kernel_rfl) (by kernel_rfl) (by kernel_rfl) (fun _ _ _ h => h) (Or.inl ⟨by rfl, fun w hSw => by clear hSw; go_simp⟩) hH ?_
                  try simp only [Act.put, List.setIfInBounds_toArray, List.set_cons_zero, List.set_cons_succ, List.getElem_toArray, List.getElem_cons_succ, List.getElem_cons_zero]
                  refine wpAnyH_take (i := 7) (v := .pointer (some ⟨sb, 1, none⟩)) rfl (by kernel_rfl) (by kernel_rfl) (by kernel_rfl) (fun _ _ _ h => h) (Or.inl ⟨by rfl, fun w hSw => by clear hSw; go_simp⟩) hH ?_
                  try simp only [Act.put, List.setIfInBounds_toArray, List.set_cons_zero, List.set_cons_succ, List.getElem_toArray, List.getElem_cons_succ, List.getElem_cons_zero]
                  refine wpAnyH_take (i := 8) (v := .slice (some ⟨db, off, none⟩) ds.length dc) rfl (by kernel_rfl) (by kernel_rfl) (by kernel_rfl) (fun _ _ _ h => h) (Or.inl ⟨by rfl, fun w hSw => by have f0 := (HCF.out _ hSw).2.1; clear hSw; go_simp⟩) hH ?_
                  try simp only [Act.put, List.setIfInBounds_toArray, List.set_cons_zero, List.set_cons_succ, List.getElem_toArray, List.getElem_cons_succ, List.getElem_cons_zero]
                  refine wpAnyH_take (i := 9) (v := .int .i64 (d : Int)) rfl (by kernel_rfl) (by kernel_rfl) (by kernel_rfl) (fun _ _ _ h => h) (Or.inl ⟨by rfl, fun w hSw => by clear hSw; go_simp⟩) hH ?_
                  try simp only [Act.put, List.setIfInBounds_toArray, List.set_cons_zero, List.set_cons_succ, List.getElem_toArray, List.getElem_cons_succ, List.getElem_cons_zero]
                  refine wpAnyH_take (i := 10) (v := .pointer (some ⟨db, off + d * 6, none⟩)) rfl (by kernel_rfl) (by kernel_rfl) (by kernel_rfl) (fun _ _ _ h => h) (Or.inl ⟨by rfl, fun w hSw => by clear hSw; go_simp⟩) hH ?_
                  try simp only [Act.put, List.setIfInBounds_toArray, List.set_cons_zero, List.set_cons_succ, List.getElem_toArray, List.getElem_cons_succ, List.getElem_cons_zero]
                  refine wpAnyH_take (i := 11) (v := .agg #[.string dd.nm, .int .i64 dd.kd, .slice hh dd.arts.length cpd, .int .i64 dd.nd, .int .i64 dd.vl, .bool dd.on]) rfl (by kernel_rfl) (by kernel_rfl) (by kernel_rfl) (fun _ _ _ h => h) (Or.inl ⟨by rfl, fun w hSw => by obtain ⟨f0, f1, f2, f3, f4, f5⟩ := (HCF.out _ hSw).2.2.1; clear hSw; go_simp⟩) hH ?_
                  try simp only [Act.put, List.setIfInBounds_toArray, List.set_cons_zero, List.set_cons_succ, List.getElem_toArray, List.getElem_cons_succ, List.getElem_cons_zero]
                  refine wpAnyH_take (i := 12) (v := .slice (some ⟨gb, 0, none⟩) L.length cp) rfl (by kernel_rfl) (by kernel_rfl) (by kernel_rfl) (fun _ _ _ h => h) (Or.inl ⟨by rfl, fun w hSw => by clear hSw; go_simp⟩) hH ?_
                  try simp only [Act.put, List.setIfInBounds_toArray, List.set_cons_zero, List.set_cons_succ, List.getElem_toArray, List.getElem_cons_succ, List.getElem_cons_zero]
                  refine wpAnyH_take (i := 13) (v := .int .i64 (i : Int)) rfl (by kernel_rfl) (by kernel_rfl) (by kernel_rfl) (fun _ _ _ h => h) (Or.inl ⟨by rfl, fun w hSw => by clear hSw; go_simp⟩) hH ?_
                  try simp only [Act.put, List.setIfInBounds_toArray, List.set_cons_zero, List.set_cons_succ, List.getElem_toArray, List.getElem_cons_succ, List.getElem_cons_zero]
                  refine wpAnyH_take (i := 14) (v := .pointer (some ⟨gb, i, none⟩)) rfl (by kernel_rfl) (by kernel_rfl) (by kernel_rfl) (fun _ _ _ h => h) (Or.inl ⟨by rfl, fun w hSw => by clear hSw; go_simp⟩) hH ?_
                  try simp only [Act.put, List.setIfInBounds_toArray, List.set_cons_zero, List.set_cons_succ, List.getElem_toArray, List.getElem_cons_succ, List.getElem_cons_zero]
                  refine wpAnyH_take (i := 15) (v := .slice sh s.length sc) rfl (by kernel_rfl) (by kernel_rfl) (by kernel_rfl) (fun _ _ _ h => h) (Or.inl ⟨by rfl, fun w hSw => by have f0 := (HCF.out _ hSw).2.2.2; clear hSw; go_simp⟩) hH ?_
                  try simp only [Act.put, List.setIfInBounds_toArray, List.set_cons_zero, List.set_cons_succ, List.getElem_toArray, List.getElem_cons_succ, List.getElem_cons_zero]
                  refine wpAnyH_take (i := 17) (v := .pointer (some ⟨sb, 0, none⟩)) rfl (by kernel_rfl) (by kernel_rfl) (by kernel_rfl) (fun _ _ _ h => h) (Or.inl ⟨by rfl, fun w hSw => by clear hSw; go_simp⟩) hH ?_
                  try simp only [Act.put, List.setIfInBounds_toArray, List.set_cons_zero, List.set_cons_succ, List.getElem_toArray, List.getElem_cons_succ, List.getElem_cons_zero]
                  refine wpAnyH_take (i := 18) (v := .int .i64 (mask : Int)) rfl (by kernel_rfl) (by kernel_rfl) (by kernel_rfl) (fun _ _ _ h => h) (Or.inl ⟨by rfl, fun w hSw => by clear hSw; go_simp⟩) hH ?_
                  try simp only [Act.put, List.setIfInBounds_toArray, List.set_cons_zero, List.set_cons_succ, List.getElem_toArray, List.getElem_cons_succ, List.getElem_cons_zero]
                  refine wpAnyH_take (i := 19) (v := .slice (some ⟨gb, 0, none⟩) L.length cp) rfl (by kernel_rfl) (by kernel_rfl) (by kernel_rfl) (fun _ _ _ h => h) (Or.inl ⟨by rfl, fun w hSw => by clear hSw; go_simp⟩) hH ?_
                  try simp only [Act.put, List.setIfInBounds_toArray, List.set_cons_zero, List.set_cons_succ, List.getElem_toArray, List.getElem_cons_succ, List.getElem_cons_zero]
                  refine wpAnyH_take (i := 20) (v := .int .i64 (i : Int)) rfl (by kernel_rfl) (by kernel_rfl) (by kernel_rfl) (fun _ _ _ h => h) (Or.inl ⟨by rfl, fun w hSw => by clear hSw; go_simp⟩) hH ?_
                  try simp only [Act.put, List.setIfInBounds_toArray, List.set_cons_zero, List.set_cons_succ, List.getElem_toArray, List.getElem_cons_succ, List.getElem_cons_zero]
                  refine wpAnyH_take (i := 21) (v := .pointer (some ⟨gb, i, none⟩)) rfl (by kernel_rfl) (by kernel_rfl) (by kernel_rfl) (fun _ _ _ h => h) (Or.inl ⟨by rfl, fun w hSw => by clear hSw; go_simp⟩) hH ?_
                  try simp only [Act.put, List.setIfInBounds_toArray, List.set_cons_zero, List.set_cons_succ, List.getElem_toArray, List.getElem_cons_succ, List.getElem_cons_zero]
                  refine wpAnyH_take (i := 22) (v := .slice sh s.length sc) rfl (by kernel_rfl) (by kernel_rfl) (by kernel_rfl) (fun _ _ _ h => h) (Or.inl ⟨by rfl, fun w hSw => by have f0 := (HCF.out _ hSw).2.2.2; clear hSw; go_simp⟩) hH ?_
                  try simp only [Act.put, List.setIfInBounds_toArray, List.set_cons_zero, List.set_cons_succ, List.getElem_toArray, List.getElem_cons_succ, List.getElem_cons_zero]
                  refine wpAnyH_take (i := 25) (v := .pointer (some ⟨sb, 0, none⟩)) rfl (by kernel_rfl) (by kernel_rfl) (by kernel_rfl) (fun _ _ _ h => h) (Or.inl ⟨by rfl, fun w hSw => by clear hSw; go_simp⟩) hH ?_
                  try simp only [Act.put, List.setIfInBounds_toArray, List.set_cons_zero, List.set_cons_succ, List.getElem_toArray, List.getElem_cons_succ, List.getElem_cons_zero]
                  refine wpAnyH_take (i := 26) (v := .int .i64 (sp : Int)) rfl (by kernel_rfl) (by kernel_rfl) (by kernel_rfl) (fun _ _ _ h => h) (Or.inl ⟨by rfl, fun w hSw => by clear hSw; go_simp⟩) hH ?_
                  try simp only [Act.put, List.setIfInBounds_toArray, List.set_cons_zero, List.set_cons_succ, List.getElem_toArray, List.getElem_cons_succ, List.getElem_cons_zero]
                  refine wpAnyH_take (i := 27) (v := .int .i64 (d : Int)) rfl (by kernel_rfl) (by kernel_rfl) (by kernel_rfl) (fun _ _ _ h => h) (Or.inl ⟨by rfl, fun w hSw => by clear hSw; go_simp⟩) hH ?_
                  try simp only [Act.put, List.setIfInBounds_toArray, List.set_cons_zero, List.set_cons_succ, List.getElem_toArray, List.getElem_cons_succ, List.getElem_cons_zero]
                  refine wpAnyH_ready (rs := [16]) (by kernel_rfl) (by simp) ?_
                  refine AllReadyH.cons rfl (fun K hK => ?_) AllReadyH.nil
                  go_simp
                  go_at_call 40
                  refine (HSv.out _ (below_drew _)).mono ?_
                  rintro e w4 ⟨rfl, hb4⟩
                  have h4b : Below wq.heap.size wq w4 := chain (below_drew _) hb4
                  have h4 : Fr (fun q => q = mb) wq w4 := Fr.of h4b
                  clear hb4 hH
                  refine hK.out _ _ h4 (fun _ => ?_)
                  clear hK K
                  try simp only [Act.put, List.setIfInBounds_toArray, List.set_cons_zero, List.set_cons_succ, List.getElem_toArray, List.getElem_cons_succ, List.getElem_cons_zero]
                  refine wpAnyH_ready (rs := [23]) (by kernel_rfl) (by simp) ?_
                  refine AllReadyH.cons rfl (fun K hK => ?_) AllReadyH.nil
                  go_simp
                  go_at_call 41
                  refine (HMk.out w4 h4b).mono ?_
                  rintro e w5 ⟨rfl, h5⟩
                  rw [h5]
                  clear h5 w5
                  refine hK.out _ _ h4 (fun _ => ?_)
                  clear hK K
                  try simp only [Act.put, List.setIfInBounds_toArray, List.set_cons_zero, List.set_cons_succ, List.getElem_toArray, List.getElem_cons_succ, List.getElem_cons_zero]
                  refine wpAnyH_take (i := 24) (v := .int .i64 (m2 : Int)) rfl (by kernel_rfl) (by kernel_rfl) (by kernel_rfl) (fun _ _ _ h => h) (Or.inl ⟨by rfl, fun w hSw => by have f0 := HOr.out; clear hSw; go_simp⟩) h4 ?_
                  try simp only [Act.put, List.setIfInBounds_toArray, List.set_cons_zero, List.set_cons_succ, List.getElem_toArray, List.getElem_cons_succ, List.getElem_cons_zero]
                  refine wpAnyH_ready (rs := [28]) (by kernel_rfl) (by simp) ?_
                  refine AllReadyH.cons rfl (fun K hK => ?_) AllReadyH.nil
                  go_simp
                  go_at_call 42
                  refine (HSt.out w4 h4b).mono ?_
                  rintro e w5 ⟨rfl, h5⟩
                  rw [h5]
                  clear h5 w5
                  refine hK.out _ _ h4 (fun _ => ?_)
                  clear hK K
                  try simp only [Act.put, List.setIfInBounds_toArray, List.set_cons_zero, List.set_cons_succ, List.getElem_toArray, List.getElem_cons_succ, List.getElem_cons_zero]
                  refine wpAnyH_ready (rs := [29]) (by kernel_rfl) (by simp) ?_
                  refine AllReadyH.cons rfl (fun K hK => ?_) AllReadyH.nil
                  go_simp
                  go_at_call 38
                  refine (HMo.out w4 h4b).mono ?_
                  rintro e w6 ⟨rfl, ⟨F6, hS6⟩, hf6⟩
                  have h6 := h4.trans hf6
                  have HS6 : Hid (MoS B sb mb us ua uc ds (some ⟨db, off, none⟩) dc F6 w6) := hS6
                  clear hf6 hS6 h4 h4b
                  refine hK.out _ _ h6 (fun _ => ?_)
                  clear hK K
                  try simp only [Act.put, List.setIfInBounds_toArray, List.set_cons_zero, List.set_cons_succ, List.getElem_toArray, List.getElem_cons_succ, List.getElem_cons_zero]
                  refine wpAnyH_take (i := 30) (v := .int .i64 (sv + mo)) rfl (by kernel_rfl) (by kernel_rfl) (by kernel_rfl) (fun _ _ _ h => h) (Or.inl ⟨by rfl, fun w hSw => by have f0 := HWs.out; clear hSw; go_simp⟩) h6 ?_
                  try simp only [Act.put, List.setIfInBounds_toArray, List.set_cons_zero, List.set_cons_succ, List.getElem_toArray, List.getElem_cons_succ, List.getElem_cons_zero]
                  refine wpAnyH_take (i := 31) (v := .int .i64 bm) rfl (by kernel_rfl) (by kernel_rfl) (by kernel_rfl) (fun _ _ _ h => h) (Or.inl ⟨by rfl, fun w hSw => by have f0 := HMx.out; clear hSw; go_simp⟩) h6 ?_
                  try simp only [Act.put, List.setIfInBounds_toArray, List.set_cons_zero, List.set_cons_succ, List.getElem_toArray, List.getElem_cons_succ, List.getElem_cons_zero]
                  refine wpAnyH_take (i := 32) (v := .int .i64 bm) rfl (by kernel_rfl) (by kernel_rfl) (by kernel_rfl) (fun _ _ _ h => h) (Or.inl ⟨by rfl, fun w hSw => by clear hSw; go_simp⟩) h6 ?_
                  try simp only [Act.put, List.setIfInBounds_toArray, List.set_cons_zero, List.set_cons_succ, List.getElem_toArray, List.getElem_cons_succ, List.getElem_cons_zero]
                  refine wpAnyH_done (by kernel_rfl) ?_ _
                  have HE6 : Hid (SetR wd.heap.size (.slice (some ⟨gb, 0, none⟩) L.length cp) L E w6 ∧ Fr (fun q => q = mb) w w6) := ⟨HRn.out w6 h6, HFn.out w6 h6⟩
                  clear h6 HSv HMk HSt HMo HCF HRn HFn
                  go_wp2
                  exact ⟨⟨i + 1, F6, hil, by go_num, by rw [HNi.out, HMst.out, HBm.out], HS6.out, HE6.out.2, HE6.out.1⟩, by simp [intOf]; omega⟩
                · obtain rfl : i = L.length := by omega
                  have hnl : ¬ ((L.length : Int) < (L.length : Int)) := by omega
                  rw [List.take_length, ← HN.out]
                  go_wp2
                  exact ⟨⟨d + 1, Fi, hlt2, by go_num, rfl, HSq.out, HFq.out⟩, by simp [intOf]; omega⟩
            · rw [hbit, if_pos rfl] at hsh2
              have hsh3 : bits .and .i64 ((sp : Int) / 2 ^ d) 1 = (1 : Int) := by rw [hsh2]; rfl
              have HN : Hid ((List.range (d + 1)).foldl (mostD us ds mask sp (x :: l)) b0 = bd) := by show _ = _; rw [HRg.out, mostD_yes hbit]
              clear hsh2 hbit HRg
              go_wp2
              exact ⟨⟨d + 1, Fd, hlt2, by go_num, by rw [HN.out], HSd.out, HFd.out⟩, by simp [intOf]; omega⟩
          · obtain rfl : d = ds.length := by omega
            have hnn : ¬ ((ds.length : Int) < (ds.length : Int)) := by omega
            rw [← HC.out]
            have x2 : wd.cell? ⟨sb, 2, none⟩ = some (.slice (some ⟨mb, 0, none⟩) 16384 16384) := blkCell HSd.out.sv 2 _ rfl
            have t0 := HSd.out.tab.cell hadl
            have t1 := HSd.out.tab.frozen ad
            have HP : Hid (MoS B sb mb us ua uc ds da dc (fun i => if i = sp * 256 + mask then mostM us ds mask sp else Fd i) (wd.setCell ⟨mb, ad, none⟩ (.int .i64 (mostM us ds mask sp)))) := by
              show MoS _ _ _ _ _ _ _ _ _ _ _
              rw [HAd.out]; exact HSd.out.put hm
            have HFe : Hid (Fr (fun q => q = mb) w (wd.setCell ⟨mb, ad, none⟩ (.int .i64 (mostM us ds mask sp)))) := HFd.out.set (b := mb) rfl _ _
            have hadi : (ad : Int) < 16384 := by omega
            go_wp2
            go_ret
            exact ⟨rfl, ⟨_, HP.out⟩, HFe.out⟩
      · rw [hF] at t0
        have hge := HBd.out.1
        clear HTab
        go_wp2
        go_ret
        exact ⟨rfl, ⟨F, HS.out⟩, Fr.refl _ _⟩
end Go.Proofs.Ytbijgoaanphojaa
