/-
  Texts of this claim laid together: BgG.
-/
import Derived.Test.YtkfmifbffgbiiaaM27
/-
  What Priced answers, as a function; contract of the program's Priced.
-/
namespace Go.Proofs.Ytkfmifbffgbiiaa
open Go.ChangeShapes Go.WideShapes Go.ChangeAt Go.RowKit
set_option linter.unusedVariables false

def pcode (us : List RUn) (ds : List CDl) (cs : List CUs) : Int := if 4096 < cs.length then 2 else if faultOf us ds = 0 then (if fitB us ds cs = true then 0 else 3) else faultOf us ds
def ptold (us : List RUn) (ds : List CDl) (cs : List CUs) : List CUs := if pcode us ds cs = 0 then cs.map (told us ds) else []
def psav (us : List RUn) (ds : List CDl) (cs : List CUs) : Int := if pcode us ds cs = 0 then savS us ds cs else 0
def ptot (us : List RUn) (ds : List CDl) (cs : List CUs) : Int := if pcode us ds cs = 0 then sumU us - savS us ds cs else 0
/-- What a call of Priced answers, and how its world is left. -/
def AnsP (us : List RUn) (ds : List CDl) (cs : List CUs) (w : World) (e : Ending) (w' : World) : Prop :=
  ∃ q cq, e = .returned (.tuple #[.agg #[.int .i64 (ptot us ds cs), .int .i64 (psav us ds cs), .slice q (ptold us ds cs).length cq], .int .i64 (pcode us ds cs)]) ∧ OwnUs w.heap.size w' q (ptold us ds cs) ∧ Below w.heap.size w w'
theorem ansNone {us : List RUn} {ds : List CDl} {cs : List CUs} {w w' : World} {c : Int} (h : pcode us ds cs = c) (hc : c ≠ 0) (hb : Below w.heap.size w w') : AnsP us ds cs w (.returned (.tuple #[.agg #[.int .i64 0, .int .i64 0, .slice none 0 0], .int .i64 c])) w' := by
  have hn : pcode us ds cs ≠ 0 := by rw [h]; exact hc
  refine ⟨none, 0, ?_, ?_, hb⟩
  · unfold ptot psav ptold; rw [if_neg hn, if_neg hn, if_neg hn, h]; rfl
  · unfold ptold; rw [if_neg hn]; exact .inl rfl
theorem ansSome {us : List RUn} {ds : List CDl} {cs : List CUs} {w w' : World} {q : Option Addr} {cq : Nat} (h : pcode us ds cs = 0) (ho : OwnUs w.heap.size w' q (cs.map (told us ds))) (hb : Below w.heap.size w w') : AnsP us ds cs w (.returned (.tuple #[.agg #[.int .i64 (sumU us - savS us ds cs), .int .i64 (savS us ds cs), .slice q cs.length cq], .int .i64 0])) w' := by
  refine ⟨q, cq, ?_, ?_, hb⟩
  · unfold ptot psav ptold; rw [if_pos h, if_pos h, if_pos h, h, List.length_map]
  · unfold ptold; rw [if_pos h]; exact ho
theorem unAll_yes {us : List RUn} (h : unAll us = true) : us.length ≤ 8 ∧ UnPr us := by
  unfold unAll at h
  simp only [Bool.and_eq_true, decide_eq_true_eq, List.all_eq_true] at h
  refine ⟨h.1, fun u hu => ?_⟩
  have := h.2 u hu
  unfold unOne inB at this
  simp only [Bool.and_eq_true, decide_eq_true_eq] at this
  exact this.2
theorem dlAll_yes {ds : List CDl} (h : dlAll ds = true) : ds.length ≤ 6 ∧ ∀ d ∈ ds, (1 ≤ d.nd ∧ d.nd ≤ 4) ∧ TvOK d.kd d.vl := by
  unfold dlAll at h
  split at h
  · cases h
  rename_i h6
  rw [Bool.and_eq_true] at h
  refine ⟨by omega, fun d hd => ?_⟩
  have := List.all_eq_true.mp h.2 d hd
  unfold dlOne termB at this
  simp only [Bool.and_eq_true, decide_eq_true_eq] at this
  have h3 := this.2
  unfold TvOK
  omega
theorem fitN_at {us : List RUn} {ds : List CDl} {cs : List CUs} : ∀ {n : Nat}, fitN us ds cs n = true → ∀ i, i < n → stepB us ds cs i = true := fun {n} h i hi => by
  induction n with
  | zero => omega
  | succ n ih =>
    have h' : (fitN us ds cs n && stepB us ds cs n) = true := h
    rw [Bool.and_eq_true] at h'
    by_cases e : i = n
    · subst e; exact h'.2
    · exact ih h'.1 (by omega)
theorem good_of_use {us : List RUn} {ds : List CDl} {u : CUs} (h1 : unAll us = true) (h2 : dlAll ds = true) (hu : useB us ds u = true) : Good us ds u := by
  obtain ⟨ha, hb, hc⟩ := useB_yes hu
  obtain ⟨_, hup⟩ := unAll_yes h1
  obtain ⟨_, hdl⟩ := dlAll_yes h2
  have hd := hdl (dlAt ds u.dl) (by
    unfold dlAt
    have : u.dl.toNat < ds.length := by omega
    rw [show ds.getD u.dl.toNat zDl = ds[u.dl.toNat] by simp [List.getD_eq_getElem?_getD, this]]; exact List.getElem_mem _)
  have hin : InR us u.us := fun x hx => by
    obtain ⟨i, hi, rfl⟩ := List.getElem_of_mem hx
    have := okN_in hc i hi
    rw [show u.us.getD i 0 = u.us[i] by simp [List.getD_eq_getElem?_getD, hi]] at this
    omega
  refine ⟨ha, hin, ⟨?_, ?_⟩, hd.2⟩
  · rw [List.length_map]; omega
  · intro p hp
    obtain ⟨x, hx, rfl⟩ := List.mem_map.mp hp
    have := hin x hx
    have hl : x.toNat < us.length := by omega
    exact getUn hup hl
theorem good_of_fit {us : List RUn} {ds : List CDl} {cs : List CUs} (h1 : unAll us = true) (h2 : dlAll ds = true) (hf : fitB us ds cs = true) : ∀ u ∈ cs, Good us ds u := fun u hu => by
  obtain ⟨i, hi, rfl⟩ := List.getElem_of_mem hu
  have := fitN_at hf i hi
  unfold stepB at this
  rw [Bool.and_eq_true] at this
  have h3 := this.1
  rw [show cs.getD i zUs = cs[i] by simp [List.getD_eq_getElem?_getD, hi]] at h3
  exact good_of_use h1 h2 h3

theorem OwnUs.mono {lo lo' : Nat} {w : World} {g : Option Addr} {cs : List CUs} (h : OwnUs lo w g cs) (hl : lo' ≤ lo) : OwnUs lo' w g cs := by
  rcases h with h | ⟨b, G, C, hg, ⟨h1, h2⟩, h3, h4, h5⟩
  · exact .inl h
  · exact .inr ⟨b, G, C, hg, ⟨by omega, h2⟩, h3, fun i hi => by
      obtain ⟨⟨k1, k2, k3⟩, k4⟩ := h4 i hi
      exact ⟨⟨by omega, k2, k3⟩, k4⟩, h5⟩
/-- A store into a block below it leaves it as it was. -/
theorem ownUs_low {lo : Nat} {w : World} {g : Option Addr} {cs : List CUs} (h : OwnUs lo w g cs) {d : Nat} (hd : d < lo) (o : Nat) (v : Value) : OwnUs lo (w.setCell ⟨d, o, none⟩ v) g cs := by
  rcases h with h | ⟨b, G, C, hg, ⟨h1, h2⟩, h3, h4, h5⟩
  · exact .inl h
  · refine .inr ⟨b, G, C, hg, ⟨h1, by rw [World.size_setCell]; exact h2⟩, fun j hj => by rw [World.frozen?_setCell]; exact h3 j hj, fun i hi => ?_, h5⟩
    obtain ⟨⟨k1, k2, k3⟩, k4, k5, k6, k7⟩ := h4 i hi
    exact ⟨⟨k1, by rw [World.size_setCell]; exact k2, k3⟩, k4.set (by omega) _ _, k5, intsAt_set k6 (by omega) _ _, freeAt_set k7 _ _⟩

set_option maxHeartbeats 4000000 in
theorem implPriced_any (a : Option Addr) (cap : Nat) (us : List RUn) (hl : us.length ≤ 100000000) (hp : ∀ r ∈ us, UnOK r) (b : Option Addr) (cb : Nat) (ds : List CDl) (hd : ds.length ≤ 100000000) (hq : ∀ r ∈ ds, DlOK r) (g : Option Addr) (cg : Nat) (cs : List CUs) (hc : cs.length ≤ 1048576) (hu : ∀ r ∈ cs, UsOK r) (w : World) (hr : ReadsUn w.heap.size w a us) (ks : ReadsDl w.heap.size w b ds) (js : ReadsUs w.heap.size w g cs) :
    Calls Try.prog 6 #[.slice a us.length cap, .slice b ds.length cb, .slice g cs.length cg] w (AnsP us ds cs w) := by
  have HFa : Hid (∀ W, Below w.heap.size w W → Calls Try.prog 13 #[.slice a us.length cap, .slice b ds.length cb] W fun e w' => e = .returned (.int .i64 (faultOf us ds)) ∧ Below W.heap.size W w') := fun W hb => fault_any a cap us hl hp b cb ds hd hq W (hr.later hb) (ks.later hb)
  have HUF : Hid (∀ W, unAll us = true → dlAll ds = true → Below w.heap.size w W → Calls Try.prog 16 #[.slice a us.length cap, .slice b ds.length cb, .slice g cs.length cg] W fun e w' => e = .returned (.bool (fitB us ds cs)) ∧ Below W.heap.size W w') := fun W h1 h2 hb => usesFit_any a cap us (unAll_yes h1).1 b cb ds (dlAll_yes h2).1 hq g cg cs hc hu W (hr.later hb) (ks.later hb) (js.later hb)
  have HBg : Hid (∀ W, unAll us = true → dlAll ds = true → fitB us ds cs = true → cs.length ≤ 4096 → Below w.heap.size w W → Calls Try.prog 14 #[.slice a us.length cap, .slice b ds.length cb, .slice g cs.length cg] W fun e w' => ∃ q cq, e = .returned (.agg #[.int .i64 (sumU us - savS us ds cs), .int .i64 (savS us ds cs), .slice q cs.length cq]) ∧ OwnUs W.heap.size w' q (cs.map (told us ds)) ∧ Below W.heap.size W w') := fun W h1 h2 h3 h4 hb => bargainOf_any a cap us (unAll_yes h1).1 (unAll_yes h1).2 b cb ds (dlAll_yes h2).1 hq g cg cs h4 (good_of_fit h1 h2 h3) W (hr.later hb) (ks.later hb) (js.later hb)
  have HC : Hid (pcode us ds cs = if 4096 < cs.length then 2 else if faultOf us ds = 0 then (if fitB us ds cs = true then 0 else 3) else faultOf us ds) := rfl
  have HNo : Hid (∀ (c : Int) (w' : World), pcode us ds cs = c → c ≠ 0 → Below w.heap.size w w' → AnsP us ds cs w (.returned (.tuple #[.agg #[.int .i64 0, .int .i64 0, .slice none 0 0], .int .i64 c])) w') := fun c w' h1 h2 h3 => ansNone h1 h2 h3
  have HYe : Hid (∀ (q : Option Addr) (cq : Nat) (w' : World), pcode us ds cs = 0 → OwnUs w.heap.size w' q (cs.map (told us ds)) → Below w.heap.size w w' → AnsP us ds cs w (.returned (.tuple #[.agg #[.int .i64 (sumU us - savS us ds cs), .int .i64 (savS us ds cs), .slice q cs.length cq], .int .i64 0])) w') := fun q cq w' h1 h2 h3 => ansSome h1 h2 h3
  have HF0 : Hid (faultOf us ds = 0 → unAll us = true ∧ dlAll ds = true) := fun h => by
    rcases fault_ways us ds with ⟨_, e⟩ | ⟨_, _, e⟩ | ⟨_, _, _, e⟩ | ⟨_, _, _, _, e⟩ | ⟨_, _, e1, e2, _⟩
    · rw [e] at h; cases h
    · rw [e] at h; cases h
    · rw [e] at h; cases h
    · rw [e] at h; cases h
    · exact ⟨e1, e2⟩
  clear hr ks js hp hq hu
  by_cases h4 : (4096 : Int) < (cs.length : Int)
  · have HC2 : Hid (pcode us ds cs = 2) := by show _ = _; rw [HC.out, if_pos (by omega)]
    go_enter Try.func6, Try.ntmps6
    go_wp2
    refine bodyPost_ret (v := .tuple #[.agg #[.int .i64 0, .int .i64 0, .slice none 0 0], .int .i64 2]) (by simp [results, Try.results6, go_sem]) rfl ?_
    exact HNo.out 2 _ HC2.out (by omega) (below_alloc _ _)
  have hc4 : cs.length ≤ 4096 := by omega
  by_cases hf : faultOf us ds = 0
  · obtain ⟨hua, hda⟩ := HF0.out hf
    rw [hf] at HFa
    have HUF2 : Hid (∀ W, Below w.heap.size w W → _) := fun W hb => HUF.out W hua hda hb
    cases hfit : fitB us ds cs
    · have HC3 : Hid (pcode us ds cs = 3) := by show _ = _; rw [HC.out, if_neg (by omega), if_pos hf, hfit]; rfl
      rw [hfit] at HUF2
      clear HC HF0 HBg HUF hf hua hda hfit
      go_enter Try.func6, Try.ntmps6
      go_wp2_with fail
      (first | go_at_call 13 | skip)
      refine (HFa.out _ (below_alloc _ _)).mono ?_
      rintro e w2 ⟨rfl, hb2⟩
      have B2 : Hid (Below w.heap.size w w2) := chain (below_alloc _ _) hb2
      have R2 : Hid (w2.rowIs w.heap.size 29 3 (bgF 0 0 (.slice none 0 0))) := (bg_new w 0 0 (.slice none 0 0)).of_block (hb2.block _ (by simp))
      clear hb2 HFa
      go_wp2_with fail
      (first | go_at_call 16 | skip)
      refine (HUF2.out _ B2.out).mono ?_
      rintro e w3 ⟨rfl, hb3⟩
      have B3 : Hid (Below w.heap.size w w3) := chain B2.out hb3
      have R3 : Hid (w3.rowIs w.heap.size 29 3 (bgF 0 0 (.slice none 0 0))) := R2.out.of_block (hb3.block _ R2.out.lt)
      have z0 : w3.cell? ⟨w.heap.size, 0, none⟩ = some (.int .i64 0) := R3.out.cell (i := 0) (by omega)
      have z1 : w3.cell? ⟨w.heap.size, 1, none⟩ = some (.int .i64 0) := R3.out.cell (i := 1) (by omega)
      have z2 : w3.cell? ⟨w.heap.size, 2, none⟩ = some (.slice none 0 0) := R3.out.cell (i := 2) (by omega)
      have y0 := R3.out.frozen 0
      have y1 := R3.out.frozen 1
      have y2 := R3.out.frozen 2
      clear hb3 HUF2 R2
      go_wp2
      refine bodyPost_ret (v := .tuple #[.agg #[.int .i64 0, .int .i64 0, .slice none 0 0], .int .i64 3]) (by simp [results, Try.results6, go_sem, z0, z1, z2]) rfl ?_
      refine HNo.out 3 _ HC3.out (by omega) ?_
      repeat refine Below.setCell ?_ (by dsimp only; omega) _
      exact B3.out
    · have HC0 : Hid (pcode us ds cs = 0) := by show _ = _; rw [HC.out, if_neg (by omega), if_pos hf, hfit]; rfl
      rw [hfit] at HUF2
      have HBg2 : Hid (∀ W, Below w.heap.size w W → _) := fun W hb => HBg.out W hua hda hfit hc4 hb
      clear HC HF0 HBg HUF hf hua hda hfit
      go_enter Try.func6, Try.ntmps6
      go_wp2_with fail
      (first | go_at_call 13 | skip)
      refine (HFa.out _ (below_alloc _ _)).mono ?_
      rintro e w2 ⟨rfl, hb2⟩
      have B2 : Hid (Below w.heap.size w w2) := chain (below_alloc _ _) hb2
      have R2 : Hid (w2.rowIs w.heap.size 29 3 (bgF 0 0 (.slice none 0 0))) := (bg_new w 0 0 (.slice none 0 0)).of_block (hb2.block _ (by simp))
      clear hb2 HFa
      go_wp2_with fail
      (first | go_at_call 16 | skip)
      refine (HUF2.out _ B2.out).mono ?_
      rintro e w3 ⟨rfl, hb3⟩
      have B3 : Hid (Below w.heap.size w w3) := chain B2.out hb3
      have R3 : Hid (w3.rowIs w.heap.size 29 3 (bgF 0 0 (.slice none 0 0))) := R2.out.of_block (hb3.block _ R2.out.lt)
      clear hb3 HUF2 R2
      go_wp2_with fail
      (first | go_at_call 14 | skip)
      refine (HBg2.out _ B3.out).mono ?_
      rintro e w4 ⟨q, cq, rfl, ho4, hb4⟩
      have B4 : Hid (Below w.heap.size w w4) := chain B3.out hb4
      have R4 : Hid (w4.rowIs w.heap.size 29 3 (bgF 0 0 (.slice none 0 0))) := R3.out.of_block (hb4.block _ R3.out.lt)
      have hlo : w.heap.size < w3.heap.size := R3.out.lt
      have HO4 : Hid (∀ v0 v1 v2, OwnUs w.heap.size (((w4.setCell ⟨w.heap.size, 0, none⟩ v0).setCell ⟨w.heap.size, 1, none⟩ v1).setCell ⟨w.heap.size, 2, none⟩ v2) q (cs.map (told us ds))) := fun v0 v1 v2 => ownUs_low (ownUs_low (ownUs_low ho4 hlo 0 v0) hlo 1 v1) hlo 2 v2 |>.mono (by omega)
      have z0 : w4.cell? ⟨w.heap.size, 0, none⟩ = some (.int .i64 0) := R4.out.cell (i := 0) (by omega)
      have z1 : w4.cell? ⟨w.heap.size, 1, none⟩ = some (.int .i64 0) := R4.out.cell (i := 1) (by omega)
      have z2 : w4.cell? ⟨w.heap.size, 2, none⟩ = some (.slice none 0 0) := R4.out.cell (i := 2) (by omega)
      have y0 := R4.out.frozen 0
      have y1 := R4.out.frozen 1
      have y2 := R4.out.frozen 2
      have HYe2 : Hid (∀ w', OwnUs w.heap.size w' q (cs.map (told us ds)) → Below w.heap.size w w' → _) := fun w' x y => HYe.out q cq w' HC0.out x y
      clear hb4 HBg2 R3 ho4 HYe HNo
      generalize sumU us - savS us ds cs = t0 at *
      generalize savS us ds cs = s0 at *
      go_wp2
      refine bodyPost_ret (v := .tuple #[.agg #[.int .i64 t0, .int .i64 s0, .slice q cs.length cq], .int .i64 0]) (by simp [results, Try.results6, go_sem, z0, z1, z2]) rfl ?_
      refine HYe2.out _ (HO4.out _ _ _) ?_
      repeat refine Below.setCell ?_ (by dsimp only; omega) _
      exact B4.out
  · have HCf : Hid (pcode us ds cs = faultOf us ds) := by show _ = _; rw [HC.out, if_neg (by omega), if_neg hf]
    have hfb : (faultOf us ds != 0) = true := by simpa using hf
    have HNz : Hid (faultOf us ds ≠ 0) := hf
    clear HC HF0 HBg HUF hf HYe
    generalize faultOf us ds = fc at *
    go_enter Try.func6, Try.ntmps6
    go_wp2_with fail
    (first | go_at_call 13 | skip)
    refine (HFa.out _ (below_alloc _ _)).mono ?_
    rintro e w2 ⟨rfl, hb2⟩
    have B2 : Hid (Below w.heap.size w w2) := chain (below_alloc _ _) hb2
    have R2 : Hid (w2.rowIs w.heap.size 29 3 (bgF 0 0 (.slice none 0 0))) := (bg_new w 0 0 (.slice none 0 0)).of_block (hb2.block _ (by simp))
    have z0 : w2.cell? ⟨w.heap.size, 0, none⟩ = some (.int .i64 0) := R2.out.cell (i := 0) (by omega)
    have z1 : w2.cell? ⟨w.heap.size, 1, none⟩ = some (.int .i64 0) := R2.out.cell (i := 1) (by omega)
    have z2 : w2.cell? ⟨w.heap.size, 2, none⟩ = some (.slice none 0 0) := R2.out.cell (i := 2) (by omega)
    have y0 := R2.out.frozen 0
    have y1 := R2.out.frozen 1
    have y2 := R2.out.frozen 2
    clear hb2 HFa
    go_wp2
    refine bodyPost_ret (v := .tuple #[.agg #[.int .i64 0, .int .i64 0, .slice none 0 0], .int .i64 fc]) (by simp [results, Try.results6, go_sem, z0, z1, z2]) rfl ?_
    refine HNo.out fc _ HCf.out HNz.out ?_
    repeat refine Below.setCell ?_ (by dsimp only; omega) _
    exact B2.out

end Go.Proofs.Ytkfmifbffgbiiaa
