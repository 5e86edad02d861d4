/-
  The specification's take.
-/
import Derived.Test.YtodncihjenlnjaaSqD
import Derived.Test.YtodncihjenlnjaaAppAny
namespace Go.Proofs.Ytodncihjenlnjaa
open Go.ChangeShapes Go.WideShapes Go.ChangeAt Go.RowKit Go.Deep
set_option linter.unusedVariables false

/-- In the midst of a take: what is left, what was taken. -/
structure TqS (w : World) (B rb : Nat) (day sp ex : Int) (lv0 lv tv : Value) (L : List RLo) (ov : Value) (O : List RLo) (wr : World) : Prop where
  run : SgIs wr rb day sp ex lv tv
  lots : wr.ownsRow B 67 2 lv L.length (loCells L)
  out : wr.ownsRow w.heap.size 67 2 ov O.length (loCells O)
  loc : ∀ q, lv.ownBlock = some q → lv0.ownBlock = some q ∨ w.heap.size ≤ q
  apart : ∀ q, lv.ownBlock = some q → ov.ownBlock ≠ some q
  fr : Fr (fun k => k = rb ∨ lv0.ownBlock = some k) w wr
section
variable {w : World} {B rb : Nat} {day sp ex : Int} {lv0 lv tv : Value} {L : List RLo} {ov : Value} {O : List RLo} {wr w' : World}
theorem TqS.later (h : TqS w B rb day sp ex lv0 lv tv L ov O wr) (hb : Below wr.heap.size wr w') : TqS w B rb day sp ex lv0 lv tv L ov O w' :=
  ⟨h.run.later hb, row_of h.lots (fun q hq => hb.block q (row_lt h.lots q hq).2), row_of h.out (fun q hq => hb.block q (row_lt h.out q hq).2), h.loc, h.apart, h.fr.trans (Fr.of hb)⟩
theorem TqS.set1 (h : TqS w B rb day sp ex lv0 lv tv L ov O wr) (x : Int) : TqS w B rb day x ex lv0 lv tv L ov O (wr.setCell ⟨rb, 1, none⟩ (.int .i64 x)) :=
  ⟨h.run.set1 x, row_of h.lots (fun q hq => Below.heap_setCell _ _ _ _ (sg_ne h.run h.lots hq)), row_of h.out (fun q hq => Below.heap_setCell _ _ _ _ (sg_ne h.run h.out hq)), h.loc, h.apart, h.fr.set (b := rb) (.inl rfl) _ _⟩
theorem TqS.push {g cp : Nat} {r : RLo} (h : TqS w B rb day sp ex lv0 lv tv L ov O wr) (hrb : rb < w.heap.size)
    (ho : w'.ownsRow w.heap.size 67 2 (.slice (some ⟨g, 0, none⟩) (O.length + 1) cp) (O.length + 1) (loCells O ++ [.int .i64 r.nu, .int .i64 r.un])) (hg : wr.grownBy w' ov.ownBlock) (hat : ov.ownBlock = some g ∨ g = wr.heap.size) : TqS w B rb day sp ex lv0 lv tv L (.slice (some ⟨g, 0, none⟩) (O.length + 1) cp) (O ++ [r]) w' := by
  have hf := fr_grown hg
  refine ⟨h.run.of (hf.block rb h.run.lt (fun e => by have := (row_lt h.out rb e).1; omega)), row_of h.lots (fun q hq => hf.block q (row_lt h.lots q hq).2 (h.apart q hq)), by rw [List.length_append, loCells_append]; exact ho, h.loc, fun q hq e => ?_, ⟨hf.os.trans h.fr.os, hf.tape.trans h.fr.tape, hf.output.trans h.fr.output, Nat.le_trans h.fr.size hf.size, fun k hk hx => (hf.block k (Nat.lt_of_lt_of_le hk h.fr.size) (fun e => by have := (row_lt h.out k e).1; omega)).trans (h.fr.block k hk hx)⟩⟩
  have e2 : g = q := by simpa [Value.ownBlock] using e
  subst e2
  rcases hat with r | r
  · exact h.apart g hq r
  · have := (row_lt h.lots g hq).2; omega
theorem Fr.setAny {X : Nat → Prop} {w w' : World} (h : Fr X w w') {b : Nat} (hb : X b ∨ w.heap.size ≤ b) (o : Nat) (v : Value) : Fr X w (w'.setCell ⟨b, o, none⟩ v) := by
  rcases hb with q | q
  · exact h.set q _ _
  · exact h.setNew q _ _
theorem TqS.num {g c : Nat} (h : TqS w B rb day sp ex lv0 (.slice (some ⟨g, 0, none⟩) L.length c) tv L ov O wr) (i : Nat) (hi : i < L.length) (x : Int) : TqS w B rb day sp ex lv0 (.slice (some ⟨g, 0, none⟩) (L.set i ⟨x, (L.getD i zLo).un⟩).length c) tv (L.set i ⟨x, (L.getD i zLo).un⟩) ov O (wr.setCell ⟨g, i * 2, none⟩ (.int .i64 x)) := by
  have hgr : g ≠ rb := sg_ne h.run h.lots rfl
  have hl := loPut h.lots i hi x
  rw [List.length_set]
  refine ⟨h.run.of (Below.heap_setCell _ _ _ _ (Ne.symm hgr)), by rw [List.length_set]; exact hl, row_of h.out (fun q hq => Below.heap_setCell _ _ _ _ (fun e => ?_)), h.loc, h.apart, h.fr.setAny ?_ _ _⟩
  · have e2 : q = g := e
    subst e2
    exact h.apart q rfl hq
  · rcases h.loc g rfl with q | q
    · exact .inl (.inr q)
    · exact .inr q
theorem TqS.lots' {wr w' : World} {v : Value} {M : List RLo} (h : TqS w B rb day sp ex lv0 lv tv L ov O wr) (hb : Below wr.heap.size wr w') (hv : w'.ownsRow B 67 2 v M.length (loCells M)) (hat : ∀ q, v.ownBlock = some q → wr.heap.size ≤ q) : TqS w B rb day sp ex lv0 v tv M ov O (w'.setCell ⟨rb, 3, none⟩ v) := by
  have h1 := h.later hb
  refine ⟨h1.run.set3 v, row_of hv (fun q hq => Below.heap_setCell _ _ _ _ (sg_ne h1.run hv hq)), row_of h1.out (fun q hq => Below.heap_setCell _ _ _ _ (sg_ne h1.run h1.out hq)), fun q hq => .inr (Nat.le_trans h.fr.size (hat q hq)), fun q hq e => ?_, h1.fr.set (b := rb) (.inl rfl) _ _⟩
  have := (row_lt h.out q e).2
  have := hat q hq
  omega
end
theorem loCells_take : ∀ (M : List RLo) (k : Nat), loCells (M.take k) = (loCells M).take (k * 2)
  | [], k => by simp [loCells]
  | r :: M, 0 => by simp [loCells]
  | r :: M, k + 1 => by
    rw [List.take_succ_cons, show (k + 1) * 2 = k * 2 + 1 + 1 by omega]
    show loC r ++ loCells (M.take k) = _
    rw [loCells_take M k]; rfl
theorem loCells_drop : ∀ (M : List RLo) (k : Nat), loCells (M.drop k) = (loCells M).drop (k * 2)
  | [], k => by simp [loCells]
  | r :: M, 0 => by simp
  | r :: M, k + 1 => by
    rw [List.drop_succ_cons, show (k + 1) * 2 = k * 2 + 1 + 1 by omega, loCells_drop M k]; rfl
set_option maxHeartbeats 8000000 in
set_option maxRecDepth 4000 in
theorem takeS_any (B rb : Nat) (day sp0 ex : Int) (lv0 : Value) (tv : Value) (L0 : List RLo) (hl : L0.length ≤ 100) (hN : ∀ r ∈ L0, LoN r) (m : Int) (hm : 1 ≤ m) (hms : m ≤ sumP L0) (hsp : -1000000000000 ≤ sp0) (hsp2 : sp0 ≤ 1000000000000) (w : World) (hB : B ≤ w.heap.size) (hg : SgIs w rb day sp0 ex lv0 tv) (hr : w.ownsRow B 67 2 lv0 L0.length (loCells L0)) :
    Calls Try.prog 27 #[.pointer (some ⟨rb, 0, none⟩), .int .i64 m] w fun e w' => ∃ oa oc lv, e = .returned (.slice oa (spO m L0).length oc) ∧ TqS w B rb day (sp0 + m) ex lv0 lv tv (spL m L0) (.slice oa (spO m L0).length oc) (spO m L0) w' := by
  have hrl := hg.lt
  obtain ⟨i0, hi, hzz⟩ := Option.map_eq_some_iff.1 loInfo
  simp only [Prod.mk.injEq] at hzz
  obtain ⟨hi0, hi1, hi2⟩ := hzz
  have hsb := sumP_bound hN
  have HInv : Hid (∀ k, TkI m L0 (tkT m L0 k)) := tkT_inv hN (by omega) hms
  have HEnd : Hid (∀ k, (tkT m L0 k).1 ≤ 0 → (tkT m L0 k).2.1 = spL m L0 ∧ (tkT m L0 k).2.2 = spO m L0) := fun k h => tkT_end hN (by omega) hms h
  obtain ⟨W1, hW1⟩ : ∃ W1, W1 = w.alloc (Obj.cells #[] 67) := ⟨_, rfl⟩
  have HS1 : Hid (TqS w B rb day sp0 ex lv0 lv0 tv L0 (.slice (some ⟨w.heap.size, 0, none⟩) 0 0) [] W1) := by
    rw [hW1]
    refine ⟨hg.later (below_alloc _ _), row_of hr (fun q hq => (below_alloc _ _).block q (row_lt hr q hq).2), ⟨rfl, .inr ⟨w.heap.size, 0, #[], rfl, Nat.le_refl _, heapNew _ _, Nat.le_refl _, by unfold maxLen; omega, rfl, rfl⟩⟩, fun q hq => .inl hq, fun q hq e => ?_, (Fr.refl _ _).alloc _⟩
    have e2 : w.heap.size = q := by simpa [Value.ownBlock] using e
    have := (row_lt hr q hq).2
    omega
  clear hg hr hN
  go_enter Try.func27, Try.ntmps27
  go_wp2_with fail
  rw [← hW1]
  clear hW1
  go_loopw [1, 5, 6, 7, 8] (fun n v _ _ _ wr => ∃ (j : Nat) (oa : Option Addr) (oc : Nat) (lv : Value), n = .int .i64 (tkT m L0 j).1 ∧ v = .slice oa (tkT m L0 j).2.2.length oc ∧ TqS w B rb day (sp0 + (m - (tkT m L0 j).1)) ex lv0 lv tv (tkT m L0 j).2.1 v (tkT m L0 j).2.2 wr) (fun n _ _ _ _ _ => (intOf n).toNat)
  case atStart => exact ⟨0, some ⟨w.heap.size, 0, none⟩, 0, lv0, rfl, rfl, by have := HS1.out; simpa [tkT] using this⟩
  case round =>
    clear HS1
    obtain ⟨j, oa, oc, lv, rfl, rfl, hst⟩ := hrel
    have hI := HInv.out j
    have hE := HEnd.out j
    have HNx : Hid (tkT m L0 (j + 1) = tkS (tkT m L0 j)) := rfl
    generalize tkT m L0 j = s at *
    obtain ⟨n, L, O⟩ := s
    dsimp only at hI hE hst ⊢
    by_cases hn : n ≤ 0
    · have hn0 : n = 0 := by have := hI.low; dsimp only at this; omega
      obtain ⟨rfl, rfl⟩ := hE hn
      have HF : Hid (TqS w B rb day (sp0 + m) ex lv0 lv tv (spL m L0) (.slice oa (spO m L0).length oc) (spO m L0) wr) := by
        have e1 : sp0 + m = sp0 + (m - n) := by omega
        rw [e1]; exact hst
      clear hst hI hE HNx HInv HEnd hn
      subst hn0
      go_wp2
      go_ret
      exact ⟨_, _, _, rfl, HF.out⟩
    · have HS : Hid (TqS w B rb day (sp0 + (m - n)) ex lv0 lv tv L (.slice oa O.length oc) O wr) := hst
      have hnp : 0 < n := by omega
      obtain ⟨hl0, hF⟩ := tk_facts hI.good (by dsimp only; omega) hI.top
      dsimp only at hl0 hF
      have hLl : L.length ≤ 100 := Nat.le_trans hI.len hl
      have hOb := sumP_bound hI.out
      have hbal := hI.bal
      have hlow := hI.low
      dsimp only at hOb hbal hlow
      have hn1 : n ≤ 100000000 := by omega
      have hOl : (O.length : Int) ≤ 100000000 := by omega
      have HSn : Hid (tkT m L0 (j + 1) = (n - tkN n L, tkL n L, O ++ [tkP n L])) := by
        show _ = _
        rw [HNx.out]; unfold tkS; dsimp only; rw [if_neg (by omega)]
      have HTl : Hid (tkL n L = if (L.getD (tkI L) zLo).nu - tkN n L = 0 then L.take (tkI L) ++ L.drop (tkI L + 1) else L.set (tkI L) ⟨(L.getD (tkI L) zLo).nu - tkN n L, (L.getD (tkI L) zLo).un⟩) := rfl
      have HTp : Hid (tkP n L = ⟨tkN n L, (L.getD (tkI L) zLo).un⟩) := rfl
      have htn : tkN n L = min n (L.getD (tkI L) zLo).nu := rfl
      have h1p := hF.one
      have HGd : Hid (∀ r ∈ L, LoN r) := hI.good
      obtain ⟨g, c, rfl⟩ := row_some HS.out.lots hl0
      clear hst hI hE HNx HInv HEnd hn hF hOb hbal hlow
      go_wp2_with fail
      go_loopw [6, 7] (fun b x wr => ∃ k : Nat, 1 ≤ k ∧ k ≤ L.length ∧ x = .int .i64 (k : Int) ∧ b = .int .i64 ((feN L k : Nat) : Int) ∧ TqS w B rb day (sp0 + (m - n)) ex lv0 (.slice (some ⟨g, 0, none⟩) L.length c) tv L (.slice oa O.length oc) O wr) (fun _ x _ => L.length - (intOf x).toNat)
      case atStart => exact ⟨1, Nat.le_refl _, by omega, rfl, by have := feN_lt L 1 (by omega); rw [show feN L 1 = 0 by omega]; rfl, HS.out⟩
      case round =>
        clear HS
        obtain ⟨k, hk1, hk, rfl, rfl, hst⟩ := hrel
        have HS : Hid (TqS w B rb day (sp0 + (m - n)) ex lv0 (.slice (some ⟨g, 0, none⟩) L.length c) tv L (.slice oa O.length oc) O wr) := hst
        have x3 := hst.run.cells.2.2.2.1
        clear hst
        have hfk := feN_lt L k (by omega)
        by_cases hlt : k < L.length
        · have hlt' : (k : Int) < (L.length : Int) := by omega
          have hml : feN L k < L.length := by omega
          have q1 := (lo_cells HS.out.lots k hlt).2
          have q2 := (lo_cells HS.out.lots (feN L k) hml).2
          have HFn : Hid (feN L (k + 1) = if (L.getD k zLo).un < (L.getD (feN L k) zLo).un then k else feN L k) := rfl
          clear htn HTl HTp
          generalize feN L k = f at *
          generalize L.getD k zLo = r at *
          generalize L.getD f zLo = t at *
          obtain ⟨rn, ru⟩ := r
          obtain ⟨tn, tu⟩ := t
          dsimp only at q1 q2 HFn
          have hml' : (f : Int) < (L.length : Int) := by omega
          by_cases hc : ru < tu
          · go_wp2_with fail
            go_quiet (fail)
            go_wp2
            exact ⟨⟨k + 1, by omega, by omega, by go_num, by rw [HFn.out, if_pos hc], HS.out.later (below_drewN (Below.refl _ _) _)⟩, by simp [intOf]; omega⟩
          · go_wp2_with fail
            go_quiet (fail)
            go_wp2
            exact ⟨⟨k + 1, by omega, by omega, by go_num, by rw [HFn.out, if_neg (by omega)], HS.out.later (below_drewN (Below.refl _ _) _)⟩, by simp [intOf]; omega⟩
        · obtain rfl : k = L.length := by omega
          have hti : tkI L < L.length := hfk
          have hni := getLo' HGd.out hti
          have HI : Hid (feN L L.length = tkI L) := rfl
          rw [HI.out]
          have q0 := (lo_cells HS.out.lots (tkI L) hti).1
          have q1 := (lo_cells HS.out.lots (tkI L) hti).2
          unfold LoN at hni
          have HNum : Hid (∀ (W : World) (sp : Int) (ov : Value) (O2 : List RLo), TqS w B rb day sp ex lv0 (.slice (some ⟨g, 0, none⟩) L.length c) tv L ov O2 W → ∀ x, TqS w B rb day sp ex lv0 (.slice (some ⟨g, 0, none⟩) L.length c) tv (L.set (tkI L) ⟨x, (L.getD (tkI L) zLo).un⟩) ov O2 (W.setCell ⟨g, tkI L * 2, none⟩ (.int .i64 x)) ∧ W.frozen? ⟨g, tkI L * 2, none⟩ = false ∧ W.cell? ⟨g, tkI L * 2, none⟩ = some (.int .i64 (L.getD (tkI L) zLo).nu) ∧ (W.setCell ⟨g, tkI L * 2, none⟩ (.int .i64 x)).cell? ⟨g, tkI L * 2, none⟩ = some (.int .i64 x)) := fun W sp ov O2 h x => by
            have h1 := h.num (tkI L) hti x
            have h2 := (lo_cells h1.lots (tkI L) (by rw [List.length_set]; exact hti)).1
            rw [show (L.set (tkI L) ⟨x, (L.getD (tkI L) zLo).un⟩).getD (tkI L) zLo = ⟨x, (L.getD (tkI L) zLo).un⟩ by simp [List.getD_eq_getElem?_getD, hti]] at h2
            rw [List.length_set] at h1
            exact ⟨h1, lo_free h.lots _, (lo_cells h.lots _ hti).1, h2⟩
          have HSet : Hid (∀ x y, (L.set (tkI L) ⟨x, y⟩).length = L.length ∧ (L.set (tkI L) ⟨x, y⟩).take (tkI L) = L.take (tkI L) ∧ (L.set (tkI L) ⟨x, y⟩).drop (tkI L + 1) = L.drop (tkI L + 1)) := fun x y => ⟨List.length_set, by rw [List.take_set]; exact List.set_eq_of_length_le (by simp; omega), by rw [List.drop_set, if_pos (by omega)]⟩
          generalize L.getD (tkI L) zLo = r at *
          obtain ⟨nu, un⟩ := r
          dsimp only at hni htn HTl HTp q0 q1 HNum
          obtain ⟨p, hp⟩ : ∃ p, p = tkN n L := ⟨_, rfl⟩
          rw [← hp] at htn HTl HTp HSn h1p
          have hIf : (if nu < n then nu else n) = p := by split <;> omega
          have hpb : p ≤ nu ∧ p ≤ n := by omega
          clear hp htn
          generalize tkI L = i at *
          clear HI hfk hk1 hk
          have hi' : (i : Int) < (L.length : Int) := by omega
          have hws : IntKind.i64.wrap (sp0 + (m - n) + p) = sp0 + (m - n) + p := wrap_id _ (by omega) (by omega)
          have hwn : IntKind.i64.wrap (n - p) = n - p := wrap_id _ (by omega) (by omega)
          have hwu : IntKind.i64.wrap (nu - p) = nu - p := wrap_id _ (by omega) (by omega)
          have HA1 : Hid (TqS w B rb day (sp0 + (m - n)) ex lv0 (.slice (some ⟨g, 0, none⟩) L.length c) tv L (.slice oa O.length oc) O (wr.alloc (Obj.cells #[.int .i64 p, .int .i64 un] 67))) := HS.out.later (below_alloc _ _)
          have HNw : Hid ((wr.alloc (Obj.cells #[.int .i64 p, .int .i64 un] 67)).heap[wr.heap.size]? = some (.cells #[.int .i64 p, .int .i64 un] 67 (0, 0))) := heapNew _ _
          have hsz := HS.out.fr.size
          have hsz2 : w.heap.size ≤ (wr.alloc (Obj.cells #[.int .i64 p, .int .i64 un] 67)).heap.size := by simp; omega
          clear HS
          have hcl : L.length ≤ c := row_cap HA1.out.lots
          by_cases hz : nu - p = 0
          · have hzb : (nu - p == 0) = true := by rw [beq_iff_eq]; exact hz
            have HTn : Hid (tkT m L0 (j + 1) = (n - p, L.take i ++ L.drop (i + 1), O ++ [⟨p, un⟩])) := by
              show _ = _
              rw [HSn.out, HTp.out, HTl.out, if_pos hz]
            clear hz HSn HTp HTl
            go_wp2_with (at_builtin; refine wpList_append_lies _ rfl _ _ 25 rfl w.heap.size 67 i0 (.agg #[.int .i64 0, .int .i64 0]) 2 16 Try.underlying25 hi hi0 hi1 hi2 rfl (by decide) _ _ _ rfl HA1.out.out ⟨wr.heap.size, 0, none⟩ 1 1 [.int .i64 p, .int .i64 un] rfl rfl (World.news_of_block HNw.out) (by simp [Value.oneCell']) (by omega) (by unfold maxLen; omega) (by omega) hsz2 _ rfl ?_; intro g1 cp1 w9 hown1 hgrow1 hat1 hglt1; have h9 := HA1.out.push (r := ⟨p, un⟩) hrl hown1 hgrow1 hat1; have x1 := h9.run.cells.2.1; have xf := h9.run.free 1; have h10 := h9.set1 (sp0 + (m - n) + p); have y3 := h10.run.cells.2.2.2.1; obtain ⟨h11, yf, yq, zq⟩ := HNum.out _ _ _ _ h10 (nu - p); have z3 := h11.run.cells.2.2.2.1; have H11 : Hid (TqS w B rb day (sp0 + (m - n) + p) ex lv0 (.slice (some ⟨g, 0, none⟩) L.length c) tv (L.set i ⟨nu - p, un⟩) (.slice (some ⟨g1, 0, none⟩) (O.length + 1) cp1) (O ++ [⟨p, un⟩]) ((w9.setCell ⟨rb, 1, none⟩ (.int .i64 (sp0 + (m - n) + p))).setCell ⟨g, i * 2, none⟩ (.int .i64 (nu - p)))) := h11; clear hown1 hgrow1 hat1 hglt1 h9 h10 h11)
            have hMl : (L.set i ⟨nu - p, un⟩).length = L.length := List.length_set
            have HMt : Hid ((L.set i ⟨nu - p, un⟩).take i = L.take i ∧ (L.set i ⟨nu - p, un⟩).drop (i + 1) = L.drop (i + 1)) := ⟨(HSet.out (nu - p) un).2.1, (HSet.out (nu - p) un).2.2⟩
            generalize L.set i ⟨nu - p, un⟩ = M at *
            generalize ((w9.setCell ⟨rb, 1, none⟩ (.int .i64 (sp0 + (m - n) + p))).setCell ⟨g, i * 2, none⟩ (.int .i64 (nu - p))) = W11 at *
            clear x1 xf y3 yf yq zq z3 HNum HSet HA1 HNw
            have HLo : Hid (∀ W, Below W11.heap.size W11 W → W.ownsRow B 67 2 (.slice (some ⟨g, 0, none⟩) L.length c) L.length (loCells M)) := fun W hW => by
              have := (H11.out.later hW).lots
              rwa [hMl] at this
            have HTk : Hid (∀ j u, (loCells (M.take i))[j]? = some u → (loCells M)[0 + j]? = some u) := fun j u hj => by
              rw [loCells_take, List.getElem?_take] at hj
              split at hj
              · rw [Nat.zero_add]; exact hj
              · cases hj
            obtain ⟨o8, ho8⟩ : ∃ o8 : Nat, o8 = if c = i + 1 then 0 else (i + 1) * 2 := ⟨_, rfl⟩
            have hof : (if c = i + 1 then (some (⟨g, 0, none⟩ : Addr)) else some ⟨g, (i + 1) * 2, none⟩) = some ⟨g, o8, none⟩ := by rw [ho8]; split <;> rfl
            have HDr : Hid (0 < L.length - (i + 1) → ∀ j u, (loCells (M.drop (i + 1)))[j]? = some u → (loCells M)[o8 + j]? = some u) := fun h0 j u hj => by
              rw [ho8, if_neg (by omega)]
              rw [loCells_drop, List.getElem?_drop] at hj
              exact hj
            clear ho8
            have hLt : (M.take i).length = i := by rw [List.length_take]; omega
            have hLd : (M.drop (i + 1)).length = L.length - (i + 1) := by rw [List.length_drop]; omega
            have HLt : Hid (((M.take i).length = i) ∧ (M.drop (i + 1)).length = L.length - (i + 1)) := ⟨hLt, hLd⟩
            clear hLt hLd
            have hick : i ≤ c := by omega
            have hi1' : i + 1 ≤ L.length := by omega
            have hwi : IntKind.i64.wrap ((i : Int) + 1) = (i : Int) + 1 := wrap_id _ (by omega) (by omega)
            have hi2' : (i : Int) + 1 ≤ (L.length : Int) := by omega
            have hi3' : (0 : Int) ≤ (i : Int) + 1 := by omega
            have hi4' : ¬ ((i : Int) + 1 < 0) := by omega
            have HQ : Hid (∀ W, Below W11.heap.size W11 W → W.cell? ⟨rb, 3, none⟩ = some (.slice (some ⟨g, 0, none⟩) L.length c) ∧ W.frozen? ⟨rb, 3, none⟩ = false) := fun W hW => ⟨(H11.out.run.later hW).cells.2.2.2.1, (H11.out.run.later hW).free 3⟩
            refine wp_region_z (S := fun W => Below W11.heap.size W11 W) 22 (by kernel_rfl) (below_drew _) (fun hH => ?_)
            refine wpAnyZ_take (i := 0) (v := .pointer (some ⟨rb, 0, none⟩)) rfl (by kernel_rfl) (by kernel_rfl) (by kernel_rfl) (by kernel_rfl) (fun _ _ _ h => h) (Or.inl ⟨by rfl, fun w hSw => by go_simp⟩) hH ?_
            refine wpAnyZ_take (i := 2) (v := .pointer (some ⟨rb, 0, none⟩)) rfl (by kernel_rfl) (by kernel_rfl) (by kernel_rfl) (by kernel_rfl) (fun _ _ _ h => h) (Or.inl ⟨by rfl, fun w hSw => by go_simp⟩) hH ?_
            try simp only [Act.put, List.setIfInBounds_toArray, List.set_cons_zero, List.set_cons_succ, List.getElem_toArray, List.getElem_cons_succ, List.getElem_cons_zero]
            refine wpAnyZ_take (i := 3) (v := .pointer (some ⟨rb, 0, none⟩)) rfl (by kernel_rfl) (by kernel_rfl) (by kernel_rfl) (by kernel_rfl) (fun _ _ _ h => h) (Or.inl ⟨by rfl, fun w hSw => by go_simp⟩) hH ?_
            try simp only [Act.put, List.setIfInBounds_toArray, List.set_cons_zero, List.set_cons_succ, List.getElem_toArray, List.getElem_cons_succ, List.getElem_cons_zero]
            refine wpAnyZ_take (i := 4) (v := .pointer (some ⟨rb, 0, none⟩)) rfl (by kernel_rfl) (by kernel_rfl) (by kernel_rfl) (by kernel_rfl) (fun _ _ _ h => h) (Or.inl ⟨by rfl, fun w hSw => by go_simp⟩) hH ?_
            try simp only [Act.put, List.setIfInBounds_toArray, List.set_cons_zero, List.set_cons_succ, List.getElem_toArray, List.getElem_cons_succ, List.getElem_cons_zero]
            refine wpAnyZ_take (i := 5) (v := .pointer (some ⟨rb, 3, none⟩)) rfl (by kernel_rfl) (by kernel_rfl) (by kernel_rfl) (by kernel_rfl) (fun _ _ _ h => h) (Or.inl ⟨by rfl, fun w hSw => by go_simp⟩) hH ?_
            try simp only [Act.put, List.setIfInBounds_toArray, List.set_cons_zero, List.set_cons_succ, List.getElem_toArray, List.getElem_cons_succ, List.getElem_cons_zero]
            refine wpAnyZ_take (i := 6) (v := .slice (some ⟨g, 0, none⟩) L.length c) rfl (by kernel_rfl) (by kernel_rfl) (by kernel_rfl) (by kernel_rfl) (fun _ _ _ h => h) (Or.inl ⟨by rfl, fun w hSw => by have f0 := (HQ.out w hSw).1; go_simp⟩) hH ?_
            try simp only [Act.put, List.setIfInBounds_toArray, List.set_cons_zero, List.set_cons_succ, List.getElem_toArray, List.getElem_cons_succ, List.getElem_cons_zero]
            refine wpAnyZ_take (i := 7) (v := .int .i64 (i : Int)) rfl (by kernel_rfl) (by kernel_rfl) (by kernel_rfl) (by kernel_rfl) (fun _ _ _ h => h) (Or.inl ⟨by rfl, fun w hSw => by go_simp⟩) hH ?_
            try simp only [Act.put, List.setIfInBounds_toArray, List.set_cons_zero, List.set_cons_succ, List.getElem_toArray, List.getElem_cons_succ, List.getElem_cons_zero]
            refine wpAnyZ_take (i := 8) (v := .slice (some ⟨g, 0, none⟩) i c) rfl (by kernel_rfl) (by kernel_rfl) (by kernel_rfl) (by kernel_rfl) (fun _ _ _ h => h) (Or.inl ⟨by rfl, fun w hSw => by go_simp⟩) hH ?_
            try simp only [Act.put, List.setIfInBounds_toArray, List.set_cons_zero, List.set_cons_succ, List.getElem_toArray, List.getElem_cons_succ, List.getElem_cons_zero]
            refine wpAnyZ_take (i := 10) (v := .pointer (some ⟨rb, 0, none⟩)) rfl (by kernel_rfl) (by kernel_rfl) (by kernel_rfl) (by kernel_rfl) (fun _ _ _ h => h) (Or.inl ⟨by rfl, fun w hSw => by go_simp⟩) hH ?_
            try simp only [Act.put, List.setIfInBounds_toArray, List.set_cons_zero, List.set_cons_succ, List.getElem_toArray, List.getElem_cons_succ, List.getElem_cons_zero]
            refine wpAnyZ_take (i := 11) (v := .pointer (some ⟨rb, 0, none⟩)) rfl (by kernel_rfl) (by kernel_rfl) (by kernel_rfl) (by kernel_rfl) (fun _ _ _ h => h) (Or.inl ⟨by rfl, fun w hSw => by go_simp⟩) hH ?_
            try simp only [Act.put, List.setIfInBounds_toArray, List.set_cons_zero, List.set_cons_succ, List.getElem_toArray, List.getElem_cons_succ, List.getElem_cons_zero]
            refine wpAnyZ_take (i := 12) (v := .pointer (some ⟨rb, 0, none⟩)) rfl (by kernel_rfl) (by kernel_rfl) (by kernel_rfl) (by kernel_rfl) (fun _ _ _ h => h) (Or.inl ⟨by rfl, fun w hSw => by go_simp⟩) hH ?_
            try simp only [Act.put, List.setIfInBounds_toArray, List.set_cons_zero, List.set_cons_succ, List.getElem_toArray, List.getElem_cons_succ, List.getElem_cons_zero]
            refine wpAnyZ_take (i := 13) (v := .pointer (some ⟨rb, 3, none⟩)) rfl (by kernel_rfl) (by kernel_rfl) (by kernel_rfl) (by kernel_rfl) (fun _ _ _ h => h) (Or.inl ⟨by rfl, fun w hSw => by go_simp⟩) hH ?_
            try simp only [Act.put, List.setIfInBounds_toArray, List.set_cons_zero, List.set_cons_succ, List.getElem_toArray, List.getElem_cons_succ, List.getElem_cons_zero]
            refine wpAnyZ_take (i := 14) (v := .slice (some ⟨g, 0, none⟩) L.length c) rfl (by kernel_rfl) (by kernel_rfl) (by kernel_rfl) (by kernel_rfl) (fun _ _ _ h => h) (Or.inl ⟨by rfl, fun w hSw => by have f0 := (HQ.out w hSw).1; go_simp⟩) hH ?_
            try simp only [Act.put, List.setIfInBounds_toArray, List.set_cons_zero, List.set_cons_succ, List.getElem_toArray, List.getElem_cons_succ, List.getElem_cons_zero]
            refine wpAnyZ_take (i := 15) (v := .int .i64 (i : Int)) rfl (by kernel_rfl) (by kernel_rfl) (by kernel_rfl) (by kernel_rfl) (fun _ _ _ h => h) (Or.inl ⟨by rfl, fun w hSw => by go_simp⟩) hH ?_
            try simp only [Act.put, List.setIfInBounds_toArray, List.set_cons_zero, List.set_cons_succ, List.getElem_toArray, List.getElem_cons_succ, List.getElem_cons_zero]
            refine wpAnyZ_take (i := 16) (v := .int .i64 ((i : Int) + 1)) rfl (by kernel_rfl) (by kernel_rfl) (by kernel_rfl) (by kernel_rfl) (fun _ _ _ h => h) (Or.inl ⟨by rfl, fun w hSw => by go_simp⟩) hH ?_
            try simp only [Act.put, List.setIfInBounds_toArray, List.set_cons_zero, List.set_cons_succ, List.getElem_toArray, List.getElem_cons_succ, List.getElem_cons_zero]
            refine wpAnyZ_take (i := 17) (v := .slice (some ⟨g, o8, none⟩) (L.length - (i + 1)) (c - (i + 1))) rfl (by kernel_rfl) (by kernel_rfl) (by kernel_rfl) (by kernel_rfl) (fun _ _ _ h => h) (Or.inl ⟨by rfl, fun w hSw => by go_simp⟩) hH ?_
            try simp only [Act.put, List.setIfInBounds_toArray, List.set_cons_zero, List.set_cons_succ, List.getElem_toArray, List.getElem_cons_succ, List.getElem_cons_zero]
            refine wpAnyZ_ready (rs := [1]) (by kernel_rfl) (by simp) ?_
            refine AllReadyZ.cons rfl (fun K hK => ?_) AllReadyZ.nil
            go_simp
            have h12 : Below W11.heap.size W11 (W11.alloc (Obj.cells #[] 67)).drew := chain (below_alloc _ _) (below_drew _)
            have HO : Hid ((W11.alloc (Obj.cells #[] 67)).drew.ownsRow W11.heap.size 67 2 (.slice (some ⟨W11.heap.size, 0, none⟩) 0 0) 0 []) := ⟨rfl, .inr ⟨W11.heap.size, 0, #[], rfl, Nat.le_refl _, heapNew W11 _, Nat.le_refl _, by unfold maxLen; omega, rfl, rfl⟩⟩
            refine hK.out _ _ (Or.inr h12) (fun _ => ?_)
            clear hK K
            try simp only [Act.put, List.setIfInBounds_toArray, List.set_cons_zero, List.set_cons_succ, List.getElem_toArray, List.getElem_cons_succ, List.getElem_cons_zero]
            generalize (W11.alloc (Obj.cells #[] 67)).drew = W12 at *
            refine wpAnyZ_ready (rs := [9]) (by kernel_rfl) (by simp) ?_
            refine AllReadyZ.cons rfl (fun K hK => ?_) AllReadyZ.nil
            refine step_append_any rfl (.tmp 104) (.tmp 111) 25 rfl W11.heap.size 67 i0 (.agg #[.int .i64 0, .int .i64 0]) 2 16 Try.underlying25 hi hi0 hi1 hi2 rfl (by decide) (.slice (some ⟨W11.heap.size, 0, none⟩) 0 0) 0 [] (by simp [Act.eval]) HO.out (some ⟨g, 0, none⟩) i c (loCells (M.take i)) (by simp [Act.eval]) (by rw [loCells_len, HLt.out.1]) (fun _ => ⟨_, rfl, row_part (HLo.out _ h12) 0 _ HTk.out⟩) (loCells_one _) (by unfold maxLen; omega) (by omega) h12.size (fun va vc w13 ho13 hg13 ha13 => ?_)
            rw [Nat.zero_add] at ho13 ha13 ⊢
            have h13 : Below W11.heap.size W11 w13 := h12.grown hg13 h12.size (fun q hq => Nat.le_of_eq (by simpa [Value.ownBlock] using hq))
            have HR13 : Hid (w13.ownsRow W11.heap.size 67 2 (.slice va i vc) i (loCells (M.take i))) := by have := ho13; rwa [List.nil_append] at this
            clear ho13 hg13 ha13 HO
            refine hK.out _ _ (Or.inr h13) (fun _ => ?_)
            clear hK K
            try simp only [Act.put, List.setIfInBounds_toArray, List.set_cons_zero, List.set_cons_succ, List.getElem_toArray, List.getElem_cons_succ, List.getElem_cons_zero]
            refine wpAnyZ_ready (rs := [18]) (by kernel_rfl) (by simp) ?_
            refine AllReadyZ.cons rfl (fun K hK => ?_) AllReadyZ.nil
            refine step_append_any rfl (.tmp 112) (.tmp 120) 25 rfl W11.heap.size 67 i0 (.agg #[.int .i64 0, .int .i64 0]) 2 16 Try.underlying25 hi hi0 hi1 hi2 rfl (by decide) (.slice va i vc) i (loCells (M.take i)) (by simp [Act.eval]) HR13.out (some ⟨g, o8, none⟩) (L.length - (i + 1)) (c - (i + 1)) (loCells (M.drop (i + 1))) (by simp [Act.eval]) (by rw [loCells_len, HLt.out.2]) (fun h0 => ⟨_, rfl, row_part (HLo.out _ h13) o8 _ (HDr.out h0)⟩) (loCells_one _) (by unfold maxLen; omega) (by omega) h13.size (fun ua uc w14 ho14 hg14 ha14 => ?_)
            have h14 : Below W11.heap.size W11 w14 := h13.grown hg14 h13.size (fun q hq => (row_lt HR13.out q hq).1)
            have HLn : Hid ((L.take i ++ L.drop (i + 1)).length = i + (L.length - (i + 1))) := by show _ = _; rw [← HMt.out.1, ← HMt.out.2, List.length_append, HLt.out.1, HLt.out.2]
            have HNew : Hid (TqS w B rb day (sp0 + (m - n) + p) ex lv0 (.slice ua (i + (L.length - (i + 1))) uc) tv (L.take i ++ L.drop (i + 1)) (.slice (some ⟨g1, 0, none⟩) (O.length + 1) cp1) (O ++ [⟨p, un⟩]) (w14.setCell ⟨rb, 3, none⟩ (.slice ua (i + (L.length - (i + 1))) uc))) := by
              refine H11.out.lots' h14 ?_ (fun q hq => (row_lt ho14 q hq).1)
              rw [HLn.out, ← HMt.out.1, ← HMt.out.2, loCells_append]
              exact row_base ho14 (by have := H11.out.fr.size; omega)
            clear ho14 hg14 ha14
            refine hK.out _ _ (Or.inr h14) (fun _ => ?_)
            clear hK K
            try simp only [Act.put, List.setIfInBounds_toArray, List.set_cons_zero, List.set_cons_succ, List.getElem_toArray, List.getElem_cons_succ, List.getElem_cons_zero]
            refine wpAnyZ_take (i := 19) (v := .pointer (some ⟨rb, 0, none⟩)) rfl (by kernel_rfl) (by kernel_rfl) (by kernel_rfl) (by kernel_rfl) (fun _ _ _ h => h) (Or.inl ⟨by rfl, fun w hSw => by go_simp⟩) h14 ?_
            try simp only [Act.put, List.setIfInBounds_toArray, List.set_cons_zero, List.set_cons_succ, List.getElem_toArray, List.getElem_cons_succ, List.getElem_cons_zero]
            refine wpAnyZ_take (i := 20) (v := .pointer (some ⟨rb, 0, none⟩)) rfl (by kernel_rfl) (by kernel_rfl) (by kernel_rfl) (by kernel_rfl) (fun _ _ _ h => h) (Or.inl ⟨by rfl, fun w hSw => by go_simp⟩) h14 ?_
            try simp only [Act.put, List.setIfInBounds_toArray, List.set_cons_zero, List.set_cons_succ, List.getElem_toArray, List.getElem_cons_succ, List.getElem_cons_zero]
            refine wpAnyZ_take (i := 21) (v := .pointer (some ⟨rb, 3, none⟩)) rfl (by kernel_rfl) (by kernel_rfl) (by kernel_rfl) (by kernel_rfl) (fun _ _ _ h => h) (Or.inl ⟨by rfl, fun w hSw => by go_simp⟩) h14 ?_
            try simp only [Act.put, List.setIfInBounds_toArray, List.set_cons_zero, List.set_cons_succ, List.getElem_toArray, List.getElem_cons_succ, List.getElem_cons_zero]
            refine wpAnyZ_ready (rs := [22]) (by kernel_rfl) (by simp) ?_
            refine AllReadyZ.cons rfl (fun K hK => ?_) AllReadyZ.nil
            obtain ⟨y0, y1⟩ := HQ.out w14 h14
            go_simp
            refine hK.out _ _ (Or.inl rfl) (fun _ => ?_)
            clear hK K
            try simp only [Act.put, List.setIfInBounds_toArray, List.set_cons_zero, List.set_cons_succ, List.getElem_toArray, List.getElem_cons_succ, List.getElem_cons_zero]
            refine wpAnyZ_done (by kernel_rfl) ?_ _
            clear y0 y1 hH h12 h13 h14
            generalize w14.setCell ⟨rb, 3, none⟩ (.slice ua (i + (L.length - (i + 1))) uc) = W15 at *
            go_wp2
            refine ⟨⟨j + 1, some ⟨g1, 0, none⟩, cp1, .slice ua (i + (L.length - (i + 1))) uc, by rw [HTn.out], by rw [HTn.out]; simp, ?_⟩, by simp [intOf]; omega⟩
            rw [HTn.out]
            dsimp only
            rw [show sp0 + (m - (n - p)) = sp0 + (m - n) + p by omega]
            exact HNew.out
          · have hzb : (nu - p == 0) = false := by rw [beq_eq_false_iff_ne]; exact hz
            have HTn : Hid (tkT m L0 (j + 1) = (n - p, L.set i ⟨nu - p, un⟩, O ++ [⟨p, un⟩])) := by
              show _ = _
              rw [HSn.out, HTp.out, HTl.out, if_neg hz]
            clear hz HSn HTp HTl
            go_wp2_with (at_builtin; refine wpList_append_lies _ rfl _ _ 25 rfl w.heap.size 67 i0 (.agg #[.int .i64 0, .int .i64 0]) 2 16 Try.underlying25 hi hi0 hi1 hi2 rfl (by decide) _ _ _ rfl HA1.out.out ⟨wr.heap.size, 0, none⟩ 1 1 [.int .i64 p, .int .i64 un] rfl rfl (World.news_of_block HNw.out) (by simp [Value.oneCell']) (by omega) (by unfold maxLen; omega) (by omega) hsz2 _ rfl ?_; intro g1 cp1 w9 hown1 hgrow1 hat1 hglt1; have h9 := HA1.out.push (r := ⟨p, un⟩) hrl hown1 hgrow1 hat1; have x1 := h9.run.cells.2.1; have xf := h9.run.free 1; have h10 := h9.set1 (sp0 + (m - n) + p); have y3 := h10.run.cells.2.2.2.1; obtain ⟨h11, yf, yq, zq⟩ := HNum.out _ _ _ _ h10 (nu - p); have z3 := h11.run.cells.2.2.2.1; have H11 : Hid (TqS w B rb day (sp0 + (m - n) + p) ex lv0 (.slice (some ⟨g, 0, none⟩) L.length c) tv (L.set i ⟨nu - p, un⟩) (.slice (some ⟨g1, 0, none⟩) (O.length + 1) cp1) (O ++ [⟨p, un⟩]) ((w9.setCell ⟨rb, 1, none⟩ (.int .i64 (sp0 + (m - n) + p))).setCell ⟨g, i * 2, none⟩ (.int .i64 (nu - p)))) := h11; clear hown1 hgrow1 hat1 hglt1 h9 h10 h11)
            refine ⟨⟨j + 1, some ⟨g1, 0, none⟩, cp1, .slice (some ⟨g, 0, none⟩) L.length c, by rw [HTn.out], by rw [HTn.out]; simp, ?_⟩, by simp [intOf]; omega⟩
            rw [HTn.out]
            dsimp only
            rw [show sp0 + (m - (n - p)) = sp0 + (m - n) + p by omega]
            exact H11.out
end Go.Proofs.Ytodncihjenlnjaa
