/-
  Contract of the program's wordsOf.
-/
import Derived.Test.YthkfaiokigmjeaaDoorRtB
import Derived.Test.YthkfaiokigmjeaaDoorRowS
import Derived.Test.YthkfaiokigmjeaaDoorItoa
namespace Go.Proofs.YthkfaiokigmjeaaDoor
open Go.ChangeShapes Go.WideShapes Go.ChangeAt Go.RowKit Go.Deep
set_option linter.unusedVariables false

theorem strInfo1 : (Tryd.prog.info? 9).map (fun i => (i.zero, i.size, i.bytes)) = some (some (.string ⟨#[]⟩), 1, 16) := by kernel_rfl
theorem OneS.later {w : World} {B : Nat} {v : Value} {L : List ByteArray} {wr w' : World} (h : OneS w B v L wr) (hb : Below wr.heap.size wr w') : OneS w B v L w' := by
  obtain ⟨⟨h1, h2⟩, h3, h4⟩ := h
  refine ⟨⟨h1, ?_⟩, Nat.le_trans h3 hb.size, h4.trans (hb.mono h3)⟩
  rcases h2 with h2 | ⟨g, cap, cur, e, hB, hg, r⟩
  · exact .inl h2
  · refine .inr ⟨g, cap, cur, e, hB, ?_, r⟩
    obtain ⟨hlt, _⟩ := Array.getElem?_eq_some_iff.1 hg
    exact (hb.block g hlt).trans hg
theorem OneS.pushAll {w : World} {B : Nat} {v : Value} {L xs : List ByteArray} {wr w' : World} {g cp : Nat} (h : OneS w B v L wr)
    (ho : w'.ownsRow B 9 1 (.slice (some ⟨g, 0, none⟩) (L.length + xs.length) cp) (L.length + xs.length) (L.map Value.string ++ xs.map Value.string)) (hg : wr.grownBy w' v.ownBlock) : OneS w B (.slice (some ⟨g, 0, none⟩) (L.length + xs.length) cp) (L ++ xs) w' := by
  obtain ⟨h1, h4, h5⟩ := h
  refine ⟨?_, Nat.le_trans h4 hg.size, h5.grown hg h4 (fun q hq => (h1.lt q hq).1)⟩
  rw [List.length_append, List.map_append]; exact ho
theorem OneS.form {w : World} {B : Nat} {v : Value} {L : List ByteArray} {wr : World} (h : OneS w B v L wr) : ∃ g cp, v = .slice g L.length cp := by
  rcases h.1.2 with ⟨rfl, h0⟩ | ⟨g, cap, cur, rfl, _⟩
  · exact ⟨none, 0, by rw [h0]⟩
  · exact ⟨_, _, rfl⟩
theorem fieldsT_any (w : World) (f : Nat) (h1 : 1 ≤ f) (h2 : f ≤ 5) :
    Calls Tryd.prog 29 #[] w fun e w' => ∃ b, e = .returned (.slice (some ⟨b, 0, none⟩) 6 6) ∧ Below w.heap.size w w' ∧ w'.cell? ⟨b, f * 3, none⟩ = some (.string ⟨(fwL f).toArray⟩) :=
  (fieldsM_at w).mono fun e w' ⟨q1, q2⟩ => ⟨w.heap.size, q1, by rw [q2]; exact below_alloc _ _, by
    rw [q2]
    rcases (by omega : f = 1 ∨ f = 2 ∨ f = 3 ∨ f = 4 ∨ f = 5) with rfl | rfl | rfl | rfl | rfl <;> exact cellNew _ _ _ _ rfl rfl⟩
theorem opsT_any (w : World) (f : Nat) (h1 : 1 ≤ f) (h2 : f ≤ 3) :
    Calls Tryd.prog 30 #[] w fun e w' => ∃ b, e = .returned (.slice (some ⟨b, 0, none⟩) 4 4) ∧ Below w.heap.size w w' ∧ w'.cell? ⟨b, f * 3, none⟩ = some (.string ⟨(owL f).toArray⟩) :=
  (opsM_at w).mono fun e w' ⟨q1, q2⟩ => ⟨w.heap.size, q1, by rw [q2]; exact below_alloc _ _, by
    rw [q2]
    rcases (by omega : f = 1 ∨ f = 2 ∨ f = 3) with rfl | rfl | rfl <;> exact cellNew _ _ _ _ rfl rfl⟩
theorem actsT_any (w : World) (f : Nat) (h1 : 1 ≤ f) (h2 : f ≤ 3) :
    Calls Tryd.prog 32 #[] w fun e w' => ∃ b, e = .returned (.slice (some ⟨b, 0, none⟩) 4 4) ∧ Below w.heap.size w w' ∧ w'.cell? ⟨b, f * 3, none⟩ = some (.string ⟨(awL f).toArray⟩) :=
  (actsM_at w).mono fun e w' ⟨q1, q2⟩ => ⟨w.heap.size, q1, by rw [q2]; exact below_alloc _ _, by
    rw [q2]
    rcases (by omega : f = 1 ∨ f = 2 ∨ f = 3) with rfl | rfl | rfl <;> exact cellNew _ _ _ _ rfl rfl⟩
theorem OneS.wide {w W0 : World} {v : Value} {L : List ByteArray} {wr : World} (h : OneS W0 W0.heap.size v L wr) (hB : w.heap.size ≤ W0.heap.size) (hb : Below w.heap.size w wr) : OneS w w.heap.size v L wr := by
  obtain ⟨⟨h1, h2⟩, h3, h4⟩ := h
  refine ⟨⟨h1, ?_⟩, hb.size, hb⟩
  rcases h2 with h2 | ⟨g, cap, cur, e, hG, r⟩
  · exact .inl h2
  · exact .inr ⟨g, cap, cur, e, Nat.le_trans hB hG, r⟩
def toB (ls : List (List UInt8)) : List ByteArray := ls.map fun l => ⟨l.toArray⟩
theorem toB_append (a b : List (List UInt8)) : toB (a ++ b) = toB a ++ toB b := by simp [toB]
theorem toB_len (a : List (List UInt8)) : (toB a).length = a.length := by simp [toB]
theorem tsL_len (ts : List RTm) : ∀ k, (tsL ts k).length = 4 * k
  | 0 => rfl
  | k + 1 => by
    show (tsL ts k ++ tmL k (ts.getD k zTm)).length = _
    rw [List.length_append, tsL_len ts k]
    show 4 * k + 4 = _
    omega
def jnS (k : Nat) : ByteArray := ⟨(jointL k).toArray⟩
theorem words_step (ts : List RTm) (nm : ByteArray) (k : Nat) (f o u : Nat) (ht : ts.getD k zTm = ⟨(f : Int), (o : Int), (u : Int)⟩) : toB (ruleL :: bl nm :: tsL ts k) ++ [jnS k, ⟨(fwL f).toArray⟩, ⟨(owL o).toArray⟩, decS u] = toB (ruleL :: bl nm :: tsL ts (k + 1)) := by
  show _ = toB (ruleL :: bl nm :: (tsL ts k ++ tmL k (ts.getD k zTm)))
  rw [← List.cons_append, ← List.cons_append, toB_append, ht]
  rfl
/-- What holds at every world of a round: below W0 all is as it was, and the term lies in its block. -/
def WS (W0 : World) (tb : Nat) (t : RTm) (W : World) : Prop := Below W0.heap.size W0 W ∧ TmAt W tb 0 t
theorem WS.later {W0 : World} {tb : Nat} {t : RTm} {W W' : World} (h : WS W0 tb t W) (hb : Below W.heap.size W W') : WS W0 tb t W' := ⟨h.1.trans (hb.mono h.1.size), h.2.below hb (World.block_lt_of_cell? _ _ h.2.1)⟩
theorem OneS.lit (w w1 : World) (h : Below w.heap.size w w1) (a b : ByteArray) : OneS w w.heap.size (.slice (some ⟨w1.heap.size, 0, none⟩) 2 2) [a, b] (w1.alloc (Obj.cells #[.string a, .string b] 9)) :=
  ⟨World.ownsRow_lit w1 #[.string a, .string b] 2 h.size (by unfold maxLen; omega) rfl, by have := h.size; simp; omega, h.alloc h.size _⟩
set_option maxHeartbeats 16000000 in
set_option maxRecDepth 8000 in
theorem implWords_any (c : CCl) (h : Option Addr) (cp : Nat) (ok : clOne c = true) (w : World) (hT : Tab w) (hr : ReadsTm w.heap.size w h c.ts) :
    Calls Tryd.prog 16 #[.agg #[.string c.nm, .slice h c.ts.length cp, .int .i64 c.ac, .int .i64 c.nu]] w fun e w' => ∃ g cp', e = .returned (.slice g (toB (rlW c)).length cp') ∧ OneS w w.heap.size (.slice g (toB (rlW c)).length cp') (toB (rlW c)) w' := by
  have HR : Hid (ReadsTm w.heap.size w h c.ts) := hr
  obtain ⟨hn8, hok, hnm, hac, hnu0, hnu⟩ := clOne_all ok
  have HOK : Hid (c.ts.all tmB = true) := hok
  have HT0 : Hid (Tab w) := hT
  have HC : Hid (∀ W, Below (w.alloc (Obj.cells #[.string c.nm, .slice h c.ts.length cp, .int .i64 c.ac, .int .i64 c.nu] 38)).heap.size (w.alloc (Obj.cells #[.string c.nm, .slice h c.ts.length cp, .int .i64 c.ac, .int .i64 c.nu] 38)) W → Below w.heap.size w W ∧ W.cell? ⟨w.heap.size, 1, none⟩ = some (.slice h c.ts.length cp) ∧ W.cell? ⟨w.heap.size, 2, none⟩ = some (.int .i64 c.ac) ∧ W.cell? ⟨w.heap.size, 3, none⟩ = some (.int .i64 c.nu)) := fun W hW =>
    ⟨chain (below_alloc _ _) hW, (hW.cell (p := ⟨w.heap.size, 1, none⟩) (by simp)).trans (cellNew _ _ _ _ rfl rfl), (hW.cell (p := ⟨w.heap.size, 2, none⟩) (by simp)).trans (cellNew _ _ _ _ rfl rfl), (hW.cell (p := ⟨w.heap.size, 3, none⟩) (by simp)).trans (cellNew _ _ _ _ rfl rfl)⟩
  have HLit : Hid (OneS (w.alloc (Obj.cells #[.string c.nm, .slice h c.ts.length cp, .int .i64 c.ac, .int .i64 c.nu] 38)) (w.alloc (Obj.cells #[.string c.nm, .slice h c.ts.length cp, .int .i64 c.ac, .int .i64 c.nu] 38)).heap.size (.slice (some ⟨w.heap.size + 1, 0, none⟩) 2 2) [⟨#[114, 117, 108, 101]⟩, c.nm] ((w.alloc (Obj.cells #[.string c.nm, .slice h c.ts.length cp, .int .i64 c.ac, .int .i64 c.nu] 38)).alloc (Obj.cells #[.string ⟨#[114, 117, 108, 101]⟩, .string c.nm] 9))) := by
    have q := OneS.lit (w.alloc (Obj.cells #[.string c.nm, .slice h c.ts.length cp, .int .i64 c.ac, .int .i64 c.nu] 38)) (w.alloc (Obj.cells #[.string c.nm, .slice h c.ts.length cp, .int .i64 c.ac, .int .i64 c.nu] 38)) (Below.refl _ _) ⟨#[114, 117, 108, 101]⟩ c.nm
    rw [show (⟨(w.alloc (Obj.cells #[.string c.nm, .slice h c.ts.length cp, .int .i64 c.ac, .int .i64 c.nu] 38)).heap.size, 0, none⟩ : Addr) = ⟨w.heap.size + 1, 0, none⟩ by simp] at q
    exact q
  have hsz0 : (w.alloc (Obj.cells #[.string c.nm, .slice h c.ts.length cp, .int .i64 c.ac, .int .i64 c.nu] 38)).heap.size = w.heap.size + 1 := by simp
  obtain ⟨i0, hi, hzz⟩ := Option.map_eq_some_iff.1 strInfo1
  simp only [Prod.mk.injEq] at hzz
  obtain ⟨hi0, hi1, hi2⟩ := hzz
  clear hr ok hT
  go_enter Tryd.func16, Tryd.ntmps16
  go_wp2
  generalize (w.alloc (Obj.cells #[.string c.nm, .slice h c.ts.length cp, .int .i64 c.ac, .int .i64 c.nu] 38)) = W0 at *
  go_loopw [3, 4, 6, 13] (fun v j _ i wr => ∃ k : Nat, k ≤ c.ts.length ∧ i = .int .i64 (k : Int) ∧ j = .string (jnS k) ∧ OneS W0 W0.heap.size v (toB (ruleL :: bl c.nm :: tsL c.ts k)) wr) (fun _ _ _ i _ => c.ts.length - (intOf i).toNat)
  case atStart => exact ⟨0, Nat.zero_le _, rfl, rfl, HLit.out⟩
  case round =>
    clear HLit
    obtain ⟨k, hk, rfl, rfl, hO⟩ := hrel
    obtain ⟨gv, cv, rfl⟩ := hO.form
    have HO : Hid (OneS W0 W0.heap.size (.slice gv (toB (ruleL :: bl c.nm :: tsL c.ts k)).length cv) (toB (ruleL :: bl c.nm :: tsL c.ts k)) wr) := hO
    have HB : Hid (Below W0.heap.size W0 wr) := hO.2.2
    have hLl : (toB (ruleL :: bl c.nm :: tsL c.ts k)).length ≤ 40 := by
      rw [toB_len, List.length_cons, List.length_cons, tsL_len]; omega
    have HLl : Hid _ := hLl
    obtain ⟨bw, y1, y2, y3⟩ := HC.out wr hO.2.2
    have HBw : Hid (Below w.heap.size w wr) := bw
    have HNe0 : Hid (∀ q, (Value.slice gv (toB (ruleL :: bl c.nm :: tsL c.ts k)).length cv).ownBlock = some q → q ≠ wr.heap.size) := fun q hq => by have := (hO.1.lt q hq).2; omega
    clear hO bw hLl
    by_cases hlt : k < c.ts.length
    · have hlt' : (k : Int) < (c.ts.length : Int) := by omega
      have hm : c.ts.getD k zTm ∈ c.ts := by
        rw [show c.ts.getD k zTm = c.ts[k] by simp [List.getD_eq_getElem?_getD, hlt]]; exact List.getElem_mem _
      obtain ⟨f, o, u, ht, hf, ho, hu⟩ := tmNat (List.all_eq_true.mp HOK.out _ hm)
      rcases HR.out with h0 | ⟨bt, ot, hht, hBt, it⟩
      · rw [h0] at hlt; simp at hlt
      subst hht
      obtain ⟨t0, t1, t2⟩ := (it.below HBw.out hBt) k hlt
      rw [ht] at t0 t1 t2
      dsimp only at t0 t1 t2
      have HST : Hid (toB (ruleL :: bl c.nm :: tsL c.ts k) ++ [jnS k, ⟨(fwL f).toArray⟩, ⟨(owL o).toArray⟩, decS u] = toB (ruleL :: bl c.nm :: tsL c.ts (k + 1))) := words_step c.ts c.nm k f o u ht
      have HFl : Hid (∀ W, Calls Tryd.prog 29 #[] W fun e w' => ∃ b, e = .returned (.slice (some ⟨b, 0, none⟩) 6 6) ∧ Below W.heap.size W w' ∧ w'.cell? ⟨b, f * 3, none⟩ = some (.string ⟨(fwL f).toArray⟩)) := fun W => fieldsT_any W f hf.1 hf.2
      have HOp : Hid (∀ W, Calls Tryd.prog 30 #[] W fun e w' => ∃ b, e = .returned (.slice (some ⟨b, 0, none⟩) 4 4) ∧ Below W.heap.size W w' ∧ w'.cell? ⟨b, o * 3, none⟩ = some (.string ⟨(owL o).toArray⟩)) := fun W => opsT_any W o ho.1 ho.2
      have HIt : Hid (∀ W, Tab W → Calls Tryd.prog 31 #[.int .i64 (u : Int)] W fun e w' => e = .returned (.string (decS u)) ∧ Below W.heap.size W w') := fun W q => itoa_any u (by omega) W q
      have HTb : Hid (Tab wr) := HT0.out.below HBw.out
      have hf6 : (f : Int) < 6 := by omega
      have ho4 : (o : Int) < 4 := by omega
      clear hm it ht hf ho hu y2 y3
      generalize (⟨(fwL f).toArray⟩ : ByteArray) = F at *
      generalize (⟨(owL o).toArray⟩ : ByteArray) = O at *
      generalize decS u = D at *
      generalize hJ : jnS k = J at *
      clear hJ
      generalize toB (ruleL :: bl c.nm :: tsL c.ts k) = L at *
      go_wp2_with fail
      have HTm : Hid (TmAt (wr.alloc (Obj.cells #[.int .i64 (f : Int), .int .i64 (o : Int), .int .i64 (u : Int)] 59)) wr.heap.size 0 ⟨(f : Int), (o : Int), (u : Int)⟩) := tmNew _ _ _ _
      have HO : Hid (OneS W0 W0.heap.size (.slice gv L.length cv) L (wr.alloc (Obj.cells #[.int .i64 (f : Int), .int .i64 (o : Int), .int .i64 (u : Int)] 59)).drew) := HO.out.later (chain (below_alloc _ _) (below_drew _))
      have HTb : Hid (Tab (wr.alloc (Obj.cells #[.int .i64 (f : Int), .int .i64 (o : Int), .int .i64 (u : Int)] 59)).drew) := HTb.out.below (chain (below_alloc _ _) (below_drew _))
      have hbt : w.heap.size < wr.heap.size := World.block_lt_of_cell? _ _ y1
      have HNe : Hid (∀ q, (Value.slice gv L.length cv).ownBlock = some q → q ≠ wr.heap.size) := HNe0.out
      refine wp_region_held_drew (S := WS W0 wr.heap.size ⟨(f : Int), (o : Int), (u : Int)⟩) (by kernel_rfl) ⟨HO.out.2.2, HTm.out.below (below_drew _) (by simp)⟩ (fun hH => ?_)
      refine wpAnyH_take (i := 0) (v := .slice gv L.length cv) rfl (by kernel_rfl) (by kernel_rfl) (by kernel_rfl) (fun _ _ _ h => h) (Or.inl ⟨by rfl, fun w hSw => by go_simp⟩) hH ?_
      refine wpAnyH_take (i := 1) (v := .string J) rfl (by kernel_rfl) (by kernel_rfl) (by kernel_rfl) (fun _ _ _ h => h) (Or.inl ⟨by rfl, fun w hSw => by go_simp⟩) hH ?_
      try simp only [Act.put, List.setIfInBounds_toArray, List.set_cons_zero, List.set_cons_succ, List.getElem_toArray, List.getElem_cons_succ, List.getElem_cons_zero]
      refine wpAnyH_take (i := 3) (v := .pointer (some ⟨wr.heap.size, 0, none⟩)) rfl (by kernel_rfl) (by kernel_rfl) (by kernel_rfl) (fun _ _ _ h => h) (Or.inl ⟨by rfl, fun w hSw => by go_simp⟩) hH ?_
      try simp only [Act.put, List.setIfInBounds_toArray, List.set_cons_zero, List.set_cons_succ, List.getElem_toArray, List.getElem_cons_succ, List.getElem_cons_zero]
      refine wpAnyH_take (i := 4) (v := .int .i64 (f : Int)) rfl (by kernel_rfl) (by kernel_rfl) (by kernel_rfl) (fun _ _ _ h => h) (Or.inl ⟨by rfl, fun w hSw => by obtain ⟨s0, s1, s2⟩ := hSw.2; simp only [Nat.zero_add] at s0 s1 s2; go_simp⟩) hH ?_
      try simp only [Act.put, List.setIfInBounds_toArray, List.set_cons_zero, List.set_cons_succ, List.getElem_toArray, List.getElem_cons_succ, List.getElem_cons_zero]
      refine wpAnyH_take (i := 9) (v := .pointer (some ⟨wr.heap.size, 1, none⟩)) rfl (by kernel_rfl) (by kernel_rfl) (by kernel_rfl) (fun _ _ _ h => h) (Or.inl ⟨by rfl, fun w hSw => by go_simp⟩) hH ?_
      try simp only [Act.put, List.setIfInBounds_toArray, List.set_cons_zero, List.set_cons_succ, List.getElem_toArray, List.getElem_cons_succ, List.getElem_cons_zero]
      refine wpAnyH_take (i := 10) (v := .int .i64 (o : Int)) rfl (by kernel_rfl) (by kernel_rfl) (by kernel_rfl) (fun _ _ _ h => h) (Or.inl ⟨by rfl, fun w hSw => by obtain ⟨s0, s1, s2⟩ := hSw.2; simp only [Nat.zero_add] at s0 s1 s2; go_simp⟩) hH ?_
      try simp only [Act.put, List.setIfInBounds_toArray, List.set_cons_zero, List.set_cons_succ, List.getElem_toArray, List.getElem_cons_succ, List.getElem_cons_zero]
      refine wpAnyH_take (i := 14) (v := .pointer (some ⟨wr.heap.size, 2, none⟩)) rfl (by kernel_rfl) (by kernel_rfl) (by kernel_rfl) (fun _ _ _ h => h) (Or.inl ⟨by rfl, fun w hSw => by go_simp⟩) hH ?_
      try simp only [Act.put, List.setIfInBounds_toArray, List.set_cons_zero, List.set_cons_succ, List.getElem_toArray, List.getElem_cons_succ, List.getElem_cons_zero]
      refine wpAnyH_take (i := 15) (v := .int .i64 (u : Int)) rfl (by kernel_rfl) (by kernel_rfl) (by kernel_rfl) (fun _ _ _ h => h) (Or.inl ⟨by rfl, fun w hSw => by obtain ⟨s0, s1, s2⟩ := hSw.2; simp only [Nat.zero_add] at s0 s1 s2; go_simp⟩) hH ?_
      try simp only [Act.put, List.setIfInBounds_toArray, List.set_cons_zero, List.set_cons_succ, List.getElem_toArray, List.getElem_cons_succ, List.getElem_cons_zero]
      refine wpAnyH_ready (rs := [2]) (by kernel_rfl) (by simp) ?_
      refine AllReadyH.cons rfl (fun K hK => ?_) AllReadyH.nil
      go_simp
      go_at_call 29
      refine (HFl.out _).mono ?_
      rintro e w2 ⟨bF, rfl, hb2, cF⟩
      have hS2 := WS.later hH hb2
      have HO : Hid (OneS W0 W0.heap.size (.slice gv L.length cv) L w2) := HO.out.later hb2
      have HTb : Hid (Tab w2) := HTb.out.below hb2
      refine hK.out _ _ hS2 (fun _ => ?_)
      clear hK K
      try simp only [Act.put, List.setIfInBounds_toArray, List.set_cons_zero, List.set_cons_succ, List.getElem_toArray, List.getElem_cons_succ, List.getElem_cons_zero]
      refine wpAnyH_take (i := 5) (v := .pointer (some ⟨bF, f * 3, none⟩)) rfl (by kernel_rfl) (by kernel_rfl) (by kernel_rfl) (fun _ _ _ h => h) (Or.inl ⟨by rfl, fun w hSw => by go_simp⟩) hS2 ?_
      try simp only [Act.put, List.setIfInBounds_toArray, List.set_cons_zero, List.set_cons_succ, List.getElem_toArray, List.getElem_cons_succ, List.getElem_cons_zero]
      refine wpAnyH_take (i := 6) (v := .pointer (some ⟨bF, f * 3, none⟩)) rfl (by kernel_rfl) (by kernel_rfl) (by kernel_rfl) (fun _ _ _ h => h) (Or.inl ⟨by rfl, fun w hSw => by go_simp⟩) hS2 ?_
      try simp only [Act.put, List.setIfInBounds_toArray, List.set_cons_zero, List.set_cons_succ, List.getElem_toArray, List.getElem_cons_succ, List.getElem_cons_zero]
      refine wpAnyH_ready (rs := [7, 8]) (by kernel_rfl) (by simp) ?_
      refine AllReadyH.cons rfl (fun K hK => ?_) (AllReadyH.cons rfl (fun K hK => ?_) AllReadyH.nil)
      · skip
        go_simp
        refine hK.out _ _ hS2 (fun _ => ?_)
        clear hK K
        try simp only [Act.put, List.setIfInBounds_toArray, List.set_cons_zero, List.set_cons_succ, List.getElem_toArray, List.getElem_cons_succ, List.getElem_cons_zero]
        refine wpAnyH_ready (rs := [8]) (by kernel_rfl) (by simp) ?_
        refine AllReadyH.cons rfl (fun K hK => ?_) AllReadyH.nil
        go_simp
        go_at_call 30
        refine (HOp.out _).mono ?_
        rintro e w3 ⟨bP, rfl, hb3, hc3⟩
        have hS3 := WS.later hS2 hb3
        have cF := (hb3.cell (p := ⟨bF, f * 3, none⟩) (World.block_lt_of_cell? _ _ cF)).trans cF
        have cP := hc3
        have HO : Hid (OneS W0 W0.heap.size (.slice gv L.length cv) L w3) := HO.out.later hb3
        have HTb : Hid (Tab w3) := HTb.out.below hb3
        refine hK.out _ _ hS3 (fun _ => ?_)
        clear hK K
        try simp only [Act.put, List.setIfInBounds_toArray, List.set_cons_zero, List.set_cons_succ, List.getElem_toArray, List.getElem_cons_succ, List.getElem_cons_zero]
        refine wpAnyH_take (i := 11) (v := .pointer (some ⟨bP, o * 3, none⟩)) rfl (by kernel_rfl) (by kernel_rfl) (by kernel_rfl) (fun _ _ _ h => h) (Or.inl ⟨by rfl, fun w hSw => by go_simp⟩) hS3 ?_
        try simp only [Act.put, List.setIfInBounds_toArray, List.set_cons_zero, List.set_cons_succ, List.getElem_toArray, List.getElem_cons_succ, List.getElem_cons_zero]
        refine wpAnyH_take (i := 12) (v := .pointer (some ⟨bP, o * 3, none⟩)) rfl (by kernel_rfl) (by kernel_rfl) (by kernel_rfl) (fun _ _ _ h => h) (Or.inl ⟨by rfl, fun w hSw => by go_simp⟩) hS3 ?_
        try simp only [Act.put, List.setIfInBounds_toArray, List.set_cons_zero, List.set_cons_succ, List.getElem_toArray, List.getElem_cons_succ, List.getElem_cons_zero]
        refine wpAnyH_ready (rs := [13, 16]) (by kernel_rfl) (by simp) ?_
        refine AllReadyH.cons rfl (fun K hK => ?_) (AllReadyH.cons rfl (fun K hK => ?_) AllReadyH.nil)
        · skip
          go_simp
          refine hK.out _ _ hS3 (fun _ => ?_)
          clear hK K
          try simp only [Act.put, List.setIfInBounds_toArray, List.set_cons_zero, List.set_cons_succ, List.getElem_toArray, List.getElem_cons_succ, List.getElem_cons_zero]
          refine wpAnyH_ready (rs := [16]) (by kernel_rfl) (by simp) ?_
          refine AllReadyH.cons rfl (fun K hK => ?_) AllReadyH.nil
          go_simp
          go_at_call 31
          refine (HIt.out _ HTb.out).mono ?_
          rintro e w4 ⟨rfl, hb4⟩
          have hS4 := WS.later hS3 hb4
          have cF := (hb4.cell (p := ⟨bF, f * 3, none⟩) (World.block_lt_of_cell? _ _ cF)).trans cF
          have cP := (hb4.cell (p := ⟨bP, o * 3, none⟩) (World.block_lt_of_cell? _ _ cP)).trans cP
          have HO : Hid (OneS W0 W0.heap.size (.slice gv L.length cv) L w4) := HO.out.later hb4
          have HTb : Hid (Tab w4) := HTb.out.below hb4
          refine hK.out _ _ hS4 (fun _ => ?_)
          clear hK K
          try simp only [Act.put, List.setIfInBounds_toArray, List.set_cons_zero, List.set_cons_succ, List.getElem_toArray, List.getElem_cons_succ, List.getElem_cons_zero]
          refine wpAnyH_ready (rs := [17]) (by kernel_rfl) (by simp) ?_
          refine AllReadyH.cons rfl (fun K hK => ?_) AllReadyH.nil
          go_simp
          have hS17 := WS.later hS4 (below_alloc _ (Obj.cells #[.string J, .string F, .string O, .string D] 9))
          refine hK.out _ _ hS17 (fun _ => ?_)
          clear hK K
          try simp only [Act.put, List.setIfInBounds_toArray, List.set_cons_zero, List.set_cons_succ, List.getElem_toArray, List.getElem_cons_succ, List.getElem_cons_zero]
          refine wpAnyH_ready (rs := [18]) (by kernel_rfl) (by simp) ?_
          refine AllReadyH.cons rfl (fun K hK => ?_) AllReadyH.nil
          refine step_append_lies _ rfl _ _ 50 rfl W0.heap.size 9 i0 (.string ⟨#[]⟩) 1 16 Tryd.underlying50 hi hi0 hi1 hi2 rfl (by decide) _ _ _ rfl (HO.out.later (below_alloc _ _)).1 ⟨w4.heap.size, 0, none⟩ 4 4 [.string J, .string F, .string O, .string D] rfl rfl (World.news_of_block (heapNew w4 _)) (by simp [Value.oneCell']) (by omega) (by unfold maxLen; have := HLl.out; omega) (by have := HLl.out; omega) (HO.out.later (below_alloc _ _)).2.1 _ rfl ?_
          intro g1 cp1 w9 hown1 hgrow1 hat1 hglt1
          have HO9 : Hid (OneS W0 W0.heap.size (.slice (some ⟨g1, 0, none⟩) (L.length + 4) cp1) (L ++ [J, F, O, D]) w9) := OneS.pushAll (xs := [J, F, O, D]) (HO.out.later (below_alloc _ _)) hown1 hgrow1
          have hS9 : WS W0 wr.heap.size ⟨(f : Int), (o : Int), (u : Int)⟩ w9 := ⟨HO9.out.2.2, by
            have e := hgrow1.block wr.heap.size (World.block_lt_of_cell? _ _ hS17.2.1) (fun q => HNe.out _ q.symm rfl)
            exact ⟨(World.cell?_of_block (a := ⟨wr.heap.size, 0, none⟩) e).trans hS17.2.1, (World.cell?_of_block (a := ⟨wr.heap.size, 0 + 1, none⟩) e).trans hS17.2.2.1, (World.cell?_of_block (a := ⟨wr.heap.size, 0 + 2, none⟩) e).trans hS17.2.2.2⟩⟩
          clear hown1 hgrow1 hat1 hglt1
          refine hK.out _ _ hS9 (fun _ => ?_)
          clear hK K
          try simp only [Act.put, List.setIfInBounds_toArray, List.set_cons_zero, List.set_cons_succ, List.getElem_toArray, List.getElem_cons_succ, List.getElem_cons_zero]
          refine wpAnyH_take (i := 19) (v := .slice (some ⟨g1, 0, none⟩) (L.length + 4) cp1) rfl (by kernel_rfl) (by kernel_rfl) (by kernel_rfl) (fun _ _ _ h => h) (Or.inl ⟨by rfl, fun w hSw => by go_simp⟩) hS9 ?_
          try simp only [Act.put, List.setIfInBounds_toArray, List.set_cons_zero, List.set_cons_succ, List.getElem_toArray, List.getElem_cons_succ, List.getElem_cons_zero]
          refine wpAnyH_done (by kernel_rfl) ?_ _
          try simp
          go_wp2
          exact ⟨⟨k + 1, by omega, by go_num, rfl, by rw [← HST.out]; exact HO9.out⟩, by simp [intOf]; omega⟩
        · skip
          go_simp
          go_at_call 31
          refine (HIt.out _ HTb.out).mono ?_
          rintro e w4 ⟨rfl, hb4⟩
          have hS4 := WS.later hS3 hb4
          have cF := (hb4.cell (p := ⟨bF, f * 3, none⟩) (World.block_lt_of_cell? _ _ cF)).trans cF
          have cP := (hb4.cell (p := ⟨bP, o * 3, none⟩) (World.block_lt_of_cell? _ _ cP)).trans cP
          have HO : Hid (OneS W0 W0.heap.size (.slice gv L.length cv) L w4) := HO.out.later hb4
          have HTb : Hid (Tab w4) := HTb.out.below hb4
          refine hK.out _ _ hS4 (fun _ => ?_)
          clear hK K
          try simp only [Act.put, List.setIfInBounds_toArray, List.set_cons_zero, List.set_cons_succ, List.getElem_toArray, List.getElem_cons_succ, List.getElem_cons_zero]
          refine wpAnyH_ready (rs := [13]) (by kernel_rfl) (by simp) ?_
          refine AllReadyH.cons rfl (fun K hK => ?_) AllReadyH.nil
          go_simp
          refine hK.out _ _ hS4 (fun _ => ?_)
          clear hK K
          try simp only [Act.put, List.setIfInBounds_toArray, List.set_cons_zero, List.set_cons_succ, List.getElem_toArray, List.getElem_cons_succ, List.getElem_cons_zero]
          refine wpAnyH_ready (rs := [17]) (by kernel_rfl) (by simp) ?_
          refine AllReadyH.cons rfl (fun K hK => ?_) AllReadyH.nil
          go_simp
          have hS17 := WS.later hS4 (below_alloc _ (Obj.cells #[.string J, .string F, .string O, .string D] 9))
          refine hK.out _ _ hS17 (fun _ => ?_)
          clear hK K
          try simp only [Act.put, List.setIfInBounds_toArray, List.set_cons_zero, List.set_cons_succ, List.getElem_toArray, List.getElem_cons_succ, List.getElem_cons_zero]
          refine wpAnyH_ready (rs := [18]) (by kernel_rfl) (by simp) ?_
          refine AllReadyH.cons rfl (fun K hK => ?_) AllReadyH.nil
          refine step_append_lies _ rfl _ _ 50 rfl W0.heap.size 9 i0 (.string ⟨#[]⟩) 1 16 Tryd.underlying50 hi hi0 hi1 hi2 rfl (by decide) _ _ _ rfl (HO.out.later (below_alloc _ _)).1 ⟨w4.heap.size, 0, none⟩ 4 4 [.string J, .string F, .string O, .string D] rfl rfl (World.news_of_block (heapNew w4 _)) (by simp [Value.oneCell']) (by omega) (by unfold maxLen; have := HLl.out; omega) (by have := HLl.out; omega) (HO.out.later (below_alloc _ _)).2.1 _ rfl ?_
          intro g1 cp1 w9 hown1 hgrow1 hat1 hglt1
          have HO9 : Hid (OneS W0 W0.heap.size (.slice (some ⟨g1, 0, none⟩) (L.length + 4) cp1) (L ++ [J, F, O, D]) w9) := OneS.pushAll (xs := [J, F, O, D]) (HO.out.later (below_alloc _ _)) hown1 hgrow1
          have hS9 : WS W0 wr.heap.size ⟨(f : Int), (o : Int), (u : Int)⟩ w9 := ⟨HO9.out.2.2, by
            have e := hgrow1.block wr.heap.size (World.block_lt_of_cell? _ _ hS17.2.1) (fun q => HNe.out _ q.symm rfl)
            exact ⟨(World.cell?_of_block (a := ⟨wr.heap.size, 0, none⟩) e).trans hS17.2.1, (World.cell?_of_block (a := ⟨wr.heap.size, 0 + 1, none⟩) e).trans hS17.2.2.1, (World.cell?_of_block (a := ⟨wr.heap.size, 0 + 2, none⟩) e).trans hS17.2.2.2⟩⟩
          clear hown1 hgrow1 hat1 hglt1
          refine hK.out _ _ hS9 (fun _ => ?_)
          clear hK K
          try simp only [Act.put, List.setIfInBounds_toArray, List.set_cons_zero, List.set_cons_succ, List.getElem_toArray, List.getElem_cons_succ, List.getElem_cons_zero]
          refine wpAnyH_take (i := 19) (v := .slice (some ⟨g1, 0, none⟩) (L.length + 4) cp1) rfl (by kernel_rfl) (by kernel_rfl) (by kernel_rfl) (fun _ _ _ h => h) (Or.inl ⟨by rfl, fun w hSw => by go_simp⟩) hS9 ?_
          try simp only [Act.put, List.setIfInBounds_toArray, List.set_cons_zero, List.set_cons_succ, List.getElem_toArray, List.getElem_cons_succ, List.getElem_cons_zero]
          refine wpAnyH_done (by kernel_rfl) ?_ _
          try simp
          go_wp2
          exact ⟨⟨k + 1, by omega, by go_num, rfl, by rw [← HST.out]; exact HO9.out⟩, by simp [intOf]; omega⟩
      · skip
        go_simp
        go_at_call 30
        refine (HOp.out _).mono ?_
        rintro e w3 ⟨bP, rfl, hb3, hc3⟩
        have hS3 := WS.later hS2 hb3
        have cF := (hb3.cell (p := ⟨bF, f * 3, none⟩) (World.block_lt_of_cell? _ _ cF)).trans cF
        have cP := hc3
        have HO : Hid (OneS W0 W0.heap.size (.slice gv L.length cv) L w3) := HO.out.later hb3
        have HTb : Hid (Tab w3) := HTb.out.below hb3
        refine hK.out _ _ hS3 (fun _ => ?_)
        clear hK K
        try simp only [Act.put, List.setIfInBounds_toArray, List.set_cons_zero, List.set_cons_succ, List.getElem_toArray, List.getElem_cons_succ, List.getElem_cons_zero]
        refine wpAnyH_take (i := 11) (v := .pointer (some ⟨bP, o * 3, none⟩)) rfl (by kernel_rfl) (by kernel_rfl) (by kernel_rfl) (fun _ _ _ h => h) (Or.inl ⟨by rfl, fun w hSw => by go_simp⟩) hS3 ?_
        try simp only [Act.put, List.setIfInBounds_toArray, List.set_cons_zero, List.set_cons_succ, List.getElem_toArray, List.getElem_cons_succ, List.getElem_cons_zero]
        refine wpAnyH_take (i := 12) (v := .pointer (some ⟨bP, o * 3, none⟩)) rfl (by kernel_rfl) (by kernel_rfl) (by kernel_rfl) (fun _ _ _ h => h) (Or.inl ⟨by rfl, fun w hSw => by go_simp⟩) hS3 ?_
        try simp only [Act.put, List.setIfInBounds_toArray, List.set_cons_zero, List.set_cons_succ, List.getElem_toArray, List.getElem_cons_succ, List.getElem_cons_zero]
        refine wpAnyH_ready (rs := [7, 13, 16]) (by kernel_rfl) (by simp) ?_
        refine AllReadyH.cons rfl (fun K hK => ?_) (AllReadyH.cons rfl (fun K hK => ?_) (AllReadyH.cons rfl (fun K hK => ?_) AllReadyH.nil))
        · skip
          go_simp
          refine hK.out _ _ hS3 (fun _ => ?_)
          clear hK K
          try simp only [Act.put, List.setIfInBounds_toArray, List.set_cons_zero, List.set_cons_succ, List.getElem_toArray, List.getElem_cons_succ, List.getElem_cons_zero]
          refine wpAnyH_ready (rs := [13, 16]) (by kernel_rfl) (by simp) ?_
          refine AllReadyH.cons rfl (fun K hK => ?_) (AllReadyH.cons rfl (fun K hK => ?_) AllReadyH.nil)
          · skip
            go_simp
            refine hK.out _ _ hS3 (fun _ => ?_)
            clear hK K
            try simp only [Act.put, List.setIfInBounds_toArray, List.set_cons_zero, List.set_cons_succ, List.getElem_toArray, List.getElem_cons_succ, List.getElem_cons_zero]
            refine wpAnyH_ready (rs := [16]) (by kernel_rfl) (by simp) ?_
            refine AllReadyH.cons rfl (fun K hK => ?_) AllReadyH.nil
            go_simp
            go_at_call 31
            refine (HIt.out _ HTb.out).mono ?_
            rintro e w4 ⟨rfl, hb4⟩
            have hS4 := WS.later hS3 hb4
            have cF := (hb4.cell (p := ⟨bF, f * 3, none⟩) (World.block_lt_of_cell? _ _ cF)).trans cF
            have cP := (hb4.cell (p := ⟨bP, o * 3, none⟩) (World.block_lt_of_cell? _ _ cP)).trans cP
            have HO : Hid (OneS W0 W0.heap.size (.slice gv L.length cv) L w4) := HO.out.later hb4
            have HTb : Hid (Tab w4) := HTb.out.below hb4
            refine hK.out _ _ hS4 (fun _ => ?_)
            clear hK K
            try simp only [Act.put, List.setIfInBounds_toArray, List.set_cons_zero, List.set_cons_succ, List.getElem_toArray, List.getElem_cons_succ, List.getElem_cons_zero]
            refine wpAnyH_ready (rs := [17]) (by kernel_rfl) (by simp) ?_
            refine AllReadyH.cons rfl (fun K hK => ?_) AllReadyH.nil
            go_simp
            have hS17 := WS.later hS4 (below_alloc _ (Obj.cells #[.string J, .string F, .string O, .string D] 9))
            refine hK.out _ _ hS17 (fun _ => ?_)
            clear hK K
            try simp only [Act.put, List.setIfInBounds_toArray, List.set_cons_zero, List.set_cons_succ, List.getElem_toArray, List.getElem_cons_succ, List.getElem_cons_zero]
            refine wpAnyH_ready (rs := [18]) (by kernel_rfl) (by simp) ?_
            refine AllReadyH.cons rfl (fun K hK => ?_) AllReadyH.nil
            refine step_append_lies _ rfl _ _ 50 rfl W0.heap.size 9 i0 (.string ⟨#[]⟩) 1 16 Tryd.underlying50 hi hi0 hi1 hi2 rfl (by decide) _ _ _ rfl (HO.out.later (below_alloc _ _)).1 ⟨w4.heap.size, 0, none⟩ 4 4 [.string J, .string F, .string O, .string D] rfl rfl (World.news_of_block (heapNew w4 _)) (by simp [Value.oneCell']) (by omega) (by unfold maxLen; have := HLl.out; omega) (by have := HLl.out; omega) (HO.out.later (below_alloc _ _)).2.1 _ rfl ?_
            intro g1 cp1 w9 hown1 hgrow1 hat1 hglt1
            have HO9 : Hid (OneS W0 W0.heap.size (.slice (some ⟨g1, 0, none⟩) (L.length + 4) cp1) (L ++ [J, F, O, D]) w9) := OneS.pushAll (xs := [J, F, O, D]) (HO.out.later (below_alloc _ _)) hown1 hgrow1
            have hS9 : WS W0 wr.heap.size ⟨(f : Int), (o : Int), (u : Int)⟩ w9 := ⟨HO9.out.2.2, by
              have e := hgrow1.block wr.heap.size (World.block_lt_of_cell? _ _ hS17.2.1) (fun q => HNe.out _ q.symm rfl)
              exact ⟨(World.cell?_of_block (a := ⟨wr.heap.size, 0, none⟩) e).trans hS17.2.1, (World.cell?_of_block (a := ⟨wr.heap.size, 0 + 1, none⟩) e).trans hS17.2.2.1, (World.cell?_of_block (a := ⟨wr.heap.size, 0 + 2, none⟩) e).trans hS17.2.2.2⟩⟩
            clear hown1 hgrow1 hat1 hglt1
            refine hK.out _ _ hS9 (fun _ => ?_)
            clear hK K
            try simp only [Act.put, List.setIfInBounds_toArray, List.set_cons_zero, List.set_cons_succ, List.getElem_toArray, List.getElem_cons_succ, List.getElem_cons_zero]
            refine wpAnyH_take (i := 19) (v := .slice (some ⟨g1, 0, none⟩) (L.length + 4) cp1) rfl (by kernel_rfl) (by kernel_rfl) (by kernel_rfl) (fun _ _ _ h => h) (Or.inl ⟨by rfl, fun w hSw => by go_simp⟩) hS9 ?_
            try simp only [Act.put, List.setIfInBounds_toArray, List.set_cons_zero, List.set_cons_succ, List.getElem_toArray, List.getElem_cons_succ, List.getElem_cons_zero]
            refine wpAnyH_done (by kernel_rfl) ?_ _
            try simp
            go_wp2
            exact ⟨⟨k + 1, by omega, by go_num, rfl, by rw [← HST.out]; exact HO9.out⟩, by simp [intOf]; omega⟩
          · skip
            go_simp
            go_at_call 31
            refine (HIt.out _ HTb.out).mono ?_
            rintro e w4 ⟨rfl, hb4⟩
            have hS4 := WS.later hS3 hb4
            have cF := (hb4.cell (p := ⟨bF, f * 3, none⟩) (World.block_lt_of_cell? _ _ cF)).trans cF
            have cP := (hb4.cell (p := ⟨bP, o * 3, none⟩) (World.block_lt_of_cell? _ _ cP)).trans cP
            have HO : Hid (OneS W0 W0.heap.size (.slice gv L.length cv) L w4) := HO.out.later hb4
            have HTb : Hid (Tab w4) := HTb.out.below hb4
            refine hK.out _ _ hS4 (fun _ => ?_)
            clear hK K
            try simp only [Act.put, List.setIfInBounds_toArray, List.set_cons_zero, List.set_cons_succ, List.getElem_toArray, List.getElem_cons_succ, List.getElem_cons_zero]
            refine wpAnyH_ready (rs := [13]) (by kernel_rfl) (by simp) ?_
            refine AllReadyH.cons rfl (fun K hK => ?_) AllReadyH.nil
            go_simp
            refine hK.out _ _ hS4 (fun _ => ?_)
            clear hK K
            try simp only [Act.put, List.setIfInBounds_toArray, List.set_cons_zero, List.set_cons_succ, List.getElem_toArray, List.getElem_cons_succ, List.getElem_cons_zero]
            refine wpAnyH_ready (rs := [17]) (by kernel_rfl) (by simp) ?_
            refine AllReadyH.cons rfl (fun K hK => ?_) AllReadyH.nil
            go_simp
            have hS17 := WS.later hS4 (below_alloc _ (Obj.cells #[.string J, .string F, .string O, .string D] 9))
            refine hK.out _ _ hS17 (fun _ => ?_)
            clear hK K
            try simp only [Act.put, List.setIfInBounds_toArray, List.set_cons_zero, List.set_cons_succ, List.getElem_toArray, List.getElem_cons_succ, List.getElem_cons_zero]
            refine wpAnyH_ready (rs := [18]) (by kernel_rfl) (by simp) ?_
            refine AllReadyH.cons rfl (fun K hK => ?_) AllReadyH.nil
            refine step_append_lies _ rfl _ _ 50 rfl W0.heap.size 9 i0 (.string ⟨#[]⟩) 1 16 Tryd.underlying50 hi hi0 hi1 hi2 rfl (by decide) _ _ _ rfl (HO.out.later (below_alloc _ _)).1 ⟨w4.heap.size, 0, none⟩ 4 4 [.string J, .string F, .string O, .string D] rfl rfl (World.news_of_block (heapNew w4 _)) (by simp [Value.oneCell']) (by omega) (by unfold maxLen; have := HLl.out; omega) (by have := HLl.out; omega) (HO.out.later (below_alloc _ _)).2.1 _ rfl ?_
            intro g1 cp1 w9 hown1 hgrow1 hat1 hglt1
            have HO9 : Hid (OneS W0 W0.heap.size (.slice (some ⟨g1, 0, none⟩) (L.length + 4) cp1) (L ++ [J, F, O, D]) w9) := OneS.pushAll (xs := [J, F, O, D]) (HO.out.later (below_alloc _ _)) hown1 hgrow1
            have hS9 : WS W0 wr.heap.size ⟨(f : Int), (o : Int), (u : Int)⟩ w9 := ⟨HO9.out.2.2, by
              have e := hgrow1.block wr.heap.size (World.block_lt_of_cell? _ _ hS17.2.1) (fun q => HNe.out _ q.symm rfl)
              exact ⟨(World.cell?_of_block (a := ⟨wr.heap.size, 0, none⟩) e).trans hS17.2.1, (World.cell?_of_block (a := ⟨wr.heap.size, 0 + 1, none⟩) e).trans hS17.2.2.1, (World.cell?_of_block (a := ⟨wr.heap.size, 0 + 2, none⟩) e).trans hS17.2.2.2⟩⟩
            clear hown1 hgrow1 hat1 hglt1
            refine hK.out _ _ hS9 (fun _ => ?_)
            clear hK K
            try simp only [Act.put, List.setIfInBounds_toArray, List.set_cons_zero, List.set_cons_succ, List.getElem_toArray, List.getElem_cons_succ, List.getElem_cons_zero]
            refine wpAnyH_take (i := 19) (v := .slice (some ⟨g1, 0, none⟩) (L.length + 4) cp1) rfl (by kernel_rfl) (by kernel_rfl) (by kernel_rfl) (fun _ _ _ h => h) (Or.inl ⟨by rfl, fun w hSw => by go_simp⟩) hS9 ?_
            try simp only [Act.put, List.setIfInBounds_toArray, List.set_cons_zero, List.set_cons_succ, List.getElem_toArray, List.getElem_cons_succ, List.getElem_cons_zero]
            refine wpAnyH_done (by kernel_rfl) ?_ _
            try simp
            go_wp2
            exact ⟨⟨k + 1, by omega, by go_num, rfl, by rw [← HST.out]; exact HO9.out⟩, by simp [intOf]; omega⟩
        · skip
          go_simp
          refine hK.out _ _ hS3 (fun _ => ?_)
          clear hK K
          try simp only [Act.put, List.setIfInBounds_toArray, List.set_cons_zero, List.set_cons_succ, List.getElem_toArray, List.getElem_cons_succ, List.getElem_cons_zero]
          refine wpAnyH_ready (rs := [7, 16]) (by kernel_rfl) (by simp) ?_
          refine AllReadyH.cons rfl (fun K hK => ?_) (AllReadyH.cons rfl (fun K hK => ?_) AllReadyH.nil)
          · skip
            go_simp
            refine hK.out _ _ hS3 (fun _ => ?_)
            clear hK K
            try simp only [Act.put, List.setIfInBounds_toArray, List.set_cons_zero, List.set_cons_succ, List.getElem_toArray, List.getElem_cons_succ, List.getElem_cons_zero]
            refine wpAnyH_ready (rs := [16]) (by kernel_rfl) (by simp) ?_
            refine AllReadyH.cons rfl (fun K hK => ?_) AllReadyH.nil
            go_simp
            go_at_call 31
            refine (HIt.out _ HTb.out).mono ?_
            rintro e w4 ⟨rfl, hb4⟩
            have hS4 := WS.later hS3 hb4
            have cF := (hb4.cell (p := ⟨bF, f * 3, none⟩) (World.block_lt_of_cell? _ _ cF)).trans cF
            have cP := (hb4.cell (p := ⟨bP, o * 3, none⟩) (World.block_lt_of_cell? _ _ cP)).trans cP
            have HO : Hid (OneS W0 W0.heap.size (.slice gv L.length cv) L w4) := HO.out.later hb4
            have HTb : Hid (Tab w4) := HTb.out.below hb4
            refine hK.out _ _ hS4 (fun _ => ?_)
            clear hK K
            try simp only [Act.put, List.setIfInBounds_toArray, List.set_cons_zero, List.set_cons_succ, List.getElem_toArray, List.getElem_cons_succ, List.getElem_cons_zero]
            refine wpAnyH_ready (rs := [17]) (by kernel_rfl) (by simp) ?_
            refine AllReadyH.cons rfl (fun K hK => ?_) AllReadyH.nil
            go_simp
            have hS17 := WS.later hS4 (below_alloc _ (Obj.cells #[.string J, .string F, .string O, .string D] 9))
            refine hK.out _ _ hS17 (fun _ => ?_)
            clear hK K
            try simp only [Act.put, List.setIfInBounds_toArray, List.set_cons_zero, List.set_cons_succ, List.getElem_toArray, List.getElem_cons_succ, List.getElem_cons_zero]
            refine wpAnyH_ready (rs := [18]) (by kernel_rfl) (by simp) ?_
            refine AllReadyH.cons rfl (fun K hK => ?_) AllReadyH.nil
            refine step_append_lies _ rfl _ _ 50 rfl W0.heap.size 9 i0 (.string ⟨#[]⟩) 1 16 Tryd.underlying50 hi hi0 hi1 hi2 rfl (by decide) _ _ _ rfl (HO.out.later (below_alloc _ _)).1 ⟨w4.heap.size, 0, none⟩ 4 4 [.string J, .string F, .string O, .string D] rfl rfl (World.news_of_block (heapNew w4 _)) (by simp [Value.oneCell']) (by omega) (by unfold maxLen; have := HLl.out; omega) (by have := HLl.out; omega) (HO.out.later (below_alloc _ _)).2.1 _ rfl ?_
            intro g1 cp1 w9 hown1 hgrow1 hat1 hglt1
            have HO9 : Hid (OneS W0 W0.heap.size (.slice (some ⟨g1, 0, none⟩) (L.length + 4) cp1) (L ++ [J, F, O, D]) w9) := OneS.pushAll (xs := [J, F, O, D]) (HO.out.later (below_alloc _ _)) hown1 hgrow1
            have hS9 : WS W0 wr.heap.size ⟨(f : Int), (o : Int), (u : Int)⟩ w9 := ⟨HO9.out.2.2, by
              have e := hgrow1.block wr.heap.size (World.block_lt_of_cell? _ _ hS17.2.1) (fun q => HNe.out _ q.symm rfl)
              exact ⟨(World.cell?_of_block (a := ⟨wr.heap.size, 0, none⟩) e).trans hS17.2.1, (World.cell?_of_block (a := ⟨wr.heap.size, 0 + 1, none⟩) e).trans hS17.2.2.1, (World.cell?_of_block (a := ⟨wr.heap.size, 0 + 2, none⟩) e).trans hS17.2.2.2⟩⟩
            clear hown1 hgrow1 hat1 hglt1
            refine hK.out _ _ hS9 (fun _ => ?_)
            clear hK K
            try simp only [Act.put, List.setIfInBounds_toArray, List.set_cons_zero, List.set_cons_succ, List.getElem_toArray, List.getElem_cons_succ, List.getElem_cons_zero]
            refine wpAnyH_take (i := 19) (v := .slice (some ⟨g1, 0, none⟩) (L.length + 4) cp1) rfl (by kernel_rfl) (by kernel_rfl) (by kernel_rfl) (fun _ _ _ h => h) (Or.inl ⟨by rfl, fun w hSw => by go_simp⟩) hS9 ?_
            try simp only [Act.put, List.setIfInBounds_toArray, List.set_cons_zero, List.set_cons_succ, List.getElem_toArray, List.getElem_cons_succ, List.getElem_cons_zero]
            refine wpAnyH_done (by kernel_rfl) ?_ _
            try simp
            go_wp2
            exact ⟨⟨k + 1, by omega, by go_num, rfl, by rw [← HST.out]; exact HO9.out⟩, by simp [intOf]; omega⟩
          · skip
            go_simp
            go_at_call 31
            refine (HIt.out _ HTb.out).mono ?_
            rintro e w4 ⟨rfl, hb4⟩
            have hS4 := WS.later hS3 hb4
            have cF := (hb4.cell (p := ⟨bF, f * 3, none⟩) (World.block_lt_of_cell? _ _ cF)).trans cF
            have cP := (hb4.cell (p := ⟨bP, o * 3, none⟩) (World.block_lt_of_cell? _ _ cP)).trans cP
            have HO : Hid (OneS W0 W0.heap.size (.slice gv L.length cv) L w4) := HO.out.later hb4
            have HTb : Hid (Tab w4) := HTb.out.below hb4
            refine hK.out _ _ hS4 (fun _ => ?_)
            clear hK K
            try simp only [Act.put, List.setIfInBounds_toArray, List.set_cons_zero, List.set_cons_succ, List.getElem_toArray, List.getElem_cons_succ, List.getElem_cons_zero]
            refine wpAnyH_ready (rs := [7]) (by kernel_rfl) (by simp) ?_
            refine AllReadyH.cons rfl (fun K hK => ?_) AllReadyH.nil
            go_simp
            refine hK.out _ _ hS4 (fun _ => ?_)
            clear hK K
            try simp only [Act.put, List.setIfInBounds_toArray, List.set_cons_zero, List.set_cons_succ, List.getElem_toArray, List.getElem_cons_succ, List.getElem_cons_zero]
            refine wpAnyH_ready (rs := [17]) (by kernel_rfl) (by simp) ?_
            refine AllReadyH.cons rfl (fun K hK => ?_) AllReadyH.nil
            go_simp
            have hS17 := WS.later hS4 (below_alloc _ (Obj.cells #[.string J, .string F, .string O, .string D] 9))
            refine hK.out _ _ hS17 (fun _ => ?_)
            clear hK K
            try simp only [Act.put, List.setIfInBounds_toArray, List.set_cons_zero, List.set_cons_succ, List.getElem_toArray, List.getElem_cons_succ, List.getElem_cons_zero]
            refine wpAnyH_ready (rs := [18]) (by kernel_rfl) (by simp) ?_
            refine AllReadyH.cons rfl (fun K hK => ?_) AllReadyH.nil
            refine step_append_lies _ rfl _ _ 50 rfl W0.heap.size 9 i0 (.string ⟨#[]⟩) 1 16 Tryd.underlying50 hi hi0 hi1 hi2 rfl (by decide) _ _ _ rfl (HO.out.later (below_alloc _ _)).1 ⟨w4.heap.size, 0, none⟩ 4 4 [.string J, .string F, .string O, .string D] rfl rfl (World.news_of_block (heapNew w4 _)) (by simp [Value.oneCell']) (by omega) (by unfold maxLen; have := HLl.out; omega) (by have := HLl.out; omega) (HO.out.later (below_alloc _ _)).2.1 _ rfl ?_
            intro g1 cp1 w9 hown1 hgrow1 hat1 hglt1
            have HO9 : Hid (OneS W0 W0.heap.size (.slice (some ⟨g1, 0, none⟩) (L.length + 4) cp1) (L ++ [J, F, O, D]) w9) := OneS.pushAll (xs := [J, F, O, D]) (HO.out.later (below_alloc _ _)) hown1 hgrow1
            have hS9 : WS W0 wr.heap.size ⟨(f : Int), (o : Int), (u : Int)⟩ w9 := ⟨HO9.out.2.2, by
              have e := hgrow1.block wr.heap.size (World.block_lt_of_cell? _ _ hS17.2.1) (fun q => HNe.out _ q.symm rfl)
              exact ⟨(World.cell?_of_block (a := ⟨wr.heap.size, 0, none⟩) e).trans hS17.2.1, (World.cell?_of_block (a := ⟨wr.heap.size, 0 + 1, none⟩) e).trans hS17.2.2.1, (World.cell?_of_block (a := ⟨wr.heap.size, 0 + 2, none⟩) e).trans hS17.2.2.2⟩⟩
            clear hown1 hgrow1 hat1 hglt1
            refine hK.out _ _ hS9 (fun _ => ?_)
            clear hK K
            try simp only [Act.put, List.setIfInBounds_toArray, List.set_cons_zero, List.set_cons_succ, List.getElem_toArray, List.getElem_cons_succ, List.getElem_cons_zero]
            refine wpAnyH_take (i := 19) (v := .slice (some ⟨g1, 0, none⟩) (L.length + 4) cp1) rfl (by kernel_rfl) (by kernel_rfl) (by kernel_rfl) (fun _ _ _ h => h) (Or.inl ⟨by rfl, fun w hSw => by go_simp⟩) hS9 ?_
            try simp only [Act.put, List.setIfInBounds_toArray, List.set_cons_zero, List.set_cons_succ, List.getElem_toArray, List.getElem_cons_succ, List.getElem_cons_zero]
            refine wpAnyH_done (by kernel_rfl) ?_ _
            try simp
            go_wp2
            exact ⟨⟨k + 1, by omega, by go_num, rfl, by rw [← HST.out]; exact HO9.out⟩, by simp [intOf]; omega⟩
        · skip
          go_simp
          go_at_call 31
          refine (HIt.out _ HTb.out).mono ?_
          rintro e w4 ⟨rfl, hb4⟩
          have hS4 := WS.later hS3 hb4
          have cF := (hb4.cell (p := ⟨bF, f * 3, none⟩) (World.block_lt_of_cell? _ _ cF)).trans cF
          have cP := (hb4.cell (p := ⟨bP, o * 3, none⟩) (World.block_lt_of_cell? _ _ cP)).trans cP
          have HO : Hid (OneS W0 W0.heap.size (.slice gv L.length cv) L w4) := HO.out.later hb4
          have HTb : Hid (Tab w4) := HTb.out.below hb4
          refine hK.out _ _ hS4 (fun _ => ?_)
          clear hK K
          try simp only [Act.put, List.setIfInBounds_toArray, List.set_cons_zero, List.set_cons_succ, List.getElem_toArray, List.getElem_cons_succ, List.getElem_cons_zero]
          refine wpAnyH_ready (rs := [7, 13]) (by kernel_rfl) (by simp) ?_
          refine AllReadyH.cons rfl (fun K hK => ?_) (AllReadyH.cons rfl (fun K hK => ?_) AllReadyH.nil)
          · skip
            go_simp
            refine hK.out _ _ hS4 (fun _ => ?_)
            clear hK K
            try simp only [Act.put, List.setIfInBounds_toArray, List.set_cons_zero, List.set_cons_succ, List.getElem_toArray, List.getElem_cons_succ, List.getElem_cons_zero]
            refine wpAnyH_ready (rs := [13]) (by kernel_rfl) (by simp) ?_
            refine AllReadyH.cons rfl (fun K hK => ?_) AllReadyH.nil
            go_simp
            refine hK.out _ _ hS4 (fun _ => ?_)
            clear hK K
            try simp only [Act.put, List.setIfInBounds_toArray, List.set_cons_zero, List.set_cons_succ, List.getElem_toArray, List.getElem_cons_succ, List.getElem_cons_zero]
            refine wpAnyH_ready (rs := [17]) (by kernel_rfl) (by simp) ?_
            refine AllReadyH.cons rfl (fun K hK => ?_) AllReadyH.nil
            go_simp
            have hS17 := WS.later hS4 (below_alloc _ (Obj.cells #[.string J, .string F, .string O, .string D] 9))
            refine hK.out _ _ hS17 (fun _ => ?_)
            clear hK K
            try simp only [Act.put, List.setIfInBounds_toArray, List.set_cons_zero, List.set_cons_succ, List.getElem_toArray, List.getElem_cons_succ, List.getElem_cons_zero]
            refine wpAnyH_ready (rs := [18]) (by kernel_rfl) (by simp) ?_
            refine AllReadyH.cons rfl (fun K hK => ?_) AllReadyH.nil
            refine step_append_lies _ rfl _ _ 50 rfl W0.heap.size 9 i0 (.string ⟨#[]⟩) 1 16 Tryd.underlying50 hi hi0 hi1 hi2 rfl (by decide) _ _ _ rfl (HO.out.later (below_alloc _ _)).1 ⟨w4.heap.size, 0, none⟩ 4 4 [.string J, .string F, .string O, .string D] rfl rfl (World.news_of_block (heapNew w4 _)) (by simp [Value.oneCell']) (by omega) (by unfold maxLen; have := HLl.out; omega) (by have := HLl.out; omega) (HO.out.later (below_alloc _ _)).2.1 _ rfl ?_
            intro g1 cp1 w9 hown1 hgrow1 hat1 hglt1
            have HO9 : Hid (OneS W0 W0.heap.size (.slice (some ⟨g1, 0, none⟩) (L.length + 4) cp1) (L ++ [J, F, O, D]) w9) := OneS.pushAll (xs := [J, F, O, D]) (HO.out.later (below_alloc _ _)) hown1 hgrow1
            have hS9 : WS W0 wr.heap.size ⟨(f : Int), (o : Int), (u : Int)⟩ w9 := ⟨HO9.out.2.2, by
              have e := hgrow1.block wr.heap.size (World.block_lt_of_cell? _ _ hS17.2.1) (fun q => HNe.out _ q.symm rfl)
              exact ⟨(World.cell?_of_block (a := ⟨wr.heap.size, 0, none⟩) e).trans hS17.2.1, (World.cell?_of_block (a := ⟨wr.heap.size, 0 + 1, none⟩) e).trans hS17.2.2.1, (World.cell?_of_block (a := ⟨wr.heap.size, 0 + 2, none⟩) e).trans hS17.2.2.2⟩⟩
            clear hown1 hgrow1 hat1 hglt1
            refine hK.out _ _ hS9 (fun _ => ?_)
            clear hK K
            try simp only [Act.put, List.setIfInBounds_toArray, List.set_cons_zero, List.set_cons_succ, List.getElem_toArray, List.getElem_cons_succ, List.getElem_cons_zero]
            refine wpAnyH_take (i := 19) (v := .slice (some ⟨g1, 0, none⟩) (L.length + 4) cp1) rfl (by kernel_rfl) (by kernel_rfl) (by kernel_rfl) (fun _ _ _ h => h) (Or.inl ⟨by rfl, fun w hSw => by go_simp⟩) hS9 ?_
            try simp only [Act.put, List.setIfInBounds_toArray, List.set_cons_zero, List.set_cons_succ, List.getElem_toArray, List.getElem_cons_succ, List.getElem_cons_zero]
            refine wpAnyH_done (by kernel_rfl) ?_ _
            try simp
            go_wp2
            exact ⟨⟨k + 1, by omega, by go_num, rfl, by rw [← HST.out]; exact HO9.out⟩, by simp [intOf]; omega⟩
          · skip
            go_simp
            refine hK.out _ _ hS4 (fun _ => ?_)
            clear hK K
            try simp only [Act.put, List.setIfInBounds_toArray, List.set_cons_zero, List.set_cons_succ, List.getElem_toArray, List.getElem_cons_succ, List.getElem_cons_zero]
            refine wpAnyH_ready (rs := [7]) (by kernel_rfl) (by simp) ?_
            refine AllReadyH.cons rfl (fun K hK => ?_) AllReadyH.nil
            go_simp
            refine hK.out _ _ hS4 (fun _ => ?_)
            clear hK K
            try simp only [Act.put, List.setIfInBounds_toArray, List.set_cons_zero, List.set_cons_succ, List.getElem_toArray, List.getElem_cons_succ, List.getElem_cons_zero]
            refine wpAnyH_ready (rs := [17]) (by kernel_rfl) (by simp) ?_
            refine AllReadyH.cons rfl (fun K hK => ?_) AllReadyH.nil
            go_simp
            have hS17 := WS.later hS4 (below_alloc _ (Obj.cells #[.string J, .string F, .string O, .string D] 9))
            refine hK.out _ _ hS17 (fun _ => ?_)
            clear hK K
            try simp only [Act.put, List.setIfInBounds_toArray, List.set_cons_zero, List.set_cons_succ, List.getElem_toArray, List.getElem_cons_succ, List.getElem_cons_zero]
            refine wpAnyH_ready (rs := [18]) (by kernel_rfl) (by simp) ?_
            refine AllReadyH.cons rfl (fun K hK => ?_) AllReadyH.nil
            refine step_append_lies _ rfl _ _ 50 rfl W0.heap.size 9 i0 (.string ⟨#[]⟩) 1 16 Tryd.underlying50 hi hi0 hi1 hi2 rfl (by decide) _ _ _ rfl (HO.out.later (below_alloc _ _)).1 ⟨w4.heap.size, 0, none⟩ 4 4 [.string J, .string F, .string O, .string D] rfl rfl (World.news_of_block (heapNew w4 _)) (by simp [Value.oneCell']) (by omega) (by unfold maxLen; have := HLl.out; omega) (by have := HLl.out; omega) (HO.out.later (below_alloc _ _)).2.1 _ rfl ?_
            intro g1 cp1 w9 hown1 hgrow1 hat1 hglt1
            have HO9 : Hid (OneS W0 W0.heap.size (.slice (some ⟨g1, 0, none⟩) (L.length + 4) cp1) (L ++ [J, F, O, D]) w9) := OneS.pushAll (xs := [J, F, O, D]) (HO.out.later (below_alloc _ _)) hown1 hgrow1
            have hS9 : WS W0 wr.heap.size ⟨(f : Int), (o : Int), (u : Int)⟩ w9 := ⟨HO9.out.2.2, by
              have e := hgrow1.block wr.heap.size (World.block_lt_of_cell? _ _ hS17.2.1) (fun q => HNe.out _ q.symm rfl)
              exact ⟨(World.cell?_of_block (a := ⟨wr.heap.size, 0, none⟩) e).trans hS17.2.1, (World.cell?_of_block (a := ⟨wr.heap.size, 0 + 1, none⟩) e).trans hS17.2.2.1, (World.cell?_of_block (a := ⟨wr.heap.size, 0 + 2, none⟩) e).trans hS17.2.2.2⟩⟩
            clear hown1 hgrow1 hat1 hglt1
            refine hK.out _ _ hS9 (fun _ => ?_)
            clear hK K
            try simp only [Act.put, List.setIfInBounds_toArray, List.set_cons_zero, List.set_cons_succ, List.getElem_toArray, List.getElem_cons_succ, List.getElem_cons_zero]
            refine wpAnyH_take (i := 19) (v := .slice (some ⟨g1, 0, none⟩) (L.length + 4) cp1) rfl (by kernel_rfl) (by kernel_rfl) (by kernel_rfl) (fun _ _ _ h => h) (Or.inl ⟨by rfl, fun w hSw => by go_simp⟩) hS9 ?_
            try simp only [Act.put, List.setIfInBounds_toArray, List.set_cons_zero, List.set_cons_succ, List.getElem_toArray, List.getElem_cons_succ, List.getElem_cons_zero]
            refine wpAnyH_done (by kernel_rfl) ?_ _
            try simp
            go_wp2
            exact ⟨⟨k + 1, by omega, by go_num, rfl, by rw [← HST.out]; exact HO9.out⟩, by simp [intOf]; omega⟩
    · have hle : (c.ts.length : Int) ≤ (k : Int) := by omega
      obtain rfl : k = c.ts.length := by omega
      obtain ⟨a, ha⟩ : ∃ a : Nat, c.ac = (a : Int) := ⟨c.ac.toNat, by omega⟩
      obtain ⟨u, hu⟩ : ∃ u : Nat, c.nu = (u : Int) := ⟨c.nu.toNat, by omega⟩
      have ha3 : 1 ≤ a ∧ a ≤ 3 := by omega
      have HAc : Hid (∀ W, Calls Tryd.prog 32 #[] W fun e w' => ∃ b, e = .returned (.slice (some ⟨b, 0, none⟩) 4 4) ∧ Below W.heap.size W w' ∧ w'.cell? ⟨b, a * 3, none⟩ = some (.string ⟨(awL a).toArray⟩)) := fun W => actsT_any W a ha3.1 ha3.2
      have HIt : Hid (∀ W, Tab W → Calls Tryd.prog 31 #[.int .i64 (u : Int)] W fun e w' => e = .returned (.string (decS u)) ∧ Below W.heap.size W w') := fun W q => itoa_any u (by omega) W q
      have HTb : Hid (Tab wr) := HT0.out.below HBw.out
      have HSm : Hid (∀ W, Below W0.heap.size W0 W → (W.cell? ⟨w.heap.size, 2, none⟩ = some (.int .i64 (a : Int)) ∧ W.cell? ⟨w.heap.size, 3, none⟩ = some (.int .i64 (u : Int))) ∧ Below w.heap.size w W) := fun W hW => by
        have q := HC.out W hW
        rw [ha, hu] at q
        exact ⟨⟨q.2.2.1, q.2.2.2⟩, q.1⟩
      have HE3 : Hid (a = 3 → toB (ruleL :: bl c.nm :: tsL c.ts c.ts.length) ++ [⟨#[116, 104, 101, 110]⟩, ⟨(awL a).toArray⟩] = toB (rlW c)) := fun q => by
        unfold rlW endL
        rw [if_pos (by omega), ← List.cons_append, ← List.cons_append, toB_append, q]
        rfl
      have HEn : Hid (a ≠ 3 → toB (ruleL :: bl c.nm :: tsL c.ts c.ts.length) ++ [⟨#[116, 104, 101, 110]⟩, ⟨(awL a).toArray⟩] ++ [decS u] = toB (rlW c)) := fun q => by
        unfold rlW endL
        rw [if_neg (by omega), ← List.cons_append, ← List.cons_append, toB_append, ha, hu, List.append_assoc]
        rfl
      have hX0 : w.heap.size ≤ W0.heap.size := by omega
      have ha4 : (a : Int) < 4 := by omega
      clear ha hu y1 y2 y3 hnm hac hnu0 hnu HNe0
      generalize (⟨(awL a).toArray⟩ : ByteArray) = A at *
      generalize decS u = D at *
      generalize toB (ruleL :: bl c.nm :: tsL c.ts c.ts.length) = L at *
      obtain ⟨⟨y2, y3⟩, _⟩ := HSm.out wr HB.out
      go_wp2_with fail
      have HOd : Hid (OneS W0 W0.heap.size (.slice gv L.length cv) L wr.drew) := HO.out.later (below_drew _)
      have HTd : Hid (Tab wr.drew) := HTb.out.below (below_drew _)
      refine wp_region_held_drew (S := fun W => Below W0.heap.size W0 W) (by kernel_rfl) HOd.out.2.2 (fun hH => ?_)
      refine wpAnyH_take (i := 0) (v := .slice gv L.length cv) rfl (by kernel_rfl) (by kernel_rfl) (by kernel_rfl) (fun _ _ _ h => h) (Or.inl ⟨by rfl, fun w hSw => by go_simp⟩) hH ?_
      refine wpAnyH_take (i := 2) (v := .pointer (some ⟨w.heap.size, 2, none⟩)) rfl (by kernel_rfl) (by kernel_rfl) (by kernel_rfl) (fun _ _ _ h => h) (Or.inl ⟨by rfl, fun w hSw => by go_simp⟩) hH ?_
      try simp only [Act.put, List.setIfInBounds_toArray, List.set_cons_zero, List.set_cons_succ, List.getElem_toArray, List.getElem_cons_succ, List.getElem_cons_zero]
      refine wpAnyH_take (i := 3) (v := .int .i64 (a : Int)) rfl (by kernel_rfl) (by kernel_rfl) (by kernel_rfl) (fun _ _ _ h => h) (Or.inl ⟨by rfl, fun w hSw => by obtain ⟨⟨s0, s1⟩, _⟩ := HSm.out w hSw; go_simp⟩) hH ?_
      try simp only [Act.put, List.setIfInBounds_toArray, List.set_cons_zero, List.set_cons_succ, List.getElem_toArray, List.getElem_cons_succ, List.getElem_cons_zero]
      refine wpAnyH_ready (rs := [1]) (by kernel_rfl) (by simp) ?_
      refine AllReadyH.cons rfl (fun K hK => ?_) AllReadyH.nil
      go_simp
      go_at_call 32
      refine (HAc.out _).mono ?_
      rintro e w2 ⟨bA, rfl, hb2, cA⟩
      have HO2 : Hid (OneS W0 W0.heap.size (.slice gv L.length cv) L w2) := HOd.out.later hb2
      have HT2 : Hid (Tab w2) := HTd.out.below hb2
      have hS2 := HO2.out.2.2
      refine hK.out _ _ hS2 (fun _ => ?_)
      clear hK K
      try simp only [Act.put, List.setIfInBounds_toArray, List.set_cons_zero, List.set_cons_succ, List.getElem_toArray, List.getElem_cons_succ, List.getElem_cons_zero]
      refine wpAnyH_take (i := 4) (v := .pointer (some ⟨bA, a * 3, none⟩)) rfl (by kernel_rfl) (by kernel_rfl) (by kernel_rfl) (fun _ _ _ h => h) (Or.inl ⟨by rfl, fun w hSw => by go_simp⟩) hS2 ?_
      try simp only [Act.put, List.setIfInBounds_toArray, List.set_cons_zero, List.set_cons_succ, List.getElem_toArray, List.getElem_cons_succ, List.getElem_cons_zero]
      refine wpAnyH_take (i := 5) (v := .pointer (some ⟨bA, a * 3, none⟩)) rfl (by kernel_rfl) (by kernel_rfl) (by kernel_rfl) (fun _ _ _ h => h) (Or.inl ⟨by rfl, fun w hSw => by go_simp⟩) hS2 ?_
      try simp only [Act.put, List.setIfInBounds_toArray, List.set_cons_zero, List.set_cons_succ, List.getElem_toArray, List.getElem_cons_succ, List.getElem_cons_zero]
      refine wpAnyH_ready (rs := [6]) (by kernel_rfl) (by simp) ?_
      refine AllReadyH.cons rfl (fun K hK => ?_) AllReadyH.nil
      go_simp
      refine hK.out _ _ hS2 (fun _ => ?_)
      clear hK K
      try simp only [Act.put, List.setIfInBounds_toArray, List.set_cons_zero, List.set_cons_succ, List.getElem_toArray, List.getElem_cons_succ, List.getElem_cons_zero]
      refine wpAnyH_ready (rs := [7]) (by kernel_rfl) (by simp) ?_
      refine AllReadyH.cons rfl (fun K hK => ?_) AllReadyH.nil
      go_simp
      have HO3 : Hid (OneS W0 W0.heap.size (.slice gv L.length cv) L (w2.alloc (Obj.cells #[.string ⟨#[116, 104, 101, 110]⟩, .string A] 9))) := HO2.out.later (below_alloc _ _)
      have hS3 := HO3.out.2.2
      refine hK.out _ _ hS3 (fun _ => ?_)
      clear hK K
      try simp only [Act.put, List.setIfInBounds_toArray, List.set_cons_zero, List.set_cons_succ, List.getElem_toArray, List.getElem_cons_succ, List.getElem_cons_zero]
      refine wpAnyH_ready (rs := [8]) (by kernel_rfl) (by simp) ?_
      refine AllReadyH.cons rfl (fun K hK => ?_) AllReadyH.nil
      refine step_append_lies _ rfl _ _ 50 rfl W0.heap.size 9 i0 (.string ⟨#[]⟩) 1 16 Tryd.underlying50 hi hi0 hi1 hi2 rfl (by decide) _ _ _ rfl HO3.out.1 ⟨w2.heap.size, 0, none⟩ 2 2 [.string ⟨#[116, 104, 101, 110]⟩, .string A] rfl rfl (World.news_of_block (heapNew w2 _)) (by simp [Value.oneCell']) (by omega) (by unfold maxLen; have := HLl.out; omega) (by have := HLl.out; omega) HO3.out.2.1 _ rfl ?_
      intro g1 cp1 w9 hown1 hgrow1 hat1 hglt1
      have HO9 : Hid (OneS W0 W0.heap.size (.slice (some ⟨g1, 0, none⟩) (L.length + 2) cp1) (L ++ [⟨#[116, 104, 101, 110]⟩, A]) w9) := OneS.pushAll (xs := [⟨#[116, 104, 101, 110]⟩, A]) HO3.out hown1 hgrow1
      have HT9 : Hid (Tab w9) := HT0.out.below (HSm.out w9 HO9.out.2.2).2
      have hS9 := HO9.out.2.2
      clear hown1 hgrow1 hat1 hglt1
      refine hK.out _ _ hS9 (fun _ => ?_)
      clear hK K
      try simp only [Act.put, List.setIfInBounds_toArray, List.set_cons_zero, List.set_cons_succ, List.getElem_toArray, List.getElem_cons_succ, List.getElem_cons_zero]
      refine wpAnyH_take (i := 9) (v := .slice (some ⟨g1, 0, none⟩) (L.length + 2) cp1) rfl (by kernel_rfl) (by kernel_rfl) (by kernel_rfl) (fun _ _ _ h => h) (Or.inl ⟨by rfl, fun w hSw => by go_simp⟩) hS9 ?_
      try simp only [Act.put, List.setIfInBounds_toArray, List.set_cons_zero, List.set_cons_succ, List.getElem_toArray, List.getElem_cons_succ, List.getElem_cons_zero]
      refine wpAnyH_done (by kernel_rfl) ?_ _
      try simp
      obtain ⟨⟨z2, z3⟩, zb⟩ := HSm.out w9 hS9
      have HZb : Hid (Below w.heap.size w w9) := zb
      clear hS9 hS3 hS2 hH zb cA hb2 y2 y3
      by_cases h3 : a = 3
      · have hb3 : ((a : Int) == 3) = true := by simp; omega
        have H1 : Hid _ := HE3.out h3
        clear h3 HE3 HEn
        go_wp2
        go_ret
        refine ⟨some ⟨g1, 0, none⟩, cp1, by rw [← H1.out, List.length_append]; rfl, ?_⟩
        rw [← H1.out, List.length_append]
        exact OneS.wide HO9.out hX0 HZb.out
      · have hb3 : ((a : Int) == 3) = false := by simp; omega
        have H1 : Hid _ := HEn.out h3
        clear h3 HE3 HEn
        go_wp2_with fail
        (first | go_at_call 31 | skip)
        refine (HIt.out _ HT9.out).mono ?_
        rintro e w10 ⟨rfl, hb10⟩
        have HO10 : Hid (OneS W0 W0.heap.size (.slice (some ⟨g1, 0, none⟩) (L.length + 2) cp1) (L ++ [⟨#[116, 104, 101, 110]⟩, A]) w10) := HO9.out.later hb10
        clear hb10
        go_wp2_with (at_builtin; refine wpList_append_lies _ rfl _ _ 50 rfl W0.heap.size 9 i0 (.string ⟨#[]⟩) 1 16 Tryd.underlying50 hi hi0 hi1 hi2 rfl (by decide) _ _ _ rfl (HO10.out.later (below_alloc _ _)).1 ⟨w10.heap.size, 0, none⟩ 1 1 [.string D] rfl rfl (newsOneS w10 _ _) (by intro u hu; simp at hu; subst hu; rfl) (by omega) (by unfold maxLen; have := HLl.out; simp; omega) (by have := HLl.out; simp; omega) (HO10.out.later (below_alloc _ _)).2.1 _ rfl ?_; intro g2 cp2 w11 hown2 hgrow2 hat2 hglt2; have HO11 : Hid _ := (HO10.out.later (below_alloc _ _)).push hown2 hgrow2; clear hown2 hgrow2 hat2 hglt2)
        go_ret
        have q : OneS W0 W0.heap.size (.slice (some ⟨g2, 0, none⟩) ((L ++ [⟨#[116, 104, 101, 110]⟩, A]).length + 1) cp2) (L ++ [⟨#[116, 104, 101, 110]⟩, A] ++ [D]) w11 := HO11.out
        refine ⟨some ⟨g2, 0, none⟩, cp2, by rw [← H1.out, List.length_append, List.length_append]; rfl, ?_⟩
        rw [← H1.out, List.length_append (bs := [D])]
        exact OneS.wide q hX0 (HSm.out _ q.2.2).2
end Go.Proofs.YthkfaiokigmjeaaDoor
