/-
  The specification's day.
-/
import Derived.Test.YtodncihjenlnjaaSqA
namespace Go.Proofs.Ytodncihjenlnjaa
open Go.ChangeShapes Go.WideShapes Go.ChangeAt Go.RowKit Go.Deep
set_option linter.unusedVariables false

/-- What a list has lost. -/
def lostL (d : Int) (L : List RLo) (k : Nat) : Int := sumP (L.take k) - sumP (keptL d (L.take k))
theorem lostL_next (d : Int) (L : List RLo) (k : Nat) (h : k < L.length) : lostL d L (k + 1) = if d ≤ (L.getD k zLo).un then lostL d L k else lostL d L k + (L.getD k zLo).nu := by
  unfold lostL
  rw [sumP_next L k h, keptL_next d L k h]
  split
  · rw [sumP_append]
    have : ∀ r : RLo, sumP [r] = r.nu := fun r => by simp [sumP]
    rw [this]; omega
  · omega
theorem lostL_bound {d : Int} {L : List RLo} (hN : ∀ r ∈ L, LoN r) (k : Nat) (hk : k ≤ L.length) : 0 ≤ lostL d L k ∧ lostL d L k ≤ 1000000 * (k : Int) := by
  have h1 := sumP_take hN k hk
  have h2 := sumP_kept d (K := L.take k) (fun r hr => hN r (List.mem_of_mem_take hr))
  unfold lostL; omega
/-- In the midst of a day: what is kept so far, in a row of its own. -/
structure SdS (w : World) (rb : Nat) (day sp ex : Int) (lv tv : Value) (v : Value) (K : List RLo) (wr : World) : Prop where
  run : SgIs wr rb day sp ex lv tv
  row : wr.ownsRow w.heap.size 67 2 v K.length (loCells K)
  fr : Fr (fun k => k = rb) w wr
theorem SdS.later {w : World} {rb : Nat} {day sp ex : Int} {lv tv : Value} {v : Value} {K : List RLo} {wr w' : World} (h : SdS w rb day sp ex lv tv v K wr) (hb : Below wr.heap.size wr w') : SdS w rb day sp ex lv tv v K w' :=
  ⟨h.run.later hb, row_of h.row (fun q hq => hb.block q (row_lt h.row q hq).2), h.fr.trans (Fr.of hb)⟩
theorem SdS.push {w : World} {rb : Nat} {day sp ex : Int} {lv tv : Value} {v : Value} {K : List RLo} {wr w' : World} {g cp : Nat} {r : RLo} (h : SdS w rb day sp ex lv tv v K wr) (hrb : rb < w.heap.size)
    (ho : w'.ownsRow w.heap.size 67 2 (.slice (some ⟨g, 0, none⟩) (K.length + 1) cp) (K.length + 1) (loCells K ++ [.int .i64 r.nu, .int .i64 r.un])) (hg : wr.grownBy w' v.ownBlock) : SdS w rb day sp ex lv tv (.slice (some ⟨g, 0, none⟩) (K.length + 1) cp) (K ++ [r]) w' := by
  have hf := fr_grown hg
  refine ⟨h.run.of (hf.block rb h.run.lt (fun e => by have := (row_lt h.row rb e).1; omega)), by rw [List.length_append, loCells_append]; exact ho, ⟨hf.os.trans h.fr.os, hf.tape.trans h.fr.tape, hf.output.trans h.fr.output, Nat.le_trans h.fr.size hf.size, fun k hk hx => (hf.block k (Nat.lt_of_lt_of_le hk h.fr.size) (fun e => by have := (row_lt h.row k e).1; omega)).trans (h.fr.block k hk hx)⟩⟩
theorem SdS.set2 {w : World} {rb : Nat} {day sp ex : Int} {lv tv : Value} {v : Value} {K : List RLo} {wr : World} (h : SdS w rb day sp ex lv tv v K wr) (x : Int) : SdS w rb day sp x lv tv v K (wr.setCell ⟨rb, 2, none⟩ (.int .i64 x)) :=
  ⟨h.run.set2 x, row_of h.row (fun q hq => Below.heap_setCell _ _ _ _ (sg_ne h.run h.row hq)), h.fr.set (b := rb) rfl _ _⟩
theorem SdS.set1 {w : World} {rb : Nat} {day sp ex : Int} {lv tv : Value} {v : Value} {K : List RLo} {wr : World} (h : SdS w rb day sp ex lv tv v K wr) (x : Int) : SdS w rb day x ex lv tv v K (wr.setCell ⟨rb, 1, none⟩ (.int .i64 x)) :=
  ⟨h.run.set1 x, row_of h.row (fun q hq => Below.heap_setCell _ _ _ _ (sg_ne h.run h.row hq)), h.fr.set (b := rb) rfl _ _⟩
theorem SdS.set3 {w : World} {rb : Nat} {day sp ex : Int} {lv tv : Value} {v : Value} {K : List RLo} {wr : World} (h : SdS w rb day sp ex lv tv v K wr) : SdS w rb day sp ex v tv v K (wr.setCell ⟨rb, 3, none⟩ v) :=
  ⟨h.run.set3 v, row_of h.row (fun q hq => Below.heap_setCell _ _ _ _ (sg_ne h.run h.row hq)), h.fr.set (b := rb) rfl _ _⟩
set_option maxHeartbeats 8000000 in
theorem dayS_any (B rb : Nat) (day sp ex : Int) (la : Option Addr) (lc : Nat) (tv : Value) (L : List RLo) (hl : L.length ≤ 100) (hN : ∀ r ∈ L, LoN r) (d : Int) (hex : 0 ≤ ex) (hex2 : ex ≤ 1000000000000) (w : World) (hg : SgIs w rb day sp ex (.slice la L.length lc) tv) (hr : w.ownsRow B 67 2 (.slice la L.length lc) L.length (loCells L)) :
    Calls Try.prog 28 #[.pointer (some ⟨rb, 0, none⟩), .int .i64 d] w fun e w' => e = .returned (.tuple #[]) ∧ ∃ v, SdS w rb d sp (ex + (sumP L - sumP (keptL d L))) v tv v (keptL d L) w' := by
  have hrl := hg.lt
  have HN : Hid (∀ r ∈ L, LoN r) := hN
  have HR : Hid (w.ownsRow B 67 2 (.slice la L.length lc) L.length (loCells L)) := hr
  have HQr : Hid (∀ q, Value.ownBlock (.slice la L.length lc) = some q → q ≠ rb) := fun q hq => sg_ne hg hr hq
  obtain ⟨i0, hi, hzz⟩ := Option.map_eq_some_iff.1 loInfo
  simp only [Prod.mk.injEq] at hzz
  obtain ⟨hi0, hi1, hi2⟩ := hzz
  obtain ⟨W1, hW1⟩ : ∃ W1, W1 = (w.setCell ⟨rb, 0, none⟩ (.int .i64 d)).alloc (Obj.cells #[] 67) := ⟨_, rfl⟩
  have hz1 : W1.heap.size = w.heap.size + 1 := by rw [hW1]; simp
  have HS1 : Hid (SdS w rb d sp ex (.slice la L.length lc) tv (.slice (some ⟨w.heap.size, 0, none⟩) 0 0) [] W1) := by
    rw [hW1]
    refine ⟨(hg.set0 d).later (below_alloc _ _), ?_, (Fr.set (X := fun k => k = rb) (Fr.refl _ _) (b := rb) rfl _ _).alloc _⟩
    have := heapNew (w.setCell ⟨rb, 0, none⟩ (.int .i64 d)) (Obj.cells #[] 67)
    exact ⟨rfl, .inr ⟨w.heap.size, 0, #[], rfl, Nat.le_refl _, by simpa using this, Nat.le_refl _, by unfold maxLen; omega, rfl, rfl⟩⟩
  have f0 := hg.free 0
  have c0 := hg.cells.1
  clear hg hr hN
  go_enter Try.func28, Try.ntmps28
  go_wp2_with fail
  rw [← hW1]
  clear hW1 f0 c0
  go_loopw [4, 5] (fun v x wr => ∃ (k : Nat) (ka : Option Addr) (kc : Nat), k ≤ L.length ∧ x = .int .i64 (k : Int) ∧ v = .slice ka (keptL d (L.take k)).length kc ∧ SdS w rb d sp (ex + lostL d L k) (.slice la L.length lc) tv v (keptL d (L.take k)) wr) (fun _ x _ => L.length - (intOf x).toNat)
  case atStart => exact ⟨0, some ⟨w.heap.size, 0, none⟩, 0, Nat.zero_le _, rfl, rfl, by have := HS1.out; simpa [lostL, keptL, sumP] using this⟩
  case round =>
    clear HS1
    obtain ⟨k, ka, kc, hk, rfl, rfl, hst⟩ := hrel
    have HS : Hid (SdS w rb d sp (ex + lostL d L k) (.slice la L.length lc) tv (.slice ka (keptL d (L.take k)).length kc) (keptL d (L.take k)) wr) := hst
    have hlb := lostL_bound (d := d) HN.out k hk
    have x3 := hst.run.cells.2.2.2.1
    have x2 := hst.run.cells.2.2.1
    have f2 := hst.run.free 2
    have f3 := hst.run.free 3
    clear hst
    by_cases hlt : k < L.length
    · have hlt' : (k : Int) < (L.length : Int) := by omega
      obtain ⟨g, c9, hga⟩ := row_some HR.out (by omega)
      simp only [Value.slice.injEq, true_and] at hga
      obtain ⟨rfl, rfl⟩ := hga
      have HRw : Hid (∀ W : World, Fr (fun k => k = rb) w W → W.cell? ⟨g, k * 2, none⟩ = some (.int .i64 (L.getD k zLo).nu) ∧ W.cell? ⟨g, k * 2 + 1, none⟩ = some (.int .i64 (L.getD k zLo).un)) := fun W hW => lo_cells (row_of HR.out (fun q hq => hW.block q (row_lt HR.out q hq).2 (fun e => HQr.out q hq e))) k hlt
      obtain ⟨q0, q1⟩ := HRw.out wr HS.out.fr
      have hnn := getLo' HN.out hlt
      have HKn := keptL_next d L k hlt
      have HLn := lostL_next d L k hlt
      have hkk := keptL_len d (L.take k)
      rw [List.length_take] at hkk
      generalize L.getD k zLo = r at *
      obtain ⟨rn, ru⟩ := r
      unfold LoN at hnn
      dsimp only at q0 q1 HKn HLn hnn HRw
      generalize hle : lostL d L k = le at *
      clear hle
      by_cases hc : d ≤ ru
      · rw [if_pos hc] at HKn HLn
        have HK : Hid (keptL d (L.take (k + 1)) = keptL d (L.take k) ++ [⟨rn, ru⟩]) := HKn
        have HL : Hid (lostL d L (k + 1) = le) := HLn
        clear HKn HLn
        have hkk2 : (keptL d (L.take k)).length ≤ k := by omega
        generalize keptL d (L.take k) = K at *
        have HA1 : Hid (SdS w rb d sp (ex + le) (.slice (some ⟨g, 0, none⟩) L.length lc) tv (.slice ka K.length kc) K (wr.alloc (Obj.cells #[.int .i64 rn, .int .i64 ru] 67))) := HS.out.later (below_alloc _ _)
        have HNw : Hid ((wr.alloc (Obj.cells #[.int .i64 rn, .int .i64 ru] 67)).heap[wr.heap.size]? = some (.cells #[.int .i64 rn, .int .i64 ru] 67 (0, 0))) := heapNew _ _
        have hsz := HS.out.fr.size
        go_wp2_with (at_builtin; refine wpList_append_lies _ rfl _ _ 25 rfl w.heap.size 67 i0 (.agg #[.int .i64 0, .int .i64 0]) 2 16 Try.underlying25 hi hi0 hi1 hi2 rfl (by decide) _ _ _ rfl HA1.out.row ⟨wr.heap.size, 0, none⟩ 1 1 [.int .i64 rn, .int .i64 ru] rfl rfl (World.news_of_block HNw.out) (by simp [Value.oneCell']) (by omega) (by unfold maxLen; omega) (by omega) (by simp; omega) _ rfl ?_; intro g1 cp1 w9 hown1 hgrow1 hat1 hglt1; have HF : Hid (SdS w rb d sp (ex + le) (.slice (some ⟨g, 0, none⟩) L.length lc) tv (.slice (some ⟨g1, 0, none⟩) (K.length + 1) cp1) (K ++ [⟨rn, ru⟩]) w9) := HA1.out.push (r := ⟨rn, ru⟩) hrl hown1 hgrow1; clear hown1 hgrow1 hat1 hglt1)
        refine ⟨⟨k + 1, some ⟨g1, 0, none⟩, cp1, by omega, by go_num, by rw [HK.out]; simp, ?_⟩, by simp [intOf]; omega⟩
        rw [HK.out, HL.out]; exact HF.out
      · rw [if_neg hc] at HKn HLn
        have HK : Hid (keptL d (L.take (k + 1)) = keptL d (L.take k)) := HKn
        have HL : Hid (lostL d L (k + 1) = le + rn) := HLn
        clear HKn HLn
        have hc' : ru < d := by omega
        have hwp : IntKind.i64.wrap (ex + le + rn) = ex + le + rn := wrap_id _ (by omega) (by omega)
        have HD : Hid (SdS w rb d sp (ex + le) (.slice (some ⟨g, 0, none⟩) L.length lc) tv (.slice ka (keptL d (L.take k)).length kc) (keptL d (L.take k)) wr.drew) := HS.out.later (below_drew _)
        clear x2 x3 f2 f3 q0 q1
        have y3 := HS.out.run.cells.2.2.2.1
        obtain ⟨q0, q1⟩ := HRw.out wr HS.out.fr
        go_wp2_with fail
        generalize hWD : wr.drew = WD at *
        have z2 := HD.out.run.cells.2.2.1
        have z3 := HD.out.run.cells.2.2.2.1
        have zf := HD.out.run.free 2
        have zq := (HRw.out WD HD.out.fr).1
        refine wp_region_z (S := fun W => W = WD) 18 (by kernel_rfl) hWD (fun hH => ?_)
        rw [hWD] at hH ⊢
        clear hWD
        refine wpAnyZ_take (i := 0) (v := .pointer (some ⟨rb, 0, none⟩)) rfl (by kernel_rfl) (by kernel_rfl) (by kernel_rfl) (by kernel_rfl) (fun _ _ _ h => h) (Or.inl ⟨by rfl, fun w hSw => by subst hSw; go_simp⟩) hH ?_
        refine wpAnyZ_take (i := 1) (v := .pointer (some ⟨rb, 0, none⟩)) rfl (by kernel_rfl) (by kernel_rfl) (by kernel_rfl) (by kernel_rfl) (fun _ _ _ h => h) (Or.inl ⟨by rfl, fun w hSw => by subst hSw; go_simp⟩) hH ?_
        try simp only [Act.put, List.setIfInBounds_toArray, List.set_cons_zero, List.set_cons_succ, List.getElem_toArray, List.getElem_cons_succ, List.getElem_cons_zero]
        refine wpAnyZ_take (i := 2) (v := .pointer (some ⟨rb, 0, none⟩)) rfl (by kernel_rfl) (by kernel_rfl) (by kernel_rfl) (by kernel_rfl) (fun _ _ _ h => h) (Or.inl ⟨by rfl, fun w hSw => by subst hSw; go_simp⟩) hH ?_
        try simp only [Act.put, List.setIfInBounds_toArray, List.set_cons_zero, List.set_cons_succ, List.getElem_toArray, List.getElem_cons_succ, List.getElem_cons_zero]
        refine wpAnyZ_take (i := 3) (v := .pointer (some ⟨rb, 2, none⟩)) rfl (by kernel_rfl) (by kernel_rfl) (by kernel_rfl) (by kernel_rfl) (fun _ _ _ h => h) (Or.inl ⟨by rfl, fun w hSw => by subst hSw; go_simp⟩) hH ?_
        try simp only [Act.put, List.setIfInBounds_toArray, List.set_cons_zero, List.set_cons_succ, List.getElem_toArray, List.getElem_cons_succ, List.getElem_cons_zero]
        refine wpAnyZ_take (i := 4) (v := .int .i64 (ex + le)) rfl (by kernel_rfl) (by kernel_rfl) (by kernel_rfl) (by kernel_rfl) (fun _ _ _ h => h) (Or.inl ⟨by rfl, fun w hSw => by subst hSw; go_simp⟩) hH ?_
        try simp only [Act.put, List.setIfInBounds_toArray, List.set_cons_zero, List.set_cons_succ, List.getElem_toArray, List.getElem_cons_succ, List.getElem_cons_zero]
        refine wpAnyZ_take (i := 5) (v := .pointer (some ⟨rb, 0, none⟩)) rfl (by kernel_rfl) (by kernel_rfl) (by kernel_rfl) (by kernel_rfl) (fun _ _ _ h => h) (Or.inl ⟨by rfl, fun w hSw => by subst hSw; go_simp⟩) hH ?_
        try simp only [Act.put, List.setIfInBounds_toArray, List.set_cons_zero, List.set_cons_succ, List.getElem_toArray, List.getElem_cons_succ, List.getElem_cons_zero]
        refine wpAnyZ_take (i := 6) (v := .pointer (some ⟨rb, 0, none⟩)) rfl (by kernel_rfl) (by kernel_rfl) (by kernel_rfl) (by kernel_rfl) (fun _ _ _ h => h) (Or.inl ⟨by rfl, fun w hSw => by subst hSw; go_simp⟩) hH ?_
        try simp only [Act.put, List.setIfInBounds_toArray, List.set_cons_zero, List.set_cons_succ, List.getElem_toArray, List.getElem_cons_succ, List.getElem_cons_zero]
        refine wpAnyZ_take (i := 7) (v := .pointer (some ⟨rb, 0, none⟩)) rfl (by kernel_rfl) (by kernel_rfl) (by kernel_rfl) (by kernel_rfl) (fun _ _ _ h => h) (Or.inl ⟨by rfl, fun w hSw => by subst hSw; go_simp⟩) hH ?_
        try simp only [Act.put, List.setIfInBounds_toArray, List.set_cons_zero, List.set_cons_succ, List.getElem_toArray, List.getElem_cons_succ, List.getElem_cons_zero]
        refine wpAnyZ_take (i := 8) (v := .pointer (some ⟨rb, 3, none⟩)) rfl (by kernel_rfl) (by kernel_rfl) (by kernel_rfl) (by kernel_rfl) (fun _ _ _ h => h) (Or.inl ⟨by rfl, fun w hSw => by subst hSw; go_simp⟩) hH ?_
        try simp only [Act.put, List.setIfInBounds_toArray, List.set_cons_zero, List.set_cons_succ, List.getElem_toArray, List.getElem_cons_succ, List.getElem_cons_zero]
        refine wpAnyZ_take (i := 9) (v := .slice (some ⟨g, 0, none⟩) L.length lc) rfl (by kernel_rfl) (by kernel_rfl) (by kernel_rfl) (by kernel_rfl) (fun _ _ _ h => h) (Or.inl ⟨by rfl, fun w hSw => by subst hSw; go_simp⟩) hH ?_
        try simp only [Act.put, List.setIfInBounds_toArray, List.set_cons_zero, List.set_cons_succ, List.getElem_toArray, List.getElem_cons_succ, List.getElem_cons_zero]
        refine wpAnyZ_take (i := 10) (v := .int .i64 (k : Int)) rfl (by kernel_rfl) (by kernel_rfl) (by kernel_rfl) (by kernel_rfl) (fun _ _ _ h => h) (Or.inl ⟨by rfl, fun w hSw => by subst hSw; go_simp⟩) hH ?_
        try simp only [Act.put, List.setIfInBounds_toArray, List.set_cons_zero, List.set_cons_succ, List.getElem_toArray, List.getElem_cons_succ, List.getElem_cons_zero]
        refine wpAnyZ_take (i := 11) (v := .pointer (some ⟨g, k * 2, none⟩)) rfl (by kernel_rfl) (by kernel_rfl) (by kernel_rfl) (by kernel_rfl) (fun _ _ _ h => h) (Or.inl ⟨by rfl, fun w hSw => by subst hSw; go_simp⟩) hH ?_
        try simp only [Act.put, List.setIfInBounds_toArray, List.set_cons_zero, List.set_cons_succ, List.getElem_toArray, List.getElem_cons_succ, List.getElem_cons_zero]
        refine wpAnyZ_take (i := 12) (v := .pointer (some ⟨g, k * 2, none⟩)) rfl (by kernel_rfl) (by kernel_rfl) (by kernel_rfl) (by kernel_rfl) (fun _ _ _ h => h) (Or.inl ⟨by rfl, fun w hSw => by subst hSw; go_simp⟩) hH ?_
        try simp only [Act.put, List.setIfInBounds_toArray, List.set_cons_zero, List.set_cons_succ, List.getElem_toArray, List.getElem_cons_succ, List.getElem_cons_zero]
        refine wpAnyZ_take (i := 13) (v := .int .i64 rn) rfl (by kernel_rfl) (by kernel_rfl) (by kernel_rfl) (by kernel_rfl) (fun _ _ _ h => h) (Or.inl ⟨by rfl, fun w hSw => by subst hSw; go_simp⟩) hH ?_
        try simp only [Act.put, List.setIfInBounds_toArray, List.set_cons_zero, List.set_cons_succ, List.getElem_toArray, List.getElem_cons_succ, List.getElem_cons_zero]
        refine wpAnyZ_take (i := 14) (v := .int .i64 (ex + le + rn)) rfl (by kernel_rfl) (by kernel_rfl) (by kernel_rfl) (by kernel_rfl) (fun _ _ _ h => h) (Or.inl ⟨by rfl, fun w hSw => by subst hSw; go_simp⟩) hH ?_
        try simp only [Act.put, List.setIfInBounds_toArray, List.set_cons_zero, List.set_cons_succ, List.getElem_toArray, List.getElem_cons_succ, List.getElem_cons_zero]
        refine wpAnyZ_take (i := 15) (v := .pointer (some ⟨rb, 0, none⟩)) rfl (by kernel_rfl) (by kernel_rfl) (by kernel_rfl) (by kernel_rfl) (fun _ _ _ h => h) (Or.inl ⟨by rfl, fun w hSw => by subst hSw; go_simp⟩) hH ?_
        try simp only [Act.put, List.setIfInBounds_toArray, List.set_cons_zero, List.set_cons_succ, List.getElem_toArray, List.getElem_cons_succ, List.getElem_cons_zero]
        refine wpAnyZ_take (i := 16) (v := .pointer (some ⟨rb, 0, none⟩)) rfl (by kernel_rfl) (by kernel_rfl) (by kernel_rfl) (by kernel_rfl) (fun _ _ _ h => h) (Or.inl ⟨by rfl, fun w hSw => by subst hSw; go_simp⟩) hH ?_
        try simp only [Act.put, List.setIfInBounds_toArray, List.set_cons_zero, List.set_cons_succ, List.getElem_toArray, List.getElem_cons_succ, List.getElem_cons_zero]
        refine wpAnyZ_take (i := 17) (v := .pointer (some ⟨rb, 2, none⟩)) rfl (by kernel_rfl) (by kernel_rfl) (by kernel_rfl) (by kernel_rfl) (fun _ _ _ h => h) (Or.inl ⟨by rfl, fun w hSw => by subst hSw; go_simp⟩) hH ?_
        try simp only [Act.put, List.setIfInBounds_toArray, List.set_cons_zero, List.set_cons_succ, List.getElem_toArray, List.getElem_cons_succ, List.getElem_cons_zero]
        refine wpAnyZ_ready (rs := [18]) (by kernel_rfl) (by simp) ?_
        refine AllReadyZ.cons rfl (fun K hK => ?_) AllReadyZ.nil
        go_simp
        refine hK.out _ _ (Or.inl rfl) (fun _ => ?_)
        clear hK K
        try simp only [Act.put, List.setIfInBounds_toArray, List.set_cons_zero, List.set_cons_succ, List.getElem_toArray, List.getElem_cons_succ, List.getElem_cons_zero]
        refine wpAnyZ_done (by kernel_rfl) ?_ _
        clear hH z2 z3 zf zq y3 q0 q1
        have HE : Hid (SdS w rb d sp (ex + le + rn) (.slice (some ⟨g, 0, none⟩) L.length lc) tv (.slice ka (keptL d (L.take k)).length kc) (keptL d (L.take k)) (WD.setCell ⟨rb, 2, none⟩ (.int .i64 (ex + le + rn)))) := HD.out.set2 _
        clear HD HS HRw
        go_wp2
        refine ⟨⟨k + 1, ka, kc, by omega, by go_num, by rw [HK.out], ?_⟩, by simp [intOf]; omega⟩
        rw [HK.out, HL.out, ← Int.add_assoc]; exact HE.out
    · obtain rfl : k = L.length := by omega
      rw [List.take_length] at HS ⊢
      have hse : lostL d L L.length = sumP L - sumP (keptL d L) := by unfold lostL; rw [List.take_length]
      rw [hse] at HS
      have HEn : Hid (SdS w rb d sp (ex + (sumP L - sumP (keptL d L))) (.slice ka (keptL d L).length kc) tv (.slice ka (keptL d L).length kc) (keptL d L) (wr.setCell ⟨rb, 3, none⟩ (.slice ka (keptL d L).length kc))) := HS.out.set3
      clear HS hse
      go_wp2
      go_end0
      exact ⟨rfl, _, HEn.out⟩
end Go.Proofs.Ytodncihjenlnjaa
