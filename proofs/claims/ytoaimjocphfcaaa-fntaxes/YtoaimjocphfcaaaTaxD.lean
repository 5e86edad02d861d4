/-
  Contract of the program's tableOfRows, for every list of rows: false unless they are right; else the table of them.
-/
import Derived.Test.YtoaimjocphfcaaaTaxC
namespace Go.Proofs.Ytoaimjocphfcaaa
open Go.ChangeShapes Go.WideShapes Go.ChangeAt Go.RowKit
set_option linter.unusedVariables false

/-- The rows of one class and place. -/
def groups (rs : List TR) (c : Int) (s : ByteArray) : List TR := rs.filter fun q => decide (q.cl = c ∧ q.pl = s)
theorem bytes_eq (x y : ByteArray) : (x.toList == y.toList) = decide (x = y) := by
  rw [Bool.eq_iff_iff]
  simp only [beq_iff_eq, decide_eq_true_eq]
  constructor
  · intro h
    rw [ByteArray.toList_eq, ByteArray.toList_eq] at h
    have : x.data = y.data := Array.toList_inj.mp h
    cases x; cases y; simp at this; rw [this]
  · intro h; rw [h]
theorem groups_any (rs : List TR) (r : TR) : (groups rs r.cl r.pl).any (fun q => meets q r) = rs.any (fun q => clash q r) := by
  unfold groups
  rw [List.any_filter]
  congr 1
  funext q
  unfold clash
  rw [bytes_eq]
  congr 1
  rw [Bool.eq_iff_iff]; simp
theorem groups_next (rs : List TR) (k : Nat) (h : k < rs.length) (c : Int) (s : ByteArray) :
    (if c = (rs.getD k tr0).cl ∧ s = (rs.getD k tr0).pl then groups (rs.take k) (rs.getD k tr0).cl (rs.getD k tr0).pl ++ [rs.getD k tr0] else groups (rs.take k) c s) = groups (rs.take (k + 1)) c s := by
  have e : rs.getD k tr0 = rs[k] := by simp [List.getD_eq_getElem?_getD, h]
  rw [e]
  unfold groups
  rw [List.take_succ_eq_append_getElem h, List.filter_append]
  by_cases q : c = rs[k].cl ∧ s = rs[k].pl
  · rw [if_pos q]
    obtain ⟨rfl, rfl⟩ := q
    simp
  · rw [if_neg q]
    have : ¬ (rs[k].cl = c ∧ rs[k].pl = s) := fun x => q ⟨x.1.symm, x.2.symm⟩
    simp [this]
theorem groups_len (rs : List TR) (c : Int) (s : ByteArray) : (groups rs c s).length ≤ rs.length := List.length_filter_le _ _

theorem getD_tr' {P : TR → Prop} {rs : List TR} (h : ∀ r ∈ rs, P r) {k : Nat} (hk : k < rs.length) : P (rs.getD k tr0) := by
  have e : rs.getD k tr0 = rs[k] := by simp [List.getD_eq_getElem?_getD, hk]
  rw [e]; exact h _ (List.getElem_mem _)

theorem rowInfo : (Try.prog.info? 45).map (fun i => (i.zero, i.size, i.bytes)) = some (some (.agg #[.int .i64 0, .string ⟨#[]⟩, .int .i64 0, .int .i64 0, .int .i64 0, .int .i64 0]), 6, 56) := by kernel_rfl
theorem oneRow (r : TR) : ∀ u ∈ rowCells r, u.oneCell' = true := fun u hu => by
  simp [rowCells] at hu; rcases hu with rfl | rfl | rfl | rfl | rfl | rfl <;> rfl
def TablePost (rs : List TR) (w : World) (e : Ending) (w' : World) : Prop :=
  (trAll rs = false ∧ e = .returned (.tuple #[.map none, .bool false]) ∧ Below w.heap.size w w') ∨
  (trAll rs = true ∧ rs.length ≤ 60 ∧ ∃ b, e = .returned (.tuple #[.map (some b), .bool true]) ∧ Tab w' b (b + 1) rs.length (groups rs) ∧ w.heap.size ≤ b ∧ Below w.heap.size w w')

theorem keepT8 {W w1 : World} {B b6 b7 : Nat} {av : Option Addr} {L : List TR} {M : Obj} {x0 x1 x2 x3 x4 x5 y0 y1 : Value} (hb : Below W.heap.size W w1)
    (h : (W.cell? ⟨b6, 0, none⟩ = some x0 ∧ W.cell? ⟨b6, 1, none⟩ = some x1 ∧ W.cell? ⟨b6, 2, none⟩ = some x2 ∧ W.cell? ⟨b6, 3, none⟩ = some x3 ∧ W.cell? ⟨b6, 4, none⟩ = some x4 ∧ W.cell? ⟨b6, 5, none⟩ = some x5) ∧ (W.cell? ⟨b7, 0, none⟩ = some y0 ∧ W.cell? ⟨b7, 1, none⟩ = some y1) ∧ W.heap[B]? = some M ∧ (b6 < W.heap.size ∧ b7 < W.heap.size ∧ B < W.heap.size) ∧ ReadsT W.heap.size W av L) :
    (w1.cell? ⟨b6, 0, none⟩ = some x0 ∧ w1.cell? ⟨b6, 1, none⟩ = some x1 ∧ w1.cell? ⟨b6, 2, none⟩ = some x2 ∧ w1.cell? ⟨b6, 3, none⟩ = some x3 ∧ w1.cell? ⟨b6, 4, none⟩ = some x4 ∧ w1.cell? ⟨b6, 5, none⟩ = some x5) ∧ (w1.cell? ⟨b7, 0, none⟩ = some y0 ∧ w1.cell? ⟨b7, 1, none⟩ = some y1) ∧ w1.heap[B]? = some M ∧ (b6 < w1.heap.size ∧ b7 < w1.heap.size ∧ B < w1.heap.size) ∧ ReadsT w1.heap.size w1 av L := by
  obtain ⟨⟨h0, h1, h2, h3, h4, h5⟩, ⟨k0, k1⟩, hM, ⟨l6, l7, lB⟩, hr⟩ := h
  obtain ⟨hc, _, hz⟩ := bfacts hb
  exact ⟨⟨(hc _ _ l6).trans h0, (hc _ _ l6).trans h1, (hc _ _ l6).trans h2, (hc _ _ l6).trans h3, (hc _ _ l6).trans h4, (hc _ _ l6).trans h5⟩, ⟨(hc _ _ l7).trans k0, (hc _ _ l7).trans k1⟩, (hb.block _ lB).trans hM, ⟨hz _ l6, hz _ l7, hz _ lB⟩, (hr.below hb).mono hb.size⟩

set_option maxHeartbeats 4000000 in
set_option maxRecDepth 4000 in
theorem table_any (a : Option Addr) (cap : Nat) (rs : List TR) (hl : rs.length ≤ 100000000) (hp : ∀ r ∈ rs, TrOK r) (w : World) (hr : ReadsT w.heap.size w a rs) :
    Calls Try.prog 13 #[.slice a rs.length cap] w (TablePost rs w) := by
  have HR : Hid (ReadsT w.heap.size w a rs) := hr
  have HOK : Hid (∀ r ∈ rs, TrOK r) := hp
  clear hr hp
  by_cases h60 : (60 : Int) < (rs.length : Int)
  · have HA : Hid (trAll rs = false) := by show _ = _; unfold trAll; rw [if_pos (by omega)]
    go_enter Try.func13, Try.ntmps13
    go_wp2
    go_ret2
    exact .inl ⟨HA.out, rfl, Below.refl _ _⟩
  have HA : Hid (trAll rs = trGo rs (rs.length - 0) 0) := by show _ = _; unfold trAll; rw [if_neg (by omega)]; rfl
  have hmm := @run_makeMap Try.prog
  have HT0 : Hid (Tab (w.alloc (.map #[] 0)) w.heap.size (w.heap.size + 1) 0 (groups (rs.take 0))) := Tab.made w
  go_enter Try.func13, Try.ntmps13
  go_wp2
  clear hmm
  go_loopw [6, 7, 14] (fun _ _ c wr => ∃ k : Nat, k ≤ rs.length ∧ c = .int .i64 (k : Int) ∧ trAll rs = trGo rs (rs.length - k) k ∧ Tab wr w.heap.size (w.heap.size + 1) k (groups (rs.take k)) ∧ Below w.heap.size w wr) (fun _ _ c _ => rs.length - (intOf c).toNat)
  case atStart => exact ⟨0, Nat.zero_le _, rfl, HA.out, HT0.out, below_alloc w (.map #[] 0)⟩
  case round =>
    clear HT0
    obtain ⟨k, hk, rfl, hf, hT, hb⟩ := hrel
    have HF : Hid (trAll rs = trGo rs (rs.length - k) k) := hf
    have HB : Hid (Below w.heap.size w wr) := hb
    have HT : Hid (Tab wr w.heap.size (w.heap.size + 1) k (groups (rs.take k))) := hT
    have hBw : w.heap.size < wr.heap.size := hT.lt
    clear hf hb hT
    by_cases hlt : k < rs.length
    · have hlt' : (k : Int) < (rs.length : Int) := by omega
      rcases HR.out with h | ⟨b0, o0, ha, hB0, ia⟩
      · rw [h] at hlt; simp at hlt
      obtain ⟨c0, c1, c2, c3, c4, c5⟩ := (ia.below HB.out hB0) k hlt
      have HS : Hid (trAll rs = (trOne (rs.getD k tr0) && !((rs.take k).any fun q => clash q (rs.getD k tr0)) && trGo rs (rs.length - (k + 1)) (k + 1))) := HF.out.trans (trGo_step rs k hlt)
      have hok := getD_tr' HOK.out hlt
      have HG : Hid (∀ c s, (if c = (rs.getD k tr0).cl ∧ s = (rs.getD k tr0).pl then groups (rs.take k) (rs.getD k tr0).cl (rs.getD k tr0).pl ++ [rs.getD k tr0] else groups (rs.take k) c s) = groups (rs.take (k + 1)) c s) := fun c s => groups_next rs k hlt c s
      have HGa : Hid ((groups (rs.take k) (rs.getD k tr0).cl (rs.getD k tr0).pl).any (fun q => meets q (rs.getD k tr0)) = (rs.take k).any (fun q => clash q (rs.getD k tr0))) := groups_any (rs.take k) (rs.getD k tr0)
      have hgl := groups_len (rs.take k) (rs.getD k tr0).cl (rs.getD k tr0).pl
      rw [List.length_take] at hgl
      rw [ha]
      clear ia
      generalize rs.getD k tr0 = r at *
      obtain ⟨rc, rp, rf, rt, rn, rd⟩ := r
      dsimp only at c0 c1 c2 c3 c4 c5 HG HGa hgl
      have hps : rp.size ≤ 2000000 := hok
      have hrow := fun w => rowOK_any rc rp rf rt rn rd hps w
      have HT7 : Hid (Tab ((wr.alloc (Obj.cells #[.int .i64 rc, .string rp, .int .i64 rf, .int .i64 rt, .int .i64 rn, .int .i64 rd] 45)).alloc (Obj.cells #[.int .i64 rc, .string rp] 69)) w.heap.size (w.heap.size + 1) k (groups (rs.take k))) := (HT.out.alloc _).alloc _
      have HB7 : Hid (Below w.heap.size w ((wr.alloc (Obj.cells #[.int .i64 rc, .string rp, .int .i64 rf, .int .i64 rt, .int .i64 rn, .int .i64 rd] 45)).alloc (Obj.cells #[.int .i64 rc, .string rp] 69))) := (HB.out.alloc (by omega) _).alloc (by simp; omega) _
      have hb7e : (wr.alloc (Obj.cells #[.int .i64 rc, .string rp, .int .i64 rf, .int .i64 rt, .int .i64 rn, .int .i64 rd] 45)).heap.size = wr.heap.size + 1 := by simp
      have HC7 : Hid (∀ (M : Obj) (av : Option Addr) (L : List TR), ((wr.alloc (Obj.cells #[.int .i64 rc, .string rp, .int .i64 rf, .int .i64 rt, .int .i64 rn, .int .i64 rd] 45)).alloc (Obj.cells #[.int .i64 rc, .string rp] 69)).heap[w.heap.size]? = some M → ReadsT ((wr.alloc (Obj.cells #[.int .i64 rc, .string rp, .int .i64 rf, .int .i64 rt, .int .i64 rn, .int .i64 rd] 45)).alloc (Obj.cells #[.int .i64 rc, .string rp] 69)).heap.size ((wr.alloc (Obj.cells #[.int .i64 rc, .string rp, .int .i64 rf, .int .i64 rt, .int .i64 rn, .int .i64 rd] 45)).alloc (Obj.cells #[.int .i64 rc, .string rp] 69)) av L → (fun W => (W.cell? ⟨wr.heap.size, 0, none⟩ = some (.int .i64 rc) ∧ W.cell? ⟨wr.heap.size, 1, none⟩ = some (.string rp) ∧ W.cell? ⟨wr.heap.size, 2, none⟩ = some (.int .i64 rf) ∧ W.cell? ⟨wr.heap.size, 3, none⟩ = some (.int .i64 rt) ∧ W.cell? ⟨wr.heap.size, 4, none⟩ = some (.int .i64 rn) ∧ W.cell? ⟨wr.heap.size, 5, none⟩ = some (.int .i64 rd)) ∧ (W.cell? ⟨(wr.heap.size + 1), 0, none⟩ = some (.int .i64 rc) ∧ W.cell? ⟨(wr.heap.size + 1), 1, none⟩ = some (.string rp)) ∧ W.heap[w.heap.size]? = some M ∧ (wr.heap.size < W.heap.size ∧ (wr.heap.size + 1) < W.heap.size ∧ w.heap.size < W.heap.size) ∧ ReadsT W.heap.size W av L) ((wr.alloc (Obj.cells #[.int .i64 rc, .string rp, .int .i64 rf, .int .i64 rt, .int .i64 rn, .int .i64 rd] 45)).alloc (Obj.cells #[.int .i64 rc, .string rp] 69)).drew) := fun M av L hM hr => by
        have e6 : ((wr.alloc (Obj.cells #[.int .i64 rc, .string rp, .int .i64 rf, .int .i64 rt, .int .i64 rn, .int .i64 rd] 45)).alloc (Obj.cells #[.int .i64 rc, .string rp] 69)).heap[wr.heap.size]? = some (.cells #[.int .i64 rc, .string rp, .int .i64 rf, .int .i64 rt, .int .i64 rn, .int .i64 rd] 45 (0, 0)) := (Below.heap_alloc _ _ _ (by simp)).trans (heapNew wr _)
        have e7 : ((wr.alloc (Obj.cells #[.int .i64 rc, .string rp, .int .i64 rf, .int .i64 rt, .int .i64 rn, .int .i64 rd] 45)).alloc (Obj.cells #[.int .i64 rc, .string rp] 69)).heap[wr.heap.size + 1]? = some (.cells #[.int .i64 rc, .string rp] 69 (0, 0)) := by
          rw [← hb7e]; exact heapNew _ _
        refine ⟨⟨?_, ?_, ?_, ?_, ?_, ?_⟩, ⟨?_, ?_⟩, hM, ⟨(Array.getElem?_eq_some_iff.1 e6).1, (Array.getElem?_eq_some_iff.1 e7).1, (Array.getElem?_eq_some_iff.1 hM).1⟩, hr⟩
        all_goals first | (show World.cell? ((wr.alloc (Obj.cells #[.int .i64 rc, .string rp, .int .i64 rf, .int .i64 rt, .int .i64 rn, .int .i64 rd] 45)).alloc (Obj.cells #[.int .i64 rc, .string rp] 69)) _ = _; rw [cell_of_row _ _ _ _ _ _ e6]; rfl) | (show World.cell? ((wr.alloc (Obj.cells #[.int .i64 rc, .string rp, .int .i64 rf, .int .i64 rt, .int .i64 rn, .int .i64 rd] 45)).alloc (Obj.cells #[.int .i64 rc, .string rp] 69)) _ = _; rw [cell_of_row _ _ _ _ _ _ e7]; rfl)
      clear hb7e
      cases ho : trOne ⟨rc, rp, rf, rt, rn, rd⟩
      · have HE : Hid (trAll rs = false) := by show _ = _; rw [HS.out, ho]; rfl
        rw [ho] at hrow
        obtain ⟨M, hM⟩ : ∃ M, ((wr.alloc (Obj.cells #[.int .i64 rc, .string rp, .int .i64 rf, .int .i64 rt, .int .i64 rn, .int .i64 rd] 45)).alloc (Obj.cells #[.int .i64 rc, .string rp] 69)).heap[w.heap.size]? = some M := by obtain ⟨D, V, ⟨es, clock, hb, _⟩, _⟩ := HT7.out; exact ⟨_, hb⟩
        obtain ⟨av, L, hr7⟩ : ∃ av L, ReadsT ((wr.alloc (Obj.cells #[.int .i64 rc, .string rp, .int .i64 rf, .int .i64 rt, .int .i64 rn, .int .i64 rd] 45)).alloc (Obj.cells #[.int .i64 rc, .string rp] 69)).heap.size ((wr.alloc (Obj.cells #[.int .i64 rc, .string rp, .int .i64 rf, .int .i64 rt, .int .i64 rn, .int .i64 rd] 45)).alloc (Obj.cells #[.int .i64 rc, .string rp] 69)) av L := ⟨none, [], .inl rfl⟩
        have HS7 : Hid _ := HC7.out M av L hM hr7
        clear ho hM hr7 HC7
        go_wp2
        refine wp_region_held_drew (S := fun W => (W.cell? ⟨wr.heap.size, 0, none⟩ = some (.int .i64 rc) ∧ W.cell? ⟨wr.heap.size, 1, none⟩ = some (.string rp) ∧ W.cell? ⟨wr.heap.size, 2, none⟩ = some (.int .i64 rf) ∧ W.cell? ⟨wr.heap.size, 3, none⟩ = some (.int .i64 rt) ∧ W.cell? ⟨wr.heap.size, 4, none⟩ = some (.int .i64 rn) ∧ W.cell? ⟨wr.heap.size, 5, none⟩ = some (.int .i64 rd)) ∧ (W.cell? ⟨(wr.heap.size + 1), 0, none⟩ = some (.int .i64 rc) ∧ W.cell? ⟨(wr.heap.size + 1), 1, none⟩ = some (.string rp)) ∧ W.heap[w.heap.size]? = some M ∧ (wr.heap.size < W.heap.size ∧ (wr.heap.size + 1) < W.heap.size ∧ w.heap.size < W.heap.size) ∧ ReadsT W.heap.size W av L) (by kernel_rfl) HS7.out (fun hH => ?_)
        refine wpAnyH_take (i := 0) (v := .agg #[.int .i64 rc, .string rp, .int .i64 rf, .int .i64 rt, .int .i64 rn, .int .i64 rd]) rfl (by kernel_rfl) (by kernel_rfl) (by kernel_rfl) (fun _ _ _ h => h) (Or.inl ⟨by rfl, fun w hSw => by obtain ⟨⟨s0, s1, s2, s3, s4, s5⟩, ⟨t0, t1⟩, sM, ⟨l6, l7, lB⟩, sr⟩ := hSw; go_simp⟩) hH ?_
        refine wpAnyH_ready (rs := [1]) (by kernel_rfl) (by simp) ?_
        refine AllReadyH.cons rfl (fun K hK => ?_) AllReadyH.nil
        go_simp
        go_at_call 27
        refine (hrow _).mono ?_
        rintro e w2 ⟨rfl, hb2⟩
        refine hK.out _ _ (keepT8 hb2 hH) (fun h2 => ?_)
        clear hK K
        refine wpAnyH_take (i := 2) (v := .bool true) rfl (by kernel_rfl) (by kernel_rfl) (by kernel_rfl) (fun _ _ _ h => h) (Or.inl ⟨by rfl, fun w hSw => by obtain ⟨⟨s0, s1, s2, s3, s4, s5⟩, ⟨t0, t1⟩, sM, ⟨l6, l7, lB⟩, sr⟩ := hSw; go_simp⟩) h2 ?_
        refine wpAnyH_take (i := 3) (v := .bool true) rfl (by kernel_rfl) (by kernel_rfl) (by kernel_rfl) (fun _ _ _ h => h) (Or.inl ⟨by rfl, fun w hSw => by obtain ⟨⟨s0, s1, s2, s3, s4, s5⟩, ⟨t0, t1⟩, sM, ⟨l6, l7, lB⟩, sr⟩ := hSw; go_simp⟩) h2 ?_
        refine wpAnyH_take (i := 4) (v := undef) rfl (by kernel_rfl) (by kernel_rfl) (by kernel_rfl) (fun _ _ _ h => h) (Or.inr ⟨by rfl, rfl⟩) h2 ?_
        refine wpAnyH_take (i := 5) (v := undef) rfl (by kernel_rfl) (by kernel_rfl) (by kernel_rfl) (fun _ _ _ h => h) (Or.inr ⟨by rfl, rfl⟩) h2 ?_
        refine wpAnyH_take (i := 6) (v := undef) rfl (by kernel_rfl) (by kernel_rfl) (by kernel_rfl) (fun _ _ _ h => h) (Or.inr ⟨by rfl, rfl⟩) h2 ?_
        refine wpAnyH_take (i := 7) (v := undef) rfl (by kernel_rfl) (by kernel_rfl) (by kernel_rfl) (fun _ _ _ h => h) (Or.inr ⟨by rfl, rfl⟩) h2 ?_
        refine wpAnyH_take (i := 8) (v := undef) rfl (by kernel_rfl) (by kernel_rfl) (by kernel_rfl) (fun _ _ _ h => h) (Or.inr ⟨by rfl, rfl⟩) h2 ?_
        refine wpAnyH_take (i := 9) (v := .bool true) rfl (by kernel_rfl) (by kernel_rfl) (by kernel_rfl) (fun _ _ _ h => h) (Or.inl ⟨by rfl, fun w hSw => by obtain ⟨⟨s0, s1, s2, s3, s4, s5⟩, ⟨t0, t1⟩, sM, ⟨l6, l7, lB⟩, sr⟩ := hSw; go_simp⟩) h2 ?_
        refine wpAnyH_done (by kernel_rfl) ?_ _
        try simp [Act.put]
        go_wp2
        go_ret2
        exact .inl ⟨HE.out, rfl, chain HB7.out.drew hb2⟩
      · have hinB : inB rc 1 9 = true := by
          have e : trOne ⟨rc, rp, rf, rt, rn, rd⟩ = (inB rc 1 9 && (rp.toList.isEmpty || nameB rp) && decide (0 ≤ rf ∧ rf < rt ∧ rt ≤ 100000) && rateB rn rd) := rfl
          rw [e] at ho
          simp only [Bool.and_eq_true] at ho
          exact ho.1.1.1
        have hkey : KeyOK rc rp := by
          have : 1 ≤ rc ∧ rc ≤ 9 := by unfold inB at hinB; simpa using hinB
          exact ⟨WalkArith.wf_i64 (by omega), by unfold maxLen; omega⟩
        obtain ⟨v, M, hM, hlook, hown⟩ := HT7.out.look hkey
        obtain ⟨av, cv, rfl, hr7⟩ := own_form hown
        have HS' : Hid (trAll rs = (!((rs.take k).any fun q => clash q ⟨rc, rp, rf, rt, rn, rd⟩) && trGo rs (rs.length - (k + 1)) (k + 1))) := by show _ = _; rw [HS.out, ho]; rfl
        rw [ho] at hrow
        have HS7 : Hid _ := HC7.out M av _ hM hr7
        have hany := fun w h => anyMeets_any av cv (groups (rs.take k) rc rp) (by omega) rc rp rf rt rn rd w h
        rw [HGa.out] at hany
        clear ho hM hr7 HC7 hown hinB HS HGa
        generalize hLe : groups (rs.take k) rc rp = L at *
        generalize hmb : ((rs.take k).any fun q => clash q ⟨rc, rp, rf, rt, rn, rd⟩) = mb at *
        have HLe : Hid (groups (rs.take k) rc rp = L) := hLe
        clear hLe hmb
        go_wp2
        refine wp_region_held_drew (S := fun W => (W.cell? ⟨wr.heap.size, 0, none⟩ = some (.int .i64 rc) ∧ W.cell? ⟨wr.heap.size, 1, none⟩ = some (.string rp) ∧ W.cell? ⟨wr.heap.size, 2, none⟩ = some (.int .i64 rf) ∧ W.cell? ⟨wr.heap.size, 3, none⟩ = some (.int .i64 rt) ∧ W.cell? ⟨wr.heap.size, 4, none⟩ = some (.int .i64 rn) ∧ W.cell? ⟨wr.heap.size, 5, none⟩ = some (.int .i64 rd)) ∧ (W.cell? ⟨(wr.heap.size + 1), 0, none⟩ = some (.int .i64 rc) ∧ W.cell? ⟨(wr.heap.size + 1), 1, none⟩ = some (.string rp)) ∧ W.heap[w.heap.size]? = some M ∧ (wr.heap.size < W.heap.size ∧ (wr.heap.size + 1) < W.heap.size ∧ w.heap.size < W.heap.size) ∧ ReadsT W.heap.size W av L) (by kernel_rfl) HS7.out (fun hH => ?_)
        refine wpAnyH_take (i := 0) (v := .agg #[.int .i64 rc, .string rp, .int .i64 rf, .int .i64 rt, .int .i64 rn, .int .i64 rd]) rfl (by kernel_rfl) (by kernel_rfl) (by kernel_rfl) (fun _ _ _ h => h) (Or.inl ⟨by rfl, fun w hSw => by obtain ⟨⟨s0, s1, s2, s3, s4, s5⟩, ⟨t0, t1⟩, sM, ⟨l6, l7, lB⟩, sr⟩ := hSw; go_simp⟩) hH ?_
        refine wpAnyH_ready (rs := [1]) (by kernel_rfl) (by simp) ?_
        refine AllReadyH.cons rfl (fun K hK => ?_) AllReadyH.nil
        go_simp
        go_at_call 27
        refine (hrow _).mono ?_
        rintro e w2 ⟨rfl, hb2⟩
        refine hK.out _ _ (keepT8 hb2 hH) (fun h2 => ?_)
        clear hK K
        refine wpAnyH_take (i := 2) (v := .bool false) rfl (by kernel_rfl) (by kernel_rfl) (by kernel_rfl) (fun _ _ _ h => h) (Or.inl ⟨by rfl, fun w hSw => by obtain ⟨⟨s0, s1, s2, s3, s4, s5⟩, ⟨t0, t1⟩, sM, ⟨l6, l7, lB⟩, sr⟩ := hSw; go_simp⟩) h2 ?_
        refine wpAnyH_take (i := 3) (v := .bool false) rfl (by kernel_rfl) (by kernel_rfl) (by kernel_rfl) (fun _ _ _ h => h) (Or.inl ⟨by rfl, fun w hSw => by obtain ⟨⟨s0, s1, s2, s3, s4, s5⟩, ⟨t0, t1⟩, sM, ⟨l6, l7, lB⟩, sr⟩ := hSw; go_simp⟩) h2 ?_
        refine wpAnyH_take (i := 4) (v := .map (some w.heap.size)) rfl (by kernel_rfl) (by kernel_rfl) (by kernel_rfl) (fun _ _ _ h => h) (Or.inl ⟨by rfl, fun w hSw => by obtain ⟨⟨s0, s1, s2, s3, s4, s5⟩, ⟨t0, t1⟩, sM, ⟨l6, l7, lB⟩, sr⟩ := hSw; go_simp⟩) h2 ?_
        refine wpAnyH_take (i := 5) (v := .agg #[.int .i64 rc, .string rp]) rfl (by kernel_rfl) (by kernel_rfl) (by kernel_rfl) (fun _ _ _ h => h) (Or.inl ⟨by rfl, fun w hSw => by obtain ⟨⟨s0, s1, s2, s3, s4, s5⟩, ⟨t0, t1⟩, sM, ⟨l6, l7, lB⟩, sr⟩ := hSw; go_simp⟩) h2 ?_
        refine wpAnyH_take (i := 6) (v := .slice av L.length cv) rfl (by kernel_rfl) (by kernel_rfl) (by kernel_rfl) (fun _ _ _ h => h) (Or.inl ⟨by rfl, fun w hSw => by obtain ⟨⟨s0, s1, s2, s3, s4, s5⟩, ⟨t0, t1⟩, sM, ⟨l6, l7, lB⟩, sr⟩ := hSw; have hL := hlook w sM; go_simp⟩) h2 ?_
        refine wpAnyH_take (i := 7) (v := .agg #[.int .i64 rc, .string rp, .int .i64 rf, .int .i64 rt, .int .i64 rn, .int .i64 rd]) rfl (by kernel_rfl) (by kernel_rfl) (by kernel_rfl) (fun _ _ _ h => h) (Or.inl ⟨by rfl, fun w hSw => by obtain ⟨⟨s0, s1, s2, s3, s4, s5⟩, ⟨t0, t1⟩, sM, ⟨l6, l7, lB⟩, sr⟩ := hSw; go_simp⟩) h2 ?_
        refine wpAnyH_ready (rs := [8]) (by kernel_rfl) (by simp) ?_
        refine AllReadyH.cons rfl (fun K hK => ?_) AllReadyH.nil
        go_simp
        go_at_call 28
        refine (hany _ h2.2.2.2.2).mono ?_
        rintro e w3 ⟨rfl, hb3⟩
        refine hK.out _ _ (keepT8 hb3 h2) (fun h3 => ?_)
        clear hK K
        refine wpAnyH_take (i := 9) (v := .bool mb) rfl (by kernel_rfl) (by kernel_rfl) (by kernel_rfl) (fun _ _ _ h => h) (Or.inl ⟨by rfl, fun w hSw => by obtain ⟨⟨s0, s1, s2, s3, s4, s5⟩, ⟨t0, t1⟩, sM, ⟨l6, l7, lB⟩, sr⟩ := hSw; go_simp⟩) h3 ?_
        refine wpAnyH_done (by kernel_rfl) ?_ _
        try simp [Act.put]
        cases mb
        · have HE : Hid (trAll rs = trGo rs (rs.length - (k + 1)) (k + 1)) := by show _ = _; rw [HS'.out]; rfl
          have HT3 : Hid (Tab w3 w.heap.size (w.heap.size + 1) k (groups (rs.take k))) := (HT7.out.drew.later hb2).later hb3
          have HB3 : Hid (Below w.heap.size w w3) := chain (chain HB7.out.drew hb2) hb3
          have hBw3 : w.heap.size < w3.heap.size := HT3.out.lt
          obtain ⟨⟨s0, s1, s2, s3, s4, s5⟩, ⟨t0, t1⟩, _, _, _⟩ := h3
          clear hb2 hb3 HT7 HB7 h2 hH HS7 hlook hany hrow HT HB HS' HF
          obtain ⟨v4, st, w4, hrun, hg4, hsz4, hown4, hback⟩ := (HT3.out.alloc (Obj.cells #[.int .i64 rc, .string rp, .int .i64 rf, .int .i64 rt, .int .i64 rn, .int .i64 rd] 45)).entry (by unfold maxLen; omega) hkey
          have HB4 : Hid (Below w.heap.size w w4) := (HB3.out.alloc (by omega) _).grown hg4 (by simp; omega) (fun q hq => by cases hq; exact Nat.le_refl _)
          have hsz4' : w4.heap.size = w3.heap.size + 1 := by rw [hsz4]; simp
          have hnew : w4.heap[w3.heap.size]? = some (.cells #[.int .i64 rc, .string rp, .int .i64 rf, .int .i64 rt, .int .i64 rn, .int .i64 rd] 45 (0, 0)) := (hg4.block w3.heap.size (by simp) (fun e => by simp at e; omega)).trans (heapNew w3 _)
          have HNew : Hid _ := hnew
          rw [HLe.out] at hown4 hback
          have HOwn4 : Hid (w4.ownsRow (w.heap.size + 1) 45 6 v4 L.length (trCells L)) := hown4
          have HBack : Hid _ := hback
          obtain ⟨i0, hi, hzz⟩ := Option.map_eq_some_iff.1 rowInfo
          simp only [Prod.mk.injEq] at hzz
          obtain ⟨hi0, hi1, hi2⟩ := hzz
          have HRun : Hid _ := hrun
          clear hnew hown4 hback hg4 hsz4 hrun
          go_wp2_with (first
            | (refine wpList_mapEntry rfl _ _ 48 rfl _ _ _ _ rfl rfl HRun.out ?_)
            | (at_builtin; refine wpList_append_lies _ rfl _ _ 23 rfl (w.heap.size + 1) 45 i0 (.agg #[.int .i64 0, .string ⟨#[]⟩, .int .i64 0, .int .i64 0, .int .i64 0, .int .i64 0]) 6 56 Try.underlying23 hi hi0 hi1 hi2 rfl (by decide) v4 L.length (trCells L) rfl HOwn4.out ⟨w3.heap.size, 0, none⟩ 1 1 (rowCells ⟨rc, rp, rf, rt, rn, rd⟩) rfl rfl (World.news_of_block HNew.out) (oneRow _) (by omega) (by unfold maxLen; omega) (by omega) (by omega) _ rfl ?_; intro g1 cp1 w5 hown5 hgrow5 hat5 hglt5; obtain ⟨w6, hst, hT6, hg6⟩ := HBack.out w5 _ ⟨rc, rp, rf, rt, rn, rd⟩ hgrow5 hown5 (by rcases hat5 with q | q; (exact .inl q); (exact .inr ⟨g1, rfl, (by simp; omega)⟩)); have HT6 : Hid (Tab w6 w.heap.size (w.heap.size + 1) (k + 1) (groups (rs.take (k + 1)))) := hT6.same HG.out; have HSt : Hid _ := hst; have HB6 : Hid (Below w.heap.size w w6) := (HB4.out.grown hgrow5 (by omega) (fun q hq => by have := (World.ownsRow.lt HOwn4.out q hq).1; omega)).grown hg6 (by have := hgrow5.size; omega) (fun q hq => by cases hq; exact Nat.le_refl _); clear hT6 hst hg6 hown5 hgrow5 hat5 hglt5)
            | (refine wpList_entryStore rfl _ _ _ 48 rfl _ _ _ _ rfl rfl rfl HSt.out ?_))
          exact ⟨⟨k + 1, by omega, by go_num, HE.out, HT6.out, HB6.out⟩, by simp [intOf]; omega⟩
        · have HE : Hid (trAll rs = false) := by show _ = _; rw [HS'.out]; rfl
          go_wp2
          go_ret2
          exact .inl ⟨HE.out, rfl, chain (chain HB7.out.drew hb2) hb3⟩
    · have hle : (rs.length : Int) ≤ (k : Int) := by omega
      obtain rfl : k = rs.length := by omega
      have HE : Hid (trAll rs = true) := by show _ = _; rw [HF.out, Nat.sub_self]; rfl
      have HTe : Hid (Tab wr w.heap.size (w.heap.size + 1) rs.length (groups rs)) := by have := HT.out; rwa [List.take_of_length_le (Nat.le_refl _)] at this
      go_wp2
      go_ret2
      exact .inr ⟨HE.out, by omega, w.heap.size, rfl, HTe.out, Nat.le_refl _, HB.out⟩
end Go.Proofs.Ytoaimjocphfcaaa
