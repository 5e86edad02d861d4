/-
  What drawn segments are written as, and that it is read as them.
-/
import Derived.Test.YtjnlghngneonhaaSdE
import Derived.Test.YtjnlghngneonhaaSbC
import Derived.Test.YtjnlghngneonhaaScV
namespace Go.Proofs.Ytjnlghngneonhaa
open Go.ChangeShapes Go.WideShapes Go.ChangeAt Go.RowKit Go.Joins Go.Deep
set_option linter.unusedVariables false

theorem tg4_ok : tg4.all tagB = true := by decide +kernel
theorem tx8_ok : (tx8.all fun s => decide (s.size ≤ 80)) = true := by decide +kernel
theorem dr_sgB {c : CSg} (h : DrSg c) : sgB c = true := by
  obtain ⟨h1, h2, h3⟩ := h
  have a1 := List.all_eq_true.1 tg4_ok _ h1
  have a2 : prsB c.ps = true := List.all_eq_true.2 (fun s hs => List.all_eq_true.1 tx8_ok s (h3 s hs))
  unfold sgB
  rw [a1, a2, decide_eq_true (by omega)]
  rfl
theorem dr_sgOK {c : CSg} (h : DrSg c) : SgOK c := by
  obtain ⟨h1, h2, h3⟩ := h
  have a1 := List.all_eq_true.1 tg4_ok _ h1
  have e : c.nm.size = 3 := by
    unfold tagB at a1
    rw [Bool.and_eq_true] at a1
    exact of_decide_eq_true a1.1
  exact ⟨by omega, by omega, fun s hs => by have := of_decide_eq_true (List.all_eq_true.1 tx8_ok s (h3 s hs)); omega⟩
theorem sgsL_bytes {cs : List CSg} : ∀ x ∈ sgsL cs, 0 ≤ x ∧ x ≤ 255 := fun x hx => by
  unfold sgsL at hx
  obtain ⟨l, hl, hxl⟩ := List.mem_flatten.1 hx
  obtain ⟨c, _, rfl⟩ := List.mem_map.1 hl
  unfold sgL at hxl
  rcases List.mem_append.1 hxl with h | h
  · rcases List.mem_append.1 h with h | h
    · exact byL_mem h
    · unfold psL at h
      obtain ⟨l2, hl2, hx2⟩ := List.mem_flatten.1 h
      obtain ⟨s, _, rfl⟩ := List.mem_map.1 hl2
      unfold partL at hx2
      rcases List.mem_cons.1 hx2 with rfl | h3
      · omega
      · unfold escL at h3
        obtain ⟨l3, hl3, hx3⟩ := List.mem_flatten.1 h3
        obtain ⟨y, hy, rfl⟩ := List.mem_map.1 hl3
        have hyb := byL_mem hy
        unfold escC at hx3
        split at hx3
        · rcases List.mem_cons.1 hx3 with rfl | h4
          · omega
          · rw [List.mem_singleton] at h4; rw [h4]; exact hyb
        · rw [List.mem_singleton] at hx3; rw [hx3]; exact hyb
  · rw [List.mem_singleton] at h; omega
theorem byL_add (s t : ByteArray) : byL (s ++ t) = byL s ++ byL t := by
  unfold byL
  simp
theorem sgsL_add (a b : List CSg) : sgsL (a ++ b) = sgsL a ++ sgsL b := by unfold sgsL; rw [List.map_append, List.flatten_append]
theorem dr_text {cs : List CSg} (hl : cs.length ≤ 6) (hd : ∀ c ∈ cs, DrSg c) : sgC cs = 0 ∧ byL (sgT cs) = sgsL cs ∧ (sgT cs).size ≤ 24000 := by
  have h1 : cs.all sgB = true := List.all_eq_true.2 (fun c hc => dr_sgB (hd c hc))
  have h2 := sgsL_len h1
  have h3 : sgC cs = 0 := by
    unfold sgC sgsB
    rw [if_neg (by omega), h1, decide_eq_true (by omega : cs.length ≤ 200), if_neg (by simp), if_neg (by omega)]
  have h4 : byL (sgT cs) = sgsL cs := by
    unfold sgT
    rw [if_pos h3]
    exact byL_txL _ sgsL_bytes
  exact ⟨h3, h4, by rw [← byL_len, h4]; omega⟩
theorem dr_read {cs : List CSg} (hl : cs.length ≤ 6) (hd : ∀ c ∈ cs, DrSg c) : rsgR (sgT cs) = (0, 0, cs) := by
  obtain ⟨h1, h2, h3⟩ := dr_text hl hd
  exact rsg_back _ cs (by omega) h2 (fun c hc => dr_sgB (hd c hc)) (by omega)
theorem dr_read2 {cs ds : List CSg} (hl : cs.length ≤ 6) (hd : ∀ c ∈ cs, DrSg c) (kl : ds.length ≤ 6) (kd : ∀ c ∈ ds, DrSg c) : rsgR (sgT cs ++ sgT ds) = (0, 0, cs ++ ds) := by
  obtain ⟨h1, h2, h3⟩ := dr_text hl hd
  obtain ⟨k1, k2, k3⟩ := dr_text kl kd
  refine rsg_back _ (cs ++ ds) ?_ ?_ (fun c hc => ?_) (by simp; omega)
  · rw [← byL_len, byL_add, List.length_append, byL_len, byL_len]; omega
  · rw [byL_add, sgsL_add, h2, k2]
  · rcases List.mem_append.1 hc with h | h
    · exact dr_sgB (hd c h)
    · exact dr_sgB (kd c h)
/-- What a reader answers may be read. -/
theorem AnsRd.spr {w w' : World} {E : List SgE} {la : Option Addr} {lk : Nat} (h1 : w'.ownsRow w.heap.size 43 2 (.slice la E.length lk) E.length (sgV E)) (h2 : ∀ e ∈ E, w'.ownsRow w.heap.size 9 1 e.row e.c.ps.length (strV e.c.ps)) (h3 : E.Pairwise fun e e' => ∀ q, e.row.ownBlock = some q → e'.row.ownBlock ≠ some q) (hb : Below w.heap.size w w') : SpR w.heap.size E la lk w' := ⟨h1, h2, h3, hb.size⟩
/-- A row of segments whose parts may be read. -/
theorem reads_row {W : World} {B : Nat} {E : List SgE} {va : Option Addr} {vc : Nat} (h : W.ownsRow B 43 2 (.slice va E.length vc) E.length (sgV E)) (hk : ∀ e ∈ E, e.c.ps.length ≤ e.k) (hr : ∀ e ∈ E, ReadsS W.heap.size W e.a e.c.ps) : ReadsSg W.heap.size W va (E.map (·.c)) := by
  rcases Nat.eq_zero_or_pos E.length with h0 | h0
  · exact .inl (by rw [List.length_eq_zero_iff.1 h0]; rfl)
  · obtain ⟨g, cp, hq⟩ := row_some h h0
    simp only [Value.slice.injEq, true_and] at hq
    obtain ⟨rfl, rfl⟩ := hq
    refine .inr ⟨g, 0, rfl, (row_lt h g rfl).2, fun i hi => ?_⟩
    rw [List.length_map] at hi
    have k := sgV_at E i hi
    have hm := getE_mem hi
    rw [getE_map hi]
    refine ⟨(E.getD i zE).a, (E.getD i zE).k, ⟨?_, ?_⟩, hk _ hm, hr _ hm⟩
    · rw [Nat.zero_add, h.cellAt (i * 2) (by omega)]; exact k.1
    · rw [Nat.zero_add, h.cellAt (i * 2 + 1) (by omega)]; exact k.2
end Go.Proofs.Ytjnlghngneonhaa
