/-
  Contract of the program's RosterOf, for all arguments.
-/
import Derived.Test.YteigbmdhfeagfaaWrE
import Derived.Test.YteigbmdhfeagfaaMqQ
import Derived.Test.YteigbmdhfeagfaaShelf
import Derived.Test.YteigbmdhfeagfaaRow1
namespace Go.Proofs.Yteigbmdhfeagfaa
open Go.ChangeShapes Go.WideShapes Go.ChangeAt Go.RowKit Go.Joins Go.Deep
set_option linter.unusedVariables false

def inW (L : List Int) : List Value := L.map (Value.int .i64)
theorem rowW_own {w w' : World} {g : Option Addr} {cp : Nat} {L : List Int} (h : w'.ownsRow w.heap.size 3 1 (.slice g L.length cp) L.length (inW L)) (hb : Below w.heap.size w w') : Own2 w.heap.size w' g L := by
  have hO : One w w.heap.size (.slice g L.length cp) L w' := ⟨h, hb.size, hb⟩
  exact hO.own2 rfl
def RsS (L : List Int) (co : Int) (w : World) (e : Ending) (w' : World) : Prop := ∃ q cq, e = .returned (.agg #[.slice q L.length cq, .int .i64 co]) ∧ RowI w.heap.size w'.heap.size w' q L ∧ Below w.heap.size w w'
def AnsR (code pl : Int) (L : List Int) (co : Int) (w : World) (e : Ending) (w' : World) : Prop := ∃ q cq, e = .returned (.tuple #[.agg #[.slice q L.length cq, .int .i64 co], .int .i64 code, .int .i64 pl]) ∧ RowI w.heap.size w'.heap.size w' q L ∧ Below w.heap.size w w'
theorem ansR_none {w w' : World} {c p : Int} (hb : Below w.heap.size w w') : AnsR c p [] 0 w (.returned (.tuple #[.agg #[.slice none 0 0, .int .i64 0], .int .i64 c, .int .i64 p])) w' := ⟨none, 0, rfl, .inl rfl, hb⟩
set_option maxHeartbeats 4000000 in
theorem roster_any (R : Nat → Int) (L : List Int) (hR : ∀ k, k < L.length → R k = L.getD k 0) (hL : L.length ≤ 8) (hR8 : R 8 = (L.length : Int)) (w : World) :
    Calls Try.prog 46 #[.agg (rtA R)] w (RsS L (R 19) w) := by
  have HCl : Hid (∀ (b : Nat) (W : World), RtAt R b W → Calls Try.prog 68 #[.slice (some ⟨b, 0, none⟩) L.length 8] W fun e w' => ∃ g cp, e = .returned (.slice g L.length cp) ∧ w'.ownsRow W.heap.size 3 1 (.slice g L.length cp) L.length (inW L) ∧ Below W.heap.size W w') := fun b W h => by
    have hc : ∀ j, j < L.length → W.cell? ⟨b, 0 + j, none⟩ = some (.int .i64 (L.getD j 0)) := fun j hj => by
      rw [Nat.zero_add, h.cell (by omega), hR j hj]
    refine (Try.slices_Clone_int b 0 L.length 8 L W (Nat.le_refl _) (by omega) hc).mono ?_
    rintro e w' ⟨v', rfl, ho, hne, hb⟩
    rw [List.take_length] at ho
    obtain ⟨g2, c2, rfl⟩ := row_slice ho
    exact ⟨g2, c2, rfl, ho, hb⟩
  obtain ⟨n, hn⟩ : ∃ n, L.length = n := ⟨_, rfl⟩
  have HN : Hid (L.length = n) := hn
  rw [hn] at HCl hL hR8
  have hn8 : (n : Int) ≤ 8 := by omega
  obtain ⟨co, hco⟩ : ∃ co, R 19 = co := ⟨_, rfl⟩
  have HCo : Hid (R 19 = co) := hco
  rw [hco]
  clear hco hn hR
  obtain ⟨rb, hrb⟩ : ∃ rb, rb = w.heap.size := ⟨_, rfl⟩
  obtain ⟨qb, hqb⟩ : ∃ qb, qb = w.heap.size + 1 := ⟨_, rfl⟩
  obtain ⟨W0, hW0⟩ : ∃ W0, W0 = (w.alloc (Obj.cells (rtA R) 83)).alloc (Obj.cells #[.slice none 0 0, .int .i64 0] 36) := ⟨_, rfl⟩
  have HE : Hid (W0 = (w.alloc (Obj.cells (rtA R) 83)).alloc (Obj.cells #[.slice none 0 0, .int .i64 0] 36) ∧ rb = w.heap.size ∧ qb = w.heap.size + 1) := ⟨hW0, hrb, hqb⟩
  have HL : Hid (Below w.heap.size w W0) := by show Below _ _ _; rw [hW0]; exact chain (below_alloc _ _) (below_alloc _ _)
  have HB : Hid (RtAt R rb W0 ∧ W0.heap[qb]? = some (.cells #[.slice none 0 0, .int .i64 0] 36 (0, 0))) := by
    refine ⟨?_, ?_⟩
    · show _ = _
      rw [hW0, hrb, Below.heap_alloc _ _ _ (by simp)]; exact heapNew _ _
    · rw [hW0, hqb]
      have := heapNew (w.alloc (Obj.cells (rtA R) 83)) (Obj.cells #[.slice none 0 0, .int .i64 0] 36)
      simpa using this
  have hlo : w.heap.size ≤ qb := by omega
  have HQ : Hid (qb < W0.heap.size) := blkLt HB.out.2
  clear hW0 hrb hqb
  go_enter Try.func46, Try.ntmps46
  go_upto_region 1 with fail
  rw [← HE.out.2.2, ← HE.out.2.1, ← HE.out.1]
  clear HE
  refine wp_region_z (S := fun W => Below W0.heap.size W0 W) 8 (by kernel_rfl) (below_drew _) (fun hH => ?_)
  generalize W0.drew = V0 at *
  refine wpAnyZ_take (i := 0) (v := .pointer (some ⟨rb, 0, none⟩)) rfl (by kernel_rfl) (by kernel_rfl) (by kernel_rfl) (by kernel_rfl) (fun _ _ _ h => h) (Or.inl ⟨by rfl, fun w hSw => by clear hSw; go_simp⟩) hH ?_
  refine wpAnyZ_take (i := 1) (v := .pointer (some ⟨rb, 8, none⟩)) rfl (by kernel_rfl) (by kernel_rfl) (by kernel_rfl) (by kernel_rfl) (fun _ _ _ h => h) (Or.inl ⟨by rfl, fun w hSw => by clear hSw; go_simp⟩) hH ?_
  try simp only [Act.put, List.setIfInBounds_toArray, List.set_cons_zero, List.set_cons_succ, List.getElem_toArray, List.getElem_cons_succ, List.getElem_cons_zero]
  refine wpAnyZ_take (i := 2) (v := .int .i64 (n : Int)) rfl (by kernel_rfl) (by kernel_rfl) (by kernel_rfl) (by kernel_rfl) (fun _ _ _ h => h) (Or.inl ⟨by rfl, fun w hSw => by have e0 := (HB.out.1.later hSw).cell (k := 8) (by omega); rw [hR8] at e0; clear hSw; go_simp⟩) hH ?_
  try simp only [Act.put, List.setIfInBounds_toArray, List.set_cons_zero, List.set_cons_succ, List.getElem_toArray, List.getElem_cons_succ, List.getElem_cons_zero]
  refine wpAnyZ_take (i := 3) (v := .slice (some ⟨rb, 0, none⟩) n 8) rfl (by kernel_rfl) (by kernel_rfl) (by kernel_rfl) (by kernel_rfl) (fun _ _ _ h => h) (Or.inl ⟨by rfl, fun w hSw => by clear hSw; go_simp⟩) hH ?_
  try simp only [Act.put, List.setIfInBounds_toArray, List.set_cons_zero, List.set_cons_succ, List.getElem_toArray, List.getElem_cons_succ, List.getElem_cons_zero]
  refine wpAnyZ_take (i := 5) (v := .pointer (some ⟨rb, 19, none⟩)) rfl (by kernel_rfl) (by kernel_rfl) (by kernel_rfl) (by kernel_rfl) (fun _ _ _ h => h) (Or.inl ⟨by rfl, fun w hSw => by clear hSw; go_simp⟩) hH ?_
  try simp only [Act.put, List.setIfInBounds_toArray, List.set_cons_zero, List.set_cons_succ, List.getElem_toArray, List.getElem_cons_succ, List.getElem_cons_zero]
  refine wpAnyZ_take (i := 6) (v := .int .i64 co) rfl (by kernel_rfl) (by kernel_rfl) (by kernel_rfl) (by kernel_rfl) (fun _ _ _ h => h) (Or.inl ⟨by rfl, fun w hSw => by have e0 := (HB.out.1.later hSw).cell (k := 19) (by omega); rw [HCo.out] at e0; clear hSw; go_simp⟩) hH ?_
  try simp only [Act.put, List.setIfInBounds_toArray, List.set_cons_zero, List.set_cons_succ, List.getElem_toArray, List.getElem_cons_succ, List.getElem_cons_zero]
  have HV : Hid (Below W0.heap.size W0 V0) := hH
  refine wpAnyZ_ready (rs := [4]) (by kernel_rfl) (by simp) ?_
  refine AllReadyZ.cons rfl (fun K hK => ?_) AllReadyZ.nil
  go_simp
  go_at_call 68
  refine (HCl.out rb V0 (HB.out.1.later HV.out)).mono ?_
  rintro e w2 ⟨g, cp, rfl, ho, hb2⟩
  have H2 : Hid (Below W0.heap.size W0 w2) := chain HV.out hb2
  have HR : Hid (RowI W0.heap.size w2.heap.size w2 g L) := by
    have k := rowW_own (w := V0) (g := g) (cp := cp) (L := L) (by rw [HN.out]; exact ho) hb2
    exact k.rowI.wide HV.out.size (Nat.le_refl _) (Nat.le_refl _)
  clear ho hb2
  refine hK.out _ _ (Or.inr H2.out) (fun _ => ?_)
  clear hK K
  try simp only [Act.put, List.setIfInBounds_toArray, List.set_cons_zero, List.set_cons_succ, List.getElem_toArray, List.getElem_cons_succ, List.getElem_cons_zero]
  refine wpAnyZ_take (i := 7) (v := .agg #[.slice g n cp, .int .i64 co]) rfl (by kernel_rfl) (by kernel_rfl) (by kernel_rfl) (by kernel_rfl) (fun _ _ _ h => h) (Or.inl ⟨by rfl, fun w hSw => by clear hSw; go_simp⟩) H2.out ?_
  try simp only [Act.put, List.setIfInBounds_toArray, List.set_cons_zero, List.set_cons_succ, List.getElem_toArray, List.getElem_cons_succ, List.getElem_cons_zero]
  have hq2 := (H2.out.block qb HQ.out).trans HB.out.2
  have y0 := blkCell hq2 0 _ rfl
  have y1 := blkCell hq2 1 _ rfl
  simp only [List.getElem_toArray, List.getElem_cons_zero, List.getElem_cons_succ] at y0 y1
  have z0 := blkFree hq2 0
  have z1 := blkFree hq2 1
  refine wpAnyZ_ready (rs := [8]) (by kernel_rfl) (by simp) ?_
  refine AllReadyZ.cons rfl (fun K hK => ?_) AllReadyZ.nil
  go_simp
  refine hK.out _ _ (Or.inl rfl) (fun _ => ?_)
  clear hK K
  try simp only [Act.put, List.setIfInBounds_toArray, List.set_cons_zero, List.set_cons_succ, List.getElem_toArray, List.getElem_cons_succ, List.getElem_cons_zero]
  refine wpAnyZ_done (by kernel_rfl) ?_ _
  clear hH
  have h5 := heap_setCell_same _ _ 1 _ _ (.int .i64 co) (heap_setCell_same _ _ 0 _ _ (.slice g n cp) hq2)
  simp only [List.setIfInBounds_toArray, List.set_cons_zero, List.set_cons_succ] at h5
  obtain ⟨W5, hW5⟩ : ∃ W5, W5 = (w2.setCell ⟨qb, 0, none⟩ (.slice g n cp)).setCell ⟨qb, 1, none⟩ (.int .i64 co) := ⟨_, rfl⟩
  rw [← hW5] at h5 ⊢
  have HW5 : Hid (W5 = (w2.setCell ⟨qb, 0, none⟩ (.slice g n cp)).setCell ⟨qb, 1, none⟩ (.int .i64 co)) := hW5
  clear y0 y1 z0 z1 hW5
  have x0 := blkCell h5 0 _ rfl
  have x1 := blkCell h5 1 _ rfl
  simp only [List.getElem_toArray, List.getElem_cons_zero, List.getElem_cons_succ] at x0 x1
  clear h5 hq2
  go_wp2
  refine bodyPost_ret (v := .agg #[.slice g n cp, .int .i64 co]) (by simp [results, Try.results46, go_sem, x0, x1]) rfl ?_
  have hq := HQ.out
  have e5 : W5.heap.size = w2.heap.size := by rw [HW5.out]; simp only [World.size_setCell]
  refine ⟨g, cp, by rw [HN.out], ?_, ?_⟩
  · rw [e5]
    refine RowI.wide (lo := W0.heap.size) (hi := w2.heap.size) ?_ HL.out.size (Nat.le_refl _) (by omega)
    rw [HW5.out]
    exact (HR.out.set hq _ _).set hq _ _
  · rw [HW5.out]
    exact ((chain HL.out H2.out).setCell hlo _).setCell hlo _
theorem rosFault_any (ad : Option Addr) (cap : Nat) (rs : List RSf) (aw : Option Addr) (cw : Nat) (ws : List CWk) (hl : rs.length ≤ 100000000) (hlw : ws.length ≤ 100000000) (hp : ∀ r ∈ rs, SfOK r) (hpw : ∀ c ∈ ws, WkOK c) (w : World) (hr : ReadsSf w.heap.size w ad rs) (hw : ReadsWk w.heap.size w aw ws) :
    Calls Try.prog 43 #[.slice ad rs.length cap, .slice aw ws.length cw] w fun e w' => e = .returned (.int .i64 (rfB rs ws)) ∧ Below w.heap.size w w' := by
  have HC : Hid (Calls Try.prog 10 #[.slice ad rs.length cap, .slice aw ws.length cw] w fun e w' => e = .returned (.bool (roB rs ws)) ∧ Below w.heap.size w w') := impShifts_any ad cap rs aw cw ws hl hlw hp hpw w hr hw
  clear hr hw hp hpw
  rcases rf_three rs ws with ⟨h, e⟩ | ⟨h1, h2, h3, e⟩ | ⟨h1, h2, h3, e⟩
  · rw [e]
    clear e HC
    by_cases h1 : (4096 : Int) < (rs.length : Int)
    · go_enter Try.func43, Try.ntmps43
      go_wp2
      go_ret
      exact ⟨rfl, Below.refl _ _⟩
    · have h2 : (4096 : Int) < (ws.length : Int) := by omega
      clear h
      go_enter Try.func43, Try.ntmps43
      go_wp2
      go_ret
      exact ⟨rfl, Below.refl _ _⟩
  · rw [e]
    rw [h3] at HC
    have h1' : ¬ (4096 : Int) < (rs.length : Int) := by omega
    have h2' : ¬ (4096 : Int) < (ws.length : Int) := by omega
    clear e h1 h2 h3
    go_enter Try.func43, Try.ntmps43
    go_wp2_with (go_at_call 10; refine HC.out.mono ?_; rintro e w2 ⟨rfl, hb2⟩)
    go_ret
    exact ⟨rfl, hb2⟩
  · rw [e]
    rw [h3] at HC
    have h1' : ¬ (4096 : Int) < (rs.length : Int) := by omega
    have h2' : ¬ (4096 : Int) < (ws.length : Int) := by omega
    clear e h1 h2 h3
    go_enter Try.func43, Try.ntmps43
    go_wp2_with (go_at_call 10; refine HC.out.mono ?_; rintro e w2 ⟨rfl, hb2⟩)
    go_ret
    exact ⟨rfl, hb2⟩
end Go.Proofs.Yteigbmdhfeagfaa
