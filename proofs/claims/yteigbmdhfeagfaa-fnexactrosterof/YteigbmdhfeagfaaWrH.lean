/-
  Contract of the program's RosterOf, for all arguments.
-/
import Derived.Test.YteigbmdhfeagfaaWrG
namespace Go.Proofs.Yteigbmdhfeagfaa
open Go.ChangeShapes Go.WideShapes Go.ChangeAt Go.RowKit Go.Joins Go.Deep
set_option linter.unusedVariables false

theorem rw_no {rs : List RSf} {ws : List CWk} {L : List Int} {c : Int} {p : Nat} (h : rwC rs ws L = (c, p)) (hc : c ≠ 0) : rwL rs ws L = [] ∧ rwT rs ws L = 0 := by
  unfold rwL rwT
  rw [h]
  simp [hc]
theorem rw_ways (rs : List RSf) (ws : List CWk) (L : List Int) : (4096 < L.length ∧ rwC rs ws L = (2, 0)) ∨ (¬ 4096 < L.length ∧ rfB rs ws ≠ 0 ∧ rwC rs ws L = (rfB rs ws, 0)) ∨ (¬ 4096 < L.length ∧ rfB rs ws = 0 ∧ L.length ≠ rs.length ∧ rwC rs ws L = (3, 0)) ∨ (¬ 4096 < L.length ∧ rfB rs ws = 0 ∧ L.length = rs.length) := by
  unfold rwC
  by_cases h : 4096 < L.length
  · exact .inl ⟨h, if_pos h⟩
  · by_cases h1 : rfB rs ws = 0
    · by_cases h2 : L.length = rs.length
      · exact .inr (.inr (.inr ⟨h, h1, h2⟩))
      · exact .inr (.inr (.inl ⟨h, h1, h2, by rw [if_neg h, if_pos h1, if_neg h2]⟩))
    · exact .inr (.inl ⟨h, h1, by rw [if_neg h, if_neg h1]⟩)
set_option maxHeartbeats 4000000 in
theorem implRoster_any (ad : Option Addr) (cap : Nat) (rs : List RSf) (aw : Option Addr) (cw : Nat) (ws : List CWk) (ao : Option Addr) (co : Nat) (L : List Int) (hl : rs.length ≤ 100000000) (hlw : ws.length ≤ 100000000) (hlo : L.length ≤ 100000000) (hp : ∀ r ∈ rs, SfOK r) (hpw : ∀ c ∈ ws, WkOK c) (w : World) (hr : ReadsSf w.heap.size w ad rs) (hw : ReadsWk w.heap.size w aw ws) (ho : Reads w.heap.size w ao L) :
    Calls Try.prog 15 #[.slice ad rs.length cap, .slice aw ws.length cw, .slice ao L.length co] w (AnsR (rwC rs ws L).1 (rwC rs ws L).2 (rwL rs ws L) (rwT rs ws L) w) := by
  rcases rw_ways rs ws L with ⟨h, e⟩ | ⟨h, h1, e⟩ | ⟨h, h1, h2, e⟩ | ⟨h, h1, h2⟩
  · obtain ⟨e1, e2⟩ := rw_no e (by omega)
    rw [e, e1, e2]
    have h' : (4096 : Int) < (L.length : Int) := by omega
    clear hr hw ho hp hpw e e1 e2 h
    go_enter Try.func15, Try.ntmps15
    go_wp2
    refine bodyPost_ret (v := .tuple #[.agg #[.slice none 0 0, .int .i64 0], .int .i64 2, .int .i64 0]) (by simp [results, Try.results15, go_sem]) rfl ?_
    refine ansR_none ?_
    repeat (first | exact Below.refl _ _ | refine chain ?_ (below_alloc _ _) | refine Below.setCell ?_ (by dsimp only; omega) _)
  · obtain ⟨e1, e2⟩ := rw_no e h1
    rw [e, e1, e2]
    have h' : ¬ (4096 : Int) < (L.length : Int) := by omega
    have HFa : Hid (∀ W, Below w.heap.size w W → Calls Try.prog 43 #[.slice ad rs.length cap, .slice aw ws.length cw] W fun e w' => e = .returned (.int .i64 (rfB rs ws)) ∧ Below W.heap.size W w') := fun W hb => rosFault_any ad cap rs aw cw ws hl hlw hp hpw W ((hr.below hb).mono hb.size) (hw.later hb)
    clear hr hw ho hp hpw e e1 e2 h
    have hcb : (rfB rs ws != 0) = true := by simpa using h1
    generalize rfB rs ws = fc at *
    dsimp only
    clear h1
    obtain ⟨W0, hW0⟩ : ∃ W0, W0 = w.alloc (Obj.cells #[.slice none 0 0, .int .i64 0] 36) := ⟨_, rfl⟩
    have HB0 : Hid (Below w.heap.size w W0 ∧ W0.heap[w.heap.size]? = some (.cells #[.slice none 0 0, .int .i64 0] 36 (0, 0))) := by rw [hW0]; exact ⟨below_alloc _ _, heapNew _ _⟩
    go_enter Try.func15, Try.ntmps15
    go_wp2_with fail
    (first | go_at_call 43 | skip)
    rw [← hW0]
    refine (HFa.out W0 HB0.out.1).mono ?_
    rintro e w1 ⟨rfl, hb1⟩
    have hq := (hb1.block _ (blkLt HB0.out.2)).trans HB0.out.2
    have HL1 : Hid (Below w.heap.size w w1) := chain HB0.out.1 hb1
    obtain ⟨r0, r1⟩ := (show w1.cell? ⟨w.heap.size, 0, none⟩ = some (.slice none 0 0) ∧ w1.cell? ⟨w.heap.size, 1, none⟩ = some (.int .i64 0) from ⟨blkCell hq 0 _ rfl, blkCell hq 1 _ rfl⟩)
    have s0 := blkFree hq 0
    have s1 := blkFree hq 1
    clear hq hb1 hW0 HB0 HFa
    go_wp2
    refine bodyPost_ret (v := .tuple #[.agg #[.slice none 0 0, .int .i64 0], .int .i64 fc, .int .i64 0]) (by simp [results, Try.results15, go_sem, r0, r1]) rfl ?_
    refine ansR_none ?_
    repeat (first | exact HL1.out | refine Below.setCell ?_ (by dsimp only; omega) _)
  · obtain ⟨e1, e2⟩ := rw_no e (by omega)
    rw [e, e1, e2]
    have h' : ¬ (4096 : Int) < (L.length : Int) := by omega
    have HFa : Hid (∀ W, Below w.heap.size w W → Calls Try.prog 43 #[.slice ad rs.length cap, .slice aw ws.length cw] W fun e w' => e = .returned (.int .i64 0) ∧ Below W.heap.size W w') := fun W hb => by
      have := rosFault_any ad cap rs aw cw ws hl hlw hp hpw W ((hr.below hb).mono hb.size) (hw.later hb)
      rwa [h1] at this
    have hneb : ((L.length : Int) != (rs.length : Int)) = true := by simp; omega
    clear hr hw ho hp hpw e e1 e2 h h1
    obtain ⟨W0, hW0⟩ : ∃ W0, W0 = w.alloc (Obj.cells #[.slice none 0 0, .int .i64 0] 36) := ⟨_, rfl⟩
    have HB0 : Hid (Below w.heap.size w W0 ∧ W0.heap[w.heap.size]? = some (.cells #[.slice none 0 0, .int .i64 0] 36 (0, 0))) := by rw [hW0]; exact ⟨below_alloc _ _, heapNew _ _⟩
    go_enter Try.func15, Try.ntmps15
    go_wp2_with fail
    (first | go_at_call 43 | skip)
    rw [← hW0]
    refine (HFa.out W0 HB0.out.1).mono ?_
    rintro e w1 ⟨rfl, hb1⟩
    have hq := (hb1.block _ (blkLt HB0.out.2)).trans HB0.out.2
    have HL1 : Hid (Below w.heap.size w w1) := chain HB0.out.1 hb1
    obtain ⟨r0, r1⟩ := (show w1.cell? ⟨w.heap.size, 0, none⟩ = some (.slice none 0 0) ∧ w1.cell? ⟨w.heap.size, 1, none⟩ = some (.int .i64 0) from ⟨blkCell hq 0 _ rfl, blkCell hq 1 _ rfl⟩)
    have s0 := blkFree hq 0
    have s1 := blkFree hq 1
    clear hq hb1 hW0 HB0 HFa
    go_wp2
    refine bodyPost_ret (v := .tuple #[.agg #[.slice none 0 0, .int .i64 0], .int .i64 3, .int .i64 0]) (by simp [results, Try.results15, go_sem, r0, r1]) rfl ?_
    refine ansR_none ?_
    repeat (first | exact HL1.out | refine Below.setCell ?_ (by dsimp only; omega) _)
  · exact implRoster_ok ad cap rs aw cw ws ao co L hp hpw (by omega) h1 h2 w hr hw ho
end Go.Proofs.Yteigbmdhfeagfaa
