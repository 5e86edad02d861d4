/-
  Contract of the specification's SortRun, for all arguments.
-/
import Derived.Test.YthmhpgbkapjjkaaSrG
import Derived.Test.YthmhpgbkapjjkaaCellNo
namespace Go.Proofs.Ythmhpgbkapjjkaa
open Go.ChangeShapes Go.WideShapes Go.ChangeAt Go.RowKit Go.Joins Go.Deep
set_option linter.unusedVariables false

theorem reb_low {w W : World} {B : Nat} {W0 : World} (h0 : Below w.heap.size w W0) (hB : w.heap.size ≤ B) (h : Below B W0 W) : Below w.heap.size w W := h0.trans (h.mono hB)
theorem SpI.fill {B lb n : Nat} {W0 : World} {bv : Value} {belt : List (Nat × Nat)} {out rej : List Int} {tk rc : Int} {qo : Option Addr} {co : Nat} {qr : Option Addr} {cr : Nat} {W : World} (hn : n ≤ 100000000) (h : SpI B lb W0 bv (.slice none 0 0) belt [] out rej tk rc qo co qr cr W) : SpI B lb W0 bv (.slice (some ⟨W.heap.size, 0, none⟩) n n) belt (List.replicate n 0) out rej tk rc qo co qr cr (W.alloc (Obj.cells (madeCells #[.int .i64 0] n) 3)) := by
  have k := h.later (below_alloc W (Obj.cells (madeCells #[.int .i64 0] n) 3))
  refine ⟨k.box, k.rowB, row_zeros h.bsz hn (heapNew _ _), k.rowO, k.rowR, fun q hq => ?_, k.or, k.ge, k.low⟩
  have e : W.heap.size = q := by simpa [Value.ownBlock] using hq
  subst e
  exact ⟨fun e2 => by have := (row_lt h.rowO _ e2).2; omega, fun e2 => by have := (row_lt h.rowR _ e2).2; omega⟩
theorem lane_at {B : Nat} {w W : World} {la : Option Addr} {ls : List RLa} (h : ReadsLa B w la ls) (hb : Below B w W) {k : Nat} (hk : k < ls.length) : ∃ b o, la = some ⟨b, o, none⟩ ∧ W.cell? ⟨b, o + k * 2, none⟩ = some (.int .i64 (ls.getD k zLa).rm) ∧ W.cell? ⟨b, o + k * 2 + 1, none⟩ = some (.int .i64 (ls.getD k zLa).ev) := by
  rcases h with h | ⟨b, o, ha, hB, hi⟩
  · rw [h] at hk; simp at hk
  · exact ⟨b, o, ha, ((hi.below hb hB) k hk).1, ((hi.below hb hB) k hk).2⟩
theorem num_at {B : Nat} {w W : World} {pa : Option Addr} {ps : List Int} (h : Reads B w pa ps) (hb : Below B w W) {k : Nat} (hk : k < ps.length) : ∃ b o, pa = some ⟨b, o, none⟩ ∧ W.cell? ⟨b, o + k, none⟩ = some (.int .i64 (ps.getD k 0)) := by
  rcases h with h | ⟨b, o, ha, hB, hi⟩
  · rw [h] at hk; simp at hk
  · exact ⟨b, o, ha, (hi.below hb hB) k hk⟩
theorem so_one (la : Option Addr) (lc : Nat) (ls : List RLa) (pa : Option Addr) (pc : Nat) (ps : List Int) (h9 : ls.length ≤ 9) (h1 : ps.length ≤ 100) (h : lnsB ls = false) : soC ls ps = 1 := by
  rcases so_ways ls ps with ⟨_, e⟩ | ⟨_, _, e⟩ | ⟨_, _, _, e⟩ | ⟨_, _, e2, _, e⟩ | ⟨_, _, e2, _, e⟩
  · omega
  · omega
  · exact e
  · rw [h] at e2; cases e2
  · rw [h] at e2; cases e2
theorem so_five (la : Option Addr) (lc : Nat) (ls : List RLa) (pa : Option Addr) (pc : Nat) (ps : List Int) (h9 : ls.length ≤ 9) (h1 : ps.length ≤ 100) (h : lnsB ls = true) (hp : alB 0 ((ls.length : Int) - 1) ps = false) : soC ls ps = 5 := by
  rcases so_ways ls ps with ⟨_, e⟩ | ⟨_, _, e⟩ | ⟨_, _, e2, e⟩ | ⟨_, _, _, _, e⟩ | ⟨_, _, _, e2, e⟩
  · omega
  · omega
  · rw [h] at e2; cases e2
  · exact e
  · rw [hp] at e2; cases e2
theorem so_null (la : Option Addr) (lc : Nat) (ls : List RLa) (pa : Option Addr) (pc : Nat) (ps : List Int) (h9 : ls.length ≤ 9) (h1 : ps.length ≤ 100) (h : lnsB ls = true) (hp : alB 0 ((ls.length : Int) - 1) ps = true) : soC ls ps = 0 := by
  rcases so_ways ls ps with ⟨_, e⟩ | ⟨_, _, e⟩ | ⟨_, _, e2, e⟩ | ⟨_, _, _, e2, e⟩ | ⟨_, _, _, _, e⟩
  · omega
  · omega
  · rw [h] at e2; cases e2
  · rw [hp] at e2; cases e2
  · exact e
/-- Whoever is on the belt has not been told. -/
def MiO (σ : SrS) : Prop := ∀ p ∈ σ.belt, σ.out.getD p.1 0 = -1
theorem mi_start (n m : Nat) : MiO (srStart n m (-1)) := fun p hp => by
  obtain ⟨i, hi, rfl⟩ := List.mem_map.1 hp
  have := List.mem_range.1 hi
  show (List.replicate m (-1)).getD i 0 = -1
  simp [List.getD_eq_getElem?_getD, this]
theorem set_same {L : List Int} {i : Nat} {x : Int} (h : L.getD i 0 = x) : L.set i x = L := by
  refine getD_ext (by simp) (fun j hj => ?_)
  rw [List.length_set] at hj
  rw [List.getD_eq_getElem?_getD, List.getElem?_set]
  by_cases e : i = j
  · subst e; simp [hj]; simpa [List.getD_eq_getElem?_getD, hj] using h.symm
  · simp [e, List.getD_eq_getElem?_getD]
theorem mi_step {ls : List RLa} {ps : List Int} {i r m : Nat} {D : List (Nat × Nat)} {σ : SrS} (hok : SrOK ls m σ) (hm : MiO σ) (hb : σ.belt = (i, r) :: D) : MiO (srStep ls ps i r D σ) := by
  have h1 := hok.one
  rw [hb] at h1
  simp only [List.map_cons, List.nodup_cons] at h1
  have hD : ∀ p ∈ D, σ.out.getD p.1 0 = -1 ∧ i ≠ p.1 := fun p hp => ⟨hm p (by rw [hb]; exact List.mem_cons_of_mem _ hp), fun e => h1.1 (by rw [e]; exact List.mem_map.2 ⟨p, hp, rfl⟩)⟩
  have hi := hm (i, r) (by rw [hb]; simp)
  have hil := hok.num (i, r) (by rw [hb]; simp)
  dsimp only at hi hil
  have hol := hok.ol
  unfold srStep srLeave
  dsimp only
  by_cases c1 : (emK ls σ.tk σ.full ls.length).getD (ps.getD i 0).toNat 0 < (ls.getD (ps.getD i 0).toNat zLa).rm
  · rw [if_pos c1]
    intro p hp
    show (σ.out.set i _).getD p.1 0 = -1
    rw [set_getD (by omega), if_neg (hD p hp).2]
    exact (hD p hp).1
  · rw [if_neg c1]
    by_cases c2 : r = 3
    · rw [if_pos c2]
      intro p hp
      show (σ.out.set i _).getD p.1 0 = -1
      rw [set_same hi]
      exact (hD p hp).1
    · rw [if_neg c2]
      intro p hp
      show σ.out.getD p.1 0 = -1
      rcases List.mem_append.1 hp with hp | hp
      · exact (hD p hp).1
      · simp at hp; subst hp; exact hi
set_option maxHeartbeats 16000000 in
set_option maxRecDepth 8000 in
theorem specSort_in (la : Option Addr) (lc : Nat) (ls : List RLa) (pa : Option Addr) (pc : Nat) (ps : List Int) (h9 : ls.length ≤ 9) (h1 : ps.length ≤ 100) (w : World) (hr : ReadsLa w.heap.size w la ls) (hp : Reads w.heap.size w pa ps) :
    Calls Try.prog 23 #[.slice la ls.length lc, .slice pa ps.length pc] w (AnsSo w (soT ls ps) (soN ls ps) (soC ls ps) (soO ls ps) (soJ ls ps)) := by
  have HA1 : Hid (lnsB ls = false → soT ls ps = 0 ∧ soN ls ps = 0 ∧ soC ls ps = 1 ∧ soO ls ps = [] ∧ soJ ls ps = []) := fun h => by
    have e := so_one la lc ls pa pc ps h9 h1 h
    obtain ⟨a, b, c, d⟩ := so_zero la lc ls pa pc ps (by omega)
    exact ⟨a, b, e, c, d⟩
  have HA5 : Hid (lnsB ls = true → alB 0 ((ls.length : Int) - 1) ps = false → soT ls ps = 0 ∧ soN ls ps = 0 ∧ soC ls ps = 5 ∧ soO ls ps = [] ∧ soJ ls ps = []) := fun h h2 => by
    have e := so_five la lc ls pa pc ps h9 h1 h h2
    obtain ⟨a, b, c, d⟩ := so_zero la lc ls pa pc ps (by omega)
    exact ⟨a, b, e, c, d⟩
  have HA0 : Hid (lnsB ls = true → alB 0 ((ls.length : Int) - 1) ps = true → soT ls ps = (srEnd ls ps (srStart ls.length ps.length (-1))).tk ∧ soN ls ps = (srEnd ls ps (srStart ls.length ps.length (-1))).rc ∧ soC ls ps = 0 ∧ soO ls ps = (srEnd ls ps (srStart ls.length ps.length (-1))).out ∧ soJ ls ps = (srEnd ls ps (srStart ls.length ps.length (-1))).rej) := fun h h2 => by
    have e := so_null la lc ls pa pc ps h9 h1 h h2
    rw [srF_any]
    unfold soT soN soO soJ
    rw [if_pos e, if_pos e, if_pos e, if_pos e]
    exact ⟨rfl, rfl, e, rfl, rfl⟩
  generalize soT ls ps = T at *
  generalize soN ls ps = N at *
  generalize soC ls ps = C at *
  generalize soO ls ps = O at *
  generalize soJ ls ps = J at *
  obtain ⟨W0, hW0⟩ : ∃ W0, W0 = w.alloc (Obj.cells #[.int .i64 0, .int .i64 0, .slice none 0 0, .slice none 0 0] 41) := ⟨_, rfl⟩
  obtain ⟨rb, hrb⟩ : ∃ rb, rb = w.heap.size := ⟨_, rfl⟩
  obtain ⟨B, hB⟩ : ∃ B, B = W0.heap.size := ⟨_, rfl⟩
  have HE : Hid (W0 = w.alloc (Obj.cells #[.int .i64 0, .int .i64 0, .slice none 0 0, .slice none 0 0] 41) ∧ rb = w.heap.size) := ⟨hW0, hrb⟩
  have hz : B = rb + 1 := by rw [hB, hW0, hrb]; simp
  have HB : Hid (B = rb + 1 ∧ rb = w.heap.size ∧ B = W0.heap.size) := ⟨hz, hrb, hB⟩
  have HL0 : Hid (Below w.heap.size w W0) := by show Below _ _ _; rw [hW0]; exact below_alloc _ _
  have HR : Hid (ReadsLa B W0 la ls ∧ Reads B W0 pa ps) := ⟨(hr.below HL0.out).mono (by omega), (hp.below HL0.out).mono (by omega)⟩
  have HRb : Hid (W0.heap[rb]? = some (.cells #[.int .i64 0, .int .i64 0, .slice none 0 0, .slice none 0 0] 41 (0, 0))) := by show _ = _; rw [hW0, hrb]; exact heapNew _ _
  have HRW : Hid (∀ W, Below B W0 W → W.heap[rb]? = some (.cells #[.int .i64 0, .int .i64 0, .slice none 0 0, .slice none 0 0] 41 (0, 0)) ∧ Below w.heap.size w W) := fun W hb => ⟨(hb.block rb (by omega)).trans HRb.out, reb_low HL0.out (by omega) hb⟩
  have HLn : Hid (∀ k W, k < ls.length → Below B W0 W → ∃ b o, la = some ⟨b, o, none⟩ ∧ W.cell? ⟨b, o + k * 2, none⟩ = some (.int .i64 (ls.getD k zLa).rm) ∧ W.cell? ⟨b, o + k * 2 + 1, none⟩ = some (.int .i64 (ls.getD k zLa).ev)) := fun k W hk hb => lane_at HR.out.1 hb hk
  have HPn : Hid (∀ k W, k < ps.length → Below B W0 W → ∃ b o, pa = some ⟨b, o, none⟩ ∧ W.cell? ⟨b, o + k, none⟩ = some (.int .i64 (ps.getD k 0))) := fun k W hk hb => num_at HR.out.2 hb hk
  have HM1 : Hid (∀ w, (Instr.makeSlice 26 (.int .i64 (ls.length : Int)) (.int .i64 (ls.length : Int))).run Try.prog w = .ok (.slice (some ⟨w.heap.size, 0, none⟩) ls.length ls.length) (w.alloc (.cells (madeCells #[.int .i64 0] ls.length) 3))) := fun w => run_makeN ls.length (by omega) w
  have z1 : ¬ (4096 : Int) < (ls.length : Int) := by omega
  have z2 : ¬ (4096 : Int) < (ps.length : Int) := by omega
  have z3 : ¬ (9 : Int) < (ls.length : Int) := by omega
  have z4 : ¬ (100 : Int) < (ps.length : Int) := by omega
  clear hr hp hW0 hrb hB hz HR HRb
  go_enter Try.func23, Try.ntmps23
  go_upto_region 1 with fail
  rw [← HE.out.1, ← HE.out.2]
  clear HE
  go_upto_region 6 with fail
  clear z1 z2 z3 z4
  obtain ⟨W1, hW1⟩ : ∃ W1, W1 = W0.alloc (Obj.cells #[] 99) := ⟨_, rfl⟩
  obtain ⟨bq, hbq⟩ : ∃ bq, bq = W0.heap.size := ⟨_, rfl⟩
  have HQ1 : Hid (Below B W0 W1 ∧ W1.ownsRow B 99 2 (.slice (some ⟨bq, 0, none⟩) 0 0) 0 (bbC [])) := by
    rw [hW1, hbq]
    have hb : B ≤ W0.heap.size := by rw [HB.out.2.2]; exact Nat.le_refl _
    exact ⟨(below_alloc _ _).mono hb, rfl, .inr ⟨W0.heap.size, 0, #[], rfl, hb, heapNew W0 _, Nat.le_refl _, by unfold maxLen; omega, rfl, rfl⟩⟩
  rw [← hW1, ← hbq]
  clear hW1 hbq
  go_wp2
  go_loopw [7] (fun v wr => ∃ k : Nat, k ≤ ls.length ∧ v = .int .i64 (k : Int) ∧ lnsB (ls.take k) = true ∧ W1 = wr) (fun v _ => ls.length - (intOf v).toNat)
  case atStart => exact ⟨0, Nat.zero_le _, rfl, rfl, rfl⟩
  case round =>
    obtain ⟨k, hk, rfl, hf, rfl⟩ := hrel
    have HF : Hid (lnsB (ls.take k) = true) := hf
    clear hf
    by_cases hlt : k < ls.length
    · have hlt' : (k : Int) < (ls.length : Int) := by omega
      obtain ⟨b, o, ha, d0, d1⟩ := HLn.out k W1 hlt HQ1.out.1
      have HX : Hid (lnB (ls.getD k zLa) = false → lnsB ls = false) := fun h => lns_fail hlt h
      have HN : Hid (lnsB (ls.take (k + 1)) = (lnsB (ls.take k) && lnB (ls.getD k zLa))) := lnsB_take hlt
      have hm1 := in_any (ls.getD k zLa).rm 1 100 W1
      have hm2 := in_any (ls.getD k zLa).ev 1 100 W1
      have HLb : Hid (lnB (ls.getD k zLa) = (inB (ls.getD k zLa).rm 1 100 && inB (ls.getD k zLa).ev 1 100)) := rfl
      subst ha
      generalize lnB (ls.getD k zLa) = mb at *
      generalize inB (ls.getD k zLa).rm 1 100 = m1 at *
      generalize inB (ls.getD k zLa).ev 1 100 = m2 at *
      generalize (ls.getD k zLa).rm = rm at *
      generalize (ls.getD k zLa).ev = ev at *
      clear HLn HPn HM1
      obtain ⟨hrb3, hlow⟩ := HRW.out W1 HQ1.out.1
      cases m1
      · obtain ⟨rfl, rfl, rfl, rfl, rfl⟩ := HA1.out (HX.out (by rw [HLb.out]; rfl))
        clear HX HN HLb HA1 HA5 HA0 hm2
        have r0 := blkCell hrb3 0 _ rfl
        have q0 := blkFree hrb3 0
        have r1 := blkCell hrb3 1 _ rfl
        have q1 := blkFree hrb3 1
        have r2 := blkCell hrb3 2 _ rfl
        have q2 := blkFree hrb3 2
        have r3 := blkCell hrb3 3 _ rfl
        have q3 := blkFree hrb3 3
        simp only [List.getElem_toArray, List.getElem_cons_zero, List.getElem_cons_succ] at r0 r1 r2 r3
        obtain ⟨g1, g2, g3⟩ := set_four hrb3 (.int .i64 0) (.int .i64 0) (.slice none 0 0) (.slice none 0 0)
        have HFin : Hid (∃ V, V = ((((W1.setCell ⟨rb, 0, none⟩ (.int .i64 0)).setCell ⟨rb, 1, none⟩ (.int .i64 0)).setCell ⟨rb, 2, none⟩ (.slice none 0 0)).setCell ⟨rb, 3, none⟩ (.slice none 0 0)) ∧ V.heap[rb]? = some (.cells #[.int .i64 0, .int .i64 0, .slice none 0 0, .slice none 0 0] 41 (0, 0)) ∧ Below w.heap.size w V) := ⟨_, rfl, g1, hlow.trans (g3 w.heap.size (by rw [HB.out.2.1]; exact Nat.le_refl _))⟩
        clear g1 g2 g3
        clear hrb3 hlow
        go_wp2_with (go_at_call 49; refine hm1.mono ?_; rintro e w2 ⟨rfl, hw2⟩; rw [hw2]; clear hw2 w2)
        clear r0 r1 r2 r3 q0 q1 q2 q3
        obtain ⟨V, hV, h1', h5⟩ := HFin.out
        rw [← hV]
        have c0 := blkCell h1' 0 _ rfl
        have c1 := blkCell h1' 1 _ rfl
        have c2 := blkCell h1' 2 _ rfl
        have c3 := blkCell h1' 3 _ rfl
        simp only [List.getElem_toArray, List.getElem_cons_zero, List.getElem_cons_succ] at c0 c1 c2 c3
        try simp only [Exit.inBlock, Exit.then]
        refine bodyPost_ret (v := .tuple #[.agg #[.int .i64 0, .int .i64 0, .slice none 0 0, .slice none 0 0], .int .i64 1]) (by simp [results, Try.results23, go_sem, c0, c1, c2, c3]) rfl ⟨none, 0, none, 0, rfl, ⟨rfl, .inl ⟨rfl, rfl⟩⟩, ⟨rfl, .inl ⟨rfl, rfl⟩⟩, fun q hq => (by cases hq), h5⟩
      · cases m2
        · obtain ⟨rfl, rfl, rfl, rfl, rfl⟩ := HA1.out (HX.out (by rw [HLb.out]; rfl))
          clear HX HN HLb HA1 HA5 HA0
          have r0 := blkCell hrb3 0 _ rfl
          have q0 := blkFree hrb3 0
          have r1 := blkCell hrb3 1 _ rfl
          have q1 := blkFree hrb3 1
          have r2 := blkCell hrb3 2 _ rfl
          have q2 := blkFree hrb3 2
          have r3 := blkCell hrb3 3 _ rfl
          have q3 := blkFree hrb3 3
          simp only [List.getElem_toArray, List.getElem_cons_zero, List.getElem_cons_succ] at r0 r1 r2 r3
          obtain ⟨g1, g2, g3⟩ := set_four hrb3 (.int .i64 0) (.int .i64 0) (.slice none 0 0) (.slice none 0 0)
          have HFin : Hid (∃ V, V = ((((W1.setCell ⟨rb, 0, none⟩ (.int .i64 0)).setCell ⟨rb, 1, none⟩ (.int .i64 0)).setCell ⟨rb, 2, none⟩ (.slice none 0 0)).setCell ⟨rb, 3, none⟩ (.slice none 0 0)) ∧ V.heap[rb]? = some (.cells #[.int .i64 0, .int .i64 0, .slice none 0 0, .slice none 0 0] 41 (0, 0)) ∧ Below w.heap.size w V) := ⟨_, rfl, g1, hlow.trans (g3 w.heap.size (by rw [HB.out.2.1]; exact Nat.le_refl _))⟩
          clear g1 g2 g3
          clear hrb3 hlow
          go_wp2_with fail
          (first | go_at_call 49 | skip)
          refine hm1.mono ?_
          rintro e w2 ⟨rfl, hw2⟩; rw [hw2]; clear hw2 w2
          go_wp2_with fail
          (first | go_at_call 49 | skip)
          refine hm2.mono ?_
          rintro e w2 ⟨rfl, hw2⟩; rw [hw2]; clear hw2 w2
          go_wp2
          clear r0 r1 r2 r3 q0 q1 q2 q3
          obtain ⟨V, hV, h1', h5⟩ := HFin.out
          rw [← hV]
          have c0 := blkCell h1' 0 _ rfl
          have c1 := blkCell h1' 1 _ rfl
          have c2 := blkCell h1' 2 _ rfl
          have c3 := blkCell h1' 3 _ rfl
          simp only [List.getElem_toArray, List.getElem_cons_zero, List.getElem_cons_succ] at c0 c1 c2 c3
          try simp only [Exit.inBlock, Exit.then]
          refine bodyPost_ret (v := .tuple #[.agg #[.int .i64 0, .int .i64 0, .slice none 0 0, .slice none 0 0], .int .i64 1]) (by simp [results, Try.results23, go_sem, c0, c1, c2, c3]) rfl ⟨none, 0, none, 0, rfl, ⟨rfl, .inl ⟨rfl, rfl⟩⟩, ⟨rfl, .inl ⟨rfl, rfl⟩⟩, fun q hq => (by cases hq), h5⟩
        · have HK : Hid (lnsB (ls.take (k + 1)) = true) := by show _ = _; rw [HN.out, HF.out, HLb.out]; rfl
          clear HX HN HLb hrb3 hlow
          go_wp2_with fail
          (first | go_at_call 49 | skip)
          refine hm1.mono ?_
          rintro e w2 ⟨rfl, hw2⟩; rw [hw2]; clear hw2 w2
          go_wp2_with fail
          (first | go_at_call 49 | skip)
          refine hm2.mono ?_
          rintro e w2 ⟨rfl, hw2⟩; rw [hw2]; clear hw2 w2
          go_wp2
          exact ⟨⟨k + 1, by omega, by go_num, HK.out, by first | rfl | trivial⟩, by simp [intOf]; omega⟩
    · have hk2 : k = ls.length := by omega
      subst hk2
      have hlt' : ¬ (ls.length : Int) < (ls.length : Int) := by omega
      have hls : lnsB ls = true := by have := HF.out; rwa [List.take_of_length_le (Nat.le_refl _)] at this
      have HLs : Hid (lnsB ls = true) := hls
      clear HF HA1 hls
      go_upto_region 12 with fail
      clear hlt'
      obtain ⟨W2, hW2⟩ : ∃ W2, W2 = W1.alloc (Obj.cells #[.int .i64 0, .int .i64 0, .slice none 0 0, .slice none 0 0] 41) := ⟨_, rfl⟩
      obtain ⟨lb, hlb⟩ : ∃ lb, lb = W1.heap.size := ⟨_, rfl⟩
      have HS2 : Hid (SpI B lb W0 (.slice (some ⟨bq, 0, none⟩) 0 0) (.slice none 0 0) (beltOf 0) [] (List.replicate 0 (-1)) [] 0 0 none 0 none 0 W2) := by
        show SpI _ _ _ _ _ _ _ _ _ _ _ _ _ _ _ _
        rw [hW2, hlb]
        have hz : B ≤ W1.heap.size := by have := HQ1.out.1.size; rw [← HB.out.2.2] at this; exact this
        have ba := below_alloc W1 (Obj.cells #[.int .i64 0, .int .i64 0, .slice none 0 0, .slice none 0 0] 41)
        exact ⟨heapNew _ _, row_of HQ1.out.2 (fun q hq => ba.block q (row_lt HQ1.out.2 q hq).2), ⟨rfl, .inl ⟨rfl, rfl⟩⟩, ⟨rfl, .inl ⟨rfl, rfl⟩⟩, ⟨rfl, .inl ⟨rfl, rfl⟩⟩, fun q hq => (by cases hq), fun q hq => (by cases hq), hz, HQ1.out.1.trans (ba.mono hz)⟩
      rw [← hW2, ← hlb]
      clear hW2 hlb HQ1
      have hwn : IntKind.i64.wrap ((ls.length : Int) - 1) = (ls.length : Int) - 1 := wrap_id _ (by omega) (by omega)
      obtain ⟨i0, hi, hzz⟩ := Option.map_eq_some_iff.1 bbInf
      simp only [Prod.mk.injEq] at hzz
      obtain ⟨hi0, hi1, hi2⟩ := hzz
      have HI0 : Hid (Try.prog.info? 99 = some i0 ∧ i0.zero = some (.agg #[.int .i64 0, .int .i64 0]) ∧ i0.size = 2 ∧ i0.bytes = 16) := ⟨hi, hi0, hi1, hi2⟩
      clear hi hi0 hi1 hi2
      go_wp2
      go_loopw [6, 9] (fun bv v wr => ∃ (k : Nat) (qo : Option Addr) (co : Nat), k ≤ ps.length ∧ v = .int .i64 (k : Int) ∧ alB 0 ((ls.length : Int) - 1) (ps.take k) = true ∧ SpI B lb W0 bv (.slice none 0 0) (beltOf k) [] (List.replicate k (-1)) [] 0 0 qo co none 0 wr) (fun _ v _ => ps.length - (intOf v).toNat)
      case atStart => exact ⟨0, none, 0, Nat.zero_le _, rfl, rfl, HS2.out⟩
      case round =>
        clear HS2
        obtain ⟨k, qo, co, hk, rfl, hf, hs⟩ := hrel
        have HF : Hid (alB 0 ((ls.length : Int) - 1) (ps.take k) = true) := hf
        have HS : Hid (SpI B lb W0 u6 (.slice none 0 0) (beltOf k) [] (List.replicate k (-1)) [] 0 0 qo co none 0 wr) := hs
        clear hf hs
        by_cases hlt : k < ps.length
        · have hlt' : (k : Int) < (ps.length : Int) := by omega
          obtain ⟨b, o, ha, d0⟩ := HPn.out k wr hlt HS.out.low
          have HX : Hid (inB (ps.getD k 0) 0 ((ls.length : Int) - 1) = false → alB 0 ((ls.length : Int) - 1) ps = false) := fun h => al_fail hlt h
          have HN : Hid (alB 0 ((ls.length : Int) - 1) (ps.take (k + 1)) = (alB 0 ((ls.length : Int) - 1) (ps.take k) && inB (ps.getD k 0) 0 ((ls.length : Int) - 1))) := al_take _ _ ps k hlt
          have hm1 := in_any (ps.getD k 0) 0 ((ls.length : Int) - 1) wr
          subst ha
          generalize inB (ps.getD k 0) 0 ((ls.length : Int) - 1) = mb at *
          generalize ps.getD k 0 = p at *
          clear HLn HPn HM1
          cases mb
          · obtain ⟨rfl, rfl, rfl, rfl, rfl⟩ := HA5.out HLs.out (HX.out rfl)
            obtain ⟨hrb3, hlow⟩ := HRW.out wr HS.out.low
            clear HX HN HA5 HA0 HS
            have r0 := blkCell hrb3 0 _ rfl
            have q0 := blkFree hrb3 0
            have r1 := blkCell hrb3 1 _ rfl
            have q1 := blkFree hrb3 1
            have r2 := blkCell hrb3 2 _ rfl
            have q2 := blkFree hrb3 2
            have r3 := blkCell hrb3 3 _ rfl
            have q3 := blkFree hrb3 3
            simp only [List.getElem_toArray, List.getElem_cons_zero, List.getElem_cons_succ] at r0 r1 r2 r3
            obtain ⟨g1, g2, g3⟩ := set_four hrb3 (.int .i64 0) (.int .i64 0) (.slice none 0 0) (.slice none 0 0)
            have HFin : Hid (∃ V, V = ((((wr.setCell ⟨rb, 0, none⟩ (.int .i64 0)).setCell ⟨rb, 1, none⟩ (.int .i64 0)).setCell ⟨rb, 2, none⟩ (.slice none 0 0)).setCell ⟨rb, 3, none⟩ (.slice none 0 0)) ∧ V.heap[rb]? = some (.cells #[.int .i64 0, .int .i64 0, .slice none 0 0, .slice none 0 0] 41 (0, 0)) ∧ Below w.heap.size w V) := ⟨_, rfl, g1, hlow.trans (g3 w.heap.size (by rw [HB.out.2.1]; exact Nat.le_refl _))⟩
            clear g1 g2 g3
            clear hrb3 hlow
            go_wp2_with (go_at_call 49; refine hm1.mono ?_; rintro e w2 ⟨rfl, hw2⟩; rw [hw2]; clear hw2 w2)
            clear r0 r1 r2 r3 q0 q1 q2 q3
            obtain ⟨V, hV, h1', h5⟩ := HFin.out
            rw [← hV]
            have c0 := blkCell h1' 0 _ rfl
            have c1 := blkCell h1' 1 _ rfl
            have c2 := blkCell h1' 2 _ rfl
            have c3 := blkCell h1' 3 _ rfl
            simp only [List.getElem_toArray, List.getElem_cons_zero, List.getElem_cons_succ] at c0 c1 c2 c3
            try simp only [Exit.inBlock, Exit.then]
            refine bodyPost_ret (v := .tuple #[.agg #[.int .i64 0, .int .i64 0, .slice none 0 0, .slice none 0 0], .int .i64 5]) (by simp [results, Try.results23, go_sem, c0, c1, c2, c3]) rfl ⟨none, 0, none, 0, rfl, ⟨rfl, .inl ⟨rfl, rfl⟩⟩, ⟨rfl, .inl ⟨rfl, rfl⟩⟩, fun q hq => (by cases hq), h5⟩
          · have HK : Hid (alB 0 ((ls.length : Int) - 1) (ps.take (k + 1)) = true) := by show _ = _; rw [HN.out, HF.out]; rfl
            clear HX HN HF HA5 HA0 HRW
            obtain ⟨gb, cb, hbv⟩ := row_slice HS.out.rowB
            subst hbv
            have hbl : (beltOf k).length = k := by unfold beltOf; simp
            rw [hbl]
            go_upto_region 17 with (go_at_call 49; refine hm1.mono ?_; rintro e w2 ⟨rfl, hw2⟩; rw [hw2]; clear hw2 w2)
            clear d0 hm1
            obtain ⟨V1, hV1⟩ : ∃ V1, V1 = wr.alloc (Obj.cells #[.int .i64 (k : Int), .int .i64 0] 99) := ⟨_, rfl⟩
            have HS1 : Hid (SpI B lb W0 (.slice gb k cb) (.slice none 0 0) (beltOf k) [] (List.replicate k (-1)) [] 0 0 qo co none 0 (wr.alloc (Obj.cells #[.int .i64 (k : Int), .int .i64 0] 99))) := by
              have := HS.out.later (below_alloc wr (Obj.cells #[.int .i64 (k : Int), .int .i64 0] 99))
              rw [hbl] at this
              exact this
            have HRw : Hid ((wr.alloc (Obj.cells #[.int .i64 (k : Int), .int .i64 0] 99)).ownsRow B 99 2 (.slice gb k cb) k (bbC (beltOf k))) := by
              have := HS1.out.rowB
              rw [hbl] at this
              exact this
            have HNw : Hid (∀ j u, [Value.int .i64 (k : Int), .int .i64 0][j]? = some u → (wr.alloc (Obj.cells #[.int .i64 (k : Int), .int .i64 0] 99)).cell? ((⟨wr.heap.size, 0, none⟩ : Addr).add j) = some u) := World.news_of_block (heapNew wr (Obj.cells #[.int .i64 (k : Int), .int .i64 0] 99))
            have HOn : Hid (∀ u ∈ [Value.int .i64 (k : Int), .int .i64 0], u.oneCell' = true) := fun u hu => by simp at hu; rcases hu with rfl | rfl <;> rfl
            have HSn : Hid (bbC (beltOf k) ++ [Value.int .i64 (k : Int), .int .i64 0] = bbC (beltOf (k + 1)) ∧ (beltOf (k + 1)).length = k + 1 ∧ List.replicate k (-1 : Int) ++ [-1] = List.replicate (k + 1) (-1) ∧ (List.replicate k (-1 : Int)).length = k) := ⟨by rw [beltOf_succ, bbC_append]; rfl, by unfold beltOf; simp, (List.replicate_succ' ..).symm, by simp⟩
            have HZ : Hid (B ≤ (wr.alloc (Obj.cells #[.int .i64 (k : Int), .int .i64 0] 99)).heap.size) := HS1.out.bsz
            clear hV1 HS hbl
            go_upto_region 18 with (at_builtin; refine wpList_append_lies _ rfl _ _ 96 rfl B 99 i0 (.agg #[.int .i64 0, .int .i64 0]) 2 16 Try.underlying96 HI0.out.1 HI0.out.2.1 HI0.out.2.2.1 HI0.out.2.2.2 rfl (by decide) _ _ _ rfl HRw.out ⟨wr.heap.size, 0, none⟩ 1 1 [.int .i64 (k : Int), .int .i64 0] rfl rfl HNw.out HOn.out (by omega) (by unfold maxLen; omega) (by omega) HZ.out _ rfl ?_; intro g1 cp1 w8 hown1 hgrow1 hat1 hglt1)
            have HS3 : Hid (SpI B lb W0 (.slice (some ⟨g1, 0, none⟩) (k + 1) cp1) (.slice none 0 0) (beltOf (k + 1)) [] (List.replicate k (-1)) [] 0 0 qo co none 0 w8) := by
              rw [HSn.out.1] at hown1
              refine HS1.out.belt2 ?_ hgrow1
              rw [HSn.out.2.1]; exact hown1
            clear hown1 hgrow1 hat1 hglt1 HS1 HRw HNw HOn HZ
            have HS4 : Hid (SpI B lb W0 (.slice (some ⟨g1, 0, none⟩) (k + 1) cp1) (.slice none 0 0) (beltOf (k + 1)) [] (List.replicate k (-1)) [] 0 0 qo co none 0 (w8.alloc (Obj.cells #[.int .i64 (-1)] 3))) := HS3.out.later (below_alloc _ _)
            obtain ⟨⟨_, _, f2, _⟩, _⟩ := HS3.out.cells
            clear HS3
            go_wp2_with (at_builtin; refine wpList_int1 rfl _ _ rfl B qo co (List.replicate k (-1)) (-1) (w8.alloc (Obj.cells #[.int .i64 (-1)] 3)) (by rw [List.length_replicate]; rfl) HS4.out.rowO w8.heap.size rfl (cellNew _ _ _ _ rfl rfl) (by rw [HSn.out.2.2.2]; omega) HS4.out.bsz ?_; intro g2 c2 V4 hr1 hr2 hg hg1; have hb4 : V4.heap[lb]? = _ := (hg.block lb (blkLt HS4.out.box) (fun e => HS4.out.nb.2.2.1 lb e.symm rfl)).trans HS4.out.box; have y2 := blkCell hb4 2 _ rfl; have yz := blkFree hb4 2; simp only [List.getElem_toArray, List.getElem_cons_zero, List.getElem_cons_succ] at y2; have hS5 := HS4.out.pushO hr1 hg hg1; rw [List.length_replicate] at hS5; have HS5 : Hid (SpI B lb W0 (.slice (some ⟨g1, 0, none⟩) (k + 1) cp1) (.slice none 0 0) (beltOf (k + 1)) [] (List.replicate k (-1) ++ [-1]) [] 0 0 (some ⟨g2, 0, none⟩) c2 none 0 (V4.setCell ⟨lb, 2, none⟩ (.slice (some ⟨g2, 0, none⟩) (k + 1) c2))) := hS5; clear hS5; rw [List.length_replicate] at y2; rw [List.length_replicate]; clear hr1 hr2 hg hg1 hb4 f2)
            rw [HSn.out.2.2.1] at HS5
            exact ⟨⟨k + 1, some ⟨g2, 0, none⟩, c2, by omega, by go_num, HK.out, HS5.out⟩, by simp [intOf]; omega⟩
        · have hk2 : k = ps.length := by omega
          subst hk2
          have hlt' : ¬ (ps.length : Int) < (ps.length : Int) := by omega
          have hps : alB 0 ((ls.length : Int) - 1) ps = true := by have := HF.out; rwa [List.take_of_length_le (Nat.le_refl _)] at this
          obtain ⟨rfl, rfl, rfl, rfl, rfl⟩ := HA0.out HLs.out hps
          have HStp : Hid (∀ (τ : SrS) (i r : Nat) (D : List (Nat × Nat)), SrOK ls ps.length τ → τ.belt = (i, r) :: D → SrOK ls ps.length (srStep ls ps i r D τ)) := fun τ i r D h2 h3 => step_ok HLs.out hps rfl h2 h3
          have HEv : Hid (∀ k, k < ls.length → (1 ≤ (ls.getD k zLa).rm ∧ (ls.getD k zLa).rm ≤ 100) ∧ 1 ≤ (ls.getD k zLa).ev ∧ (ls.getD k zLa).ev ≤ 100) := fun k hk => lnB_facts (lnsB_get HLs.out hk)
          have HPr : Hid (∀ k, k < ps.length → 0 ≤ ps.getD k 0 ∧ ps.getD k 0 ≤ (ls.length : Int) - 1) := fun k hk => alB_get hps hk
          have HSt : Hid (SrOK ls ps.length (srStart ls.length ps.length (-1))) := start_ok ls ps.length h1 (-1)
          obtain ⟨fin, hfin⟩ : ∃ fin, srEnd ls ps (srStart ls.length ps.length (-1)) = fin := ⟨_, rfl⟩
          rw [hfin]
          have HFi : Hid (srEnd ls ps (srStart ls.length ps.length (-1)) = fin) := hfin
          have HFz : Hid (srEnd ls ps (srStart ls.length ps.length (-1)) = fin) := hfin
          clear HF HA5 HA0 hps hfin hwn
          have hmk := HM1.out
          go_upto_region 20 with fail
          clear hmk HM1 hlt'
          obtain ⟨wb, hwb⟩ : ∃ wb, wb = wr.heap.size := ⟨_, rfl⟩
          obtain ⟨W3, hW3⟩ : ∃ W3, W3 = wr.alloc (Obj.cells (madeCells #[.int .i64 0] ls.length) 3) := ⟨_, rfl⟩
          have HS6 : Hid (SpI B lb W0 u6 (.slice (some ⟨wb, 0, none⟩) ls.length ls.length) (beltOf ps.length) (List.replicate ls.length 0) (List.replicate ps.length (-1)) [] 0 0 qo co none 0 W3) := by
            show SpI _ _ _ _ _ _ _ _ _ _ _ _ _ _ _ _
            rw [hW3, hwb]; exact SpI.fill (by omega) HS.out
          rw [← hW3, ← hwb]
          clear hW3 hwb HS
          go_loopw [6] (fun bv wr => ∃ (σ : SrS) (qo : Option Addr) (co : Nat) (qr : Option Addr) (cr : Nat), SrOK ls ps.length σ ∧ srEnd ls ps σ = fin ∧ MiO σ ∧ SpI B lb W0 bv (.slice (some ⟨wb, 0, none⟩) ls.length ls.length) σ.belt σ.full σ.out σ.rej σ.tk σ.rc qo co qr cr wr) (fun _ wr => (400 - intOf ((wr.cell? ⟨lb, 0, none⟩).getD undef)).toNat)
          case atStart => exact ⟨srStart ls.length ps.length (-1), qo, co, none, 0, HSt.out, HFi.out, mi_start ls.length ps.length, HS6.out⟩
          case round =>
            clear HS6 HSt HFi
            obtain ⟨σ, qo, co, qr, cr, hok, hen, hmi, hs⟩ := hrel
            have HOk : Hid (SrOK ls ps.length σ ∧ srEnd ls ps σ = fin ∧ MiO σ) := ⟨hok, hen, hmi⟩
            have HS : Hid (SpI B lb W0 u6 (.slice (some ⟨wb, 0, none⟩) ls.length ls.length) σ.belt σ.full σ.out σ.rej σ.tk σ.rc qo co qr cr wr) := hs
            have htk := hok.tk
            have hrc := hok.rc
            obtain ⟨gb, cb, hbv⟩ := row_slice HS.out.rowB
            subst hbv
            clear hok hen hmi hs
            cases hbt : σ.belt with
            | nil =>
              have e0 := HOk.out.2.1
              rw [end_nil hbt] at e0
              subst e0
              have HFs : Hid (srEnd ls ps (srStart ls.length ps.length (-1)) = σ) := HFz.out
              obtain ⟨hrb3, hlow⟩ := HRW.out wr HS.out.low
              have hl0 : ([] : List (Nat × Nat)).length = 0 := rfl
              rw [hl0]
              obtain ⟨⟨f0, f1, f2, f3⟩, _⟩ := HS.out.cells
              have r0 := blkCell hrb3 0 _ rfl
              have q0 := blkFree hrb3 0
              have r1 := blkCell hrb3 1 _ rfl
              have q1 := blkFree hrb3 1
              have r2 := blkCell hrb3 2 _ rfl
              have q2 := blkFree hrb3 2
              have r3 := blkCell hrb3 3 _ rfl
              have q3 := blkFree hrb3 3
              simp only [List.getElem_toArray, List.getElem_cons_zero, List.getElem_cons_succ] at r0 r1 r2 r3
              have hz := HB.out
              have hne : ∀ d, B ≤ d → d ≠ rb := fun d hd => by omega
              obtain ⟨g1, g2, g3⟩ := set_four hrb3 (.int .i64 σ.tk) (.int .i64 σ.rc) (.slice qo σ.out.length co) (.slice qr σ.rej.length cr)
              have HFin : Hid (∃ V, V = ((((wr.setCell ⟨rb, 0, none⟩ (.int .i64 σ.tk)).setCell ⟨rb, 1, none⟩ (.int .i64 σ.rc)).setCell ⟨rb, 2, none⟩ (.slice qo σ.out.length co)).setCell ⟨rb, 3, none⟩ (.slice qr σ.rej.length cr)) ∧ V.heap[rb]? = some (.cells #[.int .i64 σ.tk, .int .i64 σ.rc, .slice qo σ.out.length co, .slice qr σ.rej.length cr] 41 (0, 0)) ∧ V.ownsRow w.heap.size 3 1 (.slice qo σ.out.length co) σ.out.length (inV σ.out) ∧ V.ownsRow w.heap.size 3 1 (.slice qr σ.rej.length cr) σ.rej.length (inV σ.rej) ∧ (∀ q, (Value.slice qo σ.out.length co).ownBlock = some q → (Value.slice qr σ.rej.length cr).ownBlock ≠ some q) ∧ Below w.heap.size w V) :=
                ⟨_, rfl, g1, row_wide (row_of HS.out.rowO (fun q hq => g2 q (hne q (row_lt HS.out.rowO q hq).1))) (by omega), row_wide (row_of HS.out.rowR (fun q hq => g2 q (hne q (row_lt HS.out.rowR q hq).1))) (by omega), HS.out.or, hlow.trans (g3 w.heap.size (by omega))⟩
              clear g1 g2 g3 hne hz HS HOk hlow hrb3
              go_wp2
              clear r0 r1 r2 r3 q0 q1 q2 q3 f0 f1 f2 f3
              obtain ⟨V, hV, v1, v2, v3, v4, v5⟩ := HFin.out
              rw [← hV]
              have c0 := blkCell v1 0 _ rfl
              have c1 := blkCell v1 1 _ rfl
              have c2 := blkCell v1 2 _ rfl
              have c3 := blkCell v1 3 _ rfl
              simp only [List.getElem_toArray, List.getElem_cons_zero, List.getElem_cons_succ] at c0 c1 c2 c3
              refine bodyPost_ret (v := .tuple #[.agg #[.int .i64 σ.tk, .int .i64 σ.rc, .slice qo σ.out.length co, .slice qr σ.rej.length cr], .int .i64 0]) (by simp [results, Try.results23, go_sem, c0, c1, c2, c3]) rfl (by rw [HFs.out]; exact ⟨qo, co, qr, cr, rfl, v2, v3, v4, v5⟩)
            | cons p D =>
              obtain ⟨i, r⟩ := p
              have hok := HOk.out.1
              have hi : i < ps.length := hok.num (i, r) (by rw [hbt]; simp)
              have hr3 : r ≤ 3 := hok.rd (i, r) (by rw [hbt]; simp)
              have hDl := hok.len
              rw [hbt] at hDl
              simp only [List.length_cons] at hDl
              have hrl := hok.rl
              have htk1 : σ.tk + 1 ≤ 400 := by
                have := hok.tk
                rw [hbt] at this
                have hp := wt_pos (i := i) (B := D) hr3
                omega
              have HNx : Hid (SrOK ls ps.length (srStep ls ps i r D σ) ∧ srEnd ls ps (srStep ls ps i r D σ) = fin ∧ MiO (srStep ls ps i r D σ)) := ⟨HStp.out σ i r D hok hbt, by rw [← end_cons hok.rd hbt]; exact HOk.out.2.1, mi_step hok HOk.out.2.2 hbt⟩
              have HEb : Hid ((∀ j k, k < ls.length → 0 ≤ (emK ls σ.tk σ.full j).getD k 0 ∧ (emK ls σ.tk σ.full j).getD k 0 ≤ 100) ∧ σ.out.getD i 0 = -1 ∧ σ.out.length = ps.length ∧ σ.rej.length ≤ 100 ∧ emK ls σ.tk σ.full 0 = σ.full) := ⟨em_bd hok.fb, HOk.out.2.2 (i, r) (by rw [hbt]; simp), hok.ol, by omega, emK_zero hok.fl⟩
              clear hok HOk hrl HStp
              have hS := HS.out
              rw [hbt] at hS
              obtain ⟨bl, hbl⟩ : ∃ bl, bl = ((i, r) :: D).length := ⟨_, rfl⟩
              have hbl2 : bl = D.length + 1 := hbl
              rw [← hbl] at hS ⊢
              obtain ⟨g, c2, hgb⟩ := row_some hS.rowB (by rw [← hbl]; omega)
              have hga : gb = some ⟨g, 0, none⟩ := by
                simp only [Value.slice.injEq] at hgb
                exact hgb.1
              subst hga
              clear hgb
              have HS1 : Hid (SpI B lb W0 (.slice (some ⟨g, 0, none⟩) bl cb) (.slice (some ⟨wb, 0, none⟩) ls.length ls.length) ((i, r) :: D) (emK ls σ.tk σ.full 0) (σ.out) (σ.rej) (σ.tk) (σ.rc) (qo) (co) (qr) (cr) (wr)) := by
                show SpI _ _ _ _ _ _ _ _ _ _ _ _ _ _ _ _
                rw [HEb.out.2.2.2.2]; exact hS
              have HBl : Hid (bl = D.length + 1) := hbl2
              have HTk0 : Hid (wr.cell? ⟨lb, 0, none⟩ = some (.int .i64 σ.tk)) := HS.out.cells.1.1
              clear hS HS hbl hbl2 hbt
              have hbp : (0 : Int) < (bl : Int) := by have := HBl.out; omega
              go_upto_region 22 with fail
              go_loopw [11] (fun v wr2 => ∃ k : Nat, k ≤ ls.length ∧ v = .int .i64 (k : Int) ∧ SpI B lb W0 (.slice (some ⟨g, 0, none⟩) bl cb) (.slice (some ⟨wb, 0, none⟩) ls.length ls.length) ((i, r) :: D) (emK ls σ.tk σ.full k) (σ.out) (σ.rej) (σ.tk) (σ.rc) (qo) (co) (qr) (cr) (wr2)) (fun v _ => ls.length - (intOf v).toNat)
              case atStart => exact ⟨0, Nat.zero_le _, rfl, HS1.out⟩
              case round =>
                clear HS1
                obtain ⟨k, hk, rfl, hs⟩ := hrel
                have H : Hid (SpI B lb W0 (.slice (some ⟨g, 0, none⟩) bl cb) (.slice (some ⟨wb, 0, none⟩) ls.length ls.length) ((i, r) :: D) (emK ls σ.tk σ.full k) (σ.out) (σ.rej) (σ.tk) (σ.rc) (qo) (co) (qr) (cr) (wr)) := hs
                clear hs
                by_cases hlt : k < ls.length
                · have hlt' : (k : Int) < (ls.length : Int) := by omega
                  obtain ⟨b, o, ha, d0, d1⟩ := HLn.out k wr hlt H.out.low
                  obtain ⟨_, he1, he2⟩ := HEv.out k hlt
                  have HY : Hid (σ.tk % (ls.getD k zLa).ev = 0 → emK ls σ.tk σ.full (k + 1) = (emK ls σ.tk σ.full k).set k 0) := fun e => emK_yes hlt e
                  have HN : Hid (¬ σ.tk % (ls.getD k zLa).ev = 0 → emK ls σ.tk σ.full (k + 1) = emK ls σ.tk σ.full k) := fun e => emK_no hlt e
                  have HD : Hid (∀ X, Below wr.heap.size wr X → X.cell? ⟨lb, 0, none⟩ = some (.int .i64 σ.tk) ∧ X.cell? ⟨b, o + k * 2 + 1, none⟩ = some (.int .i64 (ls.getD k zLa).ev)) := fun X hX => by
                    refine ⟨(H.out.later hX).cells.1.1, ?_⟩
                    obtain ⟨b', o', ha', _, d1'⟩ := HLn.out k X hlt ((H.out.later hX).low)
                    rw [ha] at ha'
                    cases ha'
                    exact d1'
                  subst ha
                  clear HLn HPn d0 d1
                  generalize (ls.getD k zLa).ev = ev at *
                  obtain ⟨q, hq⟩ : ∃ q, σ.tk % ev = q := ⟨_, rfl⟩
                  have hq1 : Int.tmod σ.tk ev = q := by rw [Int.tmod_eq_emod_of_nonneg htk.1]; exact hq
                  have hq2 : 0 ≤ q ∧ q < ev := by rw [← hq]; exact ⟨Int.emod_nonneg _ (by omega), Int.emod_lt_of_pos _ (by omega)⟩
                  rw [hq] at HY HN
                  clear hq
                  have hwq : IntKind.i64.wrap q = q := wrap_id _ (by omega) (by omega)
                  have hne : ¬ ev = 0 := by omega
                  obtain ⟨t0, ht0, htw⟩ : ∃ t0, t0 = decide (q = 0) ∧ (q == 0) = t0 := ⟨_, rfl, by by_cases h : q = 0 <;> simp [h]⟩
                  go_upto_region 24 with fail
                  refine wp_region_held_drew (S := fun W' => Below wr.heap.size wr W') (by kernel_rfl) (below_drew _) (fun hH => ?_)
                  refine wpAnyH_take (i := 0) (v := .pointer (some ⟨lb, 0, none⟩)) rfl (by kernel_rfl) (by kernel_rfl) (by kernel_rfl) (fun _ _ _ h => h) (Or.inl ⟨by rfl, fun w hSw => by clear hSw; go_simp⟩) hH ?_
                  refine wpAnyH_take (i := 1) (v := .int .i64 σ.tk) rfl (by kernel_rfl) (by kernel_rfl) (by kernel_rfl) (fun _ _ _ h => h) (Or.inl ⟨by rfl, fun w hSw => by obtain ⟨f0, f1⟩ := HD.out w hSw; clear hSw; go_simp⟩) hH ?_
                  try simp only [Act.put, List.setIfInBounds_toArray, List.set_cons_zero, List.set_cons_succ, List.getElem_toArray, List.getElem_cons_succ, List.getElem_cons_zero]
                  refine wpAnyH_take (i := 2) (v := .slice (some ⟨b, o, none⟩) ls.length lc) rfl (by kernel_rfl) (by kernel_rfl) (by kernel_rfl) (fun _ _ _ h => h) (Or.inl ⟨by rfl, fun w hSw => by clear hSw; go_simp⟩) hH ?_
                  try simp only [Act.put, List.setIfInBounds_toArray, List.set_cons_zero, List.set_cons_succ, List.getElem_toArray, List.getElem_cons_succ, List.getElem_cons_zero]
                  refine wpAnyH_take (i := 3) (v := .int .i64 (k : Int)) rfl (by kernel_rfl) (by kernel_rfl) (by kernel_rfl) (fun _ _ _ h => h) (Or.inl ⟨by rfl, fun w hSw => by clear hSw; go_simp⟩) hH ?_
                  try simp only [Act.put, List.setIfInBounds_toArray, List.set_cons_zero, List.set_cons_succ, List.getElem_toArray, List.getElem_cons_succ, List.getElem_cons_zero]
                  refine wpAnyH_take (i := 4) (v := .pointer (some ⟨b, o + k * 2, none⟩)) rfl (by kernel_rfl) (by kernel_rfl) (by kernel_rfl) (fun _ _ _ h => h) (Or.inl ⟨by rfl, fun w hSw => by clear hSw; go_simp⟩) hH ?_
                  try simp only [Act.put, List.setIfInBounds_toArray, List.set_cons_zero, List.set_cons_succ, List.getElem_toArray, List.getElem_cons_succ, List.getElem_cons_zero]
                  refine wpAnyH_take (i := 5) (v := .pointer (some ⟨b, o + k * 2 + 1, none⟩)) rfl (by kernel_rfl) (by kernel_rfl) (by kernel_rfl) (fun _ _ _ h => h) (Or.inl ⟨by rfl, fun w hSw => by clear hSw; go_simp⟩) hH ?_
                  try simp only [Act.put, List.setIfInBounds_toArray, List.set_cons_zero, List.set_cons_succ, List.getElem_toArray, List.getElem_cons_succ, List.getElem_cons_zero]
                  refine wpAnyH_take (i := 6) (v := .int .i64 ev) rfl (by kernel_rfl) (by kernel_rfl) (by kernel_rfl) (fun _ _ _ h => h) (Or.inl ⟨by rfl, fun w hSw => by obtain ⟨f0, f1⟩ := HD.out w hSw; clear hSw; go_simp⟩) hH ?_
                  try simp only [Act.put, List.setIfInBounds_toArray, List.set_cons_zero, List.set_cons_succ, List.getElem_toArray, List.getElem_cons_succ, List.getElem_cons_zero]
                  refine wpAnyH_take (i := 7) (v := .int .i64 q) rfl (by kernel_rfl) (by kernel_rfl) (by kernel_rfl) (fun _ _ _ h => h) (Or.inl ⟨by rfl, fun w hSw => by clear hSw; go_simp⟩) hH ?_
                  try simp only [Act.put, List.setIfInBounds_toArray, List.set_cons_zero, List.set_cons_succ, List.getElem_toArray, List.getElem_cons_succ, List.getElem_cons_zero]
                  refine wpAnyH_take (i := 8) (v := .bool t0) rfl (by kernel_rfl) (by kernel_rfl) (by kernel_rfl) (fun _ _ _ h => h) (Or.inl ⟨by rfl, fun w hSw => by clear hSw; go_simp⟩) hH ?_
                  try simp only [Act.put, List.setIfInBounds_toArray, List.set_cons_zero, List.set_cons_succ, List.getElem_toArray, List.getElem_cons_succ, List.getElem_cons_zero]
                  refine wpAnyH_done (by kernel_rfl) ?_ _
                  clear hH HD htw
                  have H2 : Hid (SpI B lb W0 (.slice (some ⟨g, 0, none⟩) bl cb) (.slice (some ⟨wb, 0, none⟩) ls.length ls.length) ((i, r) :: D) (emK ls σ.tk σ.full k) (σ.out) (σ.rej) (σ.tk) (σ.rc) (qo) (co) (qr) (cr) (wr.drew)) := H.out.later (below_drew _)
                  clear H
                  generalize wr.drew = V2 at *
                  by_cases hq0 : q = 0
                  · have e : t0 = true := by rw [ht0]; exact decide_eq_true hq0
                    clear ht0
                    subst e
                    have hS3 := H2.out.setF (j := k) (by rw [emK_len]; exact hlt) 0
                    rw [← HY.out hq0] at hS3
                    have HS3 : Hid (SpI B lb W0 (.slice (some ⟨g, 0, none⟩) bl cb) (.slice (some ⟨wb, 0, none⟩) ls.length ls.length) ((i, r) :: D) (emK ls σ.tk σ.full (k + 1)) (σ.out) (σ.rej) (σ.tk) (σ.rc) (qo) (co) (qr) (cr) (V2.setCell ⟨wb, k, none⟩ (.int .i64 0))) := hS3
                    clear hS3 HY HN hq1 hq2 hwq hq0
                    obtain ⟨hwc, hwl⟩ := rowCell H2.out.rowF (j := k) (by rw [emK_len]; exact hlt)
                    go_wp2
                    exact ⟨⟨k + 1, by omega, by go_num, HS3.out⟩, by simp [intOf]; omega⟩
                  · have e : t0 = false := by rw [ht0]; exact decide_eq_false hq0
                    clear ht0
                    subst e
                    have HS3 : Hid (SpI B lb W0 (.slice (some ⟨g, 0, none⟩) bl cb) (.slice (some ⟨wb, 0, none⟩) ls.length ls.length) ((i, r) :: D) (emK ls σ.tk σ.full (k + 1)) (σ.out) (σ.rej) (σ.tk) (σ.rc) (qo) (co) (qr) (cr) (V2)) := by
                      show SpI _ _ _ _ _ _ _ _ _ _ _ _ _ _ _ _
                      rw [HN.out hq0]; exact H2.out
                    clear HY HN hq1 hq2 hwq hq0
                    go_wp2
                    exact ⟨⟨k + 1, by omega, by go_num, HS3.out⟩, by simp [intOf]; omega⟩
                · have hk2 : k = ls.length := by omega
                  subst hk2
                  have hlt' : ¬ (ls.length : Int) < (ls.length : Int) := by omega
                  obtain ⟨F, hF⟩ : ∃ F, emK ls σ.tk σ.full ls.length = F := ⟨_, rfl⟩
                  have HFe : Hid (emK ls σ.tk σ.full ls.length = F ∧ F.length = ls.length) := ⟨hF, by rw [← hF, emK_len]⟩
                  rw [hF] at H
                  have HFb := HEb.out.1 ls.length
                  rw [hF] at HFb
                  have HFB : Hid (∀ k, k < ls.length → 0 ≤ F.getD k 0 ∧ F.getD k 0 ≤ 100) := HFb
                  clear HFb hF
                  -- the first of the belt
                  have b0 : wr.cell? ⟨g, 0, none⟩ = some (.int .i64 (i : Int)) := by
                    have := H.out.rowB
                    rw [show ((i, r) :: D).length = bl from HBl.out.symm] at this
                    rw [this.cellAt 0 (by have := HBl.out; omega)]; rfl
                  have b1 : wr.cell? ⟨g, 1, none⟩ = some (.int .i64 (r : Int)) := by
                    have := H.out.rowB
                    rw [show ((i, r) :: D).length = bl from HBl.out.symm] at this
                    rw [this.cellAt 1 (by have := HBl.out; omega)]; rfl
                  go_upto_region 27 with fail
                  clear b0 b1 hlt'
                  obtain ⟨V1, hV1⟩ : ∃ V1, V1 = wr.alloc (Obj.cells #[.int .i64 (i : Int), .int .i64 (r : Int)] 99) := ⟨_, rfl⟩
                  obtain ⟨xb, hxb⟩ : ∃ xb, xb = wr.heap.size := ⟨_, rfl⟩
                  have HS4 : Hid (SpI B lb W0 (.slice (some ⟨g, 0, none⟩) bl cb) (.slice (some ⟨wb, 0, none⟩) ls.length ls.length) ((i, r) :: D) (F) (σ.out) (σ.rej) (σ.tk) (σ.rc) (qo) (co) (qr) (cr) (V1) ∧ V1.heap[xb]? = some (.cells #[.int .i64 (i : Int), .int .i64 (r : Int)] 99 (0, 0)) ∧ xb ≠ g) := by
                    rw [hV1, hxb]
                    exact ⟨H.out.later (below_alloc _ _), heapNew _ _, by have := (row_lt H.out.rowB g rfl).2; omega⟩
                  rw [← hV1, ← hxb]
                  clear hV1 hxb H
                  have hb1 : (1 : Int) ≤ (bl : Int) := by have := HBl.out; omega
                  have hbm : ((bl : Int) - 1).toNat = bl - 1 := by omega
                  have hb100 : bl ≤ 100 := by have := HBl.out; omega
                  have HNil : Hid ((V1.alloc (Obj.cells #[] 99)).ownsRow B 99 2 (.slice (some ⟨V1.heap.size, 0, none⟩) 0 0) 0 []) := ⟨rfl, .inr ⟨V1.heap.size, 0, #[], rfl, HS4.out.1.bsz, heapNew V1 _, Nat.le_refl _, by unfold maxLen; omega, rfl, rfl⟩⟩
                  have HCp : Hid (bl ≤ cb) := by
                    have h := HS4.out.1.rowB
                    rw [show ((i, r) :: D).length = bl from HBl.out.symm] at h
                    exact row_cap h
                  have HCl : Hid (∀ j u, (bbC D)[j]? = some u → (V1.alloc (Obj.cells #[] 99)).cell? ((⟨g, 2, none⟩ : Addr).add j) = some u) := by
                    have h := (HS4.out.1.later (below_alloc V1 (Obj.cells #[] 99))).rowB
                    rw [show ((i, r) :: D).length = bl from HBl.out.symm] at h
                    refine row_part h 2 (bbC D) (fun j u hj => ?_)
                    show (([.int .i64 (i : Int), .int .i64 (r : Int)] : List Value) ++ bbC D)[2 + j]? = some u
                    rw [List.getElem?_append_right (by simp)]
                    simpa using hj
                  have HLe : Hid ((bbC D).length = (bl - 1) * 2) := by
                    show _ = _
                    rw [bbC_len, HBl.out]; simp
                  have HS5 : Hid (SpI B lb W0 (.slice (some ⟨V1.heap.size, 0, none⟩) 0 0) (.slice (some ⟨wb, 0, none⟩) ls.length ls.length) ([]) (F) (σ.out) (σ.rej) (σ.tk) (σ.rc) (qo) (co) (qr) (cr) (V1.alloc (Obj.cells #[] 99))) := (HS4.out.1.later (below_alloc _ _)).belt3 HNil.out
                  have HX5 : Hid ((V1.alloc (Obj.cells #[] 99)).heap[xb]? = some (.cells #[.int .i64 (i : Int), .int .i64 (r : Int)] 99 (0, 0))) := ((below_alloc V1 (Obj.cells #[] 99)).block xb (blkLt HS4.out.2.1)).trans HS4.out.2.1
                  have HXn : Hid (xb ≠ V1.heap.size) := by have := blkLt HS4.out.2.1; show xb ≠ _; omega
                  clear HS4
                  go_upto_region 28 with (at_builtin; (refine wpList_append_any rfl _ _ 96 rfl B 99 i0 (.agg #[.int .i64 0, .int .i64 0]) 2 16 Try.underlying96 HI0.out.1 HI0.out.2.1 HI0.out.2.2.1 HI0.out.2.2.2 rfl (by decide) (.slice (some ⟨V1.heap.size, 0, none⟩) 0 0) 0 [] rfl HNil.out _ (bl - 1) (cb - 1) (bbC D) rfl HLe.out (fun h0 => ⟨⟨g, 2, none⟩, by rw [if_neg (by have h5 := HCp.out; omega)], HCl.out⟩) (bbC_one D) (by unfold maxLen; omega) (by omega) HS5.out.bsz ?_; intro va vc w3 hown hgrow hat))
                  have HS6 : Hid (SpI B lb W0 (.slice va D.length vc) (.slice (some ⟨wb, 0, none⟩) ls.length ls.length) (D) (F) (σ.out) (σ.rej) (σ.tk) (σ.rc) (qo) (co) (qr) (cr) (w3) ∧ w3.heap[xb]? = some (.cells #[.int .i64 (i : Int), .int .i64 (r : Int)] 99 (0, 0))) := by
                    have e1 : 0 + (bl - 1) = D.length := by have := HBl.out; omega
                    rw [e1, List.nil_append] at hown
                    refine ⟨HS5.out.belt2 hown hgrow, (hgrow.block xb ?_ ?_).trans HX5.out⟩
                    · exact blkLt HX5.out
                    · intro e
                      have e2 : V1.heap.size = xb := by simpa [Value.ownBlock] using e.symm
                      exact HXn.out e2.symm
                  have e1 : bl - 1 = D.length := by have := HBl.out; omega
                  rw [e1]
                  clear hown hgrow hat e1 HS5 HX5 HNil HCp HCl HLe HXn hbm hb1 hbp hb100
                  obtain ⟨l, hl⟩ : ∃ l : Nat, ps.getD i 0 = (l : Int) := ⟨(ps.getD i 0).toNat, by have := HPr.out i hi; omega⟩
                  have hll : l < ls.length := by have := HPr.out i hi; omega
                  obtain ⟨b1, o1, hpa, p0⟩ := HPn.out i w3 hi HS6.out.1.low
                  rw [hl] at p0
                  subst hpa
                  have x0 := blkCell HS6.out.2 0 _ rfl
                  have x1 := blkCell HS6.out.2 1 _ rfl
                  simp only [List.getElem_toArray, List.getElem_cons_zero, List.getElem_cons_succ] at x0 x1
                  have hi2 : (i : Int) < (ps.length : Int) := by omega
                  have hl2 : (l : Int) < (ls.length : Int) := by omega
                  go_upto_region 31 with fail
                  clear p0 x0 x1 HPn
                  obtain ⟨b2, o2, hla, _, _⟩ := HLn.out l w3 hll HS6.out.1.low
                  obtain ⟨rm, hrm⟩ : ∃ rm, (ls.getD l zLa).rm = rm := ⟨_, rfl⟩
                  obtain ⟨fl, hfl⟩ : ∃ fl, F.getD l 0 = fl := ⟨_, rfl⟩
                  have hfb := HFB.out l hll
                  rw [hfl] at hfb
                  have HD : Hid (∀ X, Below w3.heap.size w3 X → X.cell? ⟨wb, l, none⟩ = some (.int .i64 fl) ∧ X.cell? ⟨b2, o2 + l * 2, none⟩ = some (.int .i64 rm)) := fun X hX => by
                    refine ⟨?_, ?_⟩
                    · have := (rowCell (HS6.out.1.later hX).rowF (j := l) (by rw [HFe.out.2]; exact hll)).1
                      rw [hfl] at this
                      exact this
                    · obtain ⟨b', o', ha', d0', _⟩ := HLn.out l X hll ((HS6.out.1.later hX).low)
                      rw [hla] at ha'
                      cases ha'
                      rw [hrm] at d0'
                      exact d0'
                  subst hla
                  obtain ⟨t0, ht0⟩ : ∃ t0, decide (fl < rm) = t0 := ⟨_, rfl⟩
                  refine wp_region_held_drew (S := fun W' => Below w3.heap.size w3 W') (by kernel_rfl) (below_drew _) (fun hH => ?_)
                  refine wpAnyH_take (i := 0) (v := .slice (some ⟨wb, 0, none⟩) ls.length ls.length) rfl (by kernel_rfl) (by kernel_rfl) (by kernel_rfl) (fun _ _ _ h => h) (Or.inl ⟨by rfl, fun w hSw => by clear hSw; go_simp⟩) hH ?_
                  refine wpAnyH_take (i := 1) (v := .int .i64 (l : Int)) rfl (by kernel_rfl) (by kernel_rfl) (by kernel_rfl) (fun _ _ _ h => h) (Or.inl ⟨by rfl, fun w hSw => by clear hSw; go_simp⟩) hH ?_
                  try simp only [Act.put, List.setIfInBounds_toArray, List.set_cons_zero, List.set_cons_succ, List.getElem_toArray, List.getElem_cons_succ, List.getElem_cons_zero]
                  refine wpAnyH_take (i := 2) (v := .pointer (some ⟨wb, l, none⟩)) rfl (by kernel_rfl) (by kernel_rfl) (by kernel_rfl) (fun _ _ _ h => h) (Or.inl ⟨by rfl, fun w hSw => by clear hSw; go_simp⟩) hH ?_
                  try simp only [Act.put, List.setIfInBounds_toArray, List.set_cons_zero, List.set_cons_succ, List.getElem_toArray, List.getElem_cons_succ, List.getElem_cons_zero]
                  refine wpAnyH_take (i := 3) (v := .int .i64 fl) rfl (by kernel_rfl) (by kernel_rfl) (by kernel_rfl) (fun _ _ _ h => h) (Or.inl ⟨by rfl, fun w hSw => by obtain ⟨f0, f1⟩ := HD.out w hSw; clear hSw; go_simp⟩) hH ?_
                  try simp only [Act.put, List.setIfInBounds_toArray, List.set_cons_zero, List.set_cons_succ, List.getElem_toArray, List.getElem_cons_succ, List.getElem_cons_zero]
                  refine wpAnyH_take (i := 4) (v := .slice (some ⟨b2, o2, none⟩) ls.length lc) rfl (by kernel_rfl) (by kernel_rfl) (by kernel_rfl) (fun _ _ _ h => h) (Or.inl ⟨by rfl, fun w hSw => by clear hSw; go_simp⟩) hH ?_
                  try simp only [Act.put, List.setIfInBounds_toArray, List.set_cons_zero, List.set_cons_succ, List.getElem_toArray, List.getElem_cons_succ, List.getElem_cons_zero]
                  refine wpAnyH_take (i := 5) (v := .int .i64 (l : Int)) rfl (by kernel_rfl) (by kernel_rfl) (by kernel_rfl) (fun _ _ _ h => h) (Or.inl ⟨by rfl, fun w hSw => by clear hSw; go_simp⟩) hH ?_
                  try simp only [Act.put, List.setIfInBounds_toArray, List.set_cons_zero, List.set_cons_succ, List.getElem_toArray, List.getElem_cons_succ, List.getElem_cons_zero]
                  refine wpAnyH_take (i := 6) (v := .pointer (some ⟨b2, o2 + l * 2, none⟩)) rfl (by kernel_rfl) (by kernel_rfl) (by kernel_rfl) (fun _ _ _ h => h) (Or.inl ⟨by rfl, fun w hSw => by clear hSw; go_simp⟩) hH ?_
                  try simp only [Act.put, List.setIfInBounds_toArray, List.set_cons_zero, List.set_cons_succ, List.getElem_toArray, List.getElem_cons_succ, List.getElem_cons_zero]
                  refine wpAnyH_take (i := 7) (v := .pointer (some ⟨b2, o2 + l * 2, none⟩)) rfl (by kernel_rfl) (by kernel_rfl) (by kernel_rfl) (fun _ _ _ h => h) (Or.inl ⟨by rfl, fun w hSw => by clear hSw; go_simp⟩) hH ?_
                  try simp only [Act.put, List.setIfInBounds_toArray, List.set_cons_zero, List.set_cons_succ, List.getElem_toArray, List.getElem_cons_succ, List.getElem_cons_zero]
                  refine wpAnyH_take (i := 8) (v := .int .i64 rm) rfl (by kernel_rfl) (by kernel_rfl) (by kernel_rfl) (fun _ _ _ h => h) (Or.inl ⟨by rfl, fun w hSw => by obtain ⟨f0, f1⟩ := HD.out w hSw; clear hSw; go_simp⟩) hH ?_
                  try simp only [Act.put, List.setIfInBounds_toArray, List.set_cons_zero, List.set_cons_succ, List.getElem_toArray, List.getElem_cons_succ, List.getElem_cons_zero]
                  refine wpAnyH_take (i := 9) (v := .bool t0) rfl (by kernel_rfl) (by kernel_rfl) (by kernel_rfl) (fun _ _ _ h => h) (Or.inl ⟨by rfl, fun w hSw => by clear hSw; go_simp⟩) hH ?_
                  try simp only [Act.put, List.setIfInBounds_toArray, List.set_cons_zero, List.set_cons_succ, List.getElem_toArray, List.getElem_cons_succ, List.getElem_cons_zero]
                  refine wpAnyH_take (i := 10) (v := .bool t0) rfl (by kernel_rfl) (by kernel_rfl) (by kernel_rfl) (fun _ _ _ h => h) (Or.inl ⟨by rfl, fun w hSw => by clear hSw; go_simp⟩) hH ?_
                  try simp only [Act.put, List.setIfInBounds_toArray, List.set_cons_zero, List.set_cons_succ, List.getElem_toArray, List.getElem_cons_succ, List.getElem_cons_zero]
                  refine wpAnyH_done (by kernel_rfl) ?_ _
                  clear hH HD HLn HEv HPr HRW HL0
                  have HS7 : Hid (SpI B lb W0 (.slice va D.length vc) (.slice (some ⟨wb, 0, none⟩) ls.length ls.length) (D) (F) (σ.out) (σ.rej) (σ.tk) (σ.rc) (qo) (co) (qr) (cr) (w3.drew) ∧ w3.drew.heap[xb]? = some (.cells #[.int .i64 (i : Int), .int .i64 (r : Int)] 99 (0, 0))) := ⟨HS6.out.1.later (below_drew _), ((below_drew w3).block xb (blkLt HS6.out.2)).trans HS6.out.2⟩
                  clear HS6
                  generalize w3.drew = V2 at *
                  have htl : (ps.getD i 0).toNat = l := by rw [hl, Int.toNat_natCast]
                  have hoi : i < σ.out.length := by rw [HEb.out.2.2.1]; exact hi
                  have hrj := HEb.out.2.2.2.1
                  by_cases hc : fl < rm
                  · have HE1 : Hid (srStep ls ps i r D σ = ⟨D, F.set l (fl + 1), σ.out.set i σ.tk, σ.rej, σ.tk + 1, σ.rc⟩) := by
                      show _ = _
                      unfold srStep srLeave
                      dsimp only
                      rw [HFe.out.1, htl, hfl, hrm, if_pos hc]
                    have et : t0 = true := by rw [← ht0]; exact decide_eq_true hc
                    subst et
                    obtain ⟨ob, co2, hqo⟩ := row_some HS7.out.1.rowO (by omega)
                    have hqa : qo = some ⟨ob, 0, none⟩ := by
                      simp only [Value.slice.injEq] at hqo
                      exact hqo.1
                    subst hqa
                    obtain ⟨v1, v2⟩ := rowCell HS7.out.1.rowF (j := l) (by rw [HFe.out.2]; exact hll)
                    rw [hfl] at v1
                    have hwf : IntKind.i64.wrap (fl + 1) = fl + 1 := wrap_id _ (by omega) (by omega)
                    have HS8 : Hid (SpI B lb W0 (.slice va D.length vc) (.slice (some ⟨wb, 0, none⟩) ls.length ls.length) (D) (F.set l (fl + 1)) (σ.out) (σ.rej) (σ.tk) (σ.rc) (some ⟨ob, 0, none⟩) (co) (qr) (cr) (V2.setCell ⟨wb, l, none⟩ (.int .i64 (fl + 1))) ∧ (V2.setCell ⟨wb, l, none⟩ (.int .i64 (fl + 1))).heap[xb]? = some (.cells #[.int .i64 (i : Int), .int .i64 (r : Int)] 99 (0, 0))) := by
                      refine ⟨HS7.out.1.setF (by rw [HFe.out.2]; exact hll) _, (Below.heap_setCell V2 ⟨wb, l, none⟩ _ xb (fun e => ?_)).trans HS7.out.2⟩
                      obtain ⟨cur, h3⟩ := row_type HS7.out.1.rowF (q := wb) rfl
                      have e2 : xb = wb := e
                      have := HS7.out.2
                      rw [e2, h3] at this
                      simp at this
                    clear hc ht0 hqo htl hl HEb
                    go_upto_region 33 with fail
                    clear v1 v2 HS7
                    generalize V2.setCell ⟨wb, l, none⟩ (.int .i64 (fl + 1)) = V3 at *
                    obtain ⟨⟨f0, _, f2, _⟩, _⟩ := HS8.out.1.cells
                    have x0 := blkCell HS8.out.2 0 _ rfl
                    simp only [List.getElem_toArray, List.getElem_cons_zero] at x0
                    obtain ⟨v1, v2⟩ := rowCell HS8.out.1.rowO (j := i) hoi
                    have hoi2 : (i : Int) < (σ.out.length : Int) := by omega
                    have HSx : Hid (SpI B lb W0 (.slice va D.length vc) (.slice (some ⟨wb, 0, none⟩) ls.length ls.length) (D) (F.set l (fl + 1)) (σ.out.set i σ.tk) (σ.rej) (σ.tk) (σ.rc) (some ⟨ob, 0, none⟩) (co) (qr) (cr) (V3.setCell ⟨ob, i, none⟩ (.int .i64 σ.tk))) := HS8.out.1.setO hoi σ.tk
                    go_upto_region 36 with fail
                    clear f0 f2 x0 v1 v2 HS8
                    generalize V3.setCell ⟨ob, i, none⟩ (.int .i64 σ.tk) = V4 at *
                    obtain ⟨⟨f0, _, _, _⟩, fz⟩ := HSx.out.cells
                    have fz0 := fz 0
                    have hwt : IntKind.i64.wrap (σ.tk + 1) = σ.tk + 1 := wrap_id _ (by omega) (by omega)
                    clear fz
                    have HSy : Hid (SpI B lb W0 (.slice va D.length vc) (.slice (some ⟨wb, 0, none⟩) ls.length ls.length) (D) (F.set l (fl + 1)) (σ.out.set i σ.tk) (σ.rej) (σ.tk + 1) (σ.rc) (some ⟨ob, 0, none⟩) (co) (qr) (cr) (V4.setCell ⟨lb, 0, none⟩ (.int .i64 (σ.tk + 1)))) := HSx.out.setTk (σ.tk + 1)
                    clear HSx
                    go_wp2
                    refine ⟨⟨srStep ls ps i r D σ, some ⟨ob, 0, none⟩, co, qr, cr, HNx.out.1, HNx.out.2.1, HNx.out.2.2, by rw [HE1.out]; exact HSy.out⟩, ?_⟩
                    rw [HTk0.out, HSy.out.cells.1.1]
                    simp only [Option.getD_some, intOf]
                    omega
                  · have et : t0 = false := by rw [← ht0]; exact decide_eq_false hc
                    subst et
                    have x1 := blkCell HS7.out.2 1 _ rfl
                    simp only [List.getElem_toArray, List.getElem_cons_zero, List.getElem_cons_succ] at x1
                    by_cases h3 : r = 3
                    · have HE1 : Hid (srStep ls ps i r D σ = ⟨D, F, σ.out, σ.rej ++ [(i : Int)], σ.tk + 1, σ.rc⟩) := by
                        show _ = _
                        unfold srStep srLeave
                        dsimp only
                        rw [HFe.out.1, htl, hfl, hrm, if_neg hc, if_pos h3, set_same HEb.out.2.1]
                      have hr3 : ((r : Int) == 3) = true := by simp; omega
                      clear hc ht0 htl hl HEb h3
                      go_upto_region 35 with fail
                      clear x1 hr3
                      obtain ⟨⟨_, _, _, f3⟩, _⟩ := HS7.out.1.cells
                      have x0 := blkCell HS7.out.2 0 _ rfl
                      simp only [List.getElem_toArray, List.getElem_cons_zero] at x0
                      have HS8 : Hid (SpI B lb W0 (.slice va D.length vc) (.slice (some ⟨wb, 0, none⟩) ls.length ls.length) (D) (F) (σ.out) (σ.rej) (σ.tk) (σ.rc) (qo) (co) (qr) (cr) (V2.alloc (Obj.cells #[.int .i64 (i : Int)] 3))) := HS7.out.1.later (below_alloc _ _)
                      clear HS7
                      go_upto_region 36 with (at_builtin; refine wpList_int1 rfl _ _ rfl B qr cr σ.rej (i : Int) (V2.alloc (Obj.cells #[.int .i64 (i : Int)] 3)) rfl HS8.out.rowR V2.heap.size rfl (cellNew _ _ _ _ rfl rfl) (by omega) HS8.out.bsz ?_; intro g2 c2 V4 hr1 hr2 hg hg1; have hb4 : V4.heap[lb]? = _ := (hg.block lb (blkLt HS8.out.box) (fun e => HS8.out.nb.2.2.2 lb e.symm rfl)).trans HS8.out.box; have y3 := blkCell hb4 3 _ rfl; have yz := blkFree hb4 3; simp only [List.getElem_toArray, List.getElem_cons_zero, List.getElem_cons_succ] at y3; have HSx : Hid (SpI B lb W0 (.slice va D.length vc) (.slice (some ⟨wb, 0, none⟩) ls.length ls.length) (D) (F) (σ.out) (σ.rej ++ [(i : Int)]) (σ.tk) (σ.rc) (qo) (co) (some ⟨g2, 0, none⟩) (c2) (V4.setCell ⟨lb, 3, none⟩ (.slice (some ⟨g2, 0, none⟩) (σ.rej.length + 1) c2))) := HS8.out.pushR hr1 hg hg1; clear hr1 hr2 hg hg1 hb4 f3 x0)
                      clear y3 yz HS8
                      generalize V4.setCell ⟨lb, 3, none⟩ (.slice (some ⟨g2, 0, none⟩) (σ.rej.length + 1) c2) = V5 at *
                      obtain ⟨⟨f0, _, _, _⟩, fz⟩ := HSx.out.cells
                      have fz0 := fz 0
                      have hwt : IntKind.i64.wrap (σ.tk + 1) = σ.tk + 1 := wrap_id _ (by omega) (by omega)
                      clear fz
                      have HSy : Hid (SpI B lb W0 (.slice va D.length vc) (.slice (some ⟨wb, 0, none⟩) ls.length ls.length) (D) (F) (σ.out) (σ.rej ++ [(i : Int)]) (σ.tk + 1) (σ.rc) (qo) (co) (some ⟨g2, 0, none⟩) (c2) (V5.setCell ⟨lb, 0, none⟩ (.int .i64 (σ.tk + 1)))) := HSx.out.setTk (σ.tk + 1)
                      clear HSx
                      go_wp2
                      refine ⟨⟨srStep ls ps i r D σ, qo, co, some ⟨g2, 0, none⟩, c2, HNx.out.1, HNx.out.2.1, HNx.out.2.2, by rw [HE1.out]; exact HSy.out⟩, ?_⟩
                      rw [HTk0.out, HSy.out.cells.1.1]
                      simp only [Option.getD_some, intOf]
                      omega
                    · have HE1 : Hid (srStep ls ps i r D σ = ⟨D ++ [(i, r + 1)], F, σ.out, σ.rej, σ.tk + 1, σ.rc + 1⟩) := by
                        show _ = _
                        unfold srStep srLeave
                        dsimp only
                        rw [HFe.out.1, htl, hfl, hrm, if_neg hc, if_neg h3]
                      have hr4 : ((r : Int) == 3) = false := by simp; omega
                      clear hc ht0 htl hl HEb h3
                      go_upto_region 29 with fail
                      clear x1 hr4
                      obtain ⟨⟨_, f1, _, _⟩, fz⟩ := HS7.out.1.cells
                      have fz1 := fz 1
                      clear fz
                      have hwc : IntKind.i64.wrap (σ.rc + 1) = σ.rc + 1 := wrap_id _ (by omega) (by omega)
                      have HS8 : Hid (SpI B lb W0 (.slice va D.length vc) (.slice (some ⟨wb, 0, none⟩) ls.length ls.length) (D) (F) (σ.out) (σ.rej) (σ.tk) (σ.rc + 1) (qo) (co) (qr) (cr) (V2.setCell ⟨lb, 1, none⟩ (.int .i64 (σ.rc + 1))) ∧ (V2.setCell ⟨lb, 1, none⟩ (.int .i64 (σ.rc + 1))).heap[xb]? = some (.cells #[.int .i64 (i : Int), .int .i64 (r : Int)] 99 (0, 0))) := by
                        refine ⟨HS7.out.1.setRc _, (Below.heap_setCell V2 ⟨lb, 1, none⟩ _ xb (fun e => ?_)).trans HS7.out.2⟩
                        have e2 : xb = lb := e
                        have h4 := HS7.out.2
                        have h5 := HS7.out.1.box
                        rw [e2, h5] at h4
                        simp at h4
                      go_upto_region 30 with fail
                      clear f1 fz1 HS7 hwc
                      generalize V2.setCell ⟨lb, 1, none⟩ (.int .i64 (σ.rc + 1)) = V3 at *
                      have x0 := blkCell HS8.out.2 0 _ rfl
                      have x1 := blkCell HS8.out.2 1 _ rfl
                      simp only [List.getElem_toArray, List.getElem_cons_zero, List.getElem_cons_succ] at x0 x1
                      have hwr : IntKind.i64.wrap ((r : Int) + 1) = (r : Int) + 1 := wrap_id _ (by omega) (by omega)
                      have HS9 : Hid (SpI B lb W0 (.slice va D.length vc) (.slice (some ⟨wb, 0, none⟩) ls.length ls.length) (D) (F) (σ.out) (σ.rej) (σ.tk) (σ.rc + 1) (qo) (co) (qr) (cr) (V3.alloc (Obj.cells #[.int .i64 (i : Int), .int .i64 ((r : Int) + 1)] 99))) := HS8.out.1.later (below_alloc _ _)
                      have HNw : Hid (∀ j u, [Value.int .i64 (i : Int), .int .i64 ((r : Int) + 1)][j]? = some u → (V3.alloc (Obj.cells #[.int .i64 (i : Int), .int .i64 ((r : Int) + 1)] 99)).cell? ((⟨V3.heap.size, 0, none⟩ : Addr).add j) = some u) := World.news_of_block (heapNew V3 (Obj.cells #[.int .i64 (i : Int), .int .i64 ((r : Int) + 1)] 99))
                      have HOn : Hid (∀ u ∈ [Value.int .i64 (i : Int), .int .i64 ((r : Int) + 1)], u.oneCell' = true) := fun u hu => by simp at hu; rcases hu with rfl | rfl <;> rfl
                      clear HS8
                      go_upto_region 36 with (at_builtin; refine wpList_append_lies _ rfl _ _ 96 rfl B 99 i0 (.agg #[.int .i64 0, .int .i64 0]) 2 16 Try.underlying96 HI0.out.1 HI0.out.2.1 HI0.out.2.2.1 HI0.out.2.2.2 rfl (by decide) _ _ _ rfl HS9.out.rowB ⟨V3.heap.size, 0, none⟩ 1 1 [.int .i64 (i : Int), .int .i64 ((r : Int) + 1)] rfl rfl HNw.out HOn.out (by omega) (by unfold maxLen; omega) (by omega) HS9.out.bsz _ rfl ?_; intro g1 cp1 w8 hown1 hgrow1 hat1 hglt1)
                      have HSx : Hid (SpI B lb W0 (.slice (some ⟨g1, 0, none⟩) (D.length + 1) cp1) (.slice (some ⟨wb, 0, none⟩) ls.length ls.length) (D ++ [(i, r + 1)]) (F) (σ.out) (σ.rej) (σ.tk) (σ.rc + 1) (qo) (co) (qr) (cr) (w8)) := by
                        have e2 : bbC D ++ [Value.int .i64 (i : Int), .int .i64 ((r : Int) + 1)] = bbC (D ++ [(i, r + 1)]) := by rw [bbC_append]; rfl
                        rw [e2] at hown1
                        have e3 : (D ++ [(i, r + 1)]).length = D.length + 1 := by simp
                        refine HS9.out.belt2 ?_ hgrow1
                        rw [e3]
                        exact hown1
                      clear hown1 hgrow1 hat1 hglt1 HS9 HNw HOn x0 x1 hwr
                      obtain ⟨⟨f0, _, _, _⟩, fz⟩ := HSx.out.cells
                      have fz0 := fz 0
                      have hwt : IntKind.i64.wrap (σ.tk + 1) = σ.tk + 1 := wrap_id _ (by omega) (by omega)
                      clear fz
                      have HSy : Hid (SpI B lb W0 (.slice (some ⟨g1, 0, none⟩) (D.length + 1) cp1) (.slice (some ⟨wb, 0, none⟩) ls.length ls.length) (D ++ [(i, r + 1)]) (F) (σ.out) (σ.rej) (σ.tk + 1) (σ.rc + 1) (qo) (co) (qr) (cr) (w8.setCell ⟨lb, 0, none⟩ (.int .i64 (σ.tk + 1)))) := HSx.out.setTk (σ.tk + 1)
                      clear HSx
                      go_wp2
                      refine ⟨⟨srStep ls ps i r D σ, qo, co, qr, cr, HNx.out.1, HNx.out.2.1, HNx.out.2.2, by rw [HE1.out]; exact HSy.out⟩, ?_⟩
                      rw [HTk0.out, HSy.out.cells.1.1]
                      simp only [Option.getD_some, intOf]
                      omega
set_option maxHeartbeats 16000000 in
set_option maxRecDepth 8000 in
theorem specSort_any (la : Option Addr) (lc : Nat) (ls : List RLa) (pa : Option Addr) (pc : Nat) (ps : List Int) (hl1 : ls.length ≤ 100000000) (hl2 : ps.length ≤ 100000000) (w : World) (hr : ReadsLa w.heap.size w la ls) (hp : Reads w.heap.size w pa ps) :
    Calls Try.prog 23 #[.slice la ls.length lc, .slice pa ps.length pc] w (AnsSo w (soT ls ps) (soN ls ps) (soC ls ps) (soO ls ps) (soJ ls ps)) := by
  obtain ⟨W0, hW0⟩ : ∃ W0, W0 = w.alloc (Obj.cells #[.int .i64 0, .int .i64 0, .slice none 0 0, .slice none 0 0] 41) := ⟨_, rfl⟩
  obtain ⟨rb, hrb⟩ : ∃ rb, rb = w.heap.size := ⟨_, rfl⟩
  have HE : Hid (W0 = w.alloc (Obj.cells #[.int .i64 0, .int .i64 0, .slice none 0 0, .slice none 0 0] 41) ∧ rb = w.heap.size) := ⟨hW0, hrb⟩
  have HB : Hid (True ∧ rb = w.heap.size ∧ True) := ⟨trivial, hrb, trivial⟩
  have HRW : Hid (W0.heap[rb]? = some (.cells #[.int .i64 0, .int .i64 0, .slice none 0 0, .slice none 0 0] 41 (0, 0)) ∧ Below w.heap.size w W0) := ⟨by rw [hW0, hrb]; exact heapNew _ _, by rw [hW0]; exact below_alloc _ _⟩
  clear hW0 hrb
  rcases so_ways ls ps with ⟨t1, e⟩ | ⟨t1, t2, e⟩ | ⟨t1, t2, _, e⟩ | ⟨t1, t2, _, _, e⟩ | ⟨t1, t2, _, _, e⟩
  · obtain ⟨e1, e2, e3, e4⟩ := so_zero la lc ls pa pc ps (by omega)
    rw [e1, e2, e3, e4, e]
    obtain ⟨hrb3, hlow⟩ := HRW.out
    have r0 := blkCell hrb3 0 _ rfl
    have q0 := blkFree hrb3 0
    have r1 := blkCell hrb3 1 _ rfl
    have q1 := blkFree hrb3 1
    have r2 := blkCell hrb3 2 _ rfl
    have q2 := blkFree hrb3 2
    have r3 := blkCell hrb3 3 _ rfl
    have q3 := blkFree hrb3 3
    simp only [List.getElem_toArray, List.getElem_cons_zero, List.getElem_cons_succ] at r0 r1 r2 r3
    obtain ⟨g1, g2, g3⟩ := set_four hrb3 (.int .i64 0) (.int .i64 0) (.slice none 0 0) (.slice none 0 0)
    have HFin : Hid (∃ V, V = ((((W0.setCell ⟨rb, 0, none⟩ (.int .i64 0)).setCell ⟨rb, 1, none⟩ (.int .i64 0)).setCell ⟨rb, 2, none⟩ (.slice none 0 0)).setCell ⟨rb, 3, none⟩ (.slice none 0 0)) ∧ V.heap[rb]? = some (.cells #[.int .i64 0, .int .i64 0, .slice none 0 0, .slice none 0 0] 41 (0, 0)) ∧ Below w.heap.size w V) := ⟨_, rfl, g1, hlow.trans (g3 w.heap.size (by rw [HB.out.2.1]; exact Nat.le_refl _))⟩
    clear g1 g2 g3
    clear hrb3 hlow HRW hr hp e e1 e2 e3 e4
    by_cases z1 : 4096 < ls.length
    · have z1' : (4096 : Int) < (ls.length : Int) := by omega
      go_enter Try.func23, Try.ntmps23
      go_upto_region 1 with fail
      rw [← HE.out.1, ← HE.out.2]
      clear HE
      go_wp2
      clear r0 r1 r2 r3 q0 q1 q2 q3
      obtain ⟨V, hV, h1', h5⟩ := HFin.out
      rw [← hV]
      have c0 := blkCell h1' 0 _ rfl
      have c1 := blkCell h1' 1 _ rfl
      have c2 := blkCell h1' 2 _ rfl
      have c3 := blkCell h1' 3 _ rfl
      simp only [List.getElem_toArray, List.getElem_cons_zero, List.getElem_cons_succ] at c0 c1 c2 c3
      try simp only [Exit.inBlock, Exit.then]
      refine bodyPost_ret (v := .tuple #[.agg #[.int .i64 0, .int .i64 0, .slice none 0 0, .slice none 0 0], .int .i64 2]) (by simp [results, Try.results23, go_sem, c0, c1, c2, c3]) rfl ⟨none, 0, none, 0, rfl, ⟨rfl, .inl ⟨rfl, rfl⟩⟩, ⟨rfl, .inl ⟨rfl, rfl⟩⟩, fun q hq => (by cases hq), h5⟩
    · have z1' : ¬ (4096 : Int) < (ls.length : Int) := by omega
      have z2' : (4096 : Int) < (ps.length : Int) := by omega
      go_enter Try.func23, Try.ntmps23
      go_upto_region 1 with fail
      rw [← HE.out.1, ← HE.out.2]
      clear HE
      go_wp2
      clear r0 r1 r2 r3 q0 q1 q2 q3
      obtain ⟨V, hV, h1', h5⟩ := HFin.out
      rw [← hV]
      have c0 := blkCell h1' 0 _ rfl
      have c1 := blkCell h1' 1 _ rfl
      have c2 := blkCell h1' 2 _ rfl
      have c3 := blkCell h1' 3 _ rfl
      simp only [List.getElem_toArray, List.getElem_cons_zero, List.getElem_cons_succ] at c0 c1 c2 c3
      try simp only [Exit.inBlock, Exit.then]
      refine bodyPost_ret (v := .tuple #[.agg #[.int .i64 0, .int .i64 0, .slice none 0 0, .slice none 0 0], .int .i64 2]) (by simp [results, Try.results23, go_sem, c0, c1, c2, c3]) rfl ⟨none, 0, none, 0, rfl, ⟨rfl, .inl ⟨rfl, rfl⟩⟩, ⟨rfl, .inl ⟨rfl, rfl⟩⟩, fun q hq => (by cases hq), h5⟩
  · obtain ⟨e1, e2, e3, e4⟩ := so_zero la lc ls pa pc ps (by omega)
    rw [e1, e2, e3, e4, e]
    obtain ⟨hrb3, hlow⟩ := HRW.out
    have r0 := blkCell hrb3 0 _ rfl
    have q0 := blkFree hrb3 0
    have r1 := blkCell hrb3 1 _ rfl
    have q1 := blkFree hrb3 1
    have r2 := blkCell hrb3 2 _ rfl
    have q2 := blkFree hrb3 2
    have r3 := blkCell hrb3 3 _ rfl
    have q3 := blkFree hrb3 3
    simp only [List.getElem_toArray, List.getElem_cons_zero, List.getElem_cons_succ] at r0 r1 r2 r3
    obtain ⟨g1, g2, g3⟩ := set_four hrb3 (.int .i64 0) (.int .i64 0) (.slice none 0 0) (.slice none 0 0)
    have HFin : Hid (∃ V, V = ((((W0.setCell ⟨rb, 0, none⟩ (.int .i64 0)).setCell ⟨rb, 1, none⟩ (.int .i64 0)).setCell ⟨rb, 2, none⟩ (.slice none 0 0)).setCell ⟨rb, 3, none⟩ (.slice none 0 0)) ∧ V.heap[rb]? = some (.cells #[.int .i64 0, .int .i64 0, .slice none 0 0, .slice none 0 0] 41 (0, 0)) ∧ Below w.heap.size w V) := ⟨_, rfl, g1, hlow.trans (g3 w.heap.size (by rw [HB.out.2.1]; exact Nat.le_refl _))⟩
    clear g1 g2 g3
    clear hrb3 hlow HRW hr hp e e1 e2 e3 e4
    have y1 : ¬ (4096 : Int) < (ls.length : Int) := by omega
    have y2 : ¬ (4096 : Int) < (ps.length : Int) := by omega
    by_cases z1 : 9 < ls.length
    · have z1' : (9 : Int) < (ls.length : Int) := by omega
      go_enter Try.func23, Try.ntmps23
      go_upto_region 1 with fail
      rw [← HE.out.1, ← HE.out.2]
      clear HE
      go_wp2
      clear r0 r1 r2 r3 q0 q1 q2 q3
      obtain ⟨V, hV, h1', h5⟩ := HFin.out
      rw [← hV]
      have c0 := blkCell h1' 0 _ rfl
      have c1 := blkCell h1' 1 _ rfl
      have c2 := blkCell h1' 2 _ rfl
      have c3 := blkCell h1' 3 _ rfl
      simp only [List.getElem_toArray, List.getElem_cons_zero, List.getElem_cons_succ] at c0 c1 c2 c3
      try simp only [Exit.inBlock, Exit.then]
      refine bodyPost_ret (v := .tuple #[.agg #[.int .i64 0, .int .i64 0, .slice none 0 0, .slice none 0 0], .int .i64 9]) (by simp [results, Try.results23, go_sem, c0, c1, c2, c3]) rfl ⟨none, 0, none, 0, rfl, ⟨rfl, .inl ⟨rfl, rfl⟩⟩, ⟨rfl, .inl ⟨rfl, rfl⟩⟩, fun q hq => (by cases hq), h5⟩
    · have z1' : ¬ (9 : Int) < (ls.length : Int) := by omega
      have z2' : (100 : Int) < (ps.length : Int) := by omega
      go_enter Try.func23, Try.ntmps23
      go_upto_region 1 with fail
      rw [← HE.out.1, ← HE.out.2]
      clear HE
      go_wp2
      clear r0 r1 r2 r3 q0 q1 q2 q3
      obtain ⟨V, hV, h1', h5⟩ := HFin.out
      rw [← hV]
      have c0 := blkCell h1' 0 _ rfl
      have c1 := blkCell h1' 1 _ rfl
      have c2 := blkCell h1' 2 _ rfl
      have c3 := blkCell h1' 3 _ rfl
      simp only [List.getElem_toArray, List.getElem_cons_zero, List.getElem_cons_succ] at c0 c1 c2 c3
      try simp only [Exit.inBlock, Exit.then]
      refine bodyPost_ret (v := .tuple #[.agg #[.int .i64 0, .int .i64 0, .slice none 0 0, .slice none 0 0], .int .i64 9]) (by simp [results, Try.results23, go_sem, c0, c1, c2, c3]) rfl ⟨none, 0, none, 0, rfl, ⟨rfl, .inl ⟨rfl, rfl⟩⟩, ⟨rfl, .inl ⟨rfl, rfl⟩⟩, fun q hq => (by cases hq), h5⟩
  · exact specSort_in la lc ls pa pc ps t1 t2 w hr hp
  · exact specSort_in la lc ls pa pc ps t1 t2 w hr hp
  · exact specSort_in la lc ls pa pc ps t1 t2 w hr hp
end Go.Proofs.Ythmhpgbkapjjkaa
