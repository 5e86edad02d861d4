/-
  Contracts of the program's oneMoreOfEach, fillRoom and FillTrucks, for all arguments.
-/
import Derived.Test.YtbgjekhekjbcpaaTkB
import Derived.Test.YtbgjekhekjbcpaaQsB
namespace Go.Proofs.Ytbgjekhekjbcpaa
open Go.ChangeShapes Go.WideShapes Go.ChangeAt Go.RowKit Go.Joins Go.Deep
set_option linter.unusedVariables false

theorem own2_put {B : Nat} {w : World} {b : Nat} {L : List Int} {k : Nat} (x : Int) (h : Own2 B w (some ⟨b, 0, none⟩) L) (hk : k < L.length) : Own2 B (w.setCell ⟨b, k, none⟩ (.int .i64 x)) (some ⟨b, 0, none⟩) (L.set k x) := by
  rcases h with h | ⟨b', hg, hB, hlt, hi, hf⟩
  · rw [h] at hk; simp at hk
  · cases hg
    refine .inr ⟨b, rfl, hB, by rw [World.size_setCell]; exact hlt, fun i h => ?_, fun i h => ?_⟩
    · rw [List.length_set] at h
      rw [Nat.zero_add, getD_set _ _ _ _ hk]
      have hv := hi k hk
      rw [Nat.zero_add] at hv
      by_cases e : i = k
      · rw [if_pos e, e]; exact World.cell?_setCell_same _ _ _ hv
      · rw [if_neg e, World.cell?_setCell_other _ _ _ _ (fun h => e (by first | (simp at h; omega) | (simp at h; done) | (cases h; rfl)))]
        have := hi i h
        rwa [Nat.zero_add] at this
    · rw [World.frozen?_setCell]
      rw [List.length_set] at h
      exact hf i h
theorem own2_at {B : Nat} {w : World} {g : Option Addr} {L : List Int} {k : Nat} (h : Own2 B w g L) (hk : k < L.length) : ∃ b, g = some ⟨b, 0, none⟩ ∧ B ≤ b ∧ b < w.heap.size ∧ w.cell? ⟨b, k, none⟩ = some (.int .i64 (L.getD k 0)) ∧ w.frozen? ⟨b, k, none⟩ = false := by
  rcases h with h | ⟨b, hg, hB, hlt, hi, hf⟩
  · rw [h] at hk; simp at hk
  · have h1 := hi k hk
    have h2 := hf k hk
    rw [Nat.zero_add] at h1 h2
    exact ⟨b, hg, hB, hlt, h1, h2⟩
theorem keepTk {W w1 : World} {b0 b1 k : Nat} {x y z : Value} (hb : Below W.heap.size W w1) (h : W.cell? ⟨b0, 0, none⟩ = some x ∧ W.cell? ⟨b0, 1, none⟩ = some y ∧ W.cell? ⟨b1, k, none⟩ = some z ∧ b0 < W.heap.size ∧ b1 < W.heap.size) :
    w1.cell? ⟨b0, 0, none⟩ = some x ∧ w1.cell? ⟨b0, 1, none⟩ = some y ∧ w1.cell? ⟨b1, k, none⟩ = some z ∧ b0 < w1.heap.size ∧ b1 < w1.heap.size := by
  obtain ⟨h0, h1, h2, l0, l1⟩ := h
  exact ⟨(hb.cell (p := ⟨b0, 0, none⟩) l0).trans h0, (hb.cell (p := ⟨b0, 1, none⟩) l0).trans h1, (hb.cell (p := ⟨b1, k, none⟩) l1).trans h2, Nat.lt_of_lt_of_le l0 hb.size, Nat.lt_of_lt_of_le l1 hb.size⟩
/-- What one round leaves. -/
def PstM (B : Nat) (lim cur : List Int) (r : Nat) (g : Option Addr) (w : World) (e : Ending) (w' : World) : Prop := e = .returned (.int .i64 ((r : Int) - ((rnd lim cur r).2 : Int))) ∧ Own2 B w' g (rnd lim cur r).1 ∧ Below B w w'
set_option maxHeartbeats 4000000 in
set_option maxRecDepth 4000 in
theorem oneMore_any (B : Nat) (a g : Option Addr) (cap cg : Nat) (rs : List RLd) (cur : List Int) (r : Nat) (hl : rs.length ≤ 40) (hrr : r ≤ 1000) (hok : ldsB rs = true) (hc : cur.length = rs.length) (hcb : ∀ i, i < cur.length → 0 ≤ cur.getD i 0 ∧ cur.getD i 0 ≤ 100000) (w : World) (hB : B ≤ w.heap.size) (hr : ReadsLd B w a rs) (ho : Own2 B w g cur) :
    Calls Try.prog 55 #[.slice a rs.length cap, .slice g rs.length cg, .int .i64 (r : Int)] w (PstM B (lmL rs) cur r g w) := by
  have HR : Hid (ReadsLd B w a rs) := hr
  have HO : Hid (Own2 B w g cur) := ho
  have HBB : Hid (B ≤ w.heap.size) := hB
  have HCb : Hid (∀ k i, k ≤ cur.length → i < cur.length → 0 ≤ (stp (lmL rs) cur r k).1.getD i 0 ∧ (stp (lmL rs) cur r k).1.getD i 0 ≤ 100001) := fun k i hk hi => stp_bound hcb hk i hi
  have HTm : Hid (∀ k W p, k < rs.length → Calls Try.prog 61 #[.agg #[.int .i64 (rs.getD k zLd).pl, .int .i64 (rs.getD k zLd).ex], .int .i64 p] W fun e' w' => e' = .returned (.bool (decide (p < (lmL rs).getD k 0))) ∧ Below W.heap.size W w') := fun k W p hk => by
    obtain ⟨h1, h2⟩ := lds_at hok hk
    rw [lmL_at rs k hk]
    exact takesMore_any _ _ p h1 h2 W
  have HLn : Hid (cur.length = rs.length) := hc
  clear hr ho hcb hok hB hc
  go_enter Try.func55, Try.ntmps55
  go_wp2
  go_loopw [7, 8, 9, 12] (fun ad _ _ c wr => ∃ k : Nat, k ≤ rs.length ∧ c = .int .i64 (k : Int) ∧ ad = .int .i64 ((r : Int) - ((stp (lmL rs) cur r k).2 : Int)) ∧ Own2 B wr g (stp (lmL rs) cur r k).1 ∧ Below B w wr) (fun _ _ _ c _ => rs.length - (intOf c).toNat)
  case atStart => exact ⟨0, Nat.zero_le _, rfl, by show _ = Value.int .i64 ((r : Int) - (r : Int)); congr 1; omega, HO.out, Below.refl _ _⟩
  case round =>
    clear HO
    obtain ⟨k, hk, rfl, rfl, ho, hb⟩ := hrel
    have HO : Hid (Own2 B wr g (stp (lmL rs) cur r k).1) := ho
    have HB : Hid (Below B w wr) := hb
    clear ho hb
    by_cases hlt : k < rs.length
    · have hlt' : (k : Int) < (rs.length : Int) := by omega
      rcases HR.out with h | ⟨b0, o0, ha, hB0, ia⟩
      · rw [h] at hlt; simp at hlt
      obtain ⟨c0, c1⟩ := (ia.below HB.out hB0) k hlt
      have HLs : Hid ((stp (lmL rs) cur r k).1.length = rs.length) := (stp_len _ _ _ _).trans HLn.out
      obtain ⟨gb, hg, hgB, hgl, cg0, fg0⟩ := own2_at HO.out (show k < (stp (lmL rs) cur r k).1.length by rw [HLs.out]; exact hlt)
      have HTk := HTm.out k
      have hcb := HCb.out k k (by rw [HLn.out]; omega) (by rw [HLn.out]; exact hlt)
      have hle := stp_le (lmL rs) cur r k
      have HYes : Hid (0 < (stp (lmL rs) cur r k).2 → (stp (lmL rs) cur r k).1.getD k 0 < (lmL rs).getD k 0 → stp (lmL rs) cur r (k + 1) = ((stp (lmL rs) cur r k).1.set k ((stp (lmL rs) cur r k).1.getD k 0 + 1), (stp (lmL rs) cur r k).2 - 1)) := fun h1 h2 => stp_yes h1 h2
      have HNo : Hid (¬ (0 < (stp (lmL rs) cur r k).2 ∧ (stp (lmL rs) cur r k).1.getD k 0 < (lmL rs).getD k 0) → stp (lmL rs) cur r (k + 1) = stp (lmL rs) cur r k) := fun h => stp_no h
      have HLt : Hid (k < rs.length) := hlt
      rw [ha]
      rw [hg] at HO ⊢
      clear ia HCb HTm HR
      generalize stp (lmL rs) cur r k = s at *
      obtain ⟨C, q⟩ := s
      dsimp only at *
      generalize C.getD k 0 = ck at *
      generalize (lmL rs).getD k 0 = lk at *
      generalize (rs.getD k zLd).pl = p0 at *
      generalize (rs.getD k zLd).ex = p1 at *
      have HX : Hid (wr.cell? ⟨gb, k, none⟩ = some (.int .i64 ck) ∧ wr.frozen? ⟨gb, k, none⟩ = false ∧ gb < wr.heap.size ∧ B ≤ wr.heap.size ∧ B ≤ gb) := ⟨cg0, fg0, hgl, Nat.le_trans HBB.out HB.out.size, hgB⟩
      clear cg0 fg0 hgl hgB
      have HW1 : Hid ((wr.alloc (Obj.cells #[.int .i64 p0, .int .i64 p1] 37)).cell? ⟨wr.heap.size, 0, none⟩ = some (.int .i64 p0) ∧ (wr.alloc (Obj.cells #[.int .i64 p0, .int .i64 p1] 37)).cell? ⟨wr.heap.size, 1, none⟩ = some (.int .i64 p1) ∧ wr.heap.size < (wr.alloc (Obj.cells #[.int .i64 p0, .int .i64 p1] 37)).heap.size) := ⟨by simp, by simp, by simp⟩
      have HB1 : Hid (Below wr.heap.size wr (wr.alloc (Obj.cells #[.int .i64 p0, .int .i64 p1] 37))) := below_alloc _ _
      go_upto_region 5 with fail
      generalize (wr.alloc (Obj.cells #[.int .i64 p0, .int .i64 p1] 37)) = W1 at *
      have HG1 : Hid (W1.cell? ⟨gb, k, none⟩ = some (.int .i64 ck) ∧ gb < W1.heap.size ∧ Own2 B W1 (some ⟨gb, 0, none⟩) C ∧ Below B w W1 ∧ B ≤ W1.heap.size ∧ W1.frozen? ⟨gb, k, none⟩ = false ∧ B ≤ gb) := ⟨(HB1.out.cell (p := ⟨gb, k, none⟩) HX.out.2.2.1).trans HX.out.1, Nat.lt_of_lt_of_le HX.out.2.2.1 HB1.out.size, HO.out.below HB1.out (Nat.le_refl _), HB.out.trans (HB1.out.mono HX.out.2.2.2.1), Nat.le_trans HX.out.2.2.2.1 HB1.out.size, (HB1.out.frozen (p := ⟨gb, k, none⟩) HX.out.2.2.1).trans HX.out.2.1, HX.out.2.2.2.2⟩
      generalize wr.heap.size = bx at *
      clear HX HB1 HO HB c0 c1 HBB
      by_cases hq : 0 < q
      · have l1 : (r : Int) - (q : Int) < (r : Int) := by omega
        obtain ⟨x0, x1, x2⟩ := HW1.out
        obtain ⟨y0, y1, _⟩ := HG1.out
        by_cases hck : ck < lk
        · have hdc : decide (ck < lk) = true := decide_eq_true hck
          have HE : Hid (stp (lmL rs) cur r (k + 1) = (C.set k (ck + 1), q - 1)) := HYes.out hq hck
          have HT5 : Hid (∀ W, Calls Try.prog 61 #[.agg #[.int .i64 p0, .int .i64 p1], .int .i64 ck] W fun e' w' => e' = .returned (.bool true) ∧ Below W.heap.size W w') := fun W => by have := HTk W ck HLt.out; rwa [hdc] at this
          clear HYes HNo HTk hck hdc
          go_region_held3 (fun W => W.cell? ⟨bx, 0, none⟩ = some (.int .i64 p0) ∧ W.cell? ⟨bx, 1, none⟩ = some (.int .i64 p1) ∧ W.cell? ⟨gb, k, none⟩ = some (.int .i64 ck) ∧ bx < W.heap.size ∧ gb < W.heap.size) (first | exact keepTk (below_drew _) ⟨x0, x1, y0, x2, y1⟩ | exact keepTk (by assumption) (by assumption)) (first | (go_at_call 61; refine (HT5.out _).mono ?_; rintro e' w5 ⟨rfl, hb5⟩))
          have HB5 : Hid (Below W1.heap.size W1 w5) := (below_drew W1).trans hb5
          have y5 : w5.cell? ⟨gb, k, none⟩ = some (.int .i64 ck) := (HB5.out.cell (p := ⟨gb, k, none⟩) y1).trans y0
          have z5 : w5.frozen? ⟨gb, k, none⟩ = false := (HB5.out.frozen (p := ⟨gb, k, none⟩) y1).trans HG1.out.2.2.2.2.2.1
          have HOw : Hid (Own2 B w5 (some ⟨gb, 0, none⟩) C) := HG1.out.2.2.1.below HB5.out (Nat.le_refl _)
          have HBw : Hid (Below B w w5) := HG1.out.2.2.2.1.trans (HB5.out.mono HG1.out.2.2.2.2.1)
          have hgB := HG1.out.2.2.2.2.2.2
          clear hb5 x0 x1 x2 y0 y1 HT5 HW1 HG1 HB5
          go_wp2
          refine ⟨⟨k + 1, by omega, by go_num, ?_, ?_, HBw.out.setCell hgB _⟩, by simp [intOf]; omega⟩
          · rw [HE.out]; dsimp only; congr 1; omega
          · rw [HE.out]; exact own2_put _ HOw.out (by rw [HLs.out]; exact hlt)
        · have hdc : decide (ck < lk) = false := decide_eq_false hck
          have HE : Hid (stp (lmL rs) cur r (k + 1) = (C, q)) := HNo.out (fun h => hck h.2)
          have HT5 : Hid (∀ W, Calls Try.prog 61 #[.agg #[.int .i64 p0, .int .i64 p1], .int .i64 ck] W fun e' w' => e' = .returned (.bool false) ∧ Below W.heap.size W w') := fun W => by have := HTk W ck HLt.out; rwa [hdc] at this
          clear HYes HNo HTk hck hdc
          go_region_held3 (fun W => W.cell? ⟨bx, 0, none⟩ = some (.int .i64 p0) ∧ W.cell? ⟨bx, 1, none⟩ = some (.int .i64 p1) ∧ W.cell? ⟨gb, k, none⟩ = some (.int .i64 ck) ∧ bx < W.heap.size ∧ gb < W.heap.size) (first | exact keepTk (below_drew _) ⟨x0, x1, y0, x2, y1⟩ | exact keepTk (by assumption) (by assumption)) (first | (go_at_call 61; refine (HT5.out _).mono ?_; rintro e' w5 ⟨rfl, hb5⟩))
          have HB5 : Hid (Below W1.heap.size W1 w5) := (below_drew W1).trans hb5
          have HOw : Hid (Own2 B w5 (some ⟨gb, 0, none⟩) C) := HG1.out.2.2.1.below HB5.out (Nat.le_refl _)
          have HBw : Hid (Below B w w5) := HG1.out.2.2.2.1.trans (HB5.out.mono HG1.out.2.2.2.2.1)
          clear hb5 x0 x1 x2 y0 y1 HT5 HW1 HG1 HB5
          go_wp2
          exact ⟨⟨k + 1, by omega, by go_num, by rw [HE.out], by rw [HE.out]; exact HOw.out, HBw.out⟩, by simp [intOf]; omega⟩
      · have l1 : ¬ (r : Int) - (q : Int) < (r : Int) := by omega
        have HE : Hid (stp (lmL rs) cur r (k + 1) = (C, q)) := HNo.out (fun h => hq h.1)
        clear HYes HNo HTk
        go_quiet (fail)
        have HF5 : Hid (∀ n, Own2 B (W1.drewN n) (some ⟨gb, 0, none⟩) C ∧ Below B w (W1.drewN n)) := fun n => ⟨HG1.out.2.2.1.below (below_drewN (Below.refl _ _) n) (Nat.le_refl _), below_drewN HG1.out.2.2.2.1 n⟩
        clear HG1 HW1
        go_wp2
        exact ⟨⟨k + 1, by omega, by go_num, by rw [HE.out], by rw [HE.out]; exact (HF5.out _).1, (HF5.out _).2⟩, by simp [intOf]; omega⟩
    · have hle : (rs.length : Int) ≤ (k : Int) := by omega
      obtain rfl : k = rs.length := by omega
      have HE : Hid (stp (lmL rs) cur r rs.length = rnd (lmL rs) cur r) := by unfold rnd; rw [HLn.out]; exact rfl
      rw [HE.out] at HO ⊢
      go_wp2
      go_ret
      exact ⟨rfl, HO.out, HB.out⟩
set_option maxHeartbeats 2000000 in
theorem fillRoom_any (B : Nat) (a g : Option Addr) (cap cg : Nat) (rs : List RLd) (cur0 : List Int) (r0 : Nat) (hl : rs.length ≤ 40) (hrr : r0 ≤ 1000) (hok : ldsB rs = true) (hc : cur0.length = rs.length) (hcb : ∀ i, i < cur0.length → 0 ≤ cur0.getD i 0 ∧ cur0.getD i 0 ≤ 1000) (w : World) (hB : B ≤ w.heap.size) (hr : ReadsLd B w a rs) (ho : Own2 B w g cur0) :
    Calls Try.prog 40 #[.slice a rs.length cap, .slice g rs.length cg, .int .i64 (r0 : Int)] w fun e w' => e = .returned (.tuple #[]) ∧ Own2 B w' g (fil (lmL rs) (r0 + 1) cur0 r0) ∧ Below B w w' := by
  have HR : Hid (ReadsLd B w a rs) := hr
  have HO : Hid (Own2 B w g cur0) := ho
  have HBB : Hid (B ≤ w.heap.size) := hB
  have HM : Hid (∀ (cur : List Int) (r : Nat) W, r ≤ 1000 → cur.length = rs.length → (∀ i, i < cur.length → 0 ≤ cur.getD i 0 ∧ cur.getD i 0 ≤ 100000) → Below B w W → Own2 B W g cur → Calls Try.prog 55 #[.slice a rs.length cap, .slice g rs.length cg, .int .i64 (r : Int)] W (PstM B (lmL rs) cur r g W)) := fun cur r W h1 h2 h3 h4 h5 => oneMore_any B a g cap cg rs cur r hl h1 hok h2 h3 W (Nat.le_trans HBB.out h4.size) (HR.out.below h4) h5
  have HI : Hid (∀ i, i < cur0.length → 0 ≤ cur0.getD i 0 ∧ cur0.getD i 0 ≤ 1000) := hcb
  have HLn : Hid (cur0.length = rs.length) := hc
  clear hr ho hcb hok hB hc
  go_enter Try.func40, Try.ntmps40
  go_wp2
  go_loopw [2, 6] (fun rv _ wr => ∃ (cur : List Int) (r : Nat), rv = .int .i64 (r : Int) ∧ r ≤ r0 ∧ cur.length = rs.length ∧ (∀ i, i < cur.length → 0 ≤ cur.getD i 0 ∧ cur.getD i 0 + (r : Int) ≤ 1000 + (r0 : Int)) ∧ fil (lmL rs) (r + 1) cur r = fil (lmL rs) (r0 + 1) cur0 r0 ∧ Own2 B wr g cur ∧ Below B w wr) (fun rv _ _ => (intOf rv).toNat)
  case atStart => exact ⟨cur0, r0, rfl, Nat.le_refl _, HLn.out, fun i hi => by have := HI.out i hi; omega, rfl, HO.out, Below.refl _ _⟩
  case round =>
    clear HO HI HLn
    obtain ⟨cur, r, rfl, hrl, hcl, hcb, hfil, ho, hb⟩ := hrel
    have HO : Hid (Own2 B wr g cur) := ho
    have HB : Hid (Below B w wr) := hb
    have HF : Hid (fil (lmL rs) (r + 1) cur r = fil (lmL rs) (r0 + 1) cur0 r0) := hfil
    have HC : Hid (∀ i, i < cur.length → 0 ≤ cur.getD i 0 ∧ cur.getD i 0 + (r : Int) ≤ 1000 + (r0 : Int)) := hcb
    have HCl : Hid (cur.length = rs.length) := hcl
    clear ho hb hfil hcb hcl
    have hm := HM.out cur r wr (by omega) HCl.out (fun i hi => by have := HC.out i hi; omega) HB.out HO.out
    have hle : (rnd (lmL rs) cur r).2 ≤ r := stp_le _ _ _ _
    have HEa : Hid (∀ i, (rnd (lmL rs) cur r).1.getD i 0 = cur.getD i 0 ∨ ((rnd (lmL rs) cur r).1.getD i 0 = cur.getD i 0 + 1 ∧ cur.getD i 0 < (lmL rs).getD i 0)) := stp_each (lmL rs) cur r cur.length (Nat.le_refl _)
    have HLe : Hid ((rnd (lmL rs) cur r).1.length = rs.length) := (stp_len _ _ _ _).trans HCl.out
    by_cases hs : (rnd (lmL rs) cur r).2 = r
    · have HS := fil_stop hs
      have HE1 : Hid ((rnd (lmL rs) cur r).1 = fil (lmL rs) (r0 + 1) cur0 r0) := by show _ = _; rw [HS.2, ← HS.1, HF.out]
      have hz : (r : Int) - ((rnd (lmL rs) cur r).2 : Int) = 0 := by omega
      unfold PstM at hm
      rw [hz, HE1.out] at hm
      clear HS hz hle HEa HLe hs HC
      go_wp2_with (go_at_call 55; refine hm.mono ?_; rintro e w2 ⟨rfl, ho2, hb2⟩; have HO2 : Hid (Own2 B w2 g (fil (lmL rs) (r0 + 1) cur0 r0)) := ho2; have HB2 : Hid (Below B w w2) := HB.out.trans hb2; clear ho2 hb2)
      (try simp only [Exit.inBlock, Exit.then])
      refine bodyPost_ret (results_none rfl _ _ _) rfl ?_
      exact ⟨rfl, HO2.out, HB2.out⟩
    · have HS := fil_step hs
      have HE1 : Hid (fil (lmL rs) ((rnd (lmL rs) cur r).2 + 1) (rnd (lmL rs) cur r).1 (rnd (lmL rs) cur r).2 = fil (lmL rs) (r0 + 1) cur0 r0) := by show _ = _; rw [← HS, HF.out]
      have HC2 : Hid (∀ i, i < (rnd (lmL rs) cur r).1.length → 0 ≤ (rnd (lmL rs) cur r).1.getD i 0 ∧ (rnd (lmL rs) cur r).1.getD i 0 + ((rnd (lmL rs) cur r).2 : Int) ≤ 1000 + (r0 : Int)) := fun i hi => by
        rw [HLe.out] at hi
        have h1 := HC.out i (by rw [HCl.out]; exact hi)
        rcases HEa.out i with h | ⟨h, _⟩ <;> omega
      unfold PstM at hm
      generalize rnd (lmL rs) cur r = s at *
      obtain ⟨C, q⟩ := s
      dsimp only at *
      have hnz : ((r : Int) - (q : Int) == 0) = false := by simp; omega
      have hnz2 : ¬ ((r : Int) - (q : Int) = 0) := by omega
      have hw1 : IntKind.i64.wrap ((r : Int) - ((r : Int) - (q : Int))) = (q : Int) := by rw [show (r : Int) - ((r : Int) - (q : Int)) = (q : Int) by omega]; exact wrap_id _ (by omega) (by omega)
      have HQ : Hid (q < r) := by show _ < _; omega
      clear HS hs HC HEa HF
      obtain ⟨ad, had⟩ : ∃ ad, (r : Int) - (q : Int) = ad := ⟨_, rfl⟩
      rw [had] at hm hnz hnz2 hw1
      clear had
      go_wp2_with (go_at_call 55; refine hm.mono ?_; rintro e w2 ⟨rfl, ho2, hb2⟩; have HO2 : Hid (Own2 B w2 g C) := ho2; have HB2 : Hid (Below B w w2) := HB.out.trans hb2; clear ho2 hb2)
      exact ⟨⟨C, q, rfl, by have := HQ.out; omega, HLe.out, HC2.out, HE1.out, HO2.out, HB2.out⟩, by have := HQ.out; simp [intOf]; omega⟩
/-- What FillTrucks answers, of whatever is handed in. -/
def AnsT (w : World) (L : List Int) (n c : Int) (e : Ending) (w' : World) : Prop := ∃ g cp, e = .returned (.tuple #[.slice g L.length cp, .int .i64 n, .int .i64 c]) ∧ Own2 w.heap.size w' g L ∧ Below w.heap.size w w'
theorem AnsT.nil {w w' : World} {n c : Int} (g : Option Addr) (cp : Nat) (hb : Below w.heap.size w w') : AnsT w [] n c (.returned (.tuple #[.slice g 0 cp, .int .i64 n, .int .i64 c])) w' := ⟨g, cp, rfl, .inl rfl, hb⟩
set_option maxHeartbeats 4000000 in
set_option maxRecDepth 4000 in
theorem implTrucks_any (a : Option Addr) (cap : Nat) (rs : List RLd) (tr : Int) (hl : rs.length ≤ 100000000) (w : World) (hr : ReadsLd w.heap.size w a rs) :
    Calls Try.prog 14 #[.slice a rs.length cap, .int .i64 tr] w (AnsT w (tkL rs tr) (tkT rs tr) (tkC rs tr)) := by
  have HLf := loadsFault_any a cap rs tr hl w hr
  have HR : Hid (ReadsLd w.heap.size w a rs) := hr
  clear hr
  by_cases hc : tkC rs tr = 0
  · rcases tk_ways rs tr with ⟨_, h, _⟩ | ⟨_, _, h, _⟩ | ⟨_, _, h, _⟩ | ⟨_, _, _, h, _⟩ | ⟨h1, h2, h3, _, e2, e3⟩
    · rw [h] at hc; omega
    · rw [h] at hc; omega
    · rw [h] at hc; omega
    · rw [h] at hc; omega
    rw [hc] at HLf ⊢
    rw [e2, e3]
    have htr : 1 ≤ tr ∧ tr ≤ 100 := by unfold inB at h2; simpa using h2
    obtain ⟨⟨n1, n2⟩, n3, ⟨n4, n5⟩, n6, n7⟩ := tk_nums h1 htr h3
    obtain ⟨t1, t2⟩ := htr
    have HPb : Hid (∀ i, i < (plL rs).length → 0 ≤ (plL rs).getD i 0 ∧ (plL rs).getD i 0 ≤ 1000) := fun i hi => by rw [plL_len] at hi; rw [plL_at rs i hi]; exact (lds_at h3 hi).1
    have HTg : Hid (∀ g cg W, Reads W.heap.size W g (plL rs) → Calls Try.prog 39 #[.slice g rs.length cg] W fun e w' => e = .returned (.int .i64 (tkA rs)) ∧ W = w') := fun g cg W h => by
      have h0 := togetherT_any g cg (plL rs) (by rw [plL_len]; exact h1) (fun k hk => by have := pS_bound HPb.out k hk; rw [plL_len] at hk; omega) W h
      rw [plL_len] at h0
      exact h0
    have HFw : Hid (∀ W, Calls Try.prog 34 #[.int .i64 tr, .int .i64 (tkA rs)] W fun e w' => e = .returned (.int .i64 (tkN rs tr)) ∧ W = w') := fun W => fewestOf_any tr (tkA rs) (tkN rs tr) ⟨t1, by omega⟩ ⟨n1, by omega⟩ n3 ⟨n4, by omega⟩ W
    have HFr : Hid (∀ g cg W, Below w.heap.size w W → Own2 w.heap.size W g (plL rs) → Calls Try.prog 40 #[.slice a rs.length cap, .slice g rs.length cg, .int .i64 (tkR rs tr : Int)] W fun e w' => e = .returned (.tuple #[]) ∧ Own2 w.heap.size w' g (tkF rs tr) ∧ Below w.heap.size W w') := fun g cg W hW ho => fillRoom_any w.heap.size a g cap cg rs (plL rs) (tkR rs tr) h1 (by omega) h3 (plL_len rs) HPb.out W hW.size (HR.out.below hW) ho
    have hw1 : IntKind.i64.wrap (tkN rs tr * tr) = tkN rs tr * tr := wrap_id _ (by omega) (by omega)
    have hw2 : IntKind.i64.wrap (tkN rs tr * tr - tkA rs) = (tkR rs tr : Int) := by rw [show tkN rs tr * tr - tkA rs = (tkR rs tr : Int) by omega]; exact wrap_id _ (by omega) (by omega)
    have hlF : (tkF rs tr).length = rs.length := by unfold tkF; rw [fil_len, plL_len]
    have hmk := fun W => run_make_cap rs.length (by omega) W
    obtain ⟨i0, hi, hzz⟩ := Option.map_eq_some_iff.1 intInfo1
    simp only [Prod.mk.injEq] at hzz
    obtain ⟨hi0, hi1, hi2⟩ := hzz
    clear hc h2 e2 e3 n3 n6 n7 HPb n1 n2 n4 n5
    generalize tkF rs tr = F at *
    generalize (tkR rs tr : Int) = rr at *
    obtain ⟨pd, hpd⟩ : ∃ pd, tkN rs tr * tr = pd := ⟨_, rfl⟩
    have hw1' : IntKind.i64.wrap (tkN rs tr * tr) = pd := by rw [hw1, hpd]
    rw [hpd] at hw2
    clear hw1 hpd
    generalize tkN rs tr = nn at *
    generalize tkA rs = aa at *
    go_enter Try.func14, Try.ntmps14
    go_wp2_with (go_at_call 38; refine HLf.mono ?_; rintro e w1 ⟨rfl, hb1⟩; have HB1 : Hid (Below w.heap.size w w1) := hb1; have H0 : Hid (One w1 w1.heap.size (.slice (some ⟨w1.heap.size, 0, none⟩) 0 rs.length) [] (w1.alloc (Obj.cells (madeCells #[.int .i64 0] rs.length) 3))) := One.made w1 _ rfl rs.length (by omega); clear hb1 HLf)
    go_loopw [8, 10, 24] (fun v _ c wr => ∃ k : Nat, k ≤ rs.length ∧ c = .int .i64 (k : Int) ∧ One w1 w1.heap.size v (plL (rs.take k)) wr) (fun _ _ c _ => rs.length - (intOf c).toNat)
    case atStart => exact ⟨0, Nat.zero_le _, rfl, H0.out⟩
    case round =>
      clear H0 hmk
      obtain ⟨k, hk, rfl, hO⟩ := hrel
      have HK : Hid ((plL (rs.take k)).length = k) := by rw [plL_len, List.length_take]; show min k rs.length = k; omega
      obtain ⟨gv, cv, hv⟩ := row_slice hO.1
      rw [HK.out] at hv
      subst hv
      have HO2 : Hid (One w1 w1.heap.size (.slice gv k cv) (plL (rs.take k)) wr) := hO
      clear hO
      by_cases hlt : k < rs.length
      · have hlt' : (k : Int) < (rs.length : Int) := by omega
        rcases HR.out with h | ⟨b0, o0, ha, hB0, ia⟩
        · rw [h] at hlt; simp at hlt
        obtain ⟨c0, c1⟩ := (ia.below (HB1.out.trans (HO2.out.2.2.mono HB1.out.size)) hB0) k hlt
        have HN : Hid (plL (rs.take (k + 1)) = plL (rs.take k) ++ [(rs.getD k zLd).pl]) := plL_take rs k hlt
        rw [ha]
        clear ia
        generalize (rs.getD k zLd).pl = p0 at *
        generalize (rs.getD k zLd).ex = p1 at *
        generalize plL (rs.take k) = L at *
        have HO3 : Hid (One w1 w1.heap.size (.slice gv k cv) L (wr.alloc (Obj.cells #[.int .i64 p0, .int .i64 p1] 37))) := HO2.out.alloc _
        have HC3 : Hid ((wr.alloc (Obj.cells #[.int .i64 p0, .int .i64 p1] 37)).cell? ⟨wr.heap.size, 0, none⟩ = some (.int .i64 p0)) := by show _ = _; simp
        go_upto_region 8 with fail
        generalize (wr.alloc (Obj.cells #[.int .i64 p0, .int .i64 p1] 37)) = W1 at *
        generalize wr.heap.size = bx at *
        have hc3 := HC3.out
        clear HO2 HC3 c0 c1
        go_wp2_with (at_builtin; refine wpList_append_lies _ rfl _ _ 33 rfl w1.heap.size 3 i0 (.int .i64 0) 1 8 Try.underlying33 hi hi0 hi1 hi2 rfl (by decide) _ _ _ rfl (by have h9 := HO3.out.1; rw [HK.out] at h9; exact h9.alloc _) ⟨W1.heap.size, 0, none⟩ 1 1 [.int .i64 p0] rfl rfl (newsOne W1 _ _) (by intro u hu; simp at hu; subst hu; rfl) (by omega) (by unfold maxLen; omega) (by omega) (by have := HO3.out.2.1; simp; omega) _ rfl ?_; intro g1 cp1 w5 hown1 hgrow1 hat1 hglt1; have HT5 : Hid _ := (HO3.out.alloc _).push (by rw [HK.out]; exact hown1) hgrow1; clear hown1 hgrow1 hat1 hglt1)
        exact ⟨⟨k + 1, by omega, by go_num, by rw [HN.out]; have h9 := HT5.out; rw [HK.out] at h9; exact h9⟩, by simp [intOf]; omega⟩
      · have hle : (rs.length : Int) ≤ (k : Int) := by omega
        obtain rfl : k = rs.length := by omega
        have HO4 : Hid (Own2 w.heap.size wr gv (plL rs) ∧ Below w.heap.size w wr) := by
          have h1 := HO2.out.own2 HK.out.symm
          rw [List.take_of_length_le (Nat.le_refl _)] at h1
          exact ⟨own2_mono h1 HB1.out.size, HB1.out.trans (HO2.out.2.2.mono HB1.out.size)⟩
        clear HO2 HK
        go_wp2_with (first | (go_at_call 39; refine (HTg.out _ _ _ HO4.out.1.reads).mono ?_; rintro e w6 ⟨rfl, rfl⟩) | (go_at_call 34; refine (HFw.out _).mono ?_; rintro e w7 ⟨rfl, rfl⟩) | (go_at_call 40; refine (HFr.out _ _ _ HO4.out.2 HO4.out.1).mono ?_; rintro e w8 ⟨rfl, ho8, hb8⟩; have HO8 : Hid (Own2 w.heap.size w8 gv F) := ho8; have HB8 : Hid (Below w.heap.size w w8) := HO4.out.2.trans hb8; clear ho8 hb8))
        go_ret3
        exact ⟨gv, cv, by rw [hlF]; rfl, HO8.out, HB8.out⟩
  · have hcn : (tkC rs tr != 0) = true := by simp [hc]
    obtain ⟨e2, e3⟩ : tkL rs tr = [] ∧ tkT rs tr = 0 := by
      rcases tk_ways rs tr with ⟨_, _, h⟩ | ⟨_, _, _, h⟩ | ⟨_, _, _, h⟩ | ⟨_, _, _, _, h⟩ | ⟨_, _, _, h, _⟩
      · exact h
      · exact h
      · exact h
      · exact h
      · exact absurd h hc
    rw [e2, e3]
    clear e2 e3
    generalize tkC rs tr = cc at *
    go_enter Try.func14, Try.ntmps14
    go_wp2_with (go_at_call 38; refine HLf.mono ?_; rintro e w1 ⟨rfl, hb1⟩)
    go_ret3
    exact AnsT.nil _ _ hb1
end Go.Proofs.Ytbgjekhekjbcpaa
