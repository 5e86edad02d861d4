/-
  Lists of events: what is right as mathematics; contracts of the program's EventsOK and the specification's, for every list.
-/
import Derived.Test.YtabghjlmmpckdaaEvB
import Derived.Deep.OwnRows
import Derived.Deep.WholeRow
namespace Go.Proofs.Ytabghjlmmpckdaa
open Go.ChangeShapes Go.WideShapes Go.ChangeAt Go.RowKit Go.Deep
set_option linter.unusedVariables false

def seqB (rs : List REv) (k : Nat) : Bool := (List.range k).all fun j => !(decide ((rs.getD j zEv).sh = (rs.getD k zEv).sh) && decide ((rs.getD k zEv).sq ≤ (rs.getD j zEv).sq))
def evStep (rs : List REv) (k : Nat) : Bool := evOne (rs.getD k zEv) && ((decide (k = 0) || evAh (rs.getD (k - 1) zEv) (rs.getD k zEv)) && seqB rs k)
def evGo (rs : List REv) (k : Nat) : Bool := (List.range k).all (evStep rs)
def evAll (rs : List REv) : Bool := decide (rs.length ≤ 120) && evGo rs rs.length
theorem evGo_succ (rs : List REv) (k : Nat) : evGo rs (k + 1) = (evGo rs k && evStep rs k) := by
  unfold evGo
  rw [List.range_succ, List.all_append]
  simp
theorem evGo_fail {rs : List REv} {k : Nat} (hk : k < rs.length) (h : evStep rs k = false) : evAll rs = false := by
  unfold evAll evGo
  rw [Bool.and_eq_false_iff]
  refine .inr ?_
  rw [List.all_eq_false]
  exact ⟨k, List.mem_range.2 hk, by simp [h]⟩
theorem evGo_at {rs : List REv} {n k : Nat} (h : evGo rs n = true) (hk : k < n) : evStep rs k = true := by
  unfold evGo at h
  exact List.all_eq_true.1 h k (List.mem_range.2 hk)
theorem evGo_le {rs : List REv} {n k : Nat} (h : evGo rs n = true) (hk : k ≤ n) : evGo rs k = true := by
  unfold evGo
  exact List.all_eq_true.2 (fun j hj => evGo_at h (by have := List.mem_range.1 hj; omega))
theorem evStep_one {rs : List REv} {k : Nat} (h : evStep rs k = true) : evOne (rs.getD k zEv) = true := by
  unfold evStep at h
  exact ((Bool.and_eq_true _ _).mp h).1
theorem evStep_ah {rs : List REv} {k : Nat} (h : evStep rs k = true) (hk : 0 < k) : evAh (rs.getD (k - 1) zEv) (rs.getD k zEv) = true := by
  unfold evStep at h
  have := ((Bool.and_eq_true _ _).mp ((Bool.and_eq_true _ _).mp h).2).1
  rw [decide_eq_false (by omega), Bool.false_or] at this
  exact this
theorem seqB_at {rs : List REv} {k : Nat} (h : seqB rs k = true) {j : Nat} (hj : j < k) (he : (rs.getD j zEv).sh = (rs.getD k zEv).sh) : (rs.getD j zEv).sq < (rs.getD k zEv).sq := by
  unfold seqB at h
  have := List.all_eq_true.1 h j (List.mem_range.2 hj)
  rw [decide_eq_true he, Bool.true_and] at this
  have := of_decide_eq_false (by simpa using this : decide ((rs.getD k zEv).sq ≤ (rs.getD j zEv).sq) = false)
  omega
theorem seqB_of {rs : List REv} {k : Nat} (h : ∀ j, j < k → (rs.getD j zEv).sh = (rs.getD k zEv).sh → (rs.getD j zEv).sq < (rs.getD k zEv).sq) : seqB rs k = true := by
  unfold seqB
  refine List.all_eq_true.2 (fun j hj => ?_)
  by_cases he : (rs.getD j zEv).sh = (rs.getD k zEv).sh
  · have := h j (List.mem_range.1 hj) he
    rw [decide_eq_false (show ¬ (rs.getD k zEv).sq ≤ (rs.getD j zEv).sq by omega), Bool.and_false]; rfl
  · rw [decide_eq_false he, Bool.false_and]; rfl
theorem seqB_no {rs : List REv} {k j : Nat} (hj : j < k) (he : (rs.getD j zEv).sh = (rs.getD k zEv).sh) (hs : (rs.getD k zEv).sq ≤ (rs.getD j zEv).sq) : seqB rs k = false := by
  unfold seqB
  rw [List.all_eq_false]
  exact ⟨j, List.mem_range.2 hj, by rw [decide_eq_true he, decide_eq_true hs]; simp⟩
theorem evStep_seq {rs : List REv} {k : Nat} (h : evStep rs k = true) : seqB rs k = true := by
  unfold evStep at h
  exact ((Bool.and_eq_true _ _).mp ((Bool.and_eq_true _ _).mp h).2).2
/-- The last Seq of a shop among the first events, 0 if it has none. -/
def lastS (rs : List REv) : Nat → Int → Int
  | 0, _ => 0
  | k + 1, s => if (rs.getD k zEv).sh = s then (rs.getD k zEv).sq else lastS rs k s
theorem lastS_le {rs : List REv} : ∀ (k : Nat), evGo rs k = true → ∀ (s : Int) (j : Nat), j < k → (rs.getD j zEv).sh = s → (rs.getD j zEv).sq ≤ lastS rs k s
  | 0, _, _, _, hj, _ => by omega
  | k + 1, h, s, j, hj, he => by
    rw [evGo_succ, Bool.and_eq_true] at h
    rw [lastS]
    by_cases hk : (rs.getD k zEv).sh = s
    · rw [if_pos hk]
      by_cases e : j = k
      · subst e; omega
      · have := seqB_at (evStep_seq h.2) (show j < k by omega) (he.trans hk.symm)
        omega
    · rw [if_neg hk]
      by_cases e : j = k
      · subst e; exact absurd he hk
      · exact lastS_le k h.1 s j (by omega) he
theorem lastS_at (rs : List REv) : ∀ (k : Nat) (s : Int), lastS rs k s = 0 ∨ ∃ j, j < k ∧ (rs.getD j zEv).sh = s ∧ (rs.getD j zEv).sq = lastS rs k s
  | 0, _ => .inl rfl
  | k + 1, s => by
    rw [lastS]
    by_cases hk : (rs.getD k zEv).sh = s
    · rw [if_pos hk]
      exact .inr ⟨k, by omega, hk, rfl⟩
    · rw [if_neg hk]
      rcases lastS_at rs k s with h | ⟨j, h1, h2, h3⟩
      · exact .inl h
      · exact .inr ⟨j, by omega, h2, h3⟩
theorem seqB_last {rs : List REv} {k : Nat} (h : evGo rs k = true) (h1 : 1 ≤ (rs.getD k zEv).sq) : seqB rs k = !decide ((rs.getD k zEv).sq ≤ lastS rs k (rs.getD k zEv).sh) := by
  by_cases hd : (rs.getD k zEv).sq ≤ lastS rs k (rs.getD k zEv).sh
  · rw [decide_eq_true hd]
    rcases lastS_at rs k (rs.getD k zEv).sh with e | ⟨j, h2, h3, h4⟩
    · omega
    · exact seqB_no h2 h3 (by omega)
  · rw [decide_eq_false hd]
    exact seqB_of (fun j hj he => by have := lastS_le k h _ j hj he; omega)
theorem evOne_bd {r : REv} (h : evOne r = true) : 1 ≤ r.sh ∧ r.sh ≤ 9 ∧ 1 ≤ r.sq ∧ r.sq ≤ 120 ∧ 0 ≤ r.tm ∧ r.tm ≤ 1000000000 := by
  unfold evOne at h
  simp only [Bool.and_eq_true] at h
  obtain ⟨h1, h2, h3, _⟩ := h
  have h1 := of_decide_eq_true h1
  have h2 := of_decide_eq_true h2
  have h3 := of_decide_eq_true h3
  omega
theorem ReadsEv.later {w w' : World} {a : Option Addr} {rs : List REv} (h : ReadsEv w.heap.size w a rs) (hb : Below w.heap.size w w') : ReadsEv w'.heap.size w' a rs := (h.below hb).mono hb.size

set_option maxHeartbeats 8000000 in
theorem implEvents_any (a : Option Addr) (cap : Nat) (rs : List REv) (hl : rs.length ≤ 100000000) (hp : ∀ r ∈ rs, EvOK r) (w0 : World) (hr : ReadsEv w0.heap.size w0 a rs) :
    Calls Try.prog 14 #[.slice a rs.length cap] w0 fun e w' => e = .returned (.bool (evAll rs)) ∧ Below w0.heap.size w0 w' := by
  have HR : Hid (ReadsEv w0.heap.size w0 a rs) := hr
  have HOK : Hid (∀ r ∈ rs, EvOK r) := hp
  generalize hAe : evAll rs = ans
  have HAe : Hid (evAll rs = ans) := hAe
  clear hr hp hAe
  by_cases hlong : 120 < rs.length
  · have HF : Hid (ans = false) := by
      have := HAe.out
      unfold evAll at this
      rw [decide_eq_false (by omega), Bool.false_and] at this
      exact this.symm
    have hlong' : (120 : Int) < (rs.length : Int) := by omega
    go_enter Try.func14, Try.ntmps14
    go_wp2
    go_ret
    exact ⟨ret_bool HF.out.symm, Below.refl _ _⟩
  have hshort : (rs.length : Int) ≤ 120 := by omega
  go_enter Try.func14, Try.ntmps14
  go_wp2
  go_loopw [4, 5, 11] (fun _ _ c wr => ∃ k : Nat, k ≤ rs.length ∧ c = .int .i64 (k : Int) ∧ evGo rs k = true ∧ Below w0.heap.size w0 wr ∧ wr.rowIs w0.heap.size 62 10 (fun s => .int .i64 (lastS rs k (s : Int)))) (fun _ _ c _ => rs.length - (intOf c).toNat)
  case atStart => exact ⟨0, Nat.zero_le _, rfl, rfl, below_alloc _ _, by first | exact ⟨_, heapNew _ _, rfl, fun i hi => by rcases (by omega : i = 0 ∨ i = 1 ∨ i = 2 ∨ i = 3 ∨ i = 4 ∨ i = 5 ∨ i = 6 ∨ i = 7 ∨ i = 8 ∨ i = 9) with rfl | rfl | rfl | rfl | rfl | rfl | rfl | rfl | rfl | rfl <;> rfl⟩⟩
  case round =>
    obtain ⟨k, hk, rfl, hgo, hb, hrow⟩ := hrel
    have HB : Hid (Below w0.heap.size w0 wr) := hb
    have HG : Hid (evGo rs k = true) := hgo
    have HW : Hid (wr.rowIs w0.heap.size 62 10 (fun s => .int .i64 (lastS rs k (s : Int)))) := hrow
    clear hb hgo hrow
    by_cases hlt : k < rs.length
    · have hlt' : (k : Int) < (rs.length : Int) := by omega
      rcases HR.out with h | ⟨b0, o0, ha, hB0, ia⟩
      · rw [h] at hlt; simp at hlt
      subst ha
      obtain ⟨c0, c1, c2, c3, c4, c5⟩ := (ia.below HB.out hB0) k hlt
      have hlb : b0 < wr.heap.size := Nat.lt_of_lt_of_le hB0 HB.out.size
      have HIA : Hid (EvsAt wr b0 o0 rs) := ia.below HB.out hB0
      clear ia
      have hW : EvOK (rs.getD k zEv) := getEv HOK.out hlt
      have HX : Hid (evStep rs k = false → ans = false) := fun h => HAe.out.symm.trans (evGo_fail hlt h)
      have HN : Hid (evGo rs (k + 1) = evStep rs k) := by have h := evGo_succ rs k; rw [HG.out, Bool.true_and] at h; exact h
      have HSt : Hid (evStep rs k = (evOne (rs.getD k zEv) && ((decide (k = 0) || evAh (rs.getD (k - 1) zEv) (rs.getD k zEv)) && seqB rs k))) := rfl
      have HSq : Hid (1 ≤ (rs.getD k zEv).sq → seqB rs k = !decide ((rs.getD k zEv).sq ≤ lastS rs k (rs.getD k zEv).sh)) := fun h => seqB_last HG.out h
      have HBd : Hid (evOne (rs.getD k zEv) = true → 1 ≤ (rs.getD k zEv).sh ∧ (rs.getD k zEv).sh ≤ 9 ∧ 1 ≤ (rs.getD k zEv).sq) := fun h => by obtain ⟨q1, q2, q3, _⟩ := evOne_bd h; exact ⟨q1, q2, q3⟩
      have HLs : Hid (∀ s : Int, lastS rs (k + 1) s = if (rs.getD k zEv).sh = s then (rs.getD k zEv).sq else lastS rs k s) := fun s => rfl
      generalize rs.getD k zEv = ev at *
      obtain ⟨e0, e1, e2, e3, e4, e5⟩ := ev
      dsimp only at c0 c1 c2 c3 c4 c5 HSq HBd HLs
      have HRt : Hid (∀ W, Calls Try.prog 31 #[.agg #[.int .i64 e0, .int .i64 e1, .int .i64 e2, .int .i64 e3, .string e4, .int .i64 e5]] W fun e w' => e = .returned (.bool (evOne ⟨e0, e1, e2, e3, e4, e5⟩)) ∧ Below W.heap.size W w') := fun W => evRight_any e0 e1 e2 e3 e4 e5 hW W
      clear hW
      go_wp2_with fail
      generalize hW1 : wr.alloc (.cells #[.int .i64 e0, .int .i64 e1, .int .i64 e2, .int .i64 e3, .string e4, .int .i64 e5] 35) = W1
      have HB1 : Hid (Below w0.heap.size w0 W1) := by rw [← hW1]; exact chain HB.out (below_alloc _ _)
      have hb1 : Below wr.heap.size wr W1 := by rw [← hW1]; exact below_alloc _ _
      have hev : EvAt W1 wr.heap.size 0 ⟨e0, e1, e2, e3, e4, e5⟩ := by rw [← hW1]; exact evNew wr e0 e1 e2 e3 e4 e5
      have hl1 : wr.heap.size < W1.heap.size := by rw [← hW1]; simp
      have HIA1 : Hid (EvsAt W1 b0 o0 rs) := HIA.out.below hb1 hlb
      have HW1 : Hid (W1.rowIs w0.heap.size 62 10 (fun s => .int .i64 (lastS rs k (s : Int)))) := HW.out.of_block (hb1.block _ HW.out.lt)
      have hlb1 : b0 < W1.heap.size := by omega
      clear hW1 hb1 HIA HW HB c0 c1 c2 c3 c4 c5
      generalize hone : evOne ⟨e0, e1, e2, e3, e4, e5⟩ = one at *
      have HO : Hid (evOne ⟨e0, e1, e2, e3, e4, e5⟩ = one) := hone
      clear hone
      cases one
      · have HE : Hid (∀ W, Below W1.heap.size W1 W → EvAt W wr.heap.size 0 ⟨e0, e1, e2, e3, e4, e5⟩ ∧ True) := fun W h => ⟨hev.below h hl1, trivial⟩
        have HF : Hid (ans = false) := HX.out (by rw [HSt.out]; rfl)
        clear hev HX HN HSt HSq HBd HLs
        refine wp_region_held_drew (S := fun W' => Below W1.heap.size W1 W') (by kernel_rfl) (below_drew _) (fun hH => ?_)
        refine wpAnyH_take (i := 0) (v := .agg #[.int .i64 e0, .int .i64 e1, .int .i64 e2, .int .i64 e3, .string e4, .int .i64 e5]) rfl (by kernel_rfl) (by kernel_rfl) (by kernel_rfl) (fun _ _ _ h => h) (Or.inl ⟨by rfl, fun w hSw => by obtain ⟨f0, f1, f2, f3, f4, f5⟩ := (HE.out w hSw).1; simp only [Nat.zero_add] at f0 f1 f2 f3 f4 f5; go_simp⟩) hH ?_
        refine wpAnyH_ready (rs := [1]) (by kernel_rfl) (by simp) ?_
        refine AllReadyH.cons rfl (fun K hK => ?_) AllReadyH.nil
        go_simp
        go_at_call 31
        refine (HRt.out _).mono ?_
        rintro e w2 ⟨rfl, hb2⟩
        have hw2 := chain hH hb2
        clear hb2
        refine hK.out _ _ hw2 (fun _ => ?_)
        clear hK K
        try simp only [Act.put, List.setIfInBounds_toArray, List.set_cons_zero, List.set_cons_succ, List.getElem_toArray, List.getElem_cons_succ, List.getElem_cons_zero]
        refine wpAnyH_take (i := 2) (v := .bool true) rfl (by kernel_rfl) (by kernel_rfl) (by kernel_rfl) (fun _ _ _ h => h) (Or.inl ⟨by rfl, fun w hSw => by go_simp⟩) hw2 ?_
        try simp only [Act.put, List.setIfInBounds_toArray, List.set_cons_zero, List.set_cons_succ, List.getElem_toArray, List.getElem_cons_succ, List.getElem_cons_zero]
        refine wpAnyH_take (i := 3) (v := .bool true) rfl (by kernel_rfl) (by kernel_rfl) (by kernel_rfl) (fun _ _ _ h => h) (Or.inl ⟨by rfl, fun w hSw => by go_simp⟩) hw2 ?_
        try simp only [Act.put, List.setIfInBounds_toArray, List.set_cons_zero, List.set_cons_succ, List.getElem_toArray, List.getElem_cons_succ, List.getElem_cons_zero]
        refine wpAnyH_take (i := 4) (v := undef) rfl (by kernel_rfl) (by kernel_rfl) (by kernel_rfl) (fun _ _ _ h => h) (Or.inr ⟨by rfl, rfl⟩) hw2 ?_
        try simp only [Act.put, List.setIfInBounds_toArray, List.set_cons_zero, List.set_cons_succ, List.getElem_toArray, List.getElem_cons_succ, List.getElem_cons_zero]
        refine wpAnyH_take (i := 5) (v := undef) rfl (by kernel_rfl) (by kernel_rfl) (by kernel_rfl) (fun _ _ _ h => h) (Or.inr ⟨by rfl, rfl⟩) hw2 ?_
        try simp only [Act.put, List.setIfInBounds_toArray, List.set_cons_zero, List.set_cons_succ, List.getElem_toArray, List.getElem_cons_succ, List.getElem_cons_zero]
        refine wpAnyH_take (i := 6) (v := undef) rfl (by kernel_rfl) (by kernel_rfl) (by kernel_rfl) (fun _ _ _ h => h) (Or.inr ⟨by rfl, rfl⟩) hw2 ?_
        try simp only [Act.put, List.setIfInBounds_toArray, List.set_cons_zero, List.set_cons_succ, List.getElem_toArray, List.getElem_cons_succ, List.getElem_cons_zero]
        refine wpAnyH_take (i := 7) (v := undef) rfl (by kernel_rfl) (by kernel_rfl) (by kernel_rfl) (fun _ _ _ h => h) (Or.inr ⟨by rfl, rfl⟩) hw2 ?_
        try simp only [Act.put, List.setIfInBounds_toArray, List.set_cons_zero, List.set_cons_succ, List.getElem_toArray, List.getElem_cons_succ, List.getElem_cons_zero]
        refine wpAnyH_take (i := 8) (v := undef) rfl (by kernel_rfl) (by kernel_rfl) (by kernel_rfl) (fun _ _ _ h => h) (Or.inr ⟨by rfl, rfl⟩) hw2 ?_
        try simp only [Act.put, List.setIfInBounds_toArray, List.set_cons_zero, List.set_cons_succ, List.getElem_toArray, List.getElem_cons_succ, List.getElem_cons_zero]
        refine wpAnyH_take (i := 9) (v := undef) rfl (by kernel_rfl) (by kernel_rfl) (by kernel_rfl) (fun _ _ _ h => h) (Or.inr ⟨by rfl, rfl⟩) hw2 ?_
        try simp only [Act.put, List.setIfInBounds_toArray, List.set_cons_zero, List.set_cons_succ, List.getElem_toArray, List.getElem_cons_succ, List.getElem_cons_zero]
        refine wpAnyH_take (i := 10) (v := undef) rfl (by kernel_rfl) (by kernel_rfl) (by kernel_rfl) (fun _ _ _ h => h) (Or.inr ⟨by rfl, rfl⟩) hw2 ?_
        try simp only [Act.put, List.setIfInBounds_toArray, List.set_cons_zero, List.set_cons_succ, List.getElem_toArray, List.getElem_cons_succ, List.getElem_cons_zero]
        refine wpAnyH_take (i := 11) (v := undef) rfl (by kernel_rfl) (by kernel_rfl) (by kernel_rfl) (fun _ _ _ h => h) (Or.inr ⟨by rfl, rfl⟩) hw2 ?_
        try simp only [Act.put, List.setIfInBounds_toArray, List.set_cons_zero, List.set_cons_succ, List.getElem_toArray, List.getElem_cons_succ, List.getElem_cons_zero]
        refine wpAnyH_take (i := 12) (v := undef) rfl (by kernel_rfl) (by kernel_rfl) (by kernel_rfl) (fun _ _ _ h => h) (Or.inr ⟨by rfl, rfl⟩) hw2 ?_
        try simp only [Act.put, List.setIfInBounds_toArray, List.set_cons_zero, List.set_cons_succ, List.getElem_toArray, List.getElem_cons_succ, List.getElem_cons_zero]
        refine wpAnyH_take (i := 13) (v := undef) rfl (by kernel_rfl) (by kernel_rfl) (by kernel_rfl) (fun _ _ _ h => h) (Or.inr ⟨by rfl, rfl⟩) hw2 ?_
        try simp only [Act.put, List.setIfInBounds_toArray, List.set_cons_zero, List.set_cons_succ, List.getElem_toArray, List.getElem_cons_succ, List.getElem_cons_zero]
        refine wpAnyH_take (i := 14) (v := undef) rfl (by kernel_rfl) (by kernel_rfl) (by kernel_rfl) (fun _ _ _ h => h) (Or.inr ⟨by rfl, rfl⟩) hw2 ?_
        try simp only [Act.put, List.setIfInBounds_toArray, List.set_cons_zero, List.set_cons_succ, List.getElem_toArray, List.getElem_cons_succ, List.getElem_cons_zero]
        refine wpAnyH_take (i := 15) (v := undef) rfl (by kernel_rfl) (by kernel_rfl) (by kernel_rfl) (fun _ _ _ h => h) (Or.inr ⟨by rfl, rfl⟩) hw2 ?_
        try simp only [Act.put, List.setIfInBounds_toArray, List.set_cons_zero, List.set_cons_succ, List.getElem_toArray, List.getElem_cons_succ, List.getElem_cons_zero]
        refine wpAnyH_take (i := 16) (v := .bool true) rfl (by kernel_rfl) (by kernel_rfl) (by kernel_rfl) (fun _ _ _ h => h) (Or.inl ⟨by rfl, fun w hSw => by go_simp⟩) hw2 ?_
        try simp only [Act.put, List.setIfInBounds_toArray, List.set_cons_zero, List.set_cons_succ, List.getElem_toArray, List.getElem_cons_succ, List.getElem_cons_zero]
        refine wpAnyH_take (i := 17) (v := .bool true) rfl (by kernel_rfl) (by kernel_rfl) (by kernel_rfl) (fun _ _ _ h => h) (Or.inl ⟨by rfl, fun w hSw => by go_simp⟩) hw2 ?_
        try simp only [Act.put, List.setIfInBounds_toArray, List.set_cons_zero, List.set_cons_succ, List.getElem_toArray, List.getElem_cons_succ, List.getElem_cons_zero]
        refine wpAnyH_take (i := 18) (v := undef) rfl (by kernel_rfl) (by kernel_rfl) (by kernel_rfl) (fun _ _ _ h => h) (Or.inr ⟨by rfl, rfl⟩) hw2 ?_
        try simp only [Act.put, List.setIfInBounds_toArray, List.set_cons_zero, List.set_cons_succ, List.getElem_toArray, List.getElem_cons_succ, List.getElem_cons_zero]
        refine wpAnyH_take (i := 19) (v := undef) rfl (by kernel_rfl) (by kernel_rfl) (by kernel_rfl) (fun _ _ _ h => h) (Or.inr ⟨by rfl, rfl⟩) hw2 ?_
        try simp only [Act.put, List.setIfInBounds_toArray, List.set_cons_zero, List.set_cons_succ, List.getElem_toArray, List.getElem_cons_succ, List.getElem_cons_zero]
        refine wpAnyH_take (i := 20) (v := undef) rfl (by kernel_rfl) (by kernel_rfl) (by kernel_rfl) (fun _ _ _ h => h) (Or.inr ⟨by rfl, rfl⟩) hw2 ?_
        try simp only [Act.put, List.setIfInBounds_toArray, List.set_cons_zero, List.set_cons_succ, List.getElem_toArray, List.getElem_cons_succ, List.getElem_cons_zero]
        refine wpAnyH_take (i := 21) (v := undef) rfl (by kernel_rfl) (by kernel_rfl) (by kernel_rfl) (fun _ _ _ h => h) (Or.inr ⟨by rfl, rfl⟩) hw2 ?_
        try simp only [Act.put, List.setIfInBounds_toArray, List.set_cons_zero, List.set_cons_succ, List.getElem_toArray, List.getElem_cons_succ, List.getElem_cons_zero]
        refine wpAnyH_take (i := 22) (v := undef) rfl (by kernel_rfl) (by kernel_rfl) (by kernel_rfl) (fun _ _ _ h => h) (Or.inr ⟨by rfl, rfl⟩) hw2 ?_
        try simp only [Act.put, List.setIfInBounds_toArray, List.set_cons_zero, List.set_cons_succ, List.getElem_toArray, List.getElem_cons_succ, List.getElem_cons_zero]
        refine wpAnyH_take (i := 23) (v := undef) rfl (by kernel_rfl) (by kernel_rfl) (by kernel_rfl) (fun _ _ _ h => h) (Or.inr ⟨by rfl, rfl⟩) hw2 ?_
        try simp only [Act.put, List.setIfInBounds_toArray, List.set_cons_zero, List.set_cons_succ, List.getElem_toArray, List.getElem_cons_succ, List.getElem_cons_zero]
        refine wpAnyH_take (i := 24) (v := undef) rfl (by kernel_rfl) (by kernel_rfl) (by kernel_rfl) (fun _ _ _ h => h) (Or.inr ⟨by rfl, rfl⟩) hw2 ?_
        try simp only [Act.put, List.setIfInBounds_toArray, List.set_cons_zero, List.set_cons_succ, List.getElem_toArray, List.getElem_cons_succ, List.getElem_cons_zero]
        refine wpAnyH_take (i := 25) (v := .bool true) rfl (by kernel_rfl) (by kernel_rfl) (by kernel_rfl) (fun _ _ _ h => h) (Or.inl ⟨by rfl, fun w hSw => by go_simp⟩) hw2 ?_
        try simp only [Act.put, List.setIfInBounds_toArray, List.set_cons_zero, List.set_cons_succ, List.getElem_toArray, List.getElem_cons_succ, List.getElem_cons_zero]
        refine wpAnyH_done (by kernel_rfl) ?_ _
        have HB2 : Hid (Below w0.heap.size w0 w2) := chain HB1.out hw2
        clear hw2 hH HE HRt
        go_wp2
        go_ret
        exact ⟨ret_bool HF.out.symm, HB2.out⟩
      · obtain ⟨hs1, hs9i, hq1⟩ := HBd.out rfl
        obtain ⟨sN, rfl⟩ : ∃ sN : Nat, e0 = (sN : Int) := ⟨e0.toNat, by omega⟩
        have hs9 : sN < 10 := by omega
        have HSq2 : Hid (seqB rs k = !decide (e1 ≤ lastS rs k (sN : Int))) := HSq.out hq1
        have HLs2 : Hid (W1.cell? ⟨w0.heap.size, sN, none⟩ = some (.int .i64 (lastS rs k (sN : Int)))) := HW1.out.cell hs9
        have hwlt : w0.heap.size < W1.heap.size := HW1.out.lt
        generalize hls : lastS rs k (sN : Int) = ls at *
        have HLL : Hid (lastS rs k (sN : Int) = ls) := hls
        have HE : Hid (∀ W, Below W1.heap.size W1 W → EvAt W wr.heap.size 0 ⟨(sN : Int), e1, e2, e3, e4, e5⟩ ∧ W.cell? ⟨w0.heap.size, sN, none⟩ = some (.int .i64 ls) ∧ True) := fun W h => ⟨hev.below h hl1, (h.cell (p := ⟨w0.heap.size, sN, none⟩) hwlt).trans HLs2.out, trivial⟩
        have HRest : Hid (∀ W, Below W1.heap.size W1 W → W.rowIs w0.heap.size 62 10 (fun s => .int .i64 (lastS rs k (s : Int)))) := fun W h => HW1.out.of_block (h.block _ HW1.out.lt)
        clear hls HSq HLs2 HW1 hev HBd
        by_cases hk0 : k = 0
        · have hkz : (decide (k = 0) || evAh (rs.getD (k - 1) zEv) ⟨(sN : Int), e1, e2, e3, e4, e5⟩) = true := by rw [decide_eq_true hk0]; rfl
          have HSt2 : Hid (evStep rs k = !decide (e1 ≤ ls)) := by rw [HSt.out, hkz, HSq2.out]; rfl
          have HK0 : Hid (k = 0) := hk0
          clear hkz HSt HSq2 hk0
          refine wp_region_held_drew (S := fun W' => Below W1.heap.size W1 W') (by kernel_rfl) (below_drew _) (fun hH => ?_)
          refine wpAnyH_take (i := 0) (v := .agg #[.int .i64 (sN : Int), .int .i64 e1, .int .i64 e2, .int .i64 e3, .string e4, .int .i64 e5]) rfl (by kernel_rfl) (by kernel_rfl) (by kernel_rfl) (fun _ _ _ h => h) (Or.inl ⟨by rfl, fun w hSw => by obtain ⟨f0, f1, f2, f3, f4, f5⟩ := (HE.out w hSw).1; simp only [Nat.zero_add] at f0 f1 f2 f3 f4 f5; go_simp⟩) hH ?_
          refine wpAnyH_ready (rs := [1]) (by kernel_rfl) (by simp) ?_
          refine AllReadyH.cons rfl (fun K hK => ?_) AllReadyH.nil
          go_simp
          go_at_call 31
          refine (HRt.out _).mono ?_
          rintro e w2 ⟨rfl, hb2⟩
          have hw2 := chain hH hb2
          clear hb2
          refine hK.out _ _ hw2 (fun _ => ?_)
          clear hK K
          try simp only [Act.put, List.setIfInBounds_toArray, List.set_cons_zero, List.set_cons_succ, List.getElem_toArray, List.getElem_cons_succ, List.getElem_cons_zero]
          refine wpAnyH_take (i := 2) (v := .bool false) rfl (by kernel_rfl) (by kernel_rfl) (by kernel_rfl) (fun _ _ _ h => h) (Or.inl ⟨by rfl, fun w hSw => by go_simp⟩) hw2 ?_
          try simp only [Act.put, List.setIfInBounds_toArray, List.set_cons_zero, List.set_cons_succ, List.getElem_toArray, List.getElem_cons_succ, List.getElem_cons_zero]
          refine wpAnyH_take (i := 3) (v := .bool false) rfl (by kernel_rfl) (by kernel_rfl) (by kernel_rfl) (fun _ _ _ h => h) (Or.inl ⟨by rfl, fun w hSw => by go_simp⟩) hw2 ?_
          try simp only [Act.put, List.setIfInBounds_toArray, List.set_cons_zero, List.set_cons_succ, List.getElem_toArray, List.getElem_cons_succ, List.getElem_cons_zero]
          refine wpAnyH_take (i := 4) (v := .int .i64 (k : Int)) rfl (by kernel_rfl) (by kernel_rfl) (by kernel_rfl) (fun _ _ _ h => h) (Or.inl ⟨by rfl, fun w hSw => by go_simp⟩) hw2 ?_
          try simp only [Act.put, List.setIfInBounds_toArray, List.set_cons_zero, List.set_cons_succ, List.getElem_toArray, List.getElem_cons_succ, List.getElem_cons_zero]
          refine wpAnyH_take (i := 5) (v := .bool false) rfl (by kernel_rfl) (by kernel_rfl) (by kernel_rfl) (fun _ _ _ h => h) (Or.inl ⟨by rfl, fun w hSw => by have f := HK0.out; go_simp⟩) hw2 ?_
          try simp only [Act.put, List.setIfInBounds_toArray, List.set_cons_zero, List.set_cons_succ, List.getElem_toArray, List.getElem_cons_succ, List.getElem_cons_zero]
          refine wpAnyH_take (i := 6) (v := .bool false) rfl (by kernel_rfl) (by kernel_rfl) (by kernel_rfl) (fun _ _ _ h => h) (Or.inl ⟨by rfl, fun w hSw => by go_simp⟩) hw2 ?_
          try simp only [Act.put, List.setIfInBounds_toArray, List.set_cons_zero, List.set_cons_succ, List.getElem_toArray, List.getElem_cons_succ, List.getElem_cons_zero]
          refine wpAnyH_take (i := 7) (v := undef) rfl (by kernel_rfl) (by kernel_rfl) (by kernel_rfl) (fun _ _ _ h => h) (Or.inr ⟨by rfl, rfl⟩) hw2 ?_
          try simp only [Act.put, List.setIfInBounds_toArray, List.set_cons_zero, List.set_cons_succ, List.getElem_toArray, List.getElem_cons_succ, List.getElem_cons_zero]
          refine wpAnyH_take (i := 8) (v := undef) rfl (by kernel_rfl) (by kernel_rfl) (by kernel_rfl) (fun _ _ _ h => h) (Or.inr ⟨by rfl, rfl⟩) hw2 ?_
          try simp only [Act.put, List.setIfInBounds_toArray, List.set_cons_zero, List.set_cons_succ, List.getElem_toArray, List.getElem_cons_succ, List.getElem_cons_zero]
          refine wpAnyH_take (i := 9) (v := undef) rfl (by kernel_rfl) (by kernel_rfl) (by kernel_rfl) (fun _ _ _ h => h) (Or.inr ⟨by rfl, rfl⟩) hw2 ?_
          try simp only [Act.put, List.setIfInBounds_toArray, List.set_cons_zero, List.set_cons_succ, List.getElem_toArray, List.getElem_cons_succ, List.getElem_cons_zero]
          refine wpAnyH_take (i := 10) (v := undef) rfl (by kernel_rfl) (by kernel_rfl) (by kernel_rfl) (fun _ _ _ h => h) (Or.inr ⟨by rfl, rfl⟩) hw2 ?_
          try simp only [Act.put, List.setIfInBounds_toArray, List.set_cons_zero, List.set_cons_succ, List.getElem_toArray, List.getElem_cons_succ, List.getElem_cons_zero]
          refine wpAnyH_take (i := 11) (v := undef) rfl (by kernel_rfl) (by kernel_rfl) (by kernel_rfl) (fun _ _ _ h => h) (Or.inr ⟨by rfl, rfl⟩) hw2 ?_
          try simp only [Act.put, List.setIfInBounds_toArray, List.set_cons_zero, List.set_cons_succ, List.getElem_toArray, List.getElem_cons_succ, List.getElem_cons_zero]
          refine wpAnyH_take (i := 12) (v := undef) rfl (by kernel_rfl) (by kernel_rfl) (by kernel_rfl) (fun _ _ _ h => h) (Or.inr ⟨by rfl, rfl⟩) hw2 ?_
          try simp only [Act.put, List.setIfInBounds_toArray, List.set_cons_zero, List.set_cons_succ, List.getElem_toArray, List.getElem_cons_succ, List.getElem_cons_zero]
          refine wpAnyH_take (i := 13) (v := undef) rfl (by kernel_rfl) (by kernel_rfl) (by kernel_rfl) (fun _ _ _ h => h) (Or.inr ⟨by rfl, rfl⟩) hw2 ?_
          try simp only [Act.put, List.setIfInBounds_toArray, List.set_cons_zero, List.set_cons_succ, List.getElem_toArray, List.getElem_cons_succ, List.getElem_cons_zero]
          refine wpAnyH_take (i := 14) (v := undef) rfl (by kernel_rfl) (by kernel_rfl) (by kernel_rfl) (fun _ _ _ h => h) (Or.inr ⟨by rfl, rfl⟩) hw2 ?_
          try simp only [Act.put, List.setIfInBounds_toArray, List.set_cons_zero, List.set_cons_succ, List.getElem_toArray, List.getElem_cons_succ, List.getElem_cons_zero]
          refine wpAnyH_take (i := 15) (v := .bool false) rfl (by kernel_rfl) (by kernel_rfl) (by kernel_rfl) (fun _ _ _ h => h) (Or.inl ⟨by rfl, fun w hSw => by go_simp⟩) hw2 ?_
          try simp only [Act.put, List.setIfInBounds_toArray, List.set_cons_zero, List.set_cons_succ, List.getElem_toArray, List.getElem_cons_succ, List.getElem_cons_zero]
          refine wpAnyH_take (i := 16) (v := .bool false) rfl (by kernel_rfl) (by kernel_rfl) (by kernel_rfl) (fun _ _ _ h => h) (Or.inl ⟨by rfl, fun w hSw => by go_simp⟩) hw2 ?_
          try simp only [Act.put, List.setIfInBounds_toArray, List.set_cons_zero, List.set_cons_succ, List.getElem_toArray, List.getElem_cons_succ, List.getElem_cons_zero]
          refine wpAnyH_take (i := 17) (v := .bool false) rfl (by kernel_rfl) (by kernel_rfl) (by kernel_rfl) (fun _ _ _ h => h) (Or.inl ⟨by rfl, fun w hSw => by go_simp⟩) hw2 ?_
          try simp only [Act.put, List.setIfInBounds_toArray, List.set_cons_zero, List.set_cons_succ, List.getElem_toArray, List.getElem_cons_succ, List.getElem_cons_zero]
          refine wpAnyH_take (i := 18) (v := .pointer (some ⟨wr.heap.size, 1, none⟩)) rfl (by kernel_rfl) (by kernel_rfl) (by kernel_rfl) (fun _ _ _ h => h) (Or.inl ⟨by rfl, fun w hSw => by go_simp⟩) hw2 ?_
          try simp only [Act.put, List.setIfInBounds_toArray, List.set_cons_zero, List.set_cons_succ, List.getElem_toArray, List.getElem_cons_succ, List.getElem_cons_zero]
          refine wpAnyH_take (i := 19) (v := .int .i64 e1) rfl (by kernel_rfl) (by kernel_rfl) (by kernel_rfl) (fun _ _ _ h => h) (Or.inl ⟨by rfl, fun w hSw => by obtain ⟨f0, f1, f2, f3, f4, f5⟩ := (HE.out w hSw).1; simp only [Nat.zero_add] at f0 f1 f2 f3 f4 f5; go_simp⟩) hw2 ?_
          try simp only [Act.put, List.setIfInBounds_toArray, List.set_cons_zero, List.set_cons_succ, List.getElem_toArray, List.getElem_cons_succ, List.getElem_cons_zero]
          refine wpAnyH_take (i := 20) (v := .pointer (some ⟨wr.heap.size, 0, none⟩)) rfl (by kernel_rfl) (by kernel_rfl) (by kernel_rfl) (fun _ _ _ h => h) (Or.inl ⟨by rfl, fun w hSw => by go_simp⟩) hw2 ?_
          try simp only [Act.put, List.setIfInBounds_toArray, List.set_cons_zero, List.set_cons_succ, List.getElem_toArray, List.getElem_cons_succ, List.getElem_cons_zero]
          refine wpAnyH_take (i := 21) (v := .int .i64 (sN : Int)) rfl (by kernel_rfl) (by kernel_rfl) (by kernel_rfl) (fun _ _ _ h => h) (Or.inl ⟨by rfl, fun w hSw => by obtain ⟨f0, f1, f2, f3, f4, f5⟩ := (HE.out w hSw).1; simp only [Nat.zero_add] at f0 f1 f2 f3 f4 f5; go_simp⟩) hw2 ?_
          try simp only [Act.put, List.setIfInBounds_toArray, List.set_cons_zero, List.set_cons_succ, List.getElem_toArray, List.getElem_cons_succ, List.getElem_cons_zero]
          refine wpAnyH_take (i := 22) (v := .pointer (some ⟨w0.heap.size, sN, none⟩)) rfl (by kernel_rfl) (by kernel_rfl) (by kernel_rfl) (fun _ _ _ h => h) (Or.inl ⟨by rfl, fun w hSw => by have f : (sN : Int) < 10 := (by omega); go_simp⟩) hw2 ?_
          try simp only [Act.put, List.setIfInBounds_toArray, List.set_cons_zero, List.set_cons_succ, List.getElem_toArray, List.getElem_cons_succ, List.getElem_cons_zero]
          refine wpAnyH_take (i := 23) (v := .int .i64 ls) rfl (by kernel_rfl) (by kernel_rfl) (by kernel_rfl) (fun _ _ _ h => h) (Or.inl ⟨by rfl, fun w hSw => by have f := (HE.out w hSw).2.1; go_simp⟩) hw2 ?_
          try simp only [Act.put, List.setIfInBounds_toArray, List.set_cons_zero, List.set_cons_succ, List.getElem_toArray, List.getElem_cons_succ, List.getElem_cons_zero]
          refine wpAnyH_take (i := 24) (v := .bool (decide (e1 ≤ ls))) rfl (by kernel_rfl) (by kernel_rfl) (by kernel_rfl) (fun _ _ _ h => h) (Or.inl ⟨by rfl, fun w hSw => by go_simp⟩) hw2 ?_
          try simp only [Act.put, List.setIfInBounds_toArray, List.set_cons_zero, List.set_cons_succ, List.getElem_toArray, List.getElem_cons_succ, List.getElem_cons_zero]
          refine wpAnyH_take (i := 25) (v := .bool (decide (e1 ≤ ls))) rfl (by kernel_rfl) (by kernel_rfl) (by kernel_rfl) (fun _ _ _ h => h) (Or.inl ⟨by rfl, fun w hSw => by go_simp⟩) hw2 ?_
          try simp only [Act.put, List.setIfInBounds_toArray, List.set_cons_zero, List.set_cons_succ, List.getElem_toArray, List.getElem_cons_succ, List.getElem_cons_zero]
          refine wpAnyH_done (by kernel_rfl) ?_ _
          have HB2 : Hid (Below w0.heap.size w0 w2) := chain HB1.out hw2
          have HR2 : Hid (w2.rowIs w0.heap.size 62 10 (fun s => .int .i64 (lastS rs k (s : Int)))) := HRest.out _ hw2
          obtain ⟨f0, f1, f2, f3, f4, f5⟩ := (HE.out _ hw2).1
          simp only [Nat.zero_add] at f0 f1 f2 f3 f4 f5
          have gl : wr.heap.size < w2.heap.size := Nat.lt_of_lt_of_le hl1 hw2.size
          by_cases hle : e1 ≤ ls
          · have HF : Hid (ans = false) := HX.out (by rw [HSt2.out, decide_eq_true hle]; rfl)
            have hd : decide (e1 ≤ ls) = true := decide_eq_true hle
            clear HX HN HSt2 HE HRt hH HRest
            go_wp2
            go_ret
            exact ⟨ret_bool HF.out.symm, HB2.out⟩
          · have HT : Hid (evGo rs (k + 1) = true) := by rw [HN.out, HSt2.out, decide_eq_false hle]; rfl
            have hd : decide (e1 ≤ ls) = false := decide_eq_false hle
            have g0 : w2.cell? ⟨w0.heap.size, sN, none⟩ = some (.int .i64 (lastS rs k (sN : Int))) := HR2.out.cell hs9
            have g1 : w2.frozen? ⟨w0.heap.size, sN, none⟩ = false := HR2.out.frozen sN
            have HS2 : Hid (Below w0.heap.size w0 (w2.setCell ⟨w0.heap.size, sN, none⟩ (.int .i64 e1)) ∧ (w2.setCell ⟨w0.heap.size, sN, none⟩ (.int .i64 e1)).rowIs w0.heap.size 62 10 (fun s => .int .i64 (lastS rs (k + 1) (s : Int)))) := by
              refine ⟨HB2.out.setCell (Nat.le_refl _) _, (HR2.out.set sN _).congr (fun i hi => ?_)⟩
              rw [HLs.out]
              by_cases e : i = sN
              · subst e; rw [if_pos rfl, if_pos rfl]
              · rw [if_neg e, if_neg (by omega)]
            clear HX HN HSt2 HE HRt hH HRest HR2 HB2 HLs HLL
            go_wp2
            go_roundw
            case rel => exact ⟨k + 1, by omega, by go_num, HT.out, HS2.out.1, HS2.out.2⟩
            case measure => simp [intOf]; omega
        · obtain ⟨q, rfl⟩ : ∃ q, k = q + 1 := ⟨k - 1, by omega⟩
          have hkz : (decide (q + 1 = 0) || evAh (rs.getD (q + 1 - 1) zEv) ⟨(sN : Int), e1, e2, e3, e4, e5⟩) = evAh (rs.getD q zEv) ⟨(sN : Int), e1, e2, e3, e4, e5⟩ := by rw [decide_eq_false hk0]; rfl
          have HSt1 : Hid (evStep rs (q + 1) = (evAh (rs.getD q zEv) ⟨(sN : Int), e1, e2, e3, e4, e5⟩ && !decide (e1 ≤ ls))) := by rw [HSt.out, hkz, HSq2.out]; rfl
          clear hkz HSt HSq2 hk0
          have hqa := HIA1.out q (by omega)
          generalize rs.getD q zEv = pv at *
          obtain ⟨p0, p1, p2, p3, p4, p5⟩ := pv
          have HP : Hid (∀ W, Below W1.heap.size W1 W → EvAt W b0 (o0 + q * 6) ⟨p0, p1, p2, p3, p4, p5⟩) := fun W h => hqa.below h hlb1
          have hkn : (0 : Int) < ((q + 1 : Nat) : Int) := by omega
          have hkq : IntKind.i64.wrap (q : Int) = (q : Int) := wrap_id _ (by omega) (by omega)
          have hql : q < rs.length := by omega
          have HCm : Hid (∀ W, Calls Try.prog 32 #[.agg #[.int .i64 p0, .int .i64 p1, .int .i64 p2, .int .i64 p3, .string p4, .int .i64 p5], .agg #[.int .i64 (sN : Int), .int .i64 e1, .int .i64 e2, .int .i64 e3, .string e4, .int .i64 e5]] W fun e w' => e = .returned (.int .i64 (evCmp ⟨p0, p1, p2, p3, p4, p5⟩ ⟨(sN : Int), e1, e2, e3, e4, e5⟩)) ∧ Below W.heap.size W w') := fun W => evCompares_any _ _ _ _ _ _ _ _ _ _ _ _ W
          have HAh := evCmp_ah ⟨p0, p1, p2, p3, p4, p5⟩ ⟨(sN : Int), e1, e2, e3, e4, e5⟩
          generalize evCmp ⟨p0, p1, p2, p3, p4, p5⟩ ⟨(sN : Int), e1, e2, e3, e4, e5⟩ = cn at *
          clear hqa HIA1
          by_cases hcn : 0 ≤ cn
          · rw [decide_eq_false (by omega)] at HAh
            have HF : Hid (ans = false) := HX.out (by rw [HSt1.out, HAh]; rfl)
            clear HAh HX HN HSt1 HLs HLL HRest
            refine wp_region_held_drew (S := fun W' => Below W1.heap.size W1 W') (by kernel_rfl) (below_drew _) (fun hH => ?_)
            refine wpAnyH_take (i := 0) (v := .agg #[.int .i64 (sN : Int), .int .i64 e1, .int .i64 e2, .int .i64 e3, .string e4, .int .i64 e5]) rfl (by kernel_rfl) (by kernel_rfl) (by kernel_rfl) (fun _ _ _ h => h) (Or.inl ⟨by rfl, fun w hSw => by obtain ⟨f0, f1, f2, f3, f4, f5⟩ := (HE.out w hSw).1; simp only [Nat.zero_add] at f0 f1 f2 f3 f4 f5; go_simp⟩) hH ?_
            refine wpAnyH_ready (rs := [1]) (by kernel_rfl) (by simp) ?_
            refine AllReadyH.cons rfl (fun K hK => ?_) AllReadyH.nil
            go_simp
            go_at_call 31
            refine (HRt.out _).mono ?_
            rintro e w2 ⟨rfl, hb2⟩
            have hw2 := chain hH hb2
            clear hb2
            refine hK.out _ _ hw2 (fun _ => ?_)
            clear hK K
            try simp only [Act.put, List.setIfInBounds_toArray, List.set_cons_zero, List.set_cons_succ, List.getElem_toArray, List.getElem_cons_succ, List.getElem_cons_zero]
            refine wpAnyH_take (i := 2) (v := .bool false) rfl (by kernel_rfl) (by kernel_rfl) (by kernel_rfl) (fun _ _ _ h => h) (Or.inl ⟨by rfl, fun w hSw => by go_simp⟩) hw2 ?_
            try simp only [Act.put, List.setIfInBounds_toArray, List.set_cons_zero, List.set_cons_succ, List.getElem_toArray, List.getElem_cons_succ, List.getElem_cons_zero]
            refine wpAnyH_take (i := 3) (v := .bool false) rfl (by kernel_rfl) (by kernel_rfl) (by kernel_rfl) (fun _ _ _ h => h) (Or.inl ⟨by rfl, fun w hSw => by go_simp⟩) hw2 ?_
            try simp only [Act.put, List.setIfInBounds_toArray, List.set_cons_zero, List.set_cons_succ, List.getElem_toArray, List.getElem_cons_succ, List.getElem_cons_zero]
            refine wpAnyH_take (i := 4) (v := .int .i64 ((q + 1 : Nat) : Int)) rfl (by kernel_rfl) (by kernel_rfl) (by kernel_rfl) (fun _ _ _ h => h) (Or.inl ⟨by rfl, fun w hSw => by go_simp⟩) hw2 ?_
            try simp only [Act.put, List.setIfInBounds_toArray, List.set_cons_zero, List.set_cons_succ, List.getElem_toArray, List.getElem_cons_succ, List.getElem_cons_zero]
            refine wpAnyH_take (i := 5) (v := .bool true) rfl (by kernel_rfl) (by kernel_rfl) (by kernel_rfl) (fun _ _ _ h => h) (Or.inl ⟨by rfl, fun w hSw => by go_simp⟩) hw2 ?_
            try simp only [Act.put, List.setIfInBounds_toArray, List.set_cons_zero, List.set_cons_succ, List.getElem_toArray, List.getElem_cons_succ, List.getElem_cons_zero]
            refine wpAnyH_take (i := 6) (v := .bool true) rfl (by kernel_rfl) (by kernel_rfl) (by kernel_rfl) (fun _ _ _ h => h) (Or.inl ⟨by rfl, fun w hSw => by go_simp⟩) hw2 ?_
            try simp only [Act.put, List.setIfInBounds_toArray, List.set_cons_zero, List.set_cons_succ, List.getElem_toArray, List.getElem_cons_succ, List.getElem_cons_zero]
            refine wpAnyH_take (i := 7) (v := .slice (some ⟨b0, o0, none⟩) rs.length cap) rfl (by kernel_rfl) (by kernel_rfl) (by kernel_rfl) (fun _ _ _ h => h) (Or.inl ⟨by rfl, fun w hSw => by go_simp⟩) hw2 ?_
            try simp only [Act.put, List.setIfInBounds_toArray, List.set_cons_zero, List.set_cons_succ, List.getElem_toArray, List.getElem_cons_succ, List.getElem_cons_zero]
            refine wpAnyH_take (i := 8) (v := .int .i64 ((q + 1 : Nat) : Int)) rfl (by kernel_rfl) (by kernel_rfl) (by kernel_rfl) (fun _ _ _ h => h) (Or.inl ⟨by rfl, fun w hSw => by go_simp⟩) hw2 ?_
            try simp only [Act.put, List.setIfInBounds_toArray, List.set_cons_zero, List.set_cons_succ, List.getElem_toArray, List.getElem_cons_succ, List.getElem_cons_zero]
            refine wpAnyH_take (i := 9) (v := .int .i64 (q : Int)) rfl (by kernel_rfl) (by kernel_rfl) (by kernel_rfl) (fun _ _ _ h => h) (Or.inl ⟨by rfl, fun w hSw => by have f := hkq; go_simp⟩) hw2 ?_
            try simp only [Act.put, List.setIfInBounds_toArray, List.set_cons_zero, List.set_cons_succ, List.getElem_toArray, List.getElem_cons_succ, List.getElem_cons_zero]
            refine wpAnyH_take (i := 10) (v := .pointer (some ⟨b0, o0 + q * 6, none⟩)) rfl (by kernel_rfl) (by kernel_rfl) (by kernel_rfl) (fun _ _ _ h => h) (Or.inl ⟨by rfl, fun w hSw => by have f := hql; go_simp⟩) hw2 ?_
            try simp only [Act.put, List.setIfInBounds_toArray, List.set_cons_zero, List.set_cons_succ, List.getElem_toArray, List.getElem_cons_succ, List.getElem_cons_zero]
            refine wpAnyH_take (i := 11) (v := .agg #[.int .i64 p0, .int .i64 p1, .int .i64 p2, .int .i64 p3, .string p4, .int .i64 p5]) rfl (by kernel_rfl) (by kernel_rfl) (by kernel_rfl) (fun _ _ _ h => h) (Or.inl ⟨by rfl, fun w hSw => by obtain ⟨f0, f1, f2, f3, f4, f5⟩ := HP.out w hSw; go_simp⟩) hw2 ?_
            try simp only [Act.put, List.setIfInBounds_toArray, List.set_cons_zero, List.set_cons_succ, List.getElem_toArray, List.getElem_cons_succ, List.getElem_cons_zero]
            refine wpAnyH_take (i := 12) (v := .agg #[.int .i64 (sN : Int), .int .i64 e1, .int .i64 e2, .int .i64 e3, .string e4, .int .i64 e5]) rfl (by kernel_rfl) (by kernel_rfl) (by kernel_rfl) (fun _ _ _ h => h) (Or.inl ⟨by rfl, fun w hSw => by obtain ⟨f0, f1, f2, f3, f4, f5⟩ := (HE.out w hSw).1; simp only [Nat.zero_add] at f0 f1 f2 f3 f4 f5; go_simp⟩) hw2 ?_
            try simp only [Act.put, List.setIfInBounds_toArray, List.set_cons_zero, List.set_cons_succ, List.getElem_toArray, List.getElem_cons_succ, List.getElem_cons_zero]
            refine wpAnyH_ready (rs := [13]) (by kernel_rfl) (by simp) ?_
            refine AllReadyH.cons rfl (fun K hK => ?_) AllReadyH.nil
            go_simp
            go_at_call 32
            refine (HCm.out _).mono ?_
            rintro e w3 ⟨rfl, hb3⟩
            have hw3 := chain hw2 hb3
            clear hb3
            refine hK.out _ _ hw3 (fun _ => ?_)
            clear hK K
            try simp only [Act.put, List.setIfInBounds_toArray, List.set_cons_zero, List.set_cons_succ, List.getElem_toArray, List.getElem_cons_succ, List.getElem_cons_zero]
            refine wpAnyH_take (i := 14) (v := .bool true) rfl (by kernel_rfl) (by kernel_rfl) (by kernel_rfl) (fun _ _ _ h => h) (Or.inl ⟨by rfl, fun w hSw => by have f := hcn; go_simp⟩) hw3 ?_
            try simp only [Act.put, List.setIfInBounds_toArray, List.set_cons_zero, List.set_cons_succ, List.getElem_toArray, List.getElem_cons_succ, List.getElem_cons_zero]
            refine wpAnyH_take (i := 15) (v := .bool true) rfl (by kernel_rfl) (by kernel_rfl) (by kernel_rfl) (fun _ _ _ h => h) (Or.inl ⟨by rfl, fun w hSw => by go_simp⟩) hw3 ?_
            try simp only [Act.put, List.setIfInBounds_toArray, List.set_cons_zero, List.set_cons_succ, List.getElem_toArray, List.getElem_cons_succ, List.getElem_cons_zero]
            refine wpAnyH_take (i := 16) (v := .bool true) rfl (by kernel_rfl) (by kernel_rfl) (by kernel_rfl) (fun _ _ _ h => h) (Or.inl ⟨by rfl, fun w hSw => by go_simp⟩) hw3 ?_
            try simp only [Act.put, List.setIfInBounds_toArray, List.set_cons_zero, List.set_cons_succ, List.getElem_toArray, List.getElem_cons_succ, List.getElem_cons_zero]
            refine wpAnyH_take (i := 17) (v := .bool true) rfl (by kernel_rfl) (by kernel_rfl) (by kernel_rfl) (fun _ _ _ h => h) (Or.inl ⟨by rfl, fun w hSw => by go_simp⟩) hw3 ?_
            try simp only [Act.put, List.setIfInBounds_toArray, List.set_cons_zero, List.set_cons_succ, List.getElem_toArray, List.getElem_cons_succ, List.getElem_cons_zero]
            refine wpAnyH_take (i := 18) (v := undef) rfl (by kernel_rfl) (by kernel_rfl) (by kernel_rfl) (fun _ _ _ h => h) (Or.inr ⟨by rfl, rfl⟩) hw3 ?_
            try simp only [Act.put, List.setIfInBounds_toArray, List.set_cons_zero, List.set_cons_succ, List.getElem_toArray, List.getElem_cons_succ, List.getElem_cons_zero]
            refine wpAnyH_take (i := 19) (v := undef) rfl (by kernel_rfl) (by kernel_rfl) (by kernel_rfl) (fun _ _ _ h => h) (Or.inr ⟨by rfl, rfl⟩) hw3 ?_
            try simp only [Act.put, List.setIfInBounds_toArray, List.set_cons_zero, List.set_cons_succ, List.getElem_toArray, List.getElem_cons_succ, List.getElem_cons_zero]
            refine wpAnyH_take (i := 20) (v := undef) rfl (by kernel_rfl) (by kernel_rfl) (by kernel_rfl) (fun _ _ _ h => h) (Or.inr ⟨by rfl, rfl⟩) hw3 ?_
            try simp only [Act.put, List.setIfInBounds_toArray, List.set_cons_zero, List.set_cons_succ, List.getElem_toArray, List.getElem_cons_succ, List.getElem_cons_zero]
            refine wpAnyH_take (i := 21) (v := undef) rfl (by kernel_rfl) (by kernel_rfl) (by kernel_rfl) (fun _ _ _ h => h) (Or.inr ⟨by rfl, rfl⟩) hw3 ?_
            try simp only [Act.put, List.setIfInBounds_toArray, List.set_cons_zero, List.set_cons_succ, List.getElem_toArray, List.getElem_cons_succ, List.getElem_cons_zero]
            refine wpAnyH_take (i := 22) (v := undef) rfl (by kernel_rfl) (by kernel_rfl) (by kernel_rfl) (fun _ _ _ h => h) (Or.inr ⟨by rfl, rfl⟩) hw3 ?_
            try simp only [Act.put, List.setIfInBounds_toArray, List.set_cons_zero, List.set_cons_succ, List.getElem_toArray, List.getElem_cons_succ, List.getElem_cons_zero]
            refine wpAnyH_take (i := 23) (v := undef) rfl (by kernel_rfl) (by kernel_rfl) (by kernel_rfl) (fun _ _ _ h => h) (Or.inr ⟨by rfl, rfl⟩) hw3 ?_
            try simp only [Act.put, List.setIfInBounds_toArray, List.set_cons_zero, List.set_cons_succ, List.getElem_toArray, List.getElem_cons_succ, List.getElem_cons_zero]
            refine wpAnyH_take (i := 24) (v := undef) rfl (by kernel_rfl) (by kernel_rfl) (by kernel_rfl) (fun _ _ _ h => h) (Or.inr ⟨by rfl, rfl⟩) hw3 ?_
            try simp only [Act.put, List.setIfInBounds_toArray, List.set_cons_zero, List.set_cons_succ, List.getElem_toArray, List.getElem_cons_succ, List.getElem_cons_zero]
            refine wpAnyH_take (i := 25) (v := .bool true) rfl (by kernel_rfl) (by kernel_rfl) (by kernel_rfl) (fun _ _ _ h => h) (Or.inl ⟨by rfl, fun w hSw => by go_simp⟩) hw3 ?_
            try simp only [Act.put, List.setIfInBounds_toArray, List.set_cons_zero, List.set_cons_succ, List.getElem_toArray, List.getElem_cons_succ, List.getElem_cons_zero]
            refine wpAnyH_done (by kernel_rfl) ?_ _
            have HB2 : Hid (Below w0.heap.size w0 w3) := chain HB1.out hw3
            clear hw2 hw3 hH HE HRt HP HCm
            go_wp2
            go_ret
            exact ⟨ret_bool HF.out.symm, HB2.out⟩
          · rw [decide_eq_true (by omega)] at HAh
            have hcn' : decide (0 ≤ cn) = false := by simpa using hcn
            have HSt2 : Hid (evStep rs (q + 1) = !decide (e1 ≤ ls)) := by rw [HSt1.out, HAh]; rfl
            clear HAh HSt1
            refine wp_region_held_drew (S := fun W' => Below W1.heap.size W1 W') (by kernel_rfl) (below_drew _) (fun hH => ?_)
            refine wpAnyH_take (i := 0) (v := .agg #[.int .i64 (sN : Int), .int .i64 e1, .int .i64 e2, .int .i64 e3, .string e4, .int .i64 e5]) rfl (by kernel_rfl) (by kernel_rfl) (by kernel_rfl) (fun _ _ _ h => h) (Or.inl ⟨by rfl, fun w hSw => by obtain ⟨f0, f1, f2, f3, f4, f5⟩ := (HE.out w hSw).1; simp only [Nat.zero_add] at f0 f1 f2 f3 f4 f5; go_simp⟩) hH ?_
            refine wpAnyH_ready (rs := [1]) (by kernel_rfl) (by simp) ?_
            refine AllReadyH.cons rfl (fun K hK => ?_) AllReadyH.nil
            go_simp
            go_at_call 31
            refine (HRt.out _).mono ?_
            rintro e w2 ⟨rfl, hb2⟩
            have hw2 := chain hH hb2
            clear hb2
            refine hK.out _ _ hw2 (fun _ => ?_)
            clear hK K
            try simp only [Act.put, List.setIfInBounds_toArray, List.set_cons_zero, List.set_cons_succ, List.getElem_toArray, List.getElem_cons_succ, List.getElem_cons_zero]
            refine wpAnyH_take (i := 2) (v := .bool false) rfl (by kernel_rfl) (by kernel_rfl) (by kernel_rfl) (fun _ _ _ h => h) (Or.inl ⟨by rfl, fun w hSw => by go_simp⟩) hw2 ?_
            try simp only [Act.put, List.setIfInBounds_toArray, List.set_cons_zero, List.set_cons_succ, List.getElem_toArray, List.getElem_cons_succ, List.getElem_cons_zero]
            refine wpAnyH_take (i := 3) (v := .bool false) rfl (by kernel_rfl) (by kernel_rfl) (by kernel_rfl) (fun _ _ _ h => h) (Or.inl ⟨by rfl, fun w hSw => by go_simp⟩) hw2 ?_
            try simp only [Act.put, List.setIfInBounds_toArray, List.set_cons_zero, List.set_cons_succ, List.getElem_toArray, List.getElem_cons_succ, List.getElem_cons_zero]
            refine wpAnyH_take (i := 4) (v := .int .i64 ((q + 1 : Nat) : Int)) rfl (by kernel_rfl) (by kernel_rfl) (by kernel_rfl) (fun _ _ _ h => h) (Or.inl ⟨by rfl, fun w hSw => by go_simp⟩) hw2 ?_
            try simp only [Act.put, List.setIfInBounds_toArray, List.set_cons_zero, List.set_cons_succ, List.getElem_toArray, List.getElem_cons_succ, List.getElem_cons_zero]
            refine wpAnyH_take (i := 5) (v := .bool true) rfl (by kernel_rfl) (by kernel_rfl) (by kernel_rfl) (fun _ _ _ h => h) (Or.inl ⟨by rfl, fun w hSw => by go_simp⟩) hw2 ?_
            try simp only [Act.put, List.setIfInBounds_toArray, List.set_cons_zero, List.set_cons_succ, List.getElem_toArray, List.getElem_cons_succ, List.getElem_cons_zero]
            refine wpAnyH_take (i := 6) (v := .bool true) rfl (by kernel_rfl) (by kernel_rfl) (by kernel_rfl) (fun _ _ _ h => h) (Or.inl ⟨by rfl, fun w hSw => by go_simp⟩) hw2 ?_
            try simp only [Act.put, List.setIfInBounds_toArray, List.set_cons_zero, List.set_cons_succ, List.getElem_toArray, List.getElem_cons_succ, List.getElem_cons_zero]
            refine wpAnyH_take (i := 7) (v := .slice (some ⟨b0, o0, none⟩) rs.length cap) rfl (by kernel_rfl) (by kernel_rfl) (by kernel_rfl) (fun _ _ _ h => h) (Or.inl ⟨by rfl, fun w hSw => by go_simp⟩) hw2 ?_
            try simp only [Act.put, List.setIfInBounds_toArray, List.set_cons_zero, List.set_cons_succ, List.getElem_toArray, List.getElem_cons_succ, List.getElem_cons_zero]
            refine wpAnyH_take (i := 8) (v := .int .i64 ((q + 1 : Nat) : Int)) rfl (by kernel_rfl) (by kernel_rfl) (by kernel_rfl) (fun _ _ _ h => h) (Or.inl ⟨by rfl, fun w hSw => by go_simp⟩) hw2 ?_
            try simp only [Act.put, List.setIfInBounds_toArray, List.set_cons_zero, List.set_cons_succ, List.getElem_toArray, List.getElem_cons_succ, List.getElem_cons_zero]
            refine wpAnyH_take (i := 9) (v := .int .i64 (q : Int)) rfl (by kernel_rfl) (by kernel_rfl) (by kernel_rfl) (fun _ _ _ h => h) (Or.inl ⟨by rfl, fun w hSw => by have f := hkq; go_simp⟩) hw2 ?_
            try simp only [Act.put, List.setIfInBounds_toArray, List.set_cons_zero, List.set_cons_succ, List.getElem_toArray, List.getElem_cons_succ, List.getElem_cons_zero]
            refine wpAnyH_take (i := 10) (v := .pointer (some ⟨b0, o0 + q * 6, none⟩)) rfl (by kernel_rfl) (by kernel_rfl) (by kernel_rfl) (fun _ _ _ h => h) (Or.inl ⟨by rfl, fun w hSw => by have f := hql; go_simp⟩) hw2 ?_
            try simp only [Act.put, List.setIfInBounds_toArray, List.set_cons_zero, List.set_cons_succ, List.getElem_toArray, List.getElem_cons_succ, List.getElem_cons_zero]
            refine wpAnyH_take (i := 11) (v := .agg #[.int .i64 p0, .int .i64 p1, .int .i64 p2, .int .i64 p3, .string p4, .int .i64 p5]) rfl (by kernel_rfl) (by kernel_rfl) (by kernel_rfl) (fun _ _ _ h => h) (Or.inl ⟨by rfl, fun w hSw => by obtain ⟨f0, f1, f2, f3, f4, f5⟩ := HP.out w hSw; go_simp⟩) hw2 ?_
            try simp only [Act.put, List.setIfInBounds_toArray, List.set_cons_zero, List.set_cons_succ, List.getElem_toArray, List.getElem_cons_succ, List.getElem_cons_zero]
            refine wpAnyH_take (i := 12) (v := .agg #[.int .i64 (sN : Int), .int .i64 e1, .int .i64 e2, .int .i64 e3, .string e4, .int .i64 e5]) rfl (by kernel_rfl) (by kernel_rfl) (by kernel_rfl) (fun _ _ _ h => h) (Or.inl ⟨by rfl, fun w hSw => by obtain ⟨f0, f1, f2, f3, f4, f5⟩ := (HE.out w hSw).1; simp only [Nat.zero_add] at f0 f1 f2 f3 f4 f5; go_simp⟩) hw2 ?_
            try simp only [Act.put, List.setIfInBounds_toArray, List.set_cons_zero, List.set_cons_succ, List.getElem_toArray, List.getElem_cons_succ, List.getElem_cons_zero]
            refine wpAnyH_ready (rs := [13]) (by kernel_rfl) (by simp) ?_
            refine AllReadyH.cons rfl (fun K hK => ?_) AllReadyH.nil
            go_simp
            go_at_call 32
            refine (HCm.out _).mono ?_
            rintro e w3 ⟨rfl, hb3⟩
            have hw3 := chain hw2 hb3
            clear hb3
            refine hK.out _ _ hw3 (fun _ => ?_)
            clear hK K
            try simp only [Act.put, List.setIfInBounds_toArray, List.set_cons_zero, List.set_cons_succ, List.getElem_toArray, List.getElem_cons_succ, List.getElem_cons_zero]
            refine wpAnyH_take (i := 14) (v := .bool false) rfl (by kernel_rfl) (by kernel_rfl) (by kernel_rfl) (fun _ _ _ h => h) (Or.inl ⟨by rfl, fun w hSw => by have f := hcn; go_simp⟩) hw3 ?_
            try simp only [Act.put, List.setIfInBounds_toArray, List.set_cons_zero, List.set_cons_succ, List.getElem_toArray, List.getElem_cons_succ, List.getElem_cons_zero]
            refine wpAnyH_take (i := 15) (v := .bool false) rfl (by kernel_rfl) (by kernel_rfl) (by kernel_rfl) (fun _ _ _ h => h) (Or.inl ⟨by rfl, fun w hSw => by go_simp⟩) hw3 ?_
            try simp only [Act.put, List.setIfInBounds_toArray, List.set_cons_zero, List.set_cons_succ, List.getElem_toArray, List.getElem_cons_succ, List.getElem_cons_zero]
            refine wpAnyH_take (i := 16) (v := .bool false) rfl (by kernel_rfl) (by kernel_rfl) (by kernel_rfl) (fun _ _ _ h => h) (Or.inl ⟨by rfl, fun w hSw => by go_simp⟩) hw3 ?_
            try simp only [Act.put, List.setIfInBounds_toArray, List.set_cons_zero, List.set_cons_succ, List.getElem_toArray, List.getElem_cons_succ, List.getElem_cons_zero]
            refine wpAnyH_take (i := 17) (v := .bool false) rfl (by kernel_rfl) (by kernel_rfl) (by kernel_rfl) (fun _ _ _ h => h) (Or.inl ⟨by rfl, fun w hSw => by go_simp⟩) hw3 ?_
            try simp only [Act.put, List.setIfInBounds_toArray, List.set_cons_zero, List.set_cons_succ, List.getElem_toArray, List.getElem_cons_succ, List.getElem_cons_zero]
            refine wpAnyH_take (i := 18) (v := .pointer (some ⟨wr.heap.size, 1, none⟩)) rfl (by kernel_rfl) (by kernel_rfl) (by kernel_rfl) (fun _ _ _ h => h) (Or.inl ⟨by rfl, fun w hSw => by go_simp⟩) hw3 ?_
            try simp only [Act.put, List.setIfInBounds_toArray, List.set_cons_zero, List.set_cons_succ, List.getElem_toArray, List.getElem_cons_succ, List.getElem_cons_zero]
            refine wpAnyH_take (i := 19) (v := .int .i64 e1) rfl (by kernel_rfl) (by kernel_rfl) (by kernel_rfl) (fun _ _ _ h => h) (Or.inl ⟨by rfl, fun w hSw => by obtain ⟨f0, f1, f2, f3, f4, f5⟩ := (HE.out w hSw).1; simp only [Nat.zero_add] at f0 f1 f2 f3 f4 f5; go_simp⟩) hw3 ?_
            try simp only [Act.put, List.setIfInBounds_toArray, List.set_cons_zero, List.set_cons_succ, List.getElem_toArray, List.getElem_cons_succ, List.getElem_cons_zero]
            refine wpAnyH_take (i := 20) (v := .pointer (some ⟨wr.heap.size, 0, none⟩)) rfl (by kernel_rfl) (by kernel_rfl) (by kernel_rfl) (fun _ _ _ h => h) (Or.inl ⟨by rfl, fun w hSw => by go_simp⟩) hw3 ?_
            try simp only [Act.put, List.setIfInBounds_toArray, List.set_cons_zero, List.set_cons_succ, List.getElem_toArray, List.getElem_cons_succ, List.getElem_cons_zero]
            refine wpAnyH_take (i := 21) (v := .int .i64 (sN : Int)) rfl (by kernel_rfl) (by kernel_rfl) (by kernel_rfl) (fun _ _ _ h => h) (Or.inl ⟨by rfl, fun w hSw => by obtain ⟨f0, f1, f2, f3, f4, f5⟩ := (HE.out w hSw).1; simp only [Nat.zero_add] at f0 f1 f2 f3 f4 f5; go_simp⟩) hw3 ?_
            try simp only [Act.put, List.setIfInBounds_toArray, List.set_cons_zero, List.set_cons_succ, List.getElem_toArray, List.getElem_cons_succ, List.getElem_cons_zero]
            refine wpAnyH_take (i := 22) (v := .pointer (some ⟨w0.heap.size, sN, none⟩)) rfl (by kernel_rfl) (by kernel_rfl) (by kernel_rfl) (fun _ _ _ h => h) (Or.inl ⟨by rfl, fun w hSw => by have f : (sN : Int) < 10 := (by omega); go_simp⟩) hw3 ?_
            try simp only [Act.put, List.setIfInBounds_toArray, List.set_cons_zero, List.set_cons_succ, List.getElem_toArray, List.getElem_cons_succ, List.getElem_cons_zero]
            refine wpAnyH_take (i := 23) (v := .int .i64 ls) rfl (by kernel_rfl) (by kernel_rfl) (by kernel_rfl) (fun _ _ _ h => h) (Or.inl ⟨by rfl, fun w hSw => by have f := (HE.out w hSw).2.1; go_simp⟩) hw3 ?_
            try simp only [Act.put, List.setIfInBounds_toArray, List.set_cons_zero, List.set_cons_succ, List.getElem_toArray, List.getElem_cons_succ, List.getElem_cons_zero]
            refine wpAnyH_take (i := 24) (v := .bool (decide (e1 ≤ ls))) rfl (by kernel_rfl) (by kernel_rfl) (by kernel_rfl) (fun _ _ _ h => h) (Or.inl ⟨by rfl, fun w hSw => by go_simp⟩) hw3 ?_
            try simp only [Act.put, List.setIfInBounds_toArray, List.set_cons_zero, List.set_cons_succ, List.getElem_toArray, List.getElem_cons_succ, List.getElem_cons_zero]
            refine wpAnyH_take (i := 25) (v := .bool (decide (e1 ≤ ls))) rfl (by kernel_rfl) (by kernel_rfl) (by kernel_rfl) (fun _ _ _ h => h) (Or.inl ⟨by rfl, fun w hSw => by go_simp⟩) hw3 ?_
            try simp only [Act.put, List.setIfInBounds_toArray, List.set_cons_zero, List.set_cons_succ, List.getElem_toArray, List.getElem_cons_succ, List.getElem_cons_zero]
            refine wpAnyH_done (by kernel_rfl) ?_ _
            have HB2 : Hid (Below w0.heap.size w0 w3) := chain HB1.out hw3
            have HR2 : Hid (w3.rowIs w0.heap.size 62 10 (fun s => .int .i64 (lastS rs (q + 1) (s : Int)))) := HRest.out _ hw3
            obtain ⟨f0, f1, f2, f3, f4, f5⟩ := (HE.out _ hw3).1
            simp only [Nat.zero_add] at f0 f1 f2 f3 f4 f5
            have gl : wr.heap.size < w3.heap.size := Nat.lt_of_lt_of_le hl1 hw3.size
            by_cases hle : e1 ≤ ls
            · have HF : Hid (ans = false) := HX.out (by rw [HSt2.out, decide_eq_true hle]; rfl)
              have hd : decide (e1 ≤ ls) = true := decide_eq_true hle
              clear HX HN HSt2 HE HRt hH HRest
              go_wp2
              go_ret
              exact ⟨ret_bool HF.out.symm, HB2.out⟩
            · have HT : Hid (evGo rs ((q + 1) + 1) = true) := by rw [HN.out, HSt2.out, decide_eq_false hle]; rfl
              have hd : decide (e1 ≤ ls) = false := decide_eq_false hle
              have g0 : w3.cell? ⟨w0.heap.size, sN, none⟩ = some (.int .i64 (lastS rs (q + 1) (sN : Int))) := HR2.out.cell hs9
              have g1 : w3.frozen? ⟨w0.heap.size, sN, none⟩ = false := HR2.out.frozen sN
              have HS2 : Hid (Below w0.heap.size w0 (w3.setCell ⟨w0.heap.size, sN, none⟩ (.int .i64 e1)) ∧ (w3.setCell ⟨w0.heap.size, sN, none⟩ (.int .i64 e1)).rowIs w0.heap.size 62 10 (fun s => .int .i64 (lastS rs ((q + 1) + 1) (s : Int)))) := by
                refine ⟨HB2.out.setCell (Nat.le_refl _) _, (HR2.out.set sN _).congr (fun i hi => ?_)⟩
                rw [HLs.out]
                by_cases e : i = sN
                · subst e; rw [if_pos rfl, if_pos rfl]
                · rw [if_neg e, if_neg (by omega)]
              clear HX HN HSt2 HE HRt hH HRest HR2 HB2 HLs HLL
              go_wp2
              go_roundw
              case rel => exact ⟨(q + 1) + 1, by omega, by go_num, HT.out, HS2.out.1, HS2.out.2⟩
              case measure => simp [intOf]; omega
    · have hle : (rs.length : Int) ≤ (k : Int) := by omega
      obtain rfl : k = rs.length := by omega
      have HF : Hid (ans = true) := by
        have h := HAe.out
        unfold evAll at h
        rw [decide_eq_true (by omega), HG.out] at h
        exact h.symm
      go_wp2
      go_ret
      exact ⟨ret_bool HF.out.symm, HB.out⟩
end Go.Proofs.Ytabghjlmmpckdaa
