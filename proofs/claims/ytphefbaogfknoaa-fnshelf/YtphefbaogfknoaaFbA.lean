/-
  What counts of facings use and gain, as functions of both lists; contracts of the program's gained, Facing.uses, gains, takes, of fitTogether, sumTogether at facings and numbers, planOf, shelfFault.
-/
import Derived.Test.YtphefbaogfknoaaFaB
import Derived.BigQuiet
import Derived.Deep.QuietTactic
namespace Go.Proofs.Ytphefbaogfknoaa
open Go.ChangeShapes Go.WideShapes Go.ChangeAt Go.RowKit Go.Deep
set_option linter.unusedVariables false

/-- What n facings of one gain. -/
def gnN (gs : List Int) (n : Nat) : Int := (gs.take n).sum
def tkB (r : CFc) (c : Int) : Bool := inB c r.ls (r.gs.length : Int)
def fitS (rs : List CFc) (cs : List Int) : Nat → Bool
  | 0 => true
  | k + 1 => fitS rs cs k && tkB (rs.getD k zFc) (cs.getD k 0)
def usN (rs : List CFc) (cs : List Int) : Nat → Int
  | 0 => 0
  | k + 1 => usN rs cs k + cs.getD k 0 * (rs.getD k zFc).wd
def gaN (rs : List CFc) (cs : List Int) : Nat → Int
  | 0 => 0
  | k + 1 => gaN rs cs k + gnN (rs.getD k zFc).gs (cs.getD k 0).toNat
/-- A facing that is right. -/
def FcR (c : CFc) : Prop := (1 ≤ c.gs.length ∧ c.gs.length ≤ 6) ∧ (1 ≤ c.wd ∧ c.wd ≤ 2000) ∧ (0 ≤ c.ls ∧ c.ls ≤ (c.gs.length : Int)) ∧ ∀ g ∈ c.gs, 0 ≤ g ∧ g ≤ 100000
theorem inB_yes {n lo hi : Int} (h : inB n lo hi = true) : lo ≤ n ∧ n ≤ hi := of_decide_eq_true h
theorem fcOne_r {c : CFc} (h : fcOne c = true) : FcR c := by
  unfold fcOne at h
  rw [Bool.and_eq_true, Bool.and_eq_true, Bool.and_eq_true] at h
  obtain ⟨h1, h2, h3, h4⟩ := h
  have k1 := inB_yes h1
  refine ⟨by omega, inB_yes h2, inB_yes h3, fun g hg => ?_⟩
  unfold gsB at h4
  rw [List.all_eq_true] at h4
  exact inB_yes (h4 g hg)
theorem fcAll_r {rs : List CFc} (h : fcAll rs = true) : rs.length ≤ 12 ∧ ∀ r ∈ rs, FcR r := by
  unfold fcAll at h
  by_cases h1 : 12 < rs.length
  · rw [if_pos h1] at h; cases h
  rw [if_neg h1, Bool.and_eq_true, List.all_eq_true] at h
  exact ⟨by omega, fun r hr => fcOne_r (h.2 r hr)⟩
theorem fsum_next (ps : List Int) (k : Nat) (h : k < ps.length) : (ps.take (k + 1)).sum = (ps.take k).sum + ps.getD k 0 := by
  have e : ps.getD k 0 = ps[k] := by simp [List.getD_eq_getElem?_getD, h]
  rw [List.take_succ_eq_append_getElem h, e, List.sum_append]; simp
theorem fsum_bound : ∀ (ps : List Int), (∀ p ∈ ps, 0 ≤ p ∧ p ≤ 100000) → 0 ≤ ps.sum ∧ ps.sum ≤ 100000 * (ps.length : Int)
  | [], _ => by simp
  | a :: r, h => by
    have := fsum_bound r (fun p hp => h p (List.mem_cons_of_mem _ hp))
    have h1 := h a (List.mem_cons_self ..)
    rw [List.sum_cons, List.length_cons]
    push_cast
    rw [Int.mul_add]
    omega
theorem gnN_bound {c : CFc} (h : FcR c) (n : Nat) : 0 ≤ gnN c.gs n ∧ gnN c.gs n ≤ 600000 := by
  have h1 := fsum_bound (c.gs.take n) (fun p hp => h.2.2.2 p (List.mem_of_mem_take hp))
  have h2 : (c.gs.take n).length ≤ 6 := by have := h.1.2; rw [List.length_take]; omega
  unfold gnN
  omega
theorem mul_small {c wd : Int} (h1 : 0 ≤ c ∧ c ≤ 6) (h2 : 1 ≤ wd ∧ wd ≤ 2000) : 0 ≤ c * wd ∧ c * wd ≤ 12000 := by
  refine ⟨Int.mul_nonneg h1.1 (by omega), ?_⟩
  have := Int.mul_le_mul h1.2 h2.2 (by omega) (by omega)
  omega
theorem fit_at {rs : List CFc} {cs : List Int} : ∀ {m : Nat}, fitS rs cs m = true → ∀ k, k < m → fitS rs cs k = true ∧ tkB (rs.getD k zFc) (cs.getD k 0) = true
  | m + 1, h, k, hk => by
    unfold fitS at h
    rw [Bool.and_eq_true] at h
    by_cases e : k = m
    · subst e; exact h
    · exact fit_at h.1 k (by omega)
theorem fit_stop {rs : List CFc} {cs : List Int} {k : Nat} : ∀ {m : Nat}, k < m → tkB (rs.getD k zFc) (cs.getD k 0) = false → fitS rs cs m = false
  | m + 1, hk, h => by
    unfold fitS
    by_cases e : k = m
    · subst e; rw [h, Bool.and_false]
    · rw [fit_stop (m := m) (by omega) h]; rfl
theorem tk_bound {r : CFc} {c : Int} (hr : FcR r) (h : tkB r c = true) : 0 ≤ c ∧ c ≤ 6 ∧ c ≤ (r.gs.length : Int) := by
  have h1 := inB_yes h
  have h2 := hr.1
  have h3 := hr.2.2.1
  omega
theorem usN_bound {rs : List CFc} {cs : List Int} (hr : ∀ r ∈ rs, FcR r) (h : fitS rs cs rs.length = true) : ∀ k, k ≤ rs.length → 0 ≤ usN rs cs k ∧ usN rs cs k ≤ 12000 * (k : Int)
  | 0, _ => by simp [usN]
  | k + 1, hk => by
    have ih := usN_bound hr h k (by omega)
    have h1 := getFc hr (show k < rs.length by omega)
    have h2 := tk_bound h1 (fit_at h k (by omega)).2
    have h3 := mul_small ⟨h2.1, h2.2.1⟩ h1.2.1
    unfold usN
    push_cast
    omega
theorem gaN_bound {rs : List CFc} {cs : List Int} (hr : ∀ r ∈ rs, FcR r) : ∀ k, k ≤ rs.length → 0 ≤ gaN rs cs k ∧ gaN rs cs k ≤ 600000 * (k : Int)
  | 0, _ => by simp [gaN]
  | k + 1, hk => by
    have ih := gaN_bound (cs := cs) hr k (by omega)
    have h1 := gnN_bound (getFc hr (show k < rs.length by omega)) (cs.getD k 0).toNat
    unfold gaN
    push_cast
    omega

set_option maxHeartbeats 1000000 in
theorem gained_any (a : Option Addr) (cap : Nat) (xs : List Int) (hl : xs.length ≤ 6) (hp : ∀ p ∈ xs, 0 ≤ p ∧ p ≤ 100000) (w : World) (hr : Reads w.heap.size w a xs) :
    Calls Try.prog 64 #[.slice a xs.length cap] w fun e w' => e = .returned (.int .i64 xs.sum) ∧ w' = w := by
  have HR : Hid (Reads w.heap.size w a xs) := hr
  have HP : Hid (∀ p ∈ xs, 0 ≤ p ∧ p ≤ 100000) := hp
  clear hr hp
  go_enter Try.func64, Try.ntmps64
  go_wp2
  go_loop [3, 5, 8] (fun s _ c => ∃ k : Nat, k ≤ xs.length ∧ c = .int .i64 (k : Int) ∧ s = .int .i64 (xs.take k).sum) (fun _ _ c => xs.length - (intOf c).toNat)
  case atStart => exact ⟨0, Nat.zero_le _, rfl, rfl⟩
  case round =>
    obtain ⟨k, hk, rfl, rfl⟩ := hrel
    by_cases hlt : k < xs.length
    · have hlt' : (k : Int) < (xs.length : Int) := by omega
      rcases HR.out with h | ⟨b0, o0, ha, hB0, ia⟩
      · rw [h] at hlt; simp at hlt
      have c0 := ia k hlt
      have hb1 := fsum_bound (xs.take k) (fun p hp => HP.out p (List.mem_of_mem_take hp))
      have hb3 : ((xs.take k).length : Int) ≤ 6 := by rw [List.length_take]; omega
      have hb2 := getD_bound HP.out k hlt
      have HE : Hid ((xs.take (k + 1)).sum = (xs.take k).sum + xs.getD k 0) := fsum_next xs k hlt
      rw [ha]
      clear ia
      generalize (xs.take k).sum = s at *
      generalize xs.getD k 0 = x at *
      have hs6 : 0 ≤ s ∧ s ≤ 600000 := by omega
      clear hb1 hb3
      have hwr : IntKind.i64.wrap (s + x) = s + x := wrap_id _ (by omega) (by omega)
      go_wp2
      go_round
      case rel => exact ⟨k + 1, by omega, by go_num, by rw [HE.out]⟩
      case measure => simp [intOf]; omega
    · obtain rfl : k = xs.length := by omega
      have HE : Hid ((xs.take xs.length).sum = xs.sum) := by show _ = _; rw [List.take_length]
      go_wp2
      go_ret
      exact ⟨ret_int (by first | rfl | exact HE.out), rfl⟩
set_option maxHeartbeats 1000000 in
theorem uses_any (r : CFc) (hr : FcR r) (h : Option Addr) (cp : Nat) (c : Int) (hc : 0 ≤ c ∧ c ≤ 6) (w : World) :
    Calls Try.prog 53 #[.agg #[.string r.nm, .int .i64 r.wd, .int .i64 r.ls, .slice h r.gs.length cp], .int .i64 c] w fun e w' => e = .returned (.int .i64 (c * r.wd)) ∧ Below w.heap.size w w' := by
  have h1 := mul_small hc hr.2.1
  obtain ⟨nm, wd, ls, gs⟩ := r
  dsimp only at *
  clear hr
  generalize gs.length = n
  have hwr : IntKind.i64.wrap (c * wd) = c * wd := wrap_id _ (by omega) (by omega)
  go_enter Try.func53, Try.ntmps53
  go_wp2
  go_ret
  exact ⟨rfl, below_alloc _ _⟩
set_option maxHeartbeats 1000000 in
theorem takes_any (r : CFc) (h : Option Addr) (cp : Nat) (c : Int) (w : World) :
    Calls Try.prog 29 #[.agg #[.string r.nm, .int .i64 r.wd, .int .i64 r.ls, .slice h r.gs.length cp], .int .i64 c] w fun e w' => e = .returned (.bool (tkB r c)) ∧ Below w.heap.size w w' := by
  have HS : Hid (∀ W, Calls Try.prog 51 #[.agg #[.int .i64 r.ls, .int .i64 (r.gs.length : Int)], .int .i64 c] W fun e w' => e = .returned (.bool (tkB r c)) ∧ Below W.heap.size W w') := fun W => fcSpan_any r.ls (r.gs.length : Int) c W
  generalize tkB r c = b at *
  obtain ⟨nm, wd, ls, gs⟩ := r
  dsimp only at *
  generalize gs.length = n at *
  go_enter Try.func29, Try.ntmps29
  go_wp2_with fail
  (first | go_at_call 51 | skip)
  refine (HS.out _).mono ?_
  rintro e w2 ⟨rfl, hb2⟩
  go_wp2_with fail
  go_ret
  exact ⟨rfl, chain (below_alloc _ _) hb2⟩
set_option maxHeartbeats 2000000 in
theorem gains_any (r : CFc) (hr : FcR r) (h : Option Addr) (cp : Nat) (hcp : r.gs.length ≤ cp) (m : Nat) (hm : m ≤ r.gs.length) (w : World) (hR : Reads w.heap.size w h r.gs) :
    Calls Try.prog 54 #[.agg #[.string r.nm, .int .i64 r.wd, .int .i64 r.ls, .slice h r.gs.length cp], .int .i64 (m : Int)] w fun e w' => e = .returned (.int .i64 (gnN r.gs m)) ∧ Below w.heap.size w w' := by
  obtain ⟨b0, o0, ha, hB0, ia⟩ : ∃ b0 o0, h = some ⟨b0, o0, none⟩ ∧ b0 < w.heap.size ∧ IntsAt w b0 o0 r.gs := by
    rcases hR with hz | ⟨b0, o0, q⟩
    · have := hr.1.1; rw [hz] at this; simp at this
    · exact ⟨b0, o0, q⟩
  have HG : Hid (∀ W, Below w.heap.size w W → Calls Try.prog 64 #[.slice (some ⟨b0, o0, none⟩) m cp] W fun e w' => e = .returned (.int .i64 (gnN r.gs m)) ∧ w' = W) := fun W hb => by
    have hl : (r.gs.take m).length = m := by rw [List.length_take]; omega
    have := gained_any (some ⟨b0, o0, none⟩) cp (r.gs.take m) (by have := hr.1.2; omega) (fun p hp => hr.2.2.2 p (List.mem_of_mem_take hp)) W (by
      refine .inr ⟨b0, o0, rfl, Nat.lt_of_lt_of_le hB0 hb.size, fun i hi => ?_⟩
      rw [hl] at hi
      rw [(ia.below hb hB0) i (by omega)]
      simp only [List.getD_eq_getElem?_getD]
      rw [List.getElem?_take, if_pos hi])
    rw [hl] at this
    exact this
  subst ha
  clear ia hR
  generalize gnN r.gs m = gv at *
  obtain ⟨nm, wd, ls, gs⟩ := r
  dsimp only at *
  clear hr
  generalize gs.length = n at *
  have h1 : (m : Int) ≤ (cp : Int) := by omega
  have h2 : ¬ (cp : Int) < (m : Int) := by omega
  go_enter Try.func54, Try.ntmps54
  go_wp2_with fail
  (first | go_at_call 64 | skip)
  refine (HG.out _ (below_alloc _ _)).mono ?_
  rintro e w2 ⟨rfl, h⟩
  rw [h]
  clear h w2
  go_wp2_with fail
  go_ret
  exact ⟨rfl, below_alloc _ _⟩

set_option maxHeartbeats 4000000 in
theorem fitT_any (a : Option Addr) (cap : Nat) (rs : List CFc) (hl : rs.length ≤ 100000000) (b : Option Addr) (cb : Nat) (cs : List Int) (hc : cs.length ≤ 100000000) (w : World) (hr : ReadsFc w.heap.size w a rs) (ks : Reads w.heap.size w b cs) :
    Calls Try.prog 28 #[.slice a rs.length cap, .slice b cs.length cb, .func (.func 29) #[] #[]] w fun e w' => e = .returned (.bool (decide (rs.length = cs.length) && fitS rs cs rs.length)) ∧ Below w.heap.size w w' := by
  have HR : Hid (ReadsFc w.heap.size w a rs) := hr
  have HK : Hid (Reads w.heap.size w b cs) := ks
  clear hr ks
  by_cases hlen : rs.length = cs.length
  case neg =>
    have hne : ((rs.length : Int) != (cs.length : Int)) = true := by simp; omega
    have HA : Hid ((decide (rs.length = cs.length) && fitS rs cs rs.length) = false) := by show _ = _; rw [decide_eq_false hlen]; rfl
    go_enter Try.func28, Try.ntmps28
    go_wp2
    go_ret
    exact ⟨ret_bool HA.out.symm, Below.refl _ _⟩
  have heq : ((rs.length : Int) != (cs.length : Int)) = false := by rw [hlen]; simp
  have HA : Hid ((decide (rs.length = cs.length) && fitS rs cs rs.length) = fitS rs cs rs.length) := by show _ = _; rw [decide_eq_true hlen]; rfl
  rw [HA.out]
  clear HA
  have HL : Hid (rs.length = cs.length) := hlen
  clear hlen
  go_enter Try.func28, Try.ntmps28
  go_wp2
  go_loopw [7, 8, 16] (fun _ _ c wr => ∃ k : Nat, k ≤ rs.length ∧ c = .int .i64 (k : Int) ∧ fitS rs cs k = true ∧ Below w.heap.size w wr) (fun _ _ c _ => rs.length - (intOf c).toNat)
  case atStart => exact ⟨0, Nat.zero_le _, rfl, rfl, Below.refl _ _⟩
  case round =>
    obtain ⟨k, hk, rfl, hf, hb⟩ := hrel
    have HF : Hid (fitS rs cs k = true) := hf
    have HB : Hid (Below w.heap.size w wr) := hb
    clear hf hb
    by_cases hlt : k < rs.length
    · have hlt' : (k : Int) < (rs.length : Int) := by omega
      have hlc : k < cs.length := by have := HL.out; omega
      have hlc' : (k : Int) < (cs.length : Int) := by omega
      rcases HR.out with h0 | ⟨b0, o0, ha, hB0, ia⟩
      · rw [h0] at hlt; simp at hlt
      obtain ⟨h, cp, ⟨c0, c1, c2, c3⟩, hcp, hS⟩ := (ia.below HB.out hB0 (Nat.le_refl _)) k hlt
      rcases HK.out with h0 | ⟨b1, o1, hb, hB1, ib⟩
      · rw [h0] at hlc; simp at hlc
      have d0 := (ib.below HB.out hB1) k hlc
      have hSr : Reads wr.heap.size wr h (rs.getD k zFc).gs := hS.mono HB.out.size
      have hT := fun W => takes_any (rs.getD k zFc) h cp (cs.getD k 0) W
      have HX : Hid (tkB (rs.getD k zFc) (cs.getD k 0) = false → fitS rs cs rs.length = false) := fun q => fit_stop hlt q
      have HN : Hid (tkB (rs.getD k zFc) (cs.getD k 0) = true → fitS rs cs (k + 1) = true) := fun q => by show fitS rs cs (k + 1) = true; unfold fitS; rw [HF.out, q]; rfl
      clear ia ib hS hSr hcp
      subst ha hb
      generalize rs.getD k zFc = r at *
      generalize cs.getD k 0 = x at *
      generalize tkB r x = tb at *
      obtain ⟨nm, wd, ls, gs⟩ := r
      dsimp only at *
      generalize gs.length = n at *
      have HT : Hid (∀ W, Calls Try.prog 29 #[.agg #[.string nm, .int .i64 wd, .int .i64 ls, .slice h n cp], .int .i64 x] W fun e w' => e = .returned (.bool tb) ∧ Below W.heap.size W w') := hT
      clear hT
      obtain ⟨Wu, hWu⟩ : ∃ Wu, Wu = wr.alloc (Obj.cells #[.string nm, .int .i64 wd, .int .i64 ls, .slice h n cp] 51) := ⟨_, rfl⟩
      obtain ⟨ub, hub⟩ : ∃ ub, ub = wr.heap.size := ⟨_, rfl⟩
      have HWu : Hid (Wu = wr.alloc (Obj.cells #[.string nm, .int .i64 wd, .int .i64 ls, .slice h n cp] 51) ∧ ub = wr.heap.size) := ⟨hWu, hub⟩
      have hbu : Below wr.heap.size wr Wu := by rw [hWu]; exact below_alloc _ _
      have HBu : Hid (Below w.heap.size w Wu) := chain HB.out hbu
      have hbx : Wu.heap[ub]? = some (.cells #[.string nm, .int .i64 wd, .int .i64 ls, .slice h n cp] 51 (0, 0)) := by rw [hWu, hub]; exact heapNew _ _
      have hbk : b1 < wr.heap.size := Nat.lt_of_lt_of_le hB1 HB.out.size
      have HQ : Hid (∀ W, Below Wu.heap.size Wu W → (W.cell? ⟨ub, 0, none⟩ = some (.string nm) ∧ W.cell? ⟨ub, 1, none⟩ = some (.int .i64 wd) ∧ W.cell? ⟨ub, 2, none⟩ = some (.int .i64 ls) ∧ W.cell? ⟨ub, 3, none⟩ = some (.slice h n cp)) ∧ W.cell? ⟨b1, o1 + k, none⟩ = some (.int .i64 x)) := fun W hb => by
        have hu := blkLt hbx
        refine ⟨⟨?_, ?_, ?_, ?_⟩, ?_⟩
        · exact (hb.cell (p := ⟨ub, 0, none⟩) hu).trans (blkCell hbx 0 _ rfl)
        · exact (hb.cell (p := ⟨ub, 1, none⟩) hu).trans (blkCell hbx 1 _ rfl)
        · exact (hb.cell (p := ⟨ub, 2, none⟩) hu).trans (blkCell hbx 2 _ rfl)
        · exact (hb.cell (p := ⟨ub, 3, none⟩) hu).trans (blkCell hbx 3 _ rfl)
        · exact ((chain hbu hb).cell (p := ⟨b1, o1 + k, none⟩) hbk).trans d0
      clear hWu hub hbx hbu d0
      go_upto_region 6 with fail
      rw [← HWu.out.1, ← HWu.out.2]
      clear HWu c0 c1 c2 c3
      refine wp_region_held_drew (S := fun W' => Below Wu.heap.size Wu W') (by kernel_rfl) (below_drew _) (fun hH => ?_)
      refine wpAnyH_take (i := 0) (v := .func (.func 29) #[] #[]) rfl (by kernel_rfl) (by kernel_rfl) (by kernel_rfl) (fun _ _ _ h => h) (Or.inl ⟨by rfl, fun w hSw => by go_simp⟩) hH ?_
      refine wpAnyH_take (i := 1) (v := .agg #[.string nm, .int .i64 wd, .int .i64 ls, .slice h n cp]) rfl (by kernel_rfl) (by kernel_rfl) (by kernel_rfl) (fun _ _ _ h => h) (Or.inl ⟨by rfl, fun w hSw => by obtain ⟨⟨f0, f1, f2, f3⟩, f4⟩ := HQ.out w hSw; clear hSw; go_simp⟩) hH ?_
      try simp only [Act.put, List.setIfInBounds_toArray, List.set_cons_zero, List.set_cons_succ, List.getElem_toArray, List.getElem_cons_succ, List.getElem_cons_zero]
      refine wpAnyH_take (i := 2) (v := .slice (some ⟨b1, o1, none⟩) cs.length cb) rfl (by kernel_rfl) (by kernel_rfl) (by kernel_rfl) (fun _ _ _ h => h) (Or.inl ⟨by rfl, fun w hSw => by go_simp⟩) hH ?_
      try simp only [Act.put, List.setIfInBounds_toArray, List.set_cons_zero, List.set_cons_succ, List.getElem_toArray, List.getElem_cons_succ, List.getElem_cons_zero]
      refine wpAnyH_take (i := 3) (v := .int .i64 (k : Int)) rfl (by kernel_rfl) (by kernel_rfl) (by kernel_rfl) (fun _ _ _ h => h) (Or.inl ⟨by rfl, fun w hSw => by go_simp⟩) hH ?_
      try simp only [Act.put, List.setIfInBounds_toArray, List.set_cons_zero, List.set_cons_succ, List.getElem_toArray, List.getElem_cons_succ, List.getElem_cons_zero]
      refine wpAnyH_take (i := 4) (v := .pointer (some ⟨b1, o1 + k, none⟩)) rfl (by kernel_rfl) (by kernel_rfl) (by kernel_rfl) (fun _ _ _ h => h) (Or.inl ⟨by rfl, fun w hSw => by go_simp⟩) hH ?_
      try simp only [Act.put, List.setIfInBounds_toArray, List.set_cons_zero, List.set_cons_succ, List.getElem_toArray, List.getElem_cons_succ, List.getElem_cons_zero]
      refine wpAnyH_take (i := 5) (v := .int .i64 x) rfl (by kernel_rfl) (by kernel_rfl) (by kernel_rfl) (fun _ _ _ h => h) (Or.inl ⟨by rfl, fun w hSw => by obtain ⟨⟨f0, f1, f2, f3⟩, f4⟩ := HQ.out w hSw; clear hSw; go_simp⟩) hH ?_
      try simp only [Act.put, List.setIfInBounds_toArray, List.set_cons_zero, List.set_cons_succ, List.getElem_toArray, List.getElem_cons_succ, List.getElem_cons_zero]
      refine wpAnyH_ready (rs := [6]) (by kernel_rfl) (by simp) ?_
      refine AllReadyH.cons rfl (fun K hK => ?_) AllReadyH.nil
      go_simp
      go_at_call 29
      refine (HT.out _).mono ?_
      rintro e w2 ⟨rfl, hb2⟩
      have h2 : Below Wu.heap.size Wu w2 := chain hH hb2
      clear hb2
      refine hK.out _ _ h2 (fun _ => ?_)
      clear hK K
      try simp only [Act.put, List.setIfInBounds_toArray, List.set_cons_zero, List.set_cons_succ, List.getElem_toArray, List.getElem_cons_succ, List.getElem_cons_zero]
      cases tb
      · have HE : Hid (fitS rs cs rs.length = false) := HX.out rfl
        refine wpAnyH_take (i := 7) (v := .bool true) rfl (by kernel_rfl) (by kernel_rfl) (by kernel_rfl) (fun _ _ _ h => h) (Or.inl ⟨by rfl, fun w hSw => by go_simp⟩) h2 ?_
        try simp only [Act.put, List.setIfInBounds_toArray, List.set_cons_zero, List.set_cons_succ, List.getElem_toArray, List.getElem_cons_succ, List.getElem_cons_zero]
        refine wpAnyH_done (by kernel_rfl) ?_ _
        have HB3 : Hid (Below w.heap.size w w2) := chain HBu.out h2
        clear h2 hH HQ
        go_wp2_with fail
        go_ret
        exact ⟨ret_bool HE.out.symm, HB3.out⟩
      · have HE : Hid (fitS rs cs (k + 1) = true) := HN.out rfl
        refine wpAnyH_take (i := 7) (v := .bool false) rfl (by kernel_rfl) (by kernel_rfl) (by kernel_rfl) (fun _ _ _ h => h) (Or.inl ⟨by rfl, fun w hSw => by go_simp⟩) h2 ?_
        try simp only [Act.put, List.setIfInBounds_toArray, List.set_cons_zero, List.set_cons_succ, List.getElem_toArray, List.getElem_cons_succ, List.getElem_cons_zero]
        refine wpAnyH_done (by kernel_rfl) ?_ _
        have HB3 : Hid (Below w.heap.size w w2) := chain HBu.out h2
        clear h2 hH HQ
        go_wp2_with fail
        go_roundw
        case rel => exact ⟨k + 1, by omega, by go_num, HE.out, HB3.out⟩
        case measure => simp [intOf]; omega
    · have hle : ¬ (k : Int) < (rs.length : Int) := by omega
      have HE : Hid (fitS rs cs rs.length = true) := by have := HF.out; rwa [show k = rs.length by omega] at this
      go_wp2
      go_ret
      exact ⟨ret_bool HE.out.symm, HB.out⟩

set_option maxHeartbeats 4000000 in
theorem sumUses_any (a : Option Addr) (cap : Nat) (rs : List CFc) (hl : rs.length ≤ 12) (hrr : ∀ r ∈ rs, FcR r) (b : Option Addr) (cb : Nat) (cs : List Int) (hlen : rs.length = cs.length) (hfit : fitS rs cs rs.length = true) (w : World) (hr : ReadsFc w.heap.size w a rs) (ks : Reads w.heap.size w b cs) :
    Calls Try.prog 52 #[.slice a rs.length cap, .slice b cs.length cb, .func (.func 53) #[] #[]] w fun e w' => e = .returned (.int .i64 (usN rs cs rs.length)) ∧ Below w.heap.size w w' := by
  have HR : Hid (ReadsFc w.heap.size w a rs) := hr
  have HK : Hid (Reads w.heap.size w b cs) := ks
  have HL : Hid (rs.length = cs.length) := hlen
  have HRR : Hid (∀ r ∈ rs, FcR r) := hrr
  have HFt : Hid (fitS rs cs rs.length = true) := hfit
  clear hr ks hlen hrr hfit
  go_enter Try.func52, Try.ntmps52
  go_wp2
  go_loopw [7, 8, 9, 12] (fun s _ _ c wr => ∃ k : Nat, k ≤ rs.length ∧ c = .int .i64 (k : Int) ∧ s = .int .i64 (usN rs cs k) ∧ Below w.heap.size w wr) (fun _ _ _ c _ => rs.length - (intOf c).toNat)
  case atStart => exact ⟨0, Nat.zero_le _, rfl, rfl, Below.refl _ _⟩
  case round =>
    obtain ⟨k, hk, rfl, rfl, hb⟩ := hrel
    have HB : Hid (Below w.heap.size w wr) := hb
    clear hb
    by_cases hlt : k < rs.length
    · have hlt' : (k : Int) < (rs.length : Int) := by omega
      have hlc : k < cs.length := by have := HL.out; omega
      have hlc' : (k : Int) < (cs.length : Int) := by omega
      rcases HR.out with h0 | ⟨b0, o0, ha, hB0, ia⟩
      · rw [h0] at hlt; simp at hlt
      obtain ⟨h, cp, ⟨c0, c1, c2, c3⟩, hcp, hS⟩ := (ia.below HB.out hB0 (Nat.le_refl _)) k hlt
      rcases HK.out with h0 | ⟨b1, o1, hb, hB1, ib⟩
      · rw [h0] at hlc; simp at hlc
      have d0 := (ib.below HB.out hB1) k hlc
      have hSr : Reads wr.heap.size wr h (rs.getD k zFc).gs := hS.mono HB.out.size
      have hFr := getFc HRR.out hlt
      have hTk := tk_bound hFr (fit_at HFt.out k hlt).2
      have hBd := usN_bound HRR.out HFt.out k hk
      have HNx : Hid (usN rs cs (k + 1) = usN rs cs k + cs.getD k 0 * (rs.getD k zFc).wd) := rfl
      have hM := mul_small ⟨hTk.1, hTk.2.1⟩ hFr.2.1
      have hT := fun W (_ : Below wr.heap.size wr W) => uses_any (rs.getD k zFc) hFr h cp (cs.getD k 0) ⟨hTk.1, hTk.2.1⟩ W
      clear ia ib hS hSr hcp
      subst ha hb
      generalize usN rs cs k = s at *
      generalize hv : cs.getD k 0 * (rs.getD k zFc).wd = v at *
      clear hv
      generalize rs.getD k zFc = r at *
      generalize cs.getD k 0 = x at *
      obtain ⟨nm, wd, ls, gs⟩ := r
      dsimp only at *
      generalize gs.length = n at *
      have HT : Hid (∀ W, Below wr.heap.size wr W → Calls Try.prog 53 #[.agg #[.string nm, .int .i64 wd, .int .i64 ls, .slice h n cp], .int .i64 x] W fun e w' => e = .returned (.int .i64 v) ∧ Below W.heap.size W w') := hT
      clear hT hFr
      have hwr : IntKind.i64.wrap (s + v) = s + v := wrap_id _ (by omega) (by omega)
      obtain ⟨Wu, hWu⟩ : ∃ Wu, Wu = wr.alloc (Obj.cells #[.string nm, .int .i64 wd, .int .i64 ls, .slice h n cp] 51) := ⟨_, rfl⟩
      obtain ⟨ub, hub⟩ : ∃ ub, ub = wr.heap.size := ⟨_, rfl⟩
      have HWu : Hid (Wu = wr.alloc (Obj.cells #[.string nm, .int .i64 wd, .int .i64 ls, .slice h n cp] 51) ∧ ub = wr.heap.size) := ⟨hWu, hub⟩
      have hbu : Below wr.heap.size wr Wu := by rw [hWu]; exact below_alloc _ _
      have HBu : Hid (Below w.heap.size w Wu) := chain HB.out hbu
      have hbx : Wu.heap[ub]? = some (.cells #[.string nm, .int .i64 wd, .int .i64 ls, .slice h n cp] 51 (0, 0)) := by rw [hWu, hub]; exact heapNew _ _
      have hbk : b1 < wr.heap.size := Nat.lt_of_lt_of_le hB1 HB.out.size
      have HQ : Hid (∀ W, Below Wu.heap.size Wu W → (W.cell? ⟨ub, 0, none⟩ = some (.string nm) ∧ W.cell? ⟨ub, 1, none⟩ = some (.int .i64 wd) ∧ W.cell? ⟨ub, 2, none⟩ = some (.int .i64 ls) ∧ W.cell? ⟨ub, 3, none⟩ = some (.slice h n cp)) ∧ W.cell? ⟨b1, o1 + k, none⟩ = some (.int .i64 x)) := fun W hb => by
        have hu := blkLt hbx
        refine ⟨⟨?_, ?_, ?_, ?_⟩, ?_⟩
        · exact (hb.cell (p := ⟨ub, 0, none⟩) hu).trans (blkCell hbx 0 _ rfl)
        · exact (hb.cell (p := ⟨ub, 1, none⟩) hu).trans (blkCell hbx 1 _ rfl)
        · exact (hb.cell (p := ⟨ub, 2, none⟩) hu).trans (blkCell hbx 2 _ rfl)
        · exact (hb.cell (p := ⟨ub, 3, none⟩) hu).trans (blkCell hbx 3 _ rfl)
        · exact ((chain hbu hb).cell (p := ⟨b1, o1 + k, none⟩) hbk).trans d0
      have HBu2 : Hid (Below wr.heap.size wr Wu) := hbu
      clear hWu hub hbx hbu d0
      go_upto_region 5 with fail
      rw [← HWu.out.1, ← HWu.out.2]
      clear HWu c0 c1 c2 c3
      refine wp_region_held_drew (S := fun W' => Below Wu.heap.size Wu W') (by kernel_rfl) (below_drew _) (fun hH => ?_)
      refine wpAnyH_take (i := 0) (v := .int .i64 s) rfl (by kernel_rfl) (by kernel_rfl) (by kernel_rfl) (fun _ _ _ h => h) (Or.inl ⟨by rfl, fun w hSw => by go_simp⟩) hH ?_
      refine wpAnyH_take (i := 1) (v := .func (.func 53) #[] #[]) rfl (by kernel_rfl) (by kernel_rfl) (by kernel_rfl) (fun _ _ _ h => h) (Or.inl ⟨by rfl, fun w hSw => by go_simp⟩) hH ?_
      try simp only [Act.put, List.setIfInBounds_toArray, List.set_cons_zero, List.set_cons_succ, List.getElem_toArray, List.getElem_cons_succ, List.getElem_cons_zero]
      refine wpAnyH_take (i := 2) (v := .agg #[.string nm, .int .i64 wd, .int .i64 ls, .slice h n cp]) rfl (by kernel_rfl) (by kernel_rfl) (by kernel_rfl) (fun _ _ _ h => h) (Or.inl ⟨by rfl, fun w hSw => by obtain ⟨⟨f0, f1, f2, f3⟩, f4⟩ := HQ.out w hSw; clear hSw; go_simp⟩) hH ?_
      try simp only [Act.put, List.setIfInBounds_toArray, List.set_cons_zero, List.set_cons_succ, List.getElem_toArray, List.getElem_cons_succ, List.getElem_cons_zero]
      refine wpAnyH_take (i := 3) (v := .slice (some ⟨b1, o1, none⟩) cs.length cb) rfl (by kernel_rfl) (by kernel_rfl) (by kernel_rfl) (fun _ _ _ h => h) (Or.inl ⟨by rfl, fun w hSw => by go_simp⟩) hH ?_
      try simp only [Act.put, List.setIfInBounds_toArray, List.set_cons_zero, List.set_cons_succ, List.getElem_toArray, List.getElem_cons_succ, List.getElem_cons_zero]
      refine wpAnyH_take (i := 4) (v := .int .i64 (k : Int)) rfl (by kernel_rfl) (by kernel_rfl) (by kernel_rfl) (fun _ _ _ h => h) (Or.inl ⟨by rfl, fun w hSw => by go_simp⟩) hH ?_
      try simp only [Act.put, List.setIfInBounds_toArray, List.set_cons_zero, List.set_cons_succ, List.getElem_toArray, List.getElem_cons_succ, List.getElem_cons_zero]
      refine wpAnyH_take (i := 5) (v := .pointer (some ⟨b1, o1 + k, none⟩)) rfl (by kernel_rfl) (by kernel_rfl) (by kernel_rfl) (fun _ _ _ h => h) (Or.inl ⟨by rfl, fun w hSw => by go_simp⟩) hH ?_
      try simp only [Act.put, List.setIfInBounds_toArray, List.set_cons_zero, List.set_cons_succ, List.getElem_toArray, List.getElem_cons_succ, List.getElem_cons_zero]
      refine wpAnyH_take (i := 6) (v := .int .i64 x) rfl (by kernel_rfl) (by kernel_rfl) (by kernel_rfl) (fun _ _ _ h => h) (Or.inl ⟨by rfl, fun w hSw => by obtain ⟨⟨f0, f1, f2, f3⟩, f4⟩ := HQ.out w hSw; clear hSw; go_simp⟩) hH ?_
      try simp only [Act.put, List.setIfInBounds_toArray, List.set_cons_zero, List.set_cons_succ, List.getElem_toArray, List.getElem_cons_succ, List.getElem_cons_zero]
      refine wpAnyH_ready (rs := [7]) (by kernel_rfl) (by simp) ?_
      refine AllReadyH.cons rfl (fun K hK => ?_) AllReadyH.nil
      go_simp
      go_at_call 53
      refine (HT.out _ (chain HBu2.out hH)).mono ?_
      rintro e w2 ⟨rfl, hb2⟩
      have h2 : Below Wu.heap.size Wu w2 := chain hH hb2
      clear hb2
      refine hK.out _ _ h2 (fun _ => ?_)
      clear hK K
      try simp only [Act.put, List.setIfInBounds_toArray, List.set_cons_zero, List.set_cons_succ, List.getElem_toArray, List.getElem_cons_succ, List.getElem_cons_zero]
      refine wpAnyH_take (i := 8) (v := .int .i64 (s + v)) rfl (by kernel_rfl) (by kernel_rfl) (by kernel_rfl) (fun _ _ _ h => h) (Or.inl ⟨by rfl, fun w hSw => by go_simp⟩) h2 ?_
      try simp only [Act.put, List.setIfInBounds_toArray, List.set_cons_zero, List.set_cons_succ, List.getElem_toArray, List.getElem_cons_succ, List.getElem_cons_zero]
      refine wpAnyH_take (i := 9) (v := .int .i64 (s + v)) rfl (by kernel_rfl) (by kernel_rfl) (by kernel_rfl) (fun _ _ _ h => h) (Or.inl ⟨by rfl, fun w hSw => by go_simp⟩) h2 ?_
      try simp only [Act.put, List.setIfInBounds_toArray, List.set_cons_zero, List.set_cons_succ, List.getElem_toArray, List.getElem_cons_succ, List.getElem_cons_zero]
      refine wpAnyH_done (by kernel_rfl) ?_ _
      have HB3 : Hid (Below w.heap.size w w2) := chain HBu.out h2
      clear h2 hH HQ
      go_wp2_with fail
      go_roundw
      case rel => exact ⟨k + 1, by omega, by go_num, by rw [HNx.out], HB3.out⟩
      case measure => simp [intOf]; omega
    · have hle : ¬ (k : Int) < (rs.length : Int) := by omega
      obtain rfl : k = rs.length := by omega
      go_wp2
      go_ret
      exact ⟨rfl, HB.out⟩

set_option maxHeartbeats 4000000 in
theorem sumGains_any (a : Option Addr) (cap : Nat) (rs : List CFc) (hl : rs.length ≤ 12) (hrr : ∀ r ∈ rs, FcR r) (b : Option Addr) (cb : Nat) (cs : List Int) (hlen : rs.length = cs.length) (hfit : fitS rs cs rs.length = true) (w : World) (hr : ReadsFc w.heap.size w a rs) (ks : Reads w.heap.size w b cs) :
    Calls Try.prog 52 #[.slice a rs.length cap, .slice b cs.length cb, .func (.func 54) #[] #[]] w fun e w' => e = .returned (.int .i64 (gaN rs cs rs.length)) ∧ Below w.heap.size w w' := by
  have HR : Hid (ReadsFc w.heap.size w a rs) := hr
  have HK : Hid (Reads w.heap.size w b cs) := ks
  have HL : Hid (rs.length = cs.length) := hlen
  have HRR : Hid (∀ r ∈ rs, FcR r) := hrr
  have HFt : Hid (fitS rs cs rs.length = true) := hfit
  clear hr ks hlen hrr hfit
  go_enter Try.func52, Try.ntmps52
  go_wp2
  go_loopw [7, 8, 9, 12] (fun s _ _ c wr => ∃ k : Nat, k ≤ rs.length ∧ c = .int .i64 (k : Int) ∧ s = .int .i64 (gaN rs cs k) ∧ Below w.heap.size w wr) (fun _ _ _ c _ => rs.length - (intOf c).toNat)
  case atStart => exact ⟨0, Nat.zero_le _, rfl, rfl, Below.refl _ _⟩
  case round =>
    obtain ⟨k, hk, rfl, rfl, hb⟩ := hrel
    have HB : Hid (Below w.heap.size w wr) := hb
    clear hb
    by_cases hlt : k < rs.length
    · have hlt' : (k : Int) < (rs.length : Int) := by omega
      have hlc : k < cs.length := by have := HL.out; omega
      have hlc' : (k : Int) < (cs.length : Int) := by omega
      rcases HR.out with h0 | ⟨b0, o0, ha, hB0, ia⟩
      · rw [h0] at hlt; simp at hlt
      obtain ⟨h, cp, ⟨c0, c1, c2, c3⟩, hcp, hS⟩ := (ia.below HB.out hB0 (Nat.le_refl _)) k hlt
      rcases HK.out with h0 | ⟨b1, o1, hb, hB1, ib⟩
      · rw [h0] at hlc; simp at hlc
      have d0 := (ib.below HB.out hB1) k hlc
      have hSr : Reads wr.heap.size wr h (rs.getD k zFc).gs := hS.mono HB.out.size
      have hFr := getFc HRR.out hlt
      have hTk := tk_bound hFr (fit_at HFt.out k hlt).2
      have hBd := gaN_bound (cs := cs) HRR.out k hk
      have HNx : Hid (gaN rs cs (k + 1) = gaN rs cs k + gnN (rs.getD k zFc).gs (cs.getD k 0).toNat) := rfl
      have hM := gnN_bound hFr (cs.getD k 0).toNat
      have hT : ∀ W, Below wr.heap.size wr W → Calls Try.prog 54 #[.agg #[.string (rs.getD k zFc).nm, .int .i64 (rs.getD k zFc).wd, .int .i64 (rs.getD k zFc).ls, .slice h (rs.getD k zFc).gs.length cp], .int .i64 (cs.getD k 0)] W fun e w' => e = .returned (.int .i64 (gnN (rs.getD k zFc).gs (cs.getD k 0).toNat)) ∧ Below W.heap.size W w' := fun W hb => by
        have q := gains_any (rs.getD k zFc) hFr h cp hcp (cs.getD k 0).toNat (by omega) W (hSr.later hb)
        rw [Int.toNat_of_nonneg hTk.1] at q
        exact q
      clear ia ib hS hSr hcp
      subst ha hb
      generalize gaN rs cs k = s at *
      generalize hv : gnN (rs.getD k zFc).gs (cs.getD k 0).toNat = v at *
      clear hv
      generalize rs.getD k zFc = r at *
      generalize cs.getD k 0 = x at *
      obtain ⟨nm, wd, ls, gs⟩ := r
      dsimp only at *
      generalize gs.length = n at *
      have HT : Hid (∀ W, Below wr.heap.size wr W → Calls Try.prog 54 #[.agg #[.string nm, .int .i64 wd, .int .i64 ls, .slice h n cp], .int .i64 x] W fun e w' => e = .returned (.int .i64 v) ∧ Below W.heap.size W w') := hT
      clear hT hFr
      have hwr : IntKind.i64.wrap (s + v) = s + v := wrap_id _ (by omega) (by omega)
      obtain ⟨Wu, hWu⟩ : ∃ Wu, Wu = wr.alloc (Obj.cells #[.string nm, .int .i64 wd, .int .i64 ls, .slice h n cp] 51) := ⟨_, rfl⟩
      obtain ⟨ub, hub⟩ : ∃ ub, ub = wr.heap.size := ⟨_, rfl⟩
      have HWu : Hid (Wu = wr.alloc (Obj.cells #[.string nm, .int .i64 wd, .int .i64 ls, .slice h n cp] 51) ∧ ub = wr.heap.size) := ⟨hWu, hub⟩
      have hbu : Below wr.heap.size wr Wu := by rw [hWu]; exact below_alloc _ _
      have HBu : Hid (Below w.heap.size w Wu) := chain HB.out hbu
      have hbx : Wu.heap[ub]? = some (.cells #[.string nm, .int .i64 wd, .int .i64 ls, .slice h n cp] 51 (0, 0)) := by rw [hWu, hub]; exact heapNew _ _
      have hbk : b1 < wr.heap.size := Nat.lt_of_lt_of_le hB1 HB.out.size
      have HQ : Hid (∀ W, Below Wu.heap.size Wu W → (W.cell? ⟨ub, 0, none⟩ = some (.string nm) ∧ W.cell? ⟨ub, 1, none⟩ = some (.int .i64 wd) ∧ W.cell? ⟨ub, 2, none⟩ = some (.int .i64 ls) ∧ W.cell? ⟨ub, 3, none⟩ = some (.slice h n cp)) ∧ W.cell? ⟨b1, o1 + k, none⟩ = some (.int .i64 x)) := fun W hb => by
        have hu := blkLt hbx
        refine ⟨⟨?_, ?_, ?_, ?_⟩, ?_⟩
        · exact (hb.cell (p := ⟨ub, 0, none⟩) hu).trans (blkCell hbx 0 _ rfl)
        · exact (hb.cell (p := ⟨ub, 1, none⟩) hu).trans (blkCell hbx 1 _ rfl)
        · exact (hb.cell (p := ⟨ub, 2, none⟩) hu).trans (blkCell hbx 2 _ rfl)
        · exact (hb.cell (p := ⟨ub, 3, none⟩) hu).trans (blkCell hbx 3 _ rfl)
        · exact ((chain hbu hb).cell (p := ⟨b1, o1 + k, none⟩) hbk).trans d0
      have HBu2 : Hid (Below wr.heap.size wr Wu) := hbu
      clear hWu hub hbx hbu d0
      go_upto_region 5 with fail
      rw [← HWu.out.1, ← HWu.out.2]
      clear HWu c0 c1 c2 c3
      refine wp_region_held_drew (S := fun W' => Below Wu.heap.size Wu W') (by kernel_rfl) (below_drew _) (fun hH => ?_)
      refine wpAnyH_take (i := 0) (v := .int .i64 s) rfl (by kernel_rfl) (by kernel_rfl) (by kernel_rfl) (fun _ _ _ h => h) (Or.inl ⟨by rfl, fun w hSw => by go_simp⟩) hH ?_
      refine wpAnyH_take (i := 1) (v := .func (.func 54) #[] #[]) rfl (by kernel_rfl) (by kernel_rfl) (by kernel_rfl) (fun _ _ _ h => h) (Or.inl ⟨by rfl, fun w hSw => by go_simp⟩) hH ?_
      try simp only [Act.put, List.setIfInBounds_toArray, List.set_cons_zero, List.set_cons_succ, List.getElem_toArray, List.getElem_cons_succ, List.getElem_cons_zero]
      refine wpAnyH_take (i := 2) (v := .agg #[.string nm, .int .i64 wd, .int .i64 ls, .slice h n cp]) rfl (by kernel_rfl) (by kernel_rfl) (by kernel_rfl) (fun _ _ _ h => h) (Or.inl ⟨by rfl, fun w hSw => by obtain ⟨⟨f0, f1, f2, f3⟩, f4⟩ := HQ.out w hSw; clear hSw; go_simp⟩) hH ?_
      try simp only [Act.put, List.setIfInBounds_toArray, List.set_cons_zero, List.set_cons_succ, List.getElem_toArray, List.getElem_cons_succ, List.getElem_cons_zero]
      refine wpAnyH_take (i := 3) (v := .slice (some ⟨b1, o1, none⟩) cs.length cb) rfl (by kernel_rfl) (by kernel_rfl) (by kernel_rfl) (fun _ _ _ h => h) (Or.inl ⟨by rfl, fun w hSw => by go_simp⟩) hH ?_
      try simp only [Act.put, List.setIfInBounds_toArray, List.set_cons_zero, List.set_cons_succ, List.getElem_toArray, List.getElem_cons_succ, List.getElem_cons_zero]
      refine wpAnyH_take (i := 4) (v := .int .i64 (k : Int)) rfl (by kernel_rfl) (by kernel_rfl) (by kernel_rfl) (fun _ _ _ h => h) (Or.inl ⟨by rfl, fun w hSw => by go_simp⟩) hH ?_
      try simp only [Act.put, List.setIfInBounds_toArray, List.set_cons_zero, List.set_cons_succ, List.getElem_toArray, List.getElem_cons_succ, List.getElem_cons_zero]
      refine wpAnyH_take (i := 5) (v := .pointer (some ⟨b1, o1 + k, none⟩)) rfl (by kernel_rfl) (by kernel_rfl) (by kernel_rfl) (fun _ _ _ h => h) (Or.inl ⟨by rfl, fun w hSw => by go_simp⟩) hH ?_
      try simp only [Act.put, List.setIfInBounds_toArray, List.set_cons_zero, List.set_cons_succ, List.getElem_toArray, List.getElem_cons_succ, List.getElem_cons_zero]
      refine wpAnyH_take (i := 6) (v := .int .i64 x) rfl (by kernel_rfl) (by kernel_rfl) (by kernel_rfl) (fun _ _ _ h => h) (Or.inl ⟨by rfl, fun w hSw => by obtain ⟨⟨f0, f1, f2, f3⟩, f4⟩ := HQ.out w hSw; clear hSw; go_simp⟩) hH ?_
      try simp only [Act.put, List.setIfInBounds_toArray, List.set_cons_zero, List.set_cons_succ, List.getElem_toArray, List.getElem_cons_succ, List.getElem_cons_zero]
      refine wpAnyH_ready (rs := [7]) (by kernel_rfl) (by simp) ?_
      refine AllReadyH.cons rfl (fun K hK => ?_) AllReadyH.nil
      go_simp
      go_at_call 54
      refine (HT.out _ (chain HBu2.out hH)).mono ?_
      rintro e w2 ⟨rfl, hb2⟩
      have h2 : Below Wu.heap.size Wu w2 := chain hH hb2
      clear hb2
      refine hK.out _ _ h2 (fun _ => ?_)
      clear hK K
      try simp only [Act.put, List.setIfInBounds_toArray, List.set_cons_zero, List.set_cons_succ, List.getElem_toArray, List.getElem_cons_succ, List.getElem_cons_zero]
      refine wpAnyH_take (i := 8) (v := .int .i64 (s + v)) rfl (by kernel_rfl) (by kernel_rfl) (by kernel_rfl) (fun _ _ _ h => h) (Or.inl ⟨by rfl, fun w hSw => by go_simp⟩) h2 ?_
      try simp only [Act.put, List.setIfInBounds_toArray, List.set_cons_zero, List.set_cons_succ, List.getElem_toArray, List.getElem_cons_succ, List.getElem_cons_zero]
      refine wpAnyH_take (i := 9) (v := .int .i64 (s + v)) rfl (by kernel_rfl) (by kernel_rfl) (by kernel_rfl) (fun _ _ _ h => h) (Or.inl ⟨by rfl, fun w hSw => by go_simp⟩) h2 ?_
      try simp only [Act.put, List.setIfInBounds_toArray, List.set_cons_zero, List.set_cons_succ, List.getElem_toArray, List.getElem_cons_succ, List.getElem_cons_zero]
      refine wpAnyH_done (by kernel_rfl) ?_ _
      have HB3 : Hid (Below w.heap.size w w2) := chain HBu.out h2
      clear h2 hH HQ
      go_wp2_with fail
      go_roundw
      case rel => exact ⟨k + 1, by omega, by go_num, by rw [HNx.out], HB3.out⟩
      case measure => simp [intOf]; omega
    · have hle : ¬ (k : Int) < (rs.length : Int) := by omega
      obtain rfl : k = rs.length := by omega
      go_wp2
      go_ret
      exact ⟨rfl, HB.out⟩
end Go.Proofs.Ytphefbaogfknoaa
