/-
  The mathematics of hidden rules, of the first that fires and of two that clash.
-/
import Derived.Test.YthkmgccmeoigpaaLwCore
import Derived.Test.YthkmgccmeoigpaaRdB
import Derived.Test.YthkmgccmeoigpaaRhD
import Derived.Test.YthkmgccmeoigpaaRcC
import Derived.Test.YthkmgccmeoigpaaDrawCl5
namespace Go.Proofs.Ythkmgccmeoigpaa
set_option linter.unusedVariables false

theorem cov_has {L M F : List Int} (h : covL L M = true) (k : hasL M F = true) : hasL L F = true := by
  unfold covL at h
  unfold hasL at k ⊢
  rw [List.all_eq_true] at *
  intro i hi
  have h1 := of_decide_eq_true (h i hi)
  have k1 := of_decide_eq_true (k i hi)
  exact decide_eq_true ⟨by omega, by omega⟩
theorem fidx_first (p : CCl → Bool) : ∀ (rs : List CCl) (k : Nat), fidx p rs = (k : Int) → k < rs.length ∧ p (rs.getD k zCl) = true ∧ ∀ c ∈ rs.take k, p c = false
  | [], k, h => by unfold fidx at h; omega
  | c :: cs, k, h => by
    unfold fidx at h
    cases hc : p c with
    | true =>
      rw [if_pos hc] at h
      obtain rfl : k = 0 := by omega
      exact ⟨by simp, by simpa using hc, by simp⟩
    | false =>
      rw [if_neg (by rw [hc]; simp)] at h
      split at h
      · omega
      · obtain ⟨j, hj⟩ : ∃ j : Nat, fidx p cs = (j : Int) := ⟨(fidx p cs).toNat, by omega⟩
        obtain rfl : k = j + 1 := by omega
        obtain ⟨i1, i2, i3⟩ := fidx_first p cs j hj
        refine ⟨by simpa using i1, by simpa using i2, fun d hd => ?_⟩
        rw [List.take_succ_cons] at hd
        rcases List.mem_cons.1 hd with rfl | hd
        · exact hc
        · exact i3 d hd
theorem hidN_mem (rs : List CCl) : ∀ n k, ((k : Nat) : Int) ∈ hidN rs n → hidB rs k = true ∧ k < n
  | 0, k, h => by simp [hidN] at h
  | n + 1, k, h => by
    unfold hidN at h
    split at h
    · rename_i hq
      rcases List.mem_append.1 h with h | h
      · have := hidN_mem rs n k h
        exact ⟨this.1, by omega⟩
      · obtain rfl : k = n := by have := List.mem_singleton.1 h; omega
        exact ⟨hq, by omega⟩
    · have := hidN_mem rs n k h
      exact ⟨this.1, by omega⟩
/-- The first rule that fires is not hidden. -/
theorem first_not_hidden {rs : List CCl} {F : List Int} (h0 : F.getD 0 0 = 0) (hok : ∀ c ∈ rs, ∀ t ∈ c.ts, tmB t = true) (hF : hasL (rm []) F = true) (k : Nat) (h : fidx (fun c => fireB F c.ts) rs = (k : Int)) : ((k : Nat) : Int) ∉ hidL rs := by
  intro hm
  unfold hidL at hm
  split at hm
  · obtain ⟨hb, hk⟩ := hidN_mem rs _ k hm
    obtain ⟨_, hf, hn⟩ := fidx_first _ rs k h
    have e : rs.getD k zCl = rs[k] := by simp [List.getD_eq_getElem?_getD, hk]
    have hmem : rs.getD k zCl ∈ rs := by rw [e]; exact List.getElem_mem hk
    have hh : hasL (rm (rs.getD k zCl).ts) F = true := by rw [has_fires _ F h0 (hok _ hmem) hF]; exact hf
    unfold hidB at hb
    rw [Bool.or_eq_true] at hb
    rcases hb with hb | hb
    · have hc := fires_can h0 (hok _ hmem) hF hf
      unfold canT at hc
      rw [hb] at hc
      cases hc
    · unfold covAny at hb
      rw [List.any_eq_true] at hb
      obtain ⟨L, hL, hcv⟩ := hb
      obtain ⟨c, hc, rfl⟩ := List.mem_map.1 hL
      have hq := cov_has hcv hh
      rw [has_fires _ F h0 (hok c (List.mem_of_mem_take hc)) hF] at hq
      have := hn c hc
      rw [hq] at this
      cases this
  · simp at hm
theorem lowT_comm (f : Int) (ts us : List RTm) : lowT f (ts ++ us) = lowT f (us ++ ts) := by rw [lowT_append, lowT_append, Int.max_comm]
theorem highT_comm (f : Int) (ts us : List RTm) : highT f (ts ++ us) = highT f (us ++ ts) := by rw [highT_append, highT_append, Int.min_comm]
theorem rm_comm (ts us : List RTm) : rm (ts ++ us) = rm (us ++ ts) := by unfold rm; simp only [lowT_comm _ ts us, highT_comm _ ts us]
theorem canT_comm (ts us : List RTm) : canT (ts ++ us) = canT (us ++ ts) := by unfold canT; rw [rm_comm]
theorem leastV_comm (ts us : List RTm) : leastV (ts ++ us) = leastV (us ++ ts) := by unfold leastV; rw [canT_comm, rm_comm]
theorem ckB_comm (a b : CCl) : ckB a b = ckB b a := by
  unfold ckB
  have e1 : decide (a.ac = b.ac) = decide (b.ac = a.ac) := by rw [decide_eq_decide]; exact eq_comm
  have e2 : decide (a.nu = b.nu) = decide (b.nu = a.nu) := by rw [decide_eq_decide]; exact eq_comm
  rw [canT_comm, e1, e2]
theorem ck_comm (a b : CCl) : ckT a b = ckT b a ∧ ckC a b = ckC b a ∧ ckV a b = ckV b a := by
  have e1 : ckT a b = ckT b a := by unfold ckT; rw [ckB_comm, Bool.and_comm (clOne a)]
  refine ⟨e1, by unfold ckC; rw [Bool.and_comm], ?_⟩
  unfold ckV
  rw [e1, leastV_comm]
theorem rNames_ok : ∀ n, n ≤ 10 → diffB ((List.range n).map rName) = true := by
  intro n hn
  rcases (by omega : n = 0 ∨ n = 1 ∨ n = 2 ∨ n = 3 ∨ n = 4 ∨ n = 5 ∨ n = 6 ∨ n = 7 ∨ n = 8 ∨ n = 9 ∨ n = 10) with rfl | rfl | rfl | rfl | rfl | rfl | rfl | rfl | rfl | rfl | rfl <;> decide +kernel
theorem drawn_all {E : List EC} (hl : E.length ≤ 7) (h1 : ∀ e ∈ E, clOne e.1 = true) (h2 : E.map (fun e => e.1.nm) = (List.range E.length).map rName) : clAll (E.map (·.1)) = true ∧ fltC (E.map (·.1)) = 0 := by
  have hc : clAll (E.map (·.1)) = true := by
    unfold clAll
    rw [if_neg (by rw [List.length_map]; omega), Bool.and_eq_true]
    refine ⟨?_, List.all_eq_true.2 (fun c hc => ?_)⟩
    · rw [List.map_map, show ((fun x : CCl => x.nm) ∘ fun x : EC => x.1) = (fun e : EC => e.1.nm) from rfl, h2]
      exact rNames_ok _ (by omega)
    · obtain ⟨e, he, rfl⟩ := List.mem_map.1 hc
      exact h1 e he
  exact ⟨hc, by unfold fltC; rw [if_neg (by rw [List.length_map]; omega), if_pos hc]⟩
end Go.Proofs.Ythkmgccmeoigpaa
