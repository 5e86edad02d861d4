/-
  The least Seq that a shop has not: contracts of the program's Missed and the specification's, for every list.
-/
import Derived.Test.YtghndkcjeaghbaaEvD
namespace Go.Proofs.Ytghndkcjeaghbaa
open Go.ChangeShapes Go.WideShapes Go.ChangeAt Go.RowKit Go.Deep
set_option linter.unusedVariables false

def misF (s : Int) : List REv → Nat → Int × Int
  | [], _ => (0, 8)
  | r :: t, q => if r.sh = s then (if r.sq = (q : Int) then misF s t (q + 1) else ((q : Int), 0)) else misF s t q
def misR (rs : List REv) (s : Int) : Int × Int := if 4096 < rs.length then (0, 2) else if evAll rs = true then misF s rs 1 else (0, 1)
theorem misF_step (s : Int) (rs : List REv) (k q : Nat) (h : k < rs.length) : misF s (rs.drop k) q = if (rs.getD k zEv).sh = s then (if (rs.getD k zEv).sq = (q : Int) then misF s (rs.drop (k + 1)) (q + 1) else ((q : Int), 0)) else misF s (rs.drop (k + 1)) q := by
  rw [List.drop_eq_getElem_cons h]
  have e : rs.getD k zEv = rs[k] := by simp [List.getD_eq_getElem?_getD, h]
  rw [e]; rfl
theorem misF_end (s : Int) (rs : List REv) (q : Nat) : misF s (rs.drop rs.length) q = (0, 8) := by rw [List.drop_length]; rfl
def TwoI (p : Int × Int) : Ending := .returned (.tuple #[.int .i64 p.1, .int .i64 p.2])

set_option maxHeartbeats 8000000 in
theorem implMissed_any (a : Option Addr) (cap : Nat) (rs : List REv) (s : Int) (hl : rs.length ≤ 100000000) (hp : ∀ r ∈ rs, EvOK r) (w0 : World) (hr : ReadsEv w0.heap.size w0 a rs) :
    Calls Try.prog 29 #[.slice a rs.length cap, .int .i64 s] w0 fun e w' => e = TwoI (misR rs s) ∧ Below w0.heap.size w0 w' := by
  have HR : Hid (ReadsEv w0.heap.size w0 a rs) := hr
  have HEv : Hid (∀ w, ReadsEv w.heap.size w a rs → Calls Try.prog 19 #[.slice a rs.length cap] w fun e w' => e = .returned (.bool (evAll rs)) ∧ Below w.heap.size w w') := fun w h => implEvents_any a cap rs hl hp w h
  obtain ⟨ans, hans⟩ : ∃ ans, misR rs s = ans := ⟨_, rfl⟩
  rw [hans]
  have HA : Hid (misR rs s = ans) := hans
  clear hr hp hans
  by_cases hlong : 4096 < rs.length
  · have HF : Hid (ans = (0, 2)) := by have h := HA.out; unfold misR at h; rw [if_pos hlong] at h; exact h.symm
    have hlong' : (4096 : Int) < (rs.length : Int) := by omega
    go_enter Try.func29, Try.ntmps29
    go_wp2
    go_ret2
    exact ⟨by rw [HF.out]; rfl, Below.refl _ _⟩
  have hshort : (rs.length : Int) ≤ 4096 := by omega
  have HA2 : Hid ((if evAll rs = true then misF s rs 1 else (0, 1)) = ans) := by have h := HA.out; unfold misR at h; rw [if_neg hlong] at h; exact h
  clear HA
  generalize evAll rs = ok at *
  go_enter Try.func29, Try.ntmps29
  go_wp2_with fail
  go_at_call 19
  refine (HEv.out _ HR.out).mono ?_
  rintro e w1 ⟨rfl, hb1⟩
  have HB1 : Hid (Below w0.heap.size w0 w1) := hb1
  clear hb1 HEv
  cases ok
  · have HF : Hid (ans = (0, 1)) := by have h := HA2.out; rw [if_neg (by decide)] at h; exact h.symm
    go_wp2
    go_ret2
    exact ⟨by rw [HF.out]; rfl, HB1.out⟩
  have HF : Hid (misF s rs 1 = ans) := by have h := HA2.out; rw [if_pos rfl] at h; exact h
  clear HA2
  go_wp2
  go_loopw [6, 8, 17] (fun c _ i wr => ∃ k q : Nat, k ≤ rs.length ∧ i = .int .i64 (k : Int) ∧ c = .int .i64 (q : Int) ∧ q ≤ k + 1 ∧ misF s (rs.drop k) q = ans ∧ Below w0.heap.size w0 wr) (fun _ _ i _ => rs.length - (intOf i).toNat)
  case atStart => exact ⟨0, 1, Nat.zero_le _, rfl, rfl, by omega, HF.out, HB1.out⟩
  case round =>
    clear HF HB1
    obtain ⟨k, q, hk, rfl, rfl, hq, hf, hb⟩ := hrel
    have HB : Hid (Below w0.heap.size w0 wr) := hb
    have HF : Hid (misF s (rs.drop k) q = ans) := hf
    clear hb hf
    by_cases hlt : k < rs.length
    · have hlt' : (k : Int) < (rs.length : Int) := by omega
      rcases HR.out with h | ⟨b0, o0, ha, hB0, ia⟩
      · rw [h] at hlt; simp at hlt
      subst ha
      obtain ⟨c0, c1, c2, c3, c4, c5⟩ := (ia.below HB.out hB0) k hlt
      clear ia
      have HS := misF_step s rs k q hlt
      rw [HF.out] at HS
      have hwq : IntKind.i64.wrap ((q : Int) + 1) = (q : Int) + 1 := wrap_id _ (by omega) (by omega)
      generalize rs.getD k zEv = ev at *
      obtain ⟨e0, e1, e2, e3, e4, e5⟩ := ev
      dsimp only at c0 c1 c2 c3 c4 c5 HS
      have HB2 : Hid (∀ o, Below w0.heap.size w0 (wr.alloc o)) := fun o => chain HB.out (below_alloc _ _)
      by_cases h1 : e0 = s
      · rw [if_pos h1] at HS
        by_cases h2 : e1 = (q : Int)
        · rw [if_pos h2] at HS
          have HS' : Hid (misF s (rs.drop (k + 1)) (q + 1) = ans) := HS.symm
          clear HS HF
          go_wp2
          go_roundw
          case rel => exact ⟨k + 1, q + 1, by omega, by go_num, by go_num, by omega, HS'.out, HB2.out _⟩
          case measure => simp [intOf]; omega
        · rw [if_neg h2] at HS
          have HS' : Hid (ans = ((q : Int), 0)) := HS
          clear HS HF
          go_wp2
          go_ret2
          exact ⟨by rw [HS'.out]; rfl, HB2.out _⟩
      · rw [if_neg h1] at HS
        have HS' : Hid (misF s (rs.drop (k + 1)) q = ans) := HS.symm
        clear HS HF
        go_wp2
        go_roundw
        case rel => exact ⟨k + 1, q, by omega, by go_num, rfl, by omega, HS'.out, HB2.out _⟩
        case measure => simp [intOf]; omega
    · have hle : (rs.length : Int) ≤ (k : Int) := by omega
      obtain rfl : k = rs.length := by omega
      have HE : Hid (ans = (0, 8)) := by rw [← HF.out]; exact misF_end s rs q
      go_wp2
      go_ret2
      exact ⟨by rw [HE.out]; rfl, HB.out⟩

set_option maxHeartbeats 8000000 in
theorem specMissed_any (a : Option Addr) (cap : Nat) (rs : List REv) (s : Int) (hl : rs.length ≤ 100000000) (hp : ∀ r ∈ rs, EvOK r) (w0 : World) (hr : ReadsEv w0.heap.size w0 a rs) :
    Calls Try.prog 28 #[.slice a rs.length cap, .int .i64 s] w0 fun e w' => e = TwoI (misR rs s) ∧ Below w0.heap.size w0 w' := by
  have HR : Hid (ReadsEv w0.heap.size w0 a rs) := hr
  have HEv : Hid (∀ w, ReadsEv w.heap.size w a rs → Calls Try.prog 17 #[.slice a rs.length cap] w fun e w' => e = .returned (.bool (evAll rs)) ∧ Below w.heap.size w w') := fun w h => specEvents_any a cap rs hl hp w h
  obtain ⟨ans, hans⟩ : ∃ ans, misR rs s = ans := ⟨_, rfl⟩
  rw [hans]
  have HA : Hid (misR rs s = ans) := hans
  clear hr hp hans
  by_cases hlong : 4096 < rs.length
  · have HF : Hid (ans = (0, 2)) := by have h := HA.out; unfold misR at h; rw [if_pos hlong] at h; exact h.symm
    have hlong' : (4096 : Int) < (rs.length : Int) := by omega
    go_enter Try.func28, Try.ntmps28
    go_wp2
    go_ret2
    exact ⟨by rw [HF.out]; rfl, Below.refl _ _⟩
  have hshort : (rs.length : Int) ≤ 4096 := by omega
  have HA2 : Hid ((if evAll rs = true then misF s rs 1 else (0, 1)) = ans) := by have h := HA.out; unfold misR at h; rw [if_neg hlong] at h; exact h
  clear HA
  generalize evAll rs = ok at *
  go_enter Try.func28, Try.ntmps28
  go_wp2_with fail
  go_at_call 17
  refine (HEv.out _ HR.out).mono ?_
  rintro e w1 ⟨rfl, hb1⟩
  have HB1 : Hid (Below w0.heap.size w0 w1) := hb1
  clear hb1 HEv
  cases ok
  · have HF : Hid (ans = (0, 1)) := by have h := HA2.out; rw [if_neg (by decide)] at h; exact h.symm
    go_wp2
    go_ret2
    exact ⟨by rw [HF.out]; rfl, HB1.out⟩
  have HF : Hid (misF s rs 1 = ans) := by have h := HA2.out; rw [if_pos rfl] at h; exact h
  clear HA2
  go_wp2
  go_loop [6, 7] (fun c i => ∃ k q : Nat, k ≤ rs.length ∧ i = .int .i64 (k : Int) ∧ c = .int .i64 (q : Int) ∧ q ≤ k ∧ misF s (rs.drop k) (q + 1) = ans) (fun _ i => rs.length - (intOf i).toNat)
  case atStart => exact ⟨0, 0, Nat.zero_le _, rfl, rfl, by omega, HF.out⟩
  case round =>
    clear HF
    obtain ⟨k, q, hk, rfl, rfl, hq, hf⟩ := hrel
    have HF : Hid (misF s (rs.drop k) (q + 1) = ans) := hf
    clear hf
    by_cases hlt : k < rs.length
    · have hlt' : (k : Int) < (rs.length : Int) := by omega
      rcases HR.out with h | ⟨b0, o0, ha, hB0, ia⟩
      · rw [h] at hlt; simp at hlt
      subst ha
      obtain ⟨c0, c1, c2, c3, c4, c5⟩ := (ia.below HB1.out hB0) k hlt
      clear ia
      have HS := misF_step s rs k (q + 1) hlt
      rw [HF.out] at HS
      have hwq : IntKind.i64.wrap ((q : Int) + 1) = (q : Int) + 1 := wrap_id _ (by omega) (by omega)
      generalize rs.getD k zEv = ev at *
      obtain ⟨e0, e1, e2, e3, e4, e5⟩ := ev
      dsimp only at c0 c1 c2 c3 c4 c5 HS
      by_cases h1 : e0 = s
      · rw [if_pos h1] at HS
        by_cases h2 : e1 = (q : Int) + 1
        · rw [if_pos (by omega)] at HS
          have HS' : Hid (misF s (rs.drop (k + 1)) (q + 1 + 1) = ans) := HS.symm
          clear HS HF
          go_wp2
          go_round
          case rel => exact ⟨k + 1, q + 1, by omega, by go_num, by first | go_num | (rw [h2]; go_num), by omega, HS'.out⟩
          case measure => simp [intOf]; omega
        · rw [if_neg (by omega)] at HS
          have HS' : Hid (ans = (((q + 1 : Nat) : Int), 0)) := HS
          clear HS HF
          go_wp2
          go_ret2
          exact ⟨by rw [HS'.out]; rfl, HB1.out⟩
      · rw [if_neg h1] at HS
        have HS' : Hid (misF s (rs.drop (k + 1)) (q + 1) = ans) := HS.symm
        clear HS HF
        go_wp2
        go_round
        case rel => exact ⟨k + 1, q, by omega, by go_num, rfl, by omega, HS'.out⟩
        case measure => simp [intOf]; omega
    · have hle : (rs.length : Int) ≤ (k : Int) := by omega
      obtain rfl : k = rs.length := by omega
      have HE : Hid (ans = (0, 8)) := by rw [← HF.out]; exact misF_end s rs (q + 1)
      go_wp2
      go_ret2
      exact ⟨by rw [HE.out]; rfl, HB1.out⟩
end Go.Proofs.Ytghndkcjeaghbaa
