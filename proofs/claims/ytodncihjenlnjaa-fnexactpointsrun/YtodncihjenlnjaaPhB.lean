/-
  The laws' own eqAccount, markAccount, heldAccount.
-/
import Derived.Test.YtodncihjenlnjaaPhA
import Derived.Test.YtodncihjenlnjaaLoQ
import Derived.Test.YtodncihjenlnjaaPoQ
import Derived.Test.YtodncihjenlnjaaSqR
import Derived.Test.YtodncihjenlnjaaPpO
namespace Go.Proofs.Ytodncihjenlnjaa
open Go.ChangeShapes Go.WideShapes Go.ChangeAt Go.RowKit Go.Deep
set_option linter.unusedVariables false

theorem pointsRunS_no (a : Option Addr) (n cap : Nat) (hn : 200 < n) (w : World) :
    Calls Try.prog 5 #[.slice a n cap] w fun e w' => ∃ b, e = .returned (.tuple #[.slice (some ⟨b, 0, none⟩) 0 0, .agg #[.int .i64 0, .int .i64 0, .int .i64 0, .slice none 0 0], .int .i64 (if 4096 < n then 2 else 9)]) ∧ w.heap.size ≤ b ∧ w'.heap[b]? = some (.cells #[] 49 (0, 0)) ∧ Below w.heap.size w w' := by
  obtain ⟨Q, hQ⟩ : ∃ Q : Ending → World → Prop, Q = fun e w' => ∃ b, e = .returned (.tuple #[.slice (some ⟨b, 0, none⟩) 0 0, .agg #[.int .i64 0, .int .i64 0, .int .i64 0, .slice none 0 0], .int .i64 (if 4096 < n then 2 else 9)]) ∧ w.heap.size ≤ b ∧ w'.heap[b]? = some (.cells #[] 49 (0, 0)) ∧ Below w.heap.size w w' := ⟨_, rfl⟩
  rw [← hQ]
  have HQ : Hid (∀ (c : Int) b w', c = (if 4096 < n then 2 else 9) → w.heap.size ≤ b → w'.heap[b]? = some (.cells #[] 49 (0, 0)) → Below w.heap.size w w' → Q (.returned (.tuple #[.slice (some ⟨b, 0, none⟩) 0 0, .agg #[.int .i64 0, .int .i64 0, .int .i64 0, .slice none 0 0], .int .i64 c])) w') := fun c b w' hc h1 h2 h3 => by
    rw [hQ]; subst hc; exact ⟨b, rfl, h1, h2, h3⟩
  clear hQ
  obtain ⟨W2, hW2⟩ : ∃ W2, W2 = (w.alloc (Obj.cells #[.int .i64 0, .int .i64 0, .int .i64 0, .slice none 0 0] 27)).alloc (Obj.cells #[] 49) := ⟨_, rfl⟩
  have hb : Below w.heap.size w W2 := by rw [hW2]; exact chain (below_alloc _ _) (below_alloc _ _)
  have h0 : W2.heap[w.heap.size]? = some (.cells #[.int .i64 0, .int .i64 0, .int .i64 0, .slice none 0 0] 27 (0, 0)) := by rw [hW2]; exact ((below_alloc _ _).block _ (by simp)).trans (heapNew _ _)
  have h1 : W2.heap[w.heap.size + 1]? = some (.cells #[] 49 (0, 0)) := by
    rw [hW2]
    have := heapNew (w.alloc (Obj.cells #[.int .i64 0, .int .i64 0, .int .i64 0, .slice none 0 0] 27)) (Obj.cells #[] 49)
    simpa using this
  have H0 : Hid (Below w.heap.size w W2 ∧ W2.heap[w.heap.size]? = some (.cells #[.int .i64 0, .int .i64 0, .int .i64 0, .slice none 0 0] 27 (0, 0)) ∧ W2.heap[w.heap.size + 1]? = some (.cells #[] 49 (0, 0))) := ⟨hb, h0, h1⟩
  clear hb h0 h1
  by_cases h : 4096 < n
  · have hi : (4096 : Int) < (n : Int) := by omega
    have HQ2 : Hid (Q (.returned (.tuple #[.slice (some ⟨w.heap.size + 1, 0, none⟩) 0 0, .agg #[.int .i64 0, .int .i64 0, .int .i64 0, .slice none 0 0], .int .i64 2])) W2) := HQ.out 2 _ _ (by rw [if_pos h]) (by omega) H0.out.2.2 H0.out.1
    clear h HQ
    go_enter Try.func5, Try.ntmps5
    go_wp2
    rw [← hW2]
    have q0 := blkCell H0.out.2.1 0 _ rfl
    have q1 := blkCell H0.out.2.1 1 _ rfl
    have q2 := blkCell H0.out.2.1 2 _ rfl
    have q3 := blkCell H0.out.2.1 3 _ rfl
    exact bodyPost_ret (v := .tuple #[.slice (some ⟨w.heap.size + 1, 0, none⟩) 0 0, .agg #[.int .i64 0, .int .i64 0, .int .i64 0, .slice none 0 0], .int .i64 2]) (by simp [results, Try.results5, go_sem, q0, q1, q2, q3]) rfl HQ2.out
  · have hi : ¬ (4096 : Int) < (n : Int) := by omega
    have hi2 : (200 : Int) < (n : Int) := by omega
    have HQ2 : Hid (Q (.returned (.tuple #[.slice (some ⟨w.heap.size + 1, 0, none⟩) 0 0, .agg #[.int .i64 0, .int .i64 0, .int .i64 0, .slice none 0 0], .int .i64 9])) W2) := HQ.out 9 _ _ (by rw [if_neg h]) (by omega) H0.out.2.2 H0.out.1
    clear h HQ
    go_enter Try.func5, Try.ntmps5
    go_wp2
    rw [← hW2]
    have q0 := blkCell H0.out.2.1 0 _ rfl
    have q1 := blkCell H0.out.2.1 1 _ rfl
    have q2 := blkCell H0.out.2.1 2 _ rfl
    have q3 := blkCell H0.out.2.1 3 _ rfl
    exact bodyPost_ret (v := .tuple #[.slice (some ⟨w.heap.size + 1, 0, none⟩) 0 0, .agg #[.int .i64 0, .int .i64 0, .int .i64 0, .slice none 0 0], .int .i64 9]) (by simp [results, Try.results5, go_sem, q0, q1, q2, q3]) rfl HQ2.out
/-- What PointsRun answers, whatever the number of acts. -/
def prO (rs : List RPa) : List (Int × Int) := if rs.length ≤ 200 then ptO rs rs.length else []
def prS (rs : List RPa) : PSt := if rs.length ≤ 200 then ptS rs rs.length else pt0
def prC (rs : List RPa) : Int := if rs.length ≤ 200 then 0 else if 4096 < rs.length then 2 else 9
def PtsP (os : List (Int × Int)) (σ : PSt) (c : Int) (W : World) (e : Ending) (w' : World) : Prop := ∃ ta tc la lc, e = .returned (.tuple #[.slice ta os.length tc, .agg #[.int .i64 σ.day, .int .i64 σ.sp, .int .i64 σ.ex, .slice la σ.L.length lc], .int .i64 c]) ∧ AnsP W.heap.size os σ.L (.slice ta os.length tc) (.slice la σ.L.length lc) w' ∧ Below W.heap.size W w'
theorem ptsP_of {os : List (Int × Int)} {σ : PSt} {W : World} {e : Ending} {w' : World} (h : ∃ tv lv, e = .returned (.tuple #[tv, .agg #[.int .i64 σ.day, .int .i64 σ.sp, .int .i64 σ.ex, lv], .int .i64 0]) ∧ AnsP W.heap.size os σ.L tv lv w' ∧ Below W.heap.size W w') : PtsP os σ 0 W e w' := by
  obtain ⟨tv, lv, he, hA, hb⟩ := h
  obtain ⟨ta, tc, rfl⟩ := row_slice hA.1
  obtain ⟨la, lc, rfl⟩ := row_slice hA.2
  exact ⟨ta, tc, la, lc, he, hA, hb⟩
theorem implPts_any (a : Option Addr) (cap : Nat) (rs : List RPa) (hwide : ∀ r ∈ rs, PaWide r) (w : World) (hr : ReadsPa w.heap.size w a rs) :
    Calls Try.prog 7 #[.slice a rs.length cap] w (PtsP (prO rs) (prS rs) (prC rs) w) := by
  unfold prO prS prC
  by_cases h : rs.length ≤ 200
  · rw [if_pos h, if_pos h, if_pos h]
    exact (pointsRun_ok a cap rs h hwide w hr).mono (fun e w' h => ptsP_of h)
  · rw [if_neg h, if_neg h, if_neg h]
    refine (pointsRun_no a rs.length cap (by omega) w).mono (fun e w' h => ?_)
    obtain ⟨he, hb⟩ := h
    exact ⟨none, 0, none, 0, he, ⟨World.ownsRow_nil _ _ _ _, World.ownsRow_nil _ _ _ _⟩, hb⟩
theorem specPts_any (a : Option Addr) (cap : Nat) (rs : List RPa) (w : World) (hr : ReadsPa w.heap.size w a rs) :
    Calls Try.prog 5 #[.slice a rs.length cap] w (PtsP (prO rs) (prS rs) (prC rs) w) := by
  unfold prO prS prC
  by_cases h : rs.length ≤ 200
  · rw [if_pos h, if_pos h, if_pos h]
    exact (pointsRunS_ok a cap rs h w hr).mono (fun e w' h => ptsP_of h)
  · rw [if_neg h, if_neg h, if_neg h]
    refine (pointsRunS_no a rs.length cap (by omega) w).mono (fun e w' h => ?_)
    obtain ⟨b, he, hB, hn, hb⟩ := h
    exact ⟨some ⟨b, 0, none⟩, 0, none, 0, he, ⟨⟨rfl, .inr ⟨b, 0, #[], rfl, hB, hn, Nat.le_refl _, by unfold maxLen; omega, rfl, rfl⟩⟩, World.ownsRow_nil _ _ _ _⟩, hb⟩
theorem pr_sizes (rs : List RPa) : (prO rs).length ≤ 200 ∧ (prS rs).L.length ≤ 100 := by
  unfold prO prS
  by_cases h : rs.length ≤ 200
  · rw [if_pos h, if_pos h]; exact ⟨by rw [ptO_len]; exact h, (ptS_ok rs rs.length).len⟩
  · rw [if_neg h, if_neg h]; simp [pt0]
def obP (os : List (Int × Int)) : List RPo := os.map fun o => ⟨o.1, o.2⟩
theorem obP_len (os : List (Int × Int)) : (obP os).length = os.length := by simp [obP]
theorem obCells_atP : ∀ (L : List (Int × Int)) (i : Nat), i < L.length → (obCells L)[i * 2]? = some (.int .i64 ((obP L).getD i zPo).cd) ∧ (obCells L)[i * 2 + 1]? = some (.int .i64 ((obP L).getD i zPo).lf)
  | r :: L, 0, h => ⟨rfl, rfl⟩
  | r :: L, i + 1, h => by
    have := obCells_atP L i (by simpa using h)
    rw [show (i + 1) * 2 = i * 2 + 1 + 1 by omega]
    exact this
theorem told_readsP {B : Nat} {W : World} {a : Option Addr} {cp : Nat} {os : List (Int × Int)} (h : W.ownsRow B 49 2 (.slice a os.length cp) os.length (obCells os)) : ReadsPo W.heap.size W a (obP os) := by
  rcases Nat.eq_zero_or_pos os.length with h0 | h0
  · left
    have : os = [] := List.eq_nil_of_length_eq_zero h0
    subst this; rfl
  · right
    obtain ⟨g, c2, hq⟩ := row_some h h0
    simp only [Value.slice.injEq, true_and] at hq
    obtain ⟨rfl, rfl⟩ := hq
    refine ⟨g, 0, rfl, (row_lt h g rfl).2, fun i hi => ?_⟩
    rw [obP_len] at hi
    have hat := obCells_atP os i hi
    rw [Nat.zero_add]
    exact ⟨by rw [h.cellAt _ (by omega)]; exact hat.1, by rw [h.cellAt _ (by omega)]; exact hat.2⟩
set_option maxHeartbeats 2000000 in
theorem eqAcc_any (d s x : Int) (la la2 : Option Addr) (lc lc2 : Nat) (L : List RLo) (hl : L.length ≤ 1000) (w : World) (r1 : ReadsLo w.heap.size w la L) (r2 : ReadsLo w.heap.size w la2 L) :
    Calls Try.prog 9 #[.agg #[.int .i64 d, .int .i64 s, .int .i64 x, .slice la L.length lc], .agg #[.int .i64 d, .int .i64 s, .int .i64 x, .slice la2 L.length lc2]] w fun e w' => e = .returned (.bool true) ∧ Below w.heap.size w w' := by
  have HE : Hid (∀ W, Below w.heap.size w W → Calls Try.prog 22 #[.slice la L.length lc, .slice la2 L.length lc2] W fun e w' => e = .returned (.bool true) ∧ Below W.heap.size W w') := fun W hW => eqLos_any la la2 lc lc2 L (by omega) W ((r1.below hW).mono hW.size) ((r2.below hW).mono hW.size)
  have h1 : (d != d) = false := by simp
  have h2 : (s != s) = false := by simp
  have h3 : (x != x) = false := by simp
  have l1 : ∀ n : Nat, n < n + 1 + 1 := fun n => by omega
  clear r1 r2
  go_enter Try.func9, Try.ntmps9
  go_wp2_with fail
  (first | go_at_call 22 | skip)
  refine (HE.out _ (chain (below_alloc _ _) (below_alloc _ _))).mono ?_
  rintro e w1 ⟨rfl, hb1⟩
  have H1 : Hid (Below w.heap.size w w1) := chain (chain (below_alloc _ _) (below_alloc _ _)) hb1
  clear hb1 HE
  go_wp2
  go_ret
  exact ⟨rfl, H1.out⟩
theorem markAcc_any (B : Nat) (d s x : Int) (lv : Value) (nl : Nat) (hn : nl ≤ 1048576) (k0 : Nat) (hk : k0 ≤ 100000000) (xs : List Value) (w : World) (h : w.ownsRow B 67 2 lv nl xs) :
    Calls Try.prog 13 #[.agg #[.int .i64 d, .int .i64 s, .int .i64 x, lv], .int .i64 (k0 : Int)] w fun e w' => e = .returned (.int .i64 ((k0 + nl * 2 : Nat) : Int)) ∧ Fr (fun q => lv.ownBlock = some q) w w' ∧ w'.ownsRow B 67 2 lv nl (mkV k0 (nl * 2)) := by
  obtain ⟨a, cap, hv⟩ := row_slice h
  have HM : Hid (∀ o, Calls Try.prog 24 #[lv, .int .i64 (k0 : Int)] (w.alloc o) fun e w' => e = .returned (.int .i64 ((k0 + nl * 2 : Nat) : Int)) ∧ Fr (fun q => lv.ownBlock = some q) (w.alloc o) w' ∧ w'.ownsRow B 67 2 lv nl (mkV k0 (nl * 2))) := fun o => markLo_row B lv nl hn k0 hk xs _ (h.alloc _)
  clear h
  subst hv
  go_enter Try.func13, Try.ntmps13
  go_wp2_with fail
  (first | go_at_call 24 | skip)
  refine (HM.out _).mono ?_
  rintro e w1 ⟨rfl, hf1, hr1⟩
  have H1 : Hid (Fr (fun q => (Value.slice a nl cap).ownBlock = some q) w w1 ∧ w1.ownsRow B 67 2 (.slice a nl cap) nl (mkV k0 (nl * 2))) := ⟨(Fr.of (below_alloc _ _)).trans hf1, hr1⟩
  clear hf1 hr1
  go_wp2
  go_ret
  exact ⟨rfl, H1.out.1, H1.out.2⟩
theorem heldAcc_any (B : Nat) (d s x : Int) (lv : Value) (nl : Nat) (hn : nl ≤ 1048576) (k0 : Nat) (hk : k0 ≤ 100000000) (w : World) (h : w.ownsRow B 67 2 lv nl (mkV k0 (nl * 2))) :
    Calls Try.prog 15 #[.agg #[.int .i64 d, .int .i64 s, .int .i64 x, lv], .int .i64 (k0 : Int)] w fun e w' => e = .returned (.int .i64 ((k0 + nl * 2 : Nat) : Int)) ∧ Below w.heap.size w w' := by
  obtain ⟨a, cap, hv⟩ := row_slice h
  have HM : Hid (∀ o, Calls Try.prog 25 #[lv, .int .i64 (k0 : Int)] (w.alloc o) fun e w' => e = .returned (.int .i64 ((k0 + nl * 2 : Nat) : Int)) ∧ Below (w.alloc o).heap.size (w.alloc o) w') := fun o => heldLo_row B lv nl hn k0 hk _ (h.alloc _)
  clear h
  subst hv
  generalize k0 + nl * 2 = K at *
  have hK : ¬ (K : Int) < 0 := by omega
  go_enter Try.func15, Try.ntmps15
  go_wp2_with fail
  (first | go_at_call 25 | skip)
  refine (HM.out _).mono ?_
  rintro e w1 ⟨rfl, hb1⟩
  have H1 : Hid (Below w.heap.size w w1) := chain (below_alloc _ _) hb1
  clear hb1
  go_wp2
  go_ret
  exact ⟨rfl, H1.out⟩
end Go.Proofs.Ytodncihjenlnjaa
