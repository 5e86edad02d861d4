/-
  The laws' own eqStock, markStock, heldStock; StockRun whatever the number of acts.
-/
import Derived.Test.YtdhdecbdcfdmeaaKsF
import Derived.Test.YtdhdecbdcfdmeaaSlQ
import Derived.Test.YtdhdecbdcfdmeaaSoQ
import Derived.Test.YtdhdecbdcfdmeaaSlM
import Derived.Test.YtdhdecbdcfdmeaaSoM
namespace Go.Proofs.Ytdhdecbdcfdmeaa
open Go.ChangeShapes Go.WideShapes Go.ChangeAt Go.RowKit Go.Deep
set_option linter.unusedVariables false

/-- What StockRun answers, whatever the number of acts. -/
def srO (rs : List RSk) : List (Int × Int) := if rs.length ≤ 200 then stO rs rs.length else []
def srS (rs : List RSk) : StS := if rs.length ≤ 200 then stR rs rs.length else st0
def srC (rs : List RSk) : Int := if rs.length ≤ 200 then 0 else if 4096 < rs.length then 2 else 9
def StkA (os : List (Int × Int)) (σ : StS) (c : Int) (W : World) (e : Ending) (w' : World) : Prop := ∃ ta tc la lc, e = .returned (.tuple #[.slice ta os.length tc, .agg #[.int .i64 σ.day, .int .i64 σ.rc, .int .i64 σ.sd, .int .i64 σ.wa, .int .i64 σ.sh, .slice la σ.L.length lc], .int .i64 c]) ∧ AnsK W.heap.size os σ.L (.slice ta os.length tc) (.slice la σ.L.length lc) w' ∧ Below W.heap.size W w'
theorem stkA_of {os : List (Int × Int)} {σ : StS} {W : World} {e : Ending} {w' : World} (h : ∃ tv lv, e = .returned (.tuple #[tv, .agg (stkV σ lv), .int .i64 0]) ∧ AnsK W.heap.size os σ.L tv lv w' ∧ Below W.heap.size W w') : StkA os σ 0 W e w' := by
  obtain ⟨tv, lv, he, hA, hb⟩ := h
  obtain ⟨ta, tc, rfl⟩ := row_slice hA.1
  obtain ⟨la, lc, rfl⟩ := row_slice hA.2
  exact ⟨ta, tc, la, lc, he, hA, hb⟩
theorem implStk_any (a : Option Addr) (cap : Nat) (rs : List RSk) (hwide : ∀ r ∈ rs, SkWide r) (hok : ∀ r ∈ rs, SkOK r) (w : World) (hr : ReadsSk w.heap.size w a rs) :
    Calls Try.prog 7 #[.slice a rs.length cap] w (StkA (srO rs) (srS rs) (srC rs) w) := by
  unfold srO srS srC
  by_cases h : rs.length ≤ 200
  · rw [if_pos h, if_pos h, if_pos h]
    exact (stockRun_ok a cap rs h hwide hok w hr).mono (fun e w' h => stkA_of h)
  · rw [if_neg h, if_neg h, if_neg h]
    refine (stockRun_no a rs.length cap (by omega) w).mono (fun e w' h => ?_)
    obtain ⟨he, hb⟩ := h
    exact ⟨none, 0, none, 0, he, ⟨World.ownsRow_nil _ _ _ _, World.ownsRow_nil _ _ _ _⟩, hb⟩
theorem specStk_any (a : Option Addr) (cap : Nat) (rs : List RSk) (hok : ∀ r ∈ rs, SkOK r) (w : World) (hr : ReadsSk w.heap.size w a rs) :
    Calls Try.prog 11 #[.slice a rs.length cap] w (StkA (srO rs) (srS rs) (srC rs) w) := by
  unfold srO srS srC
  by_cases h : rs.length ≤ 200
  · rw [if_pos h, if_pos h, if_pos h]
    exact (stockRunS_ok a cap rs h hok w hr).mono (fun e w' h => stkA_of h)
  · rw [if_neg h, if_neg h, if_neg h]
    refine (stockRunS_no a rs.length cap (by omega) w).mono (fun e w' h => ?_)
    obtain ⟨b, he, hB, hn, hb⟩ := h
    exact ⟨some ⟨b, 0, none⟩, 0, none, 0, he, ⟨⟨rfl, .inr ⟨b, 0, #[], rfl, hB, hn, Nat.le_refl _, by unfold maxLen; omega, rfl, rfl⟩⟩, World.ownsRow_nil _ _ _ _⟩, hb⟩
theorem sr_sizes (rs : List RSk) : (srO rs).length ≤ 200 ∧ (srS rs).L.length ≤ 60 := by
  unfold srO srS
  by_cases h : rs.length ≤ 200
  · rw [if_pos h, if_pos h]; exact ⟨by rw [stO_len]; exact h, (stR_ok rs rs.length).len⟩
  · rw [if_neg h, if_neg h]; simp [st0]
def obS (os : List (Int × Int)) : List RSo := os.map fun o => ⟨o.1, o.2⟩
theorem obS_len (os : List (Int × Int)) : (obS os).length = os.length := by simp [obS]
theorem obCells_atS : ∀ (L : List (Int × Int)) (i : Nat), i < L.length → (obCells L)[i * 2]? = some (.int .i64 ((obS L).getD i zSo).cd) ∧ (obCells L)[i * 2 + 1]? = some (.int .i64 ((obS L).getD i zSo).nu)
  | r :: L, 0, h => ⟨rfl, rfl⟩
  | r :: L, i + 1, h => by
    have := obCells_atS L i (by simpa using h)
    rw [show (i + 1) * 2 = i * 2 + 1 + 1 by omega]
    exact this
theorem told_readsS {B : Nat} {W : World} {a : Option Addr} {cp : Nat} {os : List (Int × Int)} (h : W.ownsRow B 36 2 (.slice a os.length cp) os.length (obCells os)) : ReadsSo W.heap.size W a (obS os) := by
  rcases Nat.eq_zero_or_pos os.length with h0 | h0
  · left
    have : os = [] := List.eq_nil_of_length_eq_zero h0
    subst this; rfl
  · right
    obtain ⟨g, c2, hq⟩ := row_some h h0
    simp only [Value.slice.injEq, true_and] at hq
    obtain ⟨rfl, rfl⟩ := hq
    refine ⟨g, 0, rfl, (row_lt h g rfl).2, fun i hi => ?_⟩
    rw [obS_len] at hi
    have hat := obCells_atS os i hi
    rw [Nat.zero_add]
    exact ⟨by rw [h.cellAt _ (by omega)]; exact hat.1, by rw [h.cellAt _ (by omega)]; exact hat.2⟩
set_option maxHeartbeats 4000000 in
theorem eqStk_any (d r s wa sh : Int) (la la2 : Option Addr) (lc lc2 : Nat) (L : List RSl) (hl : L.length ≤ 1000) (w : World) (r1 : ReadsSl w.heap.size w la L) (r2 : ReadsSl w.heap.size w la2 L) :
    Calls Try.prog 14 #[.agg #[.int .i64 d, .int .i64 r, .int .i64 s, .int .i64 wa, .int .i64 sh, .slice la L.length lc], .agg #[.int .i64 d, .int .i64 r, .int .i64 s, .int .i64 wa, .int .i64 sh, .slice la2 L.length lc2]] w fun e w' => e = .returned (.bool true) ∧ Below w.heap.size w w' := by
  have HE : Hid (∀ W, Below w.heap.size w W → Calls Try.prog 30 #[.slice la L.length lc, .slice la2 L.length lc2] W fun e w' => e = .returned (.bool true) ∧ Below W.heap.size W w') := fun W hW => eqSls_any la la2 lc lc2 L (by omega) W ((r1.below hW).mono hW.size) ((r2.below hW).mono hW.size)
  have h1 : (d != d) = false := by simp
  have h2 : (r != r) = false := by simp
  have h3 : (s != s) = false := by simp
  have h4 : (wa != wa) = false := by simp
  have h5 : (sh != sh) = false := by simp
  have l1 : ∀ n : Nat, n < n + 1 + 1 := fun n => by omega
  clear r1 r2
  go_enter Try.func14, Try.ntmps14
  go_wp2_with fail
  (first | go_at_call 30 | skip)
  refine (HE.out _ (chain (below_alloc _ _) (below_alloc _ _))).mono ?_
  rintro e w1 ⟨rfl, hb1⟩
  have H1 : Hid (Below w.heap.size w w1) := chain (chain (below_alloc _ _) (below_alloc _ _)) hb1
  clear hb1 HE
  go_wp2
  go_ret
  exact ⟨rfl, H1.out⟩
theorem markStk_any (B : Nat) (d r s wa sh : Int) (lv : Value) (nl : Nat) (hn : nl ≤ 1048576) (k0 : Nat) (hk : k0 ≤ 100000000) (hk1 : 1 ≤ k0) (xs : List Value) (w : World) (h : w.ownsRow B 38 5 lv nl xs) :
    Calls Try.prog 18 #[.agg #[.int .i64 d, .int .i64 r, .int .i64 s, .int .i64 wa, .int .i64 sh, lv], .int .i64 (k0 : Int)] w fun e w' => e = .returned (.int .i64 ((k0 + nl * 5 : Nat) : Int)) ∧ Fr (fun q => lv.ownBlock = some q) w w' ∧ w'.ownsRow B 38 5 lv nl (mkA (fSl k0) (nl * 5)) := by
  obtain ⟨a, cap, hv⟩ := row_slice h
  have HM : Hid (∀ o, Calls Try.prog 33 #[lv, .int .i64 (k0 : Int)] (w.alloc o) fun e w' => e = .returned (.int .i64 ((k0 + nl * 5 : Nat) : Int)) ∧ Fr (fun q => lv.ownBlock = some q) (w.alloc o) w' ∧ w'.ownsRow B 38 5 lv nl (mkA (fSl k0) (nl * 5))) := fun o => markSl_row B lv nl hn k0 hk hk1 xs _ (h.alloc _)
  clear h
  subst hv
  generalize k0 + nl * 5 = K at *
  go_enter Try.func18, Try.ntmps18
  go_wp2_with fail
  (first | go_at_call 33 | skip)
  refine (HM.out _).mono ?_
  rintro e w1 ⟨rfl, hf1, hr1⟩
  have H1 : Hid (Fr (fun q => (Value.slice a nl cap).ownBlock = some q) w w1 ∧ w1.ownsRow B 38 5 (.slice a nl cap) nl (mkA (fSl k0) (nl * 5))) := ⟨(Fr.of (below_alloc _ _)).trans hf1, hr1⟩
  clear hf1 hr1
  go_wp2
  go_ret
  exact ⟨rfl, H1.out.1, H1.out.2⟩
theorem heldStk_any (B : Nat) (d r s wa sh : Int) (lv : Value) (nl : Nat) (hn : nl ≤ 1048576) (k0 : Nat) (hk : k0 ≤ 100000000) (hk1 : 1 ≤ k0) (w : World) (h : w.ownsRow B 38 5 lv nl (mkA (fSl k0) (nl * 5))) :
    Calls Try.prog 20 #[.agg #[.int .i64 d, .int .i64 r, .int .i64 s, .int .i64 wa, .int .i64 sh, lv], .int .i64 (k0 : Int)] w fun e w' => e = .returned (.int .i64 ((k0 + nl * 5 : Nat) : Int)) ∧ Below w.heap.size w w' := by
  obtain ⟨a, cap, hv⟩ := row_slice h
  have HM : Hid (∀ o, Calls Try.prog 34 #[lv, .int .i64 (k0 : Int)] (w.alloc o) fun e w' => e = .returned (.int .i64 ((k0 + nl * 5 : Nat) : Int)) ∧ Below (w.alloc o).heap.size (w.alloc o) w') := fun o => heldSl_row B lv nl hn k0 hk hk1 _ (h.alloc _)
  clear h
  subst hv
  generalize k0 + nl * 5 = K at *
  have hK : ¬ (K : Int) < 0 := by omega
  go_enter Try.func20, Try.ntmps20
  go_wp2_with fail
  (first | go_at_call 34 | skip)
  refine (HM.out _).mono ?_
  rintro e w1 ⟨rfl, hb1⟩
  have H1 : Hid (Below w.heap.size w w1) := chain (below_alloc _ _) hb1
  clear hb1
  go_wp2
  go_ret
  exact ⟨rfl, H1.out⟩
end Go.Proofs.Ytdhdecbdcfdmeaa
