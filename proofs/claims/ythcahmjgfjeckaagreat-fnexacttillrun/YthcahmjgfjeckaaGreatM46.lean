/-
  Texts of this claim laid together: Mark0, MarkText, ItM, TaE.
-/
import Derived.Test.YthcahmjgfjeckaaGreatM1
import Derived.Test.YthcahmjgfjeckaaGreatM45
import Derived.Test.YthcahmjgfjeckaaGreatM24
/-
  Which blocks a mark turns; small lemmas on answers that own their memory (the same words as in the texts on packs, for seats that have no packs).
-/
namespace Go.Proofs.YthcahmjgfjeckaaGreat
open Go.ChangeShapes Go.WideShapes Go.ChangeAt Go.RowKit
set_option linter.unusedVariables false

/-- All blocks but D are as they were. -/
def Apart (D : Nat) (w w' : World) : Prop := w.heap.size ≤ w'.heap.size ∧ ∀ k, k ≠ D → k < w.heap.size → w'.heap[k]? = w.heap[k]?
theorem own2_apart {B D : Nat} {w w' : World} {g : Option Addr} {L : List Int} (h : Own2 B w g L) (ha : Apart D w w') (hne : ∀ c, g = some ⟨c, 0, none⟩ → c ≠ D ∨ L = []) : Own2 B w' g L := by
  rcases h with h | ⟨b, hg, hB, hl, hi, hf⟩
  · exact .inl h
  · rcases hne b hg with h | h
    · have e := ha.2 b h hl
      exact .inr ⟨b, hg, hB, Nat.lt_of_lt_of_le hl ha.1, fun i hk => (World.cell?_of_block (w := w) (a := ⟨b, 0 + i, none⟩) e).trans (hi i hk), fun i hk => (World.frozen?_of_block (w := w) (a := ⟨b, 0 + i, none⟩) e).trans (hf i hk)⟩
    · exact .inl h
/-- Block b has m cells that may be written; below it, and beside it, nothing has turned. -/
def Mk (b m : Nat) (w wr : World) : Prop := (Below b w wr ∧ Apart b w wr) ∧ b < wr.heap.size ∧ (∀ j, j < m → (wr.cell? ⟨b, j, none⟩).isSome = true) ∧ ∀ j, j < m → wr.frozen? ⟨b, j, none⟩ = false
theorem Mk.later {b m : Nat} {w wr w2 : World} (h : Mk b m w wr) (hb : Below wr.heap.size wr w2) : Mk b m w w2 := by
  obtain ⟨⟨h1, ha⟩, h2, h3, h4⟩ := h
  exact ⟨⟨h1.trans (hb.mono (Nat.le_of_lt h2)), Nat.le_trans ha.1 hb.size, fun k hk hl => (hb.block k (Nat.lt_of_lt_of_le hl ha.1)).trans (ha.2 k hk hl)⟩, Nat.lt_of_lt_of_le h2 hb.size, fun j hj => by rw [hb.cell (p := ⟨b, j, none⟩) h2]; exact h3 j hj, fun j hj => by rw [hb.frozen (p := ⟨b, j, none⟩) h2]; exact h4 j hj⟩
theorem Mk.set {b m : Nat} {w wr : World} (h : Mk b m w wr) (o : Nat) (v : Value) : Mk b m w (wr.setCell ⟨b, o, none⟩ v) := by
  obtain ⟨⟨h1, ha⟩, h2, h3, h4⟩ := h
  refine ⟨⟨h1.setCell (Nat.le_refl _) _, by rw [World.size_setCell]; exact ha.1, fun k hk hl => (Below.heap_setCell _ _ _ _ hk).trans (ha.2 k hk hl)⟩, by rw [World.size_setCell]; exact h2, fun j hj => ?_, fun j hj => by rw [World.frozen?_setCell]; exact h4 j hj⟩
  obtain ⟨u, hu⟩ := Option.isSome_iff_exists.mp (h3 j hj)
  by_cases e : j = o
  · subst e; rw [World.cell?_setCell_same _ _ _ hu]; rfl
  · rw [World.cell?_setCell_other _ _ _ _ (fun h => e (by first | (simp at h; omega) | (simp at h; done) | (cases h; rfl)))]; rw [hu]; rfl
theorem Mk.at {b m : Nat} {w wr : World} (h : Mk b m w wr) (j : Nat) (hj : j < m) : ∃ v, wr.cell? ⟨b, j, none⟩ = some v ∧ wr.frozen? ⟨b, j, none⟩ = false := by
  obtain ⟨u, hu⟩ := Option.isSome_iff_exists.mp (h.2.2.1 j hj)
  exact ⟨u, hu, h.2.2.2 j hj⟩
theorem Mk.start {b n : Nat} {w : World} (hc : b < w.heap.size) (h : ∀ j, j < n → (w.cell? ⟨b, j, none⟩).isSome = true) (hf : ∀ j, j < n → w.frozen? ⟨b, j, none⟩ = false) : Mk b n w w :=
  ⟨⟨Below.refl _ _, Nat.le_refl _, fun _ _ _ => rfl⟩, hc, h, hf⟩
theorem own2_ne {B : Nat} {w : World} {g : Option Addr} {L : List Int} (h : Own2 B w g L) : ∀ c, g = some ⟨c, 0, none⟩ → c ≠ w.heap.size ∨ L = [] := fun c hc => by
  rcases h with h | ⟨b, hg, _, hlt, _⟩
  · exact .inr h
  · rw [hg] at hc; cases hc; exact .inl (by omega)
theorem own2_lt {B D : Nat} {w : World} {g : Option Addr} {L : List Int} (h : Own2 B w g L) (hD : w.heap.size ≤ D) : ∀ c, g = some ⟨c, 0, none⟩ → c < D ∨ L = [] := fun c hc => by
  rcases h with h | ⟨b, hg, _, hlt, _⟩
  · exact .inr h
  · rw [hg] at hc; cases hc; exact .inl (by omega)
theorem own2_low {B D : Nat} {w w' : World} {g : Option Addr} {L : List Int} (h : Own2 B w g L) (hb : Below D w w') (hlt : ∀ c, g = some ⟨c, 0, none⟩ → c < D ∨ L = []) : Own2 B w' g L := by
  rcases h with h | ⟨b, hg, hB, hl, hi, hf⟩
  · exact .inl h
  · rcases hlt b hg with h | h
    · exact .inr ⟨b, hg, hB, Nat.lt_of_lt_of_le hl hb.size, hi.below hb h, hf.below hb h⟩
    · exact .inl h
theorem own2_ge {B D : Nat} {w : World} {g : Option Addr} {L : List Int} (h : Own2 B w g L) (hD : D < B) : ∀ c, g = some ⟨c, 0, none⟩ → c ≠ D ∨ L = [] := fun c hc => by
  rcases h with h | ⟨b, hg, hB, hlt, _⟩
  · exact .inr h
  · rw [hg] at hc; cases hc; exact .inl (by omega)
end Go.Proofs.YthcahmjgfjeckaaGreat

/-
  The laws' own markText: for every number from 1 to a billion it answers some text, and turns nothing that was there.
-/
namespace Go.Proofs.YthcahmjgfjeckaaGreat
open Go.ChangeShapes Go.WideShapes Go.ChangeAt Go.RowKit
set_option linter.unusedVariables false

theorem oneByte (v : Nat) (hv : v < 256) (w : World) (b : Nat) (h : w.cell? ⟨b, 0, none⟩ = some (.int .u8 (v : Int))) :
    (convert 98 9 (.slice (some ⟨b, 0, none⟩) 1 1)).run Tryz.prog w = .ok (.string ⟨#[UInt8.ofNat v]⟩) w := by
  have e : (UInt8.ofNat v).toNat = v := by simp; omega
  exact run_convert_bytes_back (P := Tryz.prog) w 98 9 5 ⟨b, 0, none⟩ 1 [UInt8.ofNat v] Tryz.underlying98 Tryz.underlying5 Tryz.underlying9 (by
    intro j hj
    have hj0 : j = 0 := by simp at hj; exact hj
    subst hj0
    show w.cell? _ = some (.int .u8 ((UInt8.ofNat v).toNat : Int))
    rw [e]; simpa [Addr.add] using h)

/-- The digits of u, ahead of s. -/
def mkRun : Nat → Nat → ByteArray → ByteArray
  | 0, _, s => s
  | f + 1, u, s => if u = 0 then s else mkRun f (u / 10) (⟨#[UInt8.ofNat (48 + u % 10)]⟩ ++ s)
def mkS (u : Nat) : ByteArray := ⟨#[109]⟩ ++ mkRun u u ⟨#[]⟩
theorem mkRun_zero : ∀ f s, mkRun f 0 s = s
  | 0, s => rfl
  | f + 1, s => by unfold mkRun; rw [if_pos rfl]

set_option maxHeartbeats 2000000 in
theorem markText_any (u0 : Nat) (h0 : 1 ≤ u0) (h1 : u0 ≤ 1000000000) (w : World) :
    Calls Tryz.prog 35 #[.int .i64 (u0 : Int)] w fun e w' => e = .returned (.string (mkS u0)) ∧ Below w.heap.size w w' := by
  have g0 : (1 : Int) ≤ (u0 : Int) := by omega
  have g1 : (u0 : Int) ≤ 1000000000 := by omega
  go_enter Tryz.func35, Tryz.ntmps35
  go_wp2
  go_loopw [0, 3] (fun k s wr => ∃ (f u : Nat) (t : ByteArray), k = .int .i64 (u : Int) ∧ s = .string t ∧ u ≤ f ∧ u ≤ 1000000000 ∧ t.size + u ≤ u0 ∧ mkRun u0 u0 ⟨#[]⟩ = mkRun f u t ∧ Below w.heap.size w wr) (fun k _ _ => (intOf k).toNat)
  case atStart => exact ⟨u0, u0, ⟨#[]⟩, rfl, rfl, Nat.le_refl _, h1, by show 0 + u0 ≤ u0; omega, rfl, Below.refl _ _⟩
  case round =>
    obtain ⟨f, u, t, rfl, rfl, huf, hu9, hts, hrun, hb⟩ := hrel
    have HRn : Hid (mkRun u0 u0 ⟨#[]⟩ = mkRun f u t) := hrun
    have HB : Hid (Below w.heap.size w wr) := hb
    clear hrun hb
    by_cases hz : u = 0
    · subst hz
      have HE : Hid (mkS u0 = ⟨#[109]⟩ ++ t) := by show _ = _; unfold mkS; rw [HRn.out, mkRun_zero]
      have hsz : t.size ≤ 1000000000 := by omega
      clear hts
      go_wp2
      go_ret
      exact ⟨by rw [HE.out]; rfl, HB.out⟩
    · have hpos : (1 : Int) ≤ (u : Int) := by omega
      obtain ⟨f', rfl⟩ : ∃ f', f = f' + 1 := ⟨f - 1, by omega⟩
      have HS : Hid (mkRun (f' + 1) u t = mkRun f' (u / 10) (⟨#[UInt8.ofNat (48 + u % 10)]⟩ ++ t)) := by show _ = _; rw [mkRun, if_neg hz]
      have e48 : (48 : Int) + (u : Int) % 10 = ((48 + u % 10 : Nat) : Int) := by omega
      have hcv : ∀ W b, W.cell? ⟨b, 0, none⟩ = some (.int .u8 (48 + (u : Int) % 10)) → (convert 98 9 (.slice (some ⟨b, 0, none⟩) 1 1)).run Tryz.prog W = .ok (.string ⟨#[UInt8.ofNat (48 + u % 10)]⟩) W := fun W b h => by
        rw [e48] at h
        exact oneByte (48 + u % 10) (by omega) W b h
      clear e48
      have tm : (u : Int).tmod 10 = (u : Int) % 10 := Int.tmod_eq_emod_of_nonneg (by omega)
      have tq : (u : Int).tdiv 10 = (u : Int) / 10 := Int.tdiv_eq_ediv_of_nonneg (by omega)
      have wb : IntKind.u8.wrap (48 + (u : Int) % 10) = 48 + (u : Int) % 10 := by simp [IntKind.wrap, IntKind.signed, IntKind.bits]; omega
      have hsz : t.size ≤ 1000000000 := by omega
      have hsz' : (1 : Nat) + t.size ≤ 1000000001 := by omega
      have HT : Hid (t.size + u ≤ u0) := hts
      clear hts
      go_wp2
      have eb : UInt8.ofNat (48 + u % 10) = 48 + UInt8.ofNat (u % 10) := by simp
      refine ⟨⟨f', u / 10, _, by congr 1, rfl, by omega, by omega, ?_, ?_, chain HB.out (below_alloc _ _)⟩, by simp [intOf]; omega⟩
      · rw [ByteArray.size_append]
        have := HT.out
        show 1 + t.size + u / 10 ≤ u0
        omega
      · rw [HRn.out, HS.out, eb]
end Go.Proofs.YthcahmjgfjeckaaGreat

/-
  The laws' own markItemS turns one block alone.
-/
namespace Go.Proofs.YthcahmjgfjeckaaGreat
open Go.ChangeShapes Go.WideShapes Go.ChangeAt Go.RowKit Go.Deep
set_option linter.unusedVariables false

theorem its_some {w : World} {b : Nat} {rs : List RIt} (h : ItsAt w b 0 rs) : ∀ j, j < rs.length * 5 → (w.cell? ⟨b, j, none⟩).isSome = true := fun j hj => by
  obtain ⟨h0, h1, h2, h3, h4⟩ := h (j / 5) (by omega)
  rcases (show j % 5 = 0 ∨ j % 5 = 1 ∨ j % 5 = 2 ∨ j % 5 = 3 ∨ j % 5 = 4 by omega) with e | e | e | e | e
  · rw [show j = 0 + j / 5 * 5 by omega, h0]; rfl
  · rw [show j = 0 + j / 5 * 5 + 1 by omega, h1]; rfl
  · rw [show j = 0 + j / 5 * 5 + 2 by omega, h2]; rfl
  · rw [show j = 0 + j / 5 * 5 + 3 by omega, h3]; rfl
  · rw [show j = 0 + j / 5 * 5 + 4 by omega, h4]; rfl

set_option maxHeartbeats 2000000 in
theorem markIts_any (b n cap : Nat) (hn : n ≤ 1048576) (k0 : Nat) (hk : k0 ≤ 100000000) (hk1 : 1 ≤ k0) (w : World) (hM : Mk b (n * 5) w w) :
    Calls Tryz.prog 14 #[.slice (some ⟨b, 0, none⟩) n cap, .int .i64 (k0 : Int)] w fun e w' => e = .returned (.int .i64 ((k0 : Int) + (n : Int) * 5)) ∧ Mk b (n * 5) w w' := by
  have H0 : Hid (Mk b (n * 5) w w) := hM
  clear hM
  go_enter Tryz.func14, Tryz.ntmps14
  go_wp2
  go_loopw [1, 5] (fun k i wr => ∃ j : Nat, j ≤ n ∧ i = .int .i64 (j : Int) ∧ k = .int .i64 ((k0 : Int) + (j : Int) * 5) ∧ Mk b (n * 5) w wr) (fun _ i _ => n - (intOf i).toNat)
  case atStart => exact ⟨0, Nat.zero_le _, rfl, by simp, H0.out⟩
  case round =>
    obtain ⟨j, hj, rfl, rfl, hm⟩ := hrel
    have HM : Hid (Mk b (n * 5) w wr) := hm
    clear hm
    by_cases hlt : j < n
    · have hlt' : (j : Int) < (n : Int) := by omega
      have t0 := fun w => markText_any (k0 + j * 5) (by omega) (by omega) w
      have e0 : ((k0 + j * 5 : Nat) : Int) = (k0 : Int) + (j : Int) * 5 := by omega
      rw [e0] at t0
      clear e0
      generalize mkS (k0 + j * 5) = s0 at *
      go_wp2_with fail
      (first | go_at_call 35 | skip)
      refine (t0 _).mono ?_
      rintro e w0' ⟨rfl, hb0⟩
      have HM0 : Hid (Mk b (n * 5) w w0') := HM.out.later hb0
      obtain ⟨v0, hv0, hf0⟩ := HM0.out.at (j * 5) (by omega)
      obtain ⟨v1, hv1, hf1⟩ := HM0.out.at (j * 5 + 1) (by omega)
      obtain ⟨v2, hv2, hf2⟩ := HM0.out.at (j * 5 + 2) (by omega)
      obtain ⟨v3, hv3, hf3⟩ := HM0.out.at (j * 5 + 3) (by omega)
      obtain ⟨v4, hv4, hf4⟩ := HM0.out.at (j * 5 + 4) (by omega)
      clear hb0 t0
      go_wp2
      exact ⟨⟨j + 1, by omega, by go_num, by go_num, ((((HM0.out.set _ _).set _ _).set _ _).set _ _).set _ _⟩, by simp [intOf]; omega⟩
    · obtain rfl : j = n := by omega
      go_wp2
      go_ret
      exact ⟨rfl, HM.out⟩
end Go.Proofs.YthcahmjgfjeckaaGreat

/-
  The laws' own helpers on lists of TillAct: sz.., to...
-/
namespace Go.Proofs.YthcahmjgfjeckaaGreat
open Go.ChangeShapes Go.WideShapes Go.ChangeAt Go.RowKit Go.Deep
set_option linter.unusedVariables false

theorem szTa_any (r0 : Int) (r1 : ByteArray) (r2 : Int) (hs1 : r1.size ≤ maxLen) (l : Int) (hl : 0 ≤ l) (hl' : l ≤ 1048576) (w : World) :
    Calls Tryz.prog 21 #[.agg #[.int .i64 r0, .string r1, .int .i64 r2], .int .i64 l] w fun e w' => (∃ x : Int, e = .returned (.int .i64 x) ∧ (x < 0 ∨ (0 ≤ x ∧ x ≤ l ∧ (r1.size : Int) ≤ l))) ∧ Below w.heap.size w w' := by
  unfold maxLen at hs1
  rcases (by omega : (l < (r1.size : Int)) ∨ ((r1.size : Int) ≤ l)) with c0 | c0
  all_goals
    go_enter Tryz.func21, Tryz.ntmps21
    go_wp2
    go_ret
    first
    | exact ⟨⟨-1, rfl, .inl (by omega)⟩, below_alloc _ _⟩
    | exact ⟨⟨_, rfl, .inr ⟨by omega, by omega, by omega⟩⟩, below_alloc _ _⟩
def SzTa (rs : List RTa) (w : World) (e : Ending) (w' : World) : Prop := ∃ x : Int, e = .returned (.int .i64 x) ∧ (x < 0 ∨ (0 ≤ x ∧ x ≤ 1048576 ∧ rs.length ≤ 1048576 ∧ ∀ r ∈ rs, TaOK r)) ∧ Below w.heap.size w w'
theorem take_nextTa {p : RTa → Prop} {rs : List RTa} {k : Nat} (h : k < rs.length) (ha : ∀ r ∈ rs.take k, p r) (hk : p (rs.getD k zTa)) : ∀ r ∈ rs.take (k + 1), p r := fun r hr => by
  rw [List.take_succ_eq_append_getElem h] at hr
  rcases List.mem_append.mp hr with h' | h'
  · exact ha r h'
  · simp at h'
    have e : rs.getD k zTa = rs[k] := by simp [List.getD_eq_getElem?_getD, h]
    rw [h', ← e]; exact hk

set_option maxHeartbeats 1000000 in
theorem szTas_any (a : Option Addr) (cap : Nat) (rs : List RTa) (hl : rs.length ≤ maxLen) (hp : ∀ r ∈ rs, TaWide r) (x0 : Int) (hx0 : 0 ≤ x0) (hx1 : x0 ≤ 1048576) (w : World) (hr : ReadsTa w.heap.size w a rs) :
    Calls Tryz.prog 5 #[.slice a rs.length cap, .int .i64 x0] w (SzTa rs w) := by
  have HR : Hid (ReadsTa w.heap.size w a rs) := hr
  have HP : Hid (∀ r ∈ rs, TaWide r) := hp
  clear hr hp
  unfold maxLen at hl
  by_cases c1 : x0 < (rs.length : Int)
  · have hwr : IntKind.i64.wrap (x0 - (rs.length : Int)) = x0 - (rs.length : Int) := wrap_id _ (by omega) (by omega)
    go_enter Tryz.func5, Tryz.ntmps5
    go_wp2
    go_ret
    exact ⟨-1, rfl, .inl (by omega), Below.refl _ _⟩
  · have hwr : IntKind.i64.wrap (x0 - (rs.length : Int)) = x0 - (rs.length : Int) := wrap_id _ (by omega) (by omega)
    go_enter Tryz.func5, Tryz.ntmps5
    go_wp2
    go_loopw [1, 5] (fun l c wr => ∃ (k : Nat) (x : Int), k ≤ rs.length ∧ c = .int .i64 (k : Int) ∧ l = .int .i64 x ∧ 0 ≤ x ∧ x ≤ 1048576 ∧ (∀ r ∈ rs.take k, TaOK r) ∧ Below w.heap.size w wr) (fun _ c _ => rs.length - (intOf c).toNat)
    case atStart => exact ⟨0, x0 - (rs.length : Int), Nat.zero_le _, rfl, rfl, by omega, by omega, by simp, Below.refl _ _⟩
    case round =>
      obtain ⟨k, x, hk, rfl, rfl, hx0, hx1, hall, hb⟩ := hrel
      have HA : Hid (∀ r ∈ rs.take k, TaOK r) := hall
      have HB : Hid (Below w.heap.size w wr) := hb
      clear hall hb
      by_cases hlt : k < rs.length
      · have hlt' : (k : Int) < (rs.length : Int) := by omega
        rcases HR.out with h | ⟨b0, o0, ha, hB0, ia⟩
        · rw [h] at hlt; simp at hlt
        obtain ⟨c0, c1, c2⟩ := (ia.below HB.out hB0) k hlt
        have hW : TaWide (rs.getD k zTa) := getTa HP.out hlt
        have HN : Hid (((rs.getD k zTa).tx.size : Int) ≤ x → ∀ r ∈ rs.take (k + 1), TaOK r) := fun q1 => take_nextTa hlt HA.out (show (rs.getD k zTa).tx.size ≤ 2000000 from by omega)
        rw [ha]
        clear ia
        generalize rs.getD k zTa = r at *
        obtain ⟨r0, r1, r2⟩ := r
        dsimp only at c0 c1 c2 HN
        obtain ⟨g0, g1, g2⟩ := hW
        have hsz := fun w => szTa_any r0 r1 r2 g1 x hx0 hx1 w
        clear g0 g1 g2
        go_wp2_with (go_at_call 21; refine (hsz _).mono ?_; rintro e w2 ⟨⟨y, rfl, hy⟩, hb2⟩; have HY : Hid _ := hy; have HB2 : Hid (Below w.heap.size w w2) := chain HB.out hb2; clear hy hb2)
        · go_ret
          exact ⟨-1, rfl, .inl (by omega), HB2.out⟩
        · rcases HY.out with h | ⟨y0, y1, z1⟩
          · omega
          have HN1 : Hid (∀ r ∈ rs.take (k + 1), TaOK r) := HN.out z1
          go_roundw
          case rel => exact ⟨k + 1, y, by omega, by go_num, rfl, by omega, by omega, HN1.out, HB2.out⟩
          case measure => simp [intOf]; omega
      · have hle : (rs.length : Int) ≤ (k : Int) := by omega
        have HE : Hid (∀ r ∈ rs, TaOK r) := by
          have := HA.out
          rw [List.take_of_length_le (by omega)] at this
          exact this
        go_wp2
        go_ret
        exact ⟨x, rfl, .inr ⟨hx0, hx1, by omega, HE.out⟩, HB.out⟩

/-! ### toTillActS -/
theorem toTa_any (r0 : Int) (r1 : ByteArray) (r2 : Int) (w : World) :
    Calls Tryz.prog 25 #[.agg #[.int .i64 r0, .string r1, .int .i64 r2]] w fun e w' => e = .returned (.agg #[.int .i64 r0, .string r1, .int .i64 r2]) ∧ Below w.heap.size w w' := by
  have l1 : ∀ n : Nat, n < n + 1 + 1 := fun n => by omega
  have l2 : ∀ n : Nat, n < n + 2 := fun n => by omega
  have l3 : ∀ n : Nat, n < n + 3 := fun n => by omega
  have l4 : ∀ n : Nat, n + 1 < n + 3 := fun n => by omega
  have l5 : ∀ n : Nat, n + 2 < n + 3 := fun n => by omega
  go_enter Tryz.func25, Tryz.ntmps25
  go_wp2
  refine bodyPost_ret (v := .agg #[.int .i64 r0, .string r1, .int .i64 r2]) (by simp [results, Tryz.results25, go_sem]) rfl ⟨rfl, ?_⟩
  repeat (first | exact Below.refl _ _ | refine chain ?_ (below_alloc _ _) | refine Below.setCell ?_ (by dsimp only; omega) _)
def taCell (r : RTa) (j : Nat) : Value := if j = 0 then .int .i64 r.kd else if j = 1 then .string r.tx else .int .i64 r.nm
theorem taInfo : (Tryz.prog.info? 61).map (fun i => (i.zero, i.size, i.bytes)) = some (some (.agg #[.int .i64 0, .string ⟨#[]⟩, .int .i64 0]), 3, 32) := by kernel_rfl
theorem makeTas (n : Nat) (hn : n ≤ 100000000) (w : World) :
    (Instr.makeSlice 38 (.int .i64 (n : Int)) (.int .i64 (n : Int))).run Tryz.prog w = .ok (.slice (some ⟨w.heap.size, 0, none⟩) n n) (w.alloc (.cells (madeCells #[.int .i64 0, .string ⟨#[]⟩, .int .i64 0] (n * 3)) 61)) := by
  obtain ⟨i, hi, hzz⟩ := Option.map_eq_some_iff.1 taInfo
  simp only [Prod.mk.injEq] at hzz
  obtain ⟨hz, hs, hb⟩ := hzz
  have hr := run_make (P := Tryz.prog) w 38 61 i _ Tryz.underlying38 hi hz .i64 .i64 (n : Int) (n : Int) (by omega) (Int.le_refl _) (by rw [hb]; omega) (by omega)
  simp only [Int.toNat_natCast, hs] at hr
  exact hr
theorem tas_made (w : World) (n : Nat) : (w.alloc (.cells (madeCells #[.int .i64 0, .string ⟨#[]⟩, .int .i64 0] (n * 3)) 61)).rowIs w.heap.size 61 (n * 3) (fun j => taCell zTa (j % 3)) := by
  refine ⟨_, heapNew _ _, size_madeCells _ _, fun i hi => ?_⟩
  have h6 : i % 3 = 0 ∨ i % 3 = 1 ∨ i % 3 = 2 := by omega
  unfold taCell zTa
  rcases h6 with h | h | h <;> simp [madeCells, hi, h] <;> rfl
def taFill (rs : List RTa) (k j : Nat) : Value := taCell (if j / 3 < k then rs.getD (j / 3) zTa else zTa) (j % 3)
theorem taFill_set {w : World} {b : Nat} {rs : List RTa} {n k : Nat} (h : w.rowIs b 61 (n * 3) (taFill rs k)) :
    (((w.setCell ⟨b, k * 3, none⟩ (.int .i64 (rs.getD k zTa).kd)).setCell ⟨b, k * 3 + 1, none⟩ (.string (rs.getD k zTa).tx)).setCell ⟨b, k * 3 + 2, none⟩ (.int .i64 (rs.getD k zTa).nm)).rowIs b 61 (n * 3) (taFill rs (k + 1)) := by
  refine (((h.set (k * 3) _).set (k * 3 + 1) _).set (k * 3 + 2) _).congr fun j hj => ?_
  unfold taFill
  by_cases e2 : j = k * 3 + 2
  · rw [if_pos e2, if_pos (by omega), show j / 3 = k by omega, show j % 3 = 2 by omega]; rfl
  rw [if_neg e2]
  by_cases e1 : j = k * 3 + 1
  · rw [if_pos e1, if_pos (by omega), show j / 3 = k by omega, show j % 3 = 1 by omega]; rfl
  rw [if_neg e1]
  by_cases e0 : j = k * 3
  · rw [if_pos e0, if_pos (by omega), show j / 3 = k by omega, show j % 3 = 0 by omega]; rfl
  rw [if_neg e0]
  by_cases h : j / 3 < k
  · rw [if_pos h, if_pos (by omega)]
  · rw [if_neg h, if_neg (by omega)]
def FreeTa (w : World) (b n : Nat) : Prop := ∀ j, j < n * 3 → w.frozen? ⟨b, j, none⟩ = false
theorem FreeTa.below {B : Nat} {w w' : World} {b n : Nat} (h : FreeTa w b n) (hb : Below B w w') (hB : b < B) : FreeTa w' b n := fun j hj => (hb.frozen (p := ⟨b, j, none⟩) hB).trans (h j hj)
theorem tasAt_of {w : World} {b : Nat} {rs : List RTa} (h : w.rowIs b 61 (rs.length * 3) (taFill rs rs.length)) : TasAt w b 0 rs := fun i hi => by
  refine ⟨?_, ?_, ?_⟩
  · rw [h.cell (i := 0 + i * 3) (by omega)]; unfold taFill; rw [if_pos (by omega), show (0 + i * 3) / 3 = i by omega, show (0 + i * 3) % 3 = 0 by omega]; rfl
  · rw [h.cell (i := 0 + i * 3 + 1) (by omega)]; unfold taFill; rw [if_pos (by omega), show (0 + i * 3 + 1) / 3 = i by omega, show (0 + i * 3 + 1) % 3 = 1 by omega]; rfl
  · rw [h.cell (i := 0 + i * 3 + 2) (by omega)]; unfold taFill; rw [if_pos (by omega), show (0 + i * 3 + 2) / 3 = i by omega, show (0 + i * 3 + 2) % 3 = 2 by omega]; rfl

set_option maxHeartbeats 2000000 in
theorem toTas_any (a : Option Addr) (cap : Nat) (rs : List RTa) (hn : rs.length ≤ 1048576) (w : World) (hr : ReadsTa w.heap.size w a rs) :
    Calls Tryz.prog 8 #[.slice a rs.length cap] w fun e w' => e = .returned (.slice (some ⟨w.heap.size, 0, none⟩) rs.length rs.length) ∧ Below w.heap.size w w' ∧ w.heap.size < w'.heap.size ∧ TasAt w' w.heap.size 0 rs ∧ FreeTa w' w.heap.size rs.length := by
  have hmk := fun w => makeTas rs.length (by omega) w
  have HM : Hid ((w.alloc (.cells (madeCells #[.int .i64 0, .string ⟨#[]⟩, .int .i64 0] (rs.length * 3)) 61)).rowIs w.heap.size 61 (rs.length * 3) (fun j => taCell zTa (j % 3))) := tas_made w rs.length
  have HR : Hid (ReadsTa w.heap.size w a rs) := hr
  clear hr
  go_enter Tryz.func8, Tryz.ntmps8
  go_wp2
  go_loopw [4] (fun i wr => ∃ k : Nat, k ≤ rs.length ∧ i = .int .i64 (k : Int) ∧ Below w.heap.size w wr ∧ wr.rowIs w.heap.size 61 (rs.length * 3) (taFill rs k)) (fun i _ => rs.length - (intOf i).toNat)
  case atStart => exact ⟨0, Nat.zero_le _, rfl, below_alloc _ _, HM.out.congr (fun i hi => by unfold taFill; rw [if_neg (by omega)])⟩
  case round =>
    obtain ⟨k, hk, rfl, hb, hrow⟩ := hrel
    have HB : Hid (Below w.heap.size w wr) := hb
    have HW : Hid (wr.rowIs w.heap.size 61 (rs.length * 3) (taFill rs k)) := hrow
    clear hb hrow
    by_cases hlt : k < rs.length
    · have hlt' : (k : Int) < (rs.length : Int) := by omega
      rcases HR.out with h | ⟨b0, o0, ha, hB0, ia⟩
      · rw [h] at hlt; simp at hlt
      obtain ⟨c0, c1, c2⟩ := (ia.below HB.out hB0) k hlt
      have HN : Hid (∀ w2, Below wr.heap.size wr w2 → (((w2.setCell ⟨w.heap.size, k * 3, none⟩ (.int .i64 (rs.getD k zTa).kd)).setCell ⟨w.heap.size, k * 3 + 1, none⟩ (.string (rs.getD k zTa).tx)).setCell ⟨w.heap.size, k * 3 + 2, none⟩ (.int .i64 (rs.getD k zTa).nm)).rowIs w.heap.size 61 (rs.length * 3) (taFill rs (k + 1)) ∧ Below w.heap.size w (((w2.setCell ⟨w.heap.size, k * 3, none⟩ (.int .i64 (rs.getD k zTa).kd)).setCell ⟨w.heap.size, k * 3 + 1, none⟩ (.string (rs.getD k zTa).tx)).setCell ⟨w.heap.size, k * 3 + 2, none⟩ (.int .i64 (rs.getD k zTa).nm)) ∧ (∀ j, j < 3 → (w2.cell? ⟨w.heap.size, k * 3 + j, none⟩).isSome = true) ∧ (∀ j, w2.frozen? ⟨w.heap.size, j, none⟩ = false)) := fun w2 hb2 => by
        have hw2 := HW.out.of_block (hb2.block _ HW.out.lt)
        refine ⟨taFill_set hw2, ((((HB.out.trans (hb2.mono HB.out.size)).setCell (Nat.le_refl _) _).setCell (Nat.le_refl _) _).setCell (Nat.le_refl _) _), fun j hj => ?_, fun j => hw2.frozen j⟩
        rw [hw2.cell (by omega)]; rfl
      rw [ha]
      clear ia
      generalize rs.getD k zTa = r at *
      obtain ⟨r0, r1, r2⟩ := r
      dsimp only at c0 c1 c2 HN
      go_wp2_with (go_at_call 25; refine (toTa_any _ _ _ _).mono ?_; rintro e w2 ⟨rfl, hb2⟩; obtain ⟨n1, n2, n3, n4⟩ := HN.out w2 hb2; have N1 : Hid (_) := n1; have N2 : Hid (_) := n2; obtain ⟨v0, hv0⟩ := Option.isSome_iff_exists.mp (n3 0 (by omega)); obtain ⟨v1, hv1⟩ := Option.isSome_iff_exists.mp (n3 1 (by omega)); obtain ⟨v2, hv2⟩ := Option.isSome_iff_exists.mp (n3 2 (by omega)); rw [Nat.add_zero] at hv0; clear n1 n2 n3)
      go_roundw
      case rel => exact ⟨k + 1, by omega, by go_num, N2.out, N1.out⟩
      case measure => simp [intOf]; omega
    · obtain rfl : k = rs.length := by omega
      go_wp2
      go_ret
      exact ⟨rfl, HB.out, HW.out.lt, tasAt_of HW.out, fun j hj => HW.out.frozen j⟩
end Go.Proofs.YthcahmjgfjeckaaGreat
