/-
  Texts of this claim laid together: BsP, MarkText, DlM.
-/
import Derived.Test.YtbijgoaanphojaaM41
import Derived.Test.YtbijgoaanphojaaM1
import Derived.Test.YtbijgoaanphojaaM3
import Derived.Test.YtbijgoaanphojaaM14
/-
  Contract of the specification's Best, for every list of units and of deals: also where the basket is wrong.
-/
namespace Go.Proofs.Ytbijgoaanphojaa
open Go.ChangeShapes Go.WideShapes Go.ChangeAt Go.RowKit Go.Deep
set_option linter.unusedVariables false

set_option maxHeartbeats 8000000 in
set_option maxRecDepth 8000 in
theorem specBest_any (a : Option Addr) (cap : Nat) (us : List RUn) (hl : us.length ≤ 100000000) (hp : ∀ r ∈ us, UnOK r) (b : Option Addr) (cb : Nat) (ds : List CDl) (hd : ds.length ≤ 100000000) (hq : ∀ r ∈ ds, DlOK r) (w : World) (hr : ReadsUn w.heap.size w a us) (ks : ReadsDl w.heap.size w b ds) :
    Calls Try.prog 11 #[.slice a us.length cap, .slice b ds.length cb] w (AnsP us ds (bsU us ds) w) := by
  by_cases hfz : faultOf us ds = 0
  · exact specBest_ok a cap us hp b cb ds hq hfz w hr ks
  have HU : Hid (∀ W, Below w.heap.size w W → Calls Try.prog 36 #[.slice a us.length cap] W fun e w' => e = .returned (.bool (unAll us)) ∧ Below W.heap.size W w') := fun W hb => specUnits_any a cap us hl hp W (hr.later hb)
  have HDl : Hid (∀ W, Below w.heap.size w W → Calls Try.prog 37 #[.slice b ds.length cb] W fun e w' => e = .returned (.bool (dlAll ds)) ∧ Below W.heap.size W w') := fun W hb => specDeals_any b cb ds hd hq W (ks.later hb)
  have HNo : Hid (∀ (c : Int) (w' : World), pcode us ds (bsU us ds) = c → c ≠ 0 → Below w.heap.size w w' → AnsP us ds (bsU us ds) w (.returned (.tuple #[.agg #[.int .i64 0, .int .i64 0, .slice none 0 0], .int .i64 c])) w') := fun c w' h1 h2 h3 => ansNone h1 h2 h3
  have HFz : Hid (faultOf us ds ≠ 0) := hfz
  clear hr ks hp hq hfz
  have hlong : 4096 < us.length ∨ 4096 < ds.length → faultOf us ds = 2 := fun h => by unfold faultOf; rw [if_pos h]
  have HLg : Hid _ := hlong
  clear hlong
  by_cases h4 : (4096 : Int) < (us.length : Int)
  · have HC2 : Hid (pcode us ds (bsU us ds) = 2) := by show _ = _; rw [bsU_code, HLg.out (.inl (by omega))]
    have hd1 : decide ((4096 : Int) < (us.length : Int)) = true := decide_eq_true h4
    go_enter Try.func11, Try.ntmps11
    go_wp2
    refine bodyPost_ret (v := .tuple #[.agg #[.int .i64 0, .int .i64 0, .slice none 0 0], .int .i64 2]) (by simp [results, Try.results11, go_sem]) rfl ?_
    exact HNo.out 2 _ HC2.out (by omega) (below_alloc _ _)
  by_cases h5 : (4096 : Int) < (ds.length : Int)
  · have HC2 : Hid (pcode us ds (bsU us ds) = 2) := by show _ = _; rw [bsU_code, HLg.out (.inr (by omega))]
    have hd1 : decide ((4096 : Int) < (us.length : Int)) = false := decide_eq_false h4
    go_enter Try.func11, Try.ntmps11
    go_wp2
    refine bodyPost_ret (v := .tuple #[.agg #[.int .i64 0, .int .i64 0, .slice none 0 0], .int .i64 2]) (by simp [results, Try.results11, go_sem]) rfl ?_
    exact HNo.out 2 _ HC2.out (by omega) (below_alloc _ _)
  have HF : Hid (faultOf us ds = if (unAll us && dlAll ds) = true then 0 else 1) := by show _ = _; unfold faultOf; rw [if_neg (by omega)]
  cases hua : unAll us
  · have HC1 : Hid (pcode us ds (bsU us ds) = 1) := by show _ = _; rw [bsU_code, HF.out, hua]; rfl
    rw [hua] at HU
    go_enter Try.func11, Try.ntmps11
    go_wp2_with fail
    (first | go_at_call 36 | skip)
    refine (HU.out _ (below_alloc _ _)).mono ?_
    rintro e w2 ⟨rfl, hb2⟩
    have B2 : Hid (Below w.heap.size w w2) := chain (below_alloc _ _) hb2
    have R2 : Hid (w2.rowIs w.heap.size 29 3 (bgF 0 0 (.slice none 0 0))) := (bg_new w 0 0 (.slice none 0 0)).of_block (hb2.block _ (by simp))
    have z0 : w2.cell? ⟨w.heap.size, 0, none⟩ = some (.int .i64 0) := R2.out.cell (i := 0) (by omega)
    have z1 : w2.cell? ⟨w.heap.size, 1, none⟩ = some (.int .i64 0) := R2.out.cell (i := 1) (by omega)
    have z2 : w2.cell? ⟨w.heap.size, 2, none⟩ = some (.slice none 0 0) := R2.out.cell (i := 2) (by omega)
    have y0 := R2.out.frozen 0
    have y1 := R2.out.frozen 1
    have y2 := R2.out.frozen 2
    clear hb2 HU
    go_wp2
    refine bodyPost_ret (v := .tuple #[.agg #[.int .i64 0, .int .i64 0, .slice none 0 0], .int .i64 1]) (by simp [results, Try.results11, go_sem, z0, z1, z2]) rfl ?_
    refine HNo.out 1 _ HC1.out (by omega) ?_
    repeat refine Below.setCell ?_ (by dsimp only; omega) _
    exact B2.out
  rw [hua] at HU
  cases hda : dlAll ds
  · have HC1 : Hid (pcode us ds (bsU us ds) = 1) := by show _ = _; rw [bsU_code, HF.out, hua, hda]; rfl
    rw [hda] at HDl
    go_enter Try.func11, Try.ntmps11
    go_wp2_with fail
    (first | go_at_call 36 | skip)
    refine (HU.out _ (below_alloc _ _)).mono ?_
    rintro e w1 ⟨rfl, hb1⟩
    have B1 : Hid (Below w.heap.size w w1) := chain (below_alloc _ _) hb1
    have R1 : Hid (w1.rowIs w.heap.size 29 3 (bgF 0 0 (.slice none 0 0))) := (bg_new w 0 0 (.slice none 0 0)).of_block (hb1.block _ (by simp))
    clear hb1
    go_wp2_with fail
    (first | go_at_call 37 | skip)
    refine (HDl.out _ B1.out).mono ?_
    rintro e w2 ⟨rfl, hb2⟩
    have B2 : Hid (Below w.heap.size w w2) := chain B1.out hb2
    have R2 : Hid (w2.rowIs w.heap.size 29 3 (bgF 0 0 (.slice none 0 0))) := R1.out.of_block (hb2.block _ R1.out.lt)
    have z0 : w2.cell? ⟨w.heap.size, 0, none⟩ = some (.int .i64 0) := R2.out.cell (i := 0) (by omega)
    have z1 : w2.cell? ⟨w.heap.size, 1, none⟩ = some (.int .i64 0) := R2.out.cell (i := 1) (by omega)
    have z2 : w2.cell? ⟨w.heap.size, 2, none⟩ = some (.slice none 0 0) := R2.out.cell (i := 2) (by omega)
    have y0 := R2.out.frozen 0
    have y1 := R2.out.frozen 1
    have y2 := R2.out.frozen 2
    clear hb2 HU HDl
    go_wp2
    refine bodyPost_ret (v := .tuple #[.agg #[.int .i64 0, .int .i64 0, .slice none 0 0], .int .i64 1]) (by simp [results, Try.results11, go_sem, z0, z1, z2]) rfl ?_
    refine HNo.out 1 _ HC1.out (by omega) ?_
    repeat refine Below.setCell ?_ (by dsimp only; omega) _
    exact B2.out
  exact absurd (by rw [HF.out, hua, hda]; rfl) HFz.out
end Go.Proofs.Ytbijgoaanphojaa

/-
  The laws' own markText: for every number from 1 to a billion it answers some text, and turns nothing that was there.
-/
namespace Go.Proofs.Ytbijgoaanphojaa
open Go.ChangeShapes Go.WideShapes Go.ChangeAt Go.RowKit
set_option linter.unusedVariables false

theorem oneByte (v : Nat) (hv : v < 256) (w : World) (b : Nat) (h : w.cell? ⟨b, 0, none⟩ = some (.int .u8 (v : Int))) :
    (convert 22 9 (.slice (some ⟨b, 0, none⟩) 1 1)).run Try.prog w = .ok (.string ⟨#[UInt8.ofNat v]⟩) w := by
  have e : (UInt8.ofNat v).toNat = v := by simp; omega
  exact run_convert_bytes_back (P := Try.prog) w 22 9 5 ⟨b, 0, none⟩ 1 [UInt8.ofNat v] Try.underlying22 Try.underlying5 Try.underlying9 (by
    intro j hj
    have hj0 : j = 0 := by simp at hj; exact hj
    subst hj0
    show w.cell? _ = some (.int .u8 ((UInt8.ofNat v).toNat : Int))
    rw [e]; simpa [Addr.add] using h)

/-- The digits of u, ahead of s. -/
def mkRun : Nat → Nat → ByteArray → ByteArray
  | 0, _, s => s
  | f + 1, u, s => if u = 0 then s else mkRun f (u / 10) (⟨#[UInt8.ofNat (48 + u % 10)]⟩ ++ s)
def mkS (u : Nat) : ByteArray := ⟨#[109]⟩ ++ mkRun u u ⟨#[]⟩
theorem mkRun_zero : ∀ f s, mkRun f 0 s = s
  | 0, s => rfl
  | f + 1, s => by unfold mkRun; rw [if_pos rfl]

set_option maxHeartbeats 2000000 in
theorem markText_any (u0 : Nat) (h0 : 1 ≤ u0) (h1 : u0 ≤ 1000000000) (w : World) :
    Calls Try.prog 48 #[.int .i64 (u0 : Int)] w fun e w' => e = .returned (.string (mkS u0)) ∧ Below w.heap.size w w' := by
  have g0 : (1 : Int) ≤ (u0 : Int) := by omega
  have g1 : (u0 : Int) ≤ 1000000000 := by omega
  go_enter Try.func48, Try.ntmps48
  go_wp2
  go_loopw [0, 3] (fun k s wr => ∃ (f u : Nat) (t : ByteArray), k = .int .i64 (u : Int) ∧ s = .string t ∧ u ≤ f ∧ u ≤ 1000000000 ∧ t.size + u ≤ u0 ∧ mkRun u0 u0 ⟨#[]⟩ = mkRun f u t ∧ Below w.heap.size w wr) (fun k _ _ => (intOf k).toNat)
  case atStart => exact ⟨u0, u0, ⟨#[]⟩, rfl, rfl, Nat.le_refl _, h1, by show 0 + u0 ≤ u0; omega, rfl, Below.refl _ _⟩
  case round =>
    obtain ⟨f, u, t, rfl, rfl, huf, hu9, hts, hrun, hb⟩ := hrel
    have HRn : Hid (mkRun u0 u0 ⟨#[]⟩ = mkRun f u t) := hrun
    have HB : Hid (Below w.heap.size w wr) := hb
    clear hrun hb
    by_cases hz : u = 0
    · subst hz
      have HE : Hid (mkS u0 = ⟨#[109]⟩ ++ t) := by show _ = _; unfold mkS; rw [HRn.out, mkRun_zero]
      have hsz : t.size ≤ 1000000000 := by omega
      clear hts
      go_wp2
      go_ret
      exact ⟨by rw [HE.out]; rfl, HB.out⟩
    · have hpos : (1 : Int) ≤ (u : Int) := by omega
      obtain ⟨f', rfl⟩ : ∃ f', f = f' + 1 := ⟨f - 1, by omega⟩
      have HS : Hid (mkRun (f' + 1) u t = mkRun f' (u / 10) (⟨#[UInt8.ofNat (48 + u % 10)]⟩ ++ t)) := by show _ = _; rw [mkRun, if_neg hz]
      have e48 : (48 : Int) + (u : Int) % 10 = ((48 + u % 10 : Nat) : Int) := by omega
      have hcv : ∀ W b, W.cell? ⟨b, 0, none⟩ = some (.int .u8 (48 + (u : Int) % 10)) → (convert 22 9 (.slice (some ⟨b, 0, none⟩) 1 1)).run Try.prog W = .ok (.string ⟨#[UInt8.ofNat (48 + u % 10)]⟩) W := fun W b h => by
        rw [e48] at h
        exact oneByte (48 + u % 10) (by omega) W b h
      clear e48
      have tm : (u : Int).tmod 10 = (u : Int) % 10 := Int.tmod_eq_emod_of_nonneg (by omega)
      have tq : (u : Int).tdiv 10 = (u : Int) / 10 := Int.tdiv_eq_ediv_of_nonneg (by omega)
      have wb : IntKind.u8.wrap (48 + (u : Int) % 10) = 48 + (u : Int) % 10 := by simp [IntKind.wrap, IntKind.signed, IntKind.bits]; omega
      have hsz : t.size ≤ 1000000000 := by omega
      have hsz' : (1 : Nat) + t.size ≤ 1000000001 := by omega
      have HT : Hid (t.size + u ≤ u0) := hts
      clear hts
      go_wp2
      have eb : UInt8.ofNat (48 + u % 10) = 48 + UInt8.ofNat (u % 10) := by simp
      refine ⟨⟨f', u / 10, _, by congr 1, rfl, by omega, by omega, ?_, ?_, chain HB.out (below_alloc _ _)⟩, by simp [intOf]; omega⟩
      · rw [ByteArray.size_append]
        have := HT.out
        show 1 + t.size + u / 10 ≤ u0
        omega
      · rw [HRn.out, HS.out, eb]
end Go.Proofs.Ytbijgoaanphojaa

/-
  The laws' own marks on lists of deals (markStringS, markDealS): they turn blocks of that list alone.
-/
namespace Go.Proofs.Ytbijgoaanphojaa
open Go.ChangeShapes Go.WideShapes Go.ChangeAt Go.RowKit Go.Deep
set_option linter.unusedVariables false

/-- Every cell that was there is there, and none of them is frozen that was not. -/
def SomeK (w w' : World) : Prop := ∀ c o, c < w.heap.size → ((w.cell? ⟨c, o, none⟩).isSome = true → (w'.cell? ⟨c, o, none⟩).isSome = true) ∧ w'.frozen? ⟨c, o, none⟩ = w.frozen? ⟨c, o, none⟩
theorem SomeK.refl (w : World) : SomeK w w := fun _ _ _ => ⟨id, rfl⟩
theorem SomeK.later {w w1 w2 : World} (h : SomeK w w1) (hz : w.heap.size ≤ w1.heap.size) (hb : Below w1.heap.size w1 w2) : SomeK w w2 := fun c o hc => by
  obtain ⟨h1, h2⟩ := h c o hc
  exact ⟨fun q => by rw [hb.cell (p := ⟨c, o, none⟩) (show c < w1.heap.size by omega)]; exact h1 q, (hb.frozen (p := ⟨c, o, none⟩) (show c < w1.heap.size by omega)).trans h2⟩
theorem SomeK.set {w w1 : World} (h : SomeK w w1) (d q : Nat) (v : Value) : SomeK w (w1.setCell ⟨d, q, none⟩ v) := fun c o hc => by
  obtain ⟨h1, h2⟩ := h c o hc
  refine ⟨fun s => ?_, by rw [World.frozen?_setCell]; exact h2⟩
  obtain ⟨u, hu⟩ := Option.isSome_iff_exists.mp (h1 s)
  by_cases e : (⟨d, q, none⟩ : Addr) = ⟨c, o, none⟩
  · rw [← e] at hu ⊢
    rw [World.cell?_setCell_same _ _ _ hu]; rfl
  · rw [World.cell?_setCell_other _ _ _ _ e, hu]; rfl


set_option maxHeartbeats 2000000 in
theorem markStrs_any (b n cap : Nat) (hn : n ≤ 1048576) (k0 : Nat) (hk : k0 ≤ 100000000) (hk1 : 1 ≤ k0) (w : World) (hM : Mk b n w w) :
    Calls Try.prog 49 #[.slice (some ⟨b, 0, none⟩) n cap, .int .i64 (k0 : Int)] w fun e w' => e = .returned (.int .i64 ((k0 : Int) + (n : Int))) ∧ Mk b n w w' ∧ SomeK w w' := by
  have H0 : Hid (Mk b n w w) := hM
  clear hM
  go_enter Try.func49, Try.ntmps49
  go_wp2
  go_loopw [1, 5] (fun k i wr => ∃ j : Nat, j ≤ n ∧ i = .int .i64 (j : Int) ∧ k = .int .i64 ((k0 : Int) + (j : Int)) ∧ Mk b n w wr ∧ SomeK w wr) (fun _ i _ => n - (intOf i).toNat)
  case atStart => exact ⟨0, Nat.zero_le _, rfl, by simp, H0.out, SomeK.refl _⟩
  case round =>
    obtain ⟨j, hj, rfl, rfl, hm, hs⟩ := hrel
    have HM : Hid (Mk b n w wr) := hm
    have HS : Hid (SomeK w wr) := hs
    clear hm hs
    by_cases hlt : j < n
    · have hlt' : (j : Int) < (n : Int) := by omega
      have t0 := fun w => markText_any (k0 + j) (by omega) (by omega) w
      have e0 : ((k0 + j : Nat) : Int) = (k0 : Int) + (j : Int) := by omega
      rw [e0] at t0
      clear e0
      generalize mkS (k0 + j) = s0 at *
      go_wp2_with fail
      (first | go_at_call 48 | skip)
      refine (t0 _).mono ?_
      rintro e w0' ⟨rfl, hb0⟩
      have HM0 : Hid (Mk b n w w0') := HM.out.later hb0
      have HS0 : Hid (SomeK w w0') := HS.out.later HM.out.1.1.size hb0
      obtain ⟨v0, hv0, hf0⟩ := HM0.out.at j (by omega)
      clear hb0 t0
      go_wp2
      exact ⟨⟨j + 1, by omega, by go_num, by go_num, HM0.out.set _ _, HS0.out.set _ _ _⟩, by simp [intOf]; omega⟩
    · obtain rfl : j = n := by omega
      go_wp2
      go_ret
      exact ⟨rfl, HM.out, HS.out⟩

def DlMk (lo hi : Nat) (w : World) (b n : Nat) (M : Nat → Nat) : Prop := (lo ≤ b ∧ b < hi ∧ hi ≤ w.heap.size) ∧ (∀ j, j < n * 6 → (w.cell? ⟨b, j, none⟩).isSome = true ∧ w.frozen? ⟨b, j, none⟩ = false) ∧
  ∀ i, i < n → ∃ c cp, w.cell? ⟨b, i * 6 + 2, none⟩ = some (.slice (some ⟨c, 0, none⟩) (M i) cp) ∧ (c ≠ b ∧ lo ≤ c ∧ c < hi) ∧ ∀ j, j < M i → (w.cell? ⟨c, j, none⟩).isSome = true ∧ w.frozen? ⟨c, j, none⟩ = false
theorem DlMk.some {lo hi : Nat} {w w' : World} {b n : Nat} {M : Nat → Nat} (h : DlMk lo hi w b n M) (hs : SomeK w w') (hz : w.heap.size ≤ w'.heap.size) (hb : ∀ i, i < n → w'.cell? ⟨b, i * 6 + 2, none⟩ = w.cell? ⟨b, i * 6 + 2, none⟩) : DlMk lo hi w' b n M := by
  obtain ⟨⟨h1, h2, h3⟩, h4, h5⟩ := h
  refine ⟨⟨h1, h2, by omega⟩, fun j hj => ?_, fun i hi => ?_⟩
  · obtain ⟨k1, k2⟩ := h4 j hj
    exact ⟨(hs b j (by omega)).1 k1, (hs b j (by omega)).2.trans k2⟩
  · obtain ⟨c, cp, k1, k2, k3⟩ := h5 i hi
    exact ⟨c, cp, (hb i hi).trans k1, k2, fun j hj => ⟨(hs c j (by omega)).1 (k3 j hj).1, (hs c j (by omega)).2.trans (k3 j hj).2⟩⟩
theorem DlMk.later {lo hi : Nat} {w w' : World} {b n : Nat} {M : Nat → Nat} (h : DlMk lo hi w b n M) (hb : Below w.heap.size w w') : DlMk lo hi w' b n M :=
  h.some ((SomeK.refl w).later (Nat.le_refl _) hb) hb.size (fun i hi => hb.cell (p := ⟨b, i * 6 + 2, none⟩) (show b < w.heap.size by have := h.1; omega))
theorem DlMk.set {lo hi : Nat} {w : World} {b n : Nat} {M : Nat → Nat} (h : DlMk lo hi w b n M) {o : Nat} (ho : o % 6 ≠ 2) (v : Value) : DlMk lo hi (w.setCell ⟨b, o, none⟩ v) b n M :=
  h.some ((SomeK.refl w).set _ _ _) (by rw [World.size_setCell]; exact Nat.le_refl _) (fun i hi => World.cell?_setCell_other _ _ _ _ (fun e => by cases e; omega))
theorem OwnDl.mk {lo : Nat} {w : World} {b : Nat} {cs : List CDl} (h : OwnDl lo w b cs) : DlMk lo w.heap.size w b cs.length (fun i => (cs.getD i zDl).arts.length) := by
  obtain ⟨h1, h2, h3, h4⟩ := h
  refine ⟨⟨h1, h2, Nat.le_refl _⟩, fun j hj => ⟨?_, h3 j hj⟩, fun i hi => ?_⟩
  · obtain ⟨g, _, ⟨m0, m1, m2, m3, m4, m5⟩, _⟩ := h4 (j / 6) (by omega)
    rcases (show j % 6 = 0 ∨ j % 6 = 1 ∨ j % 6 = 2 ∨ j % 6 = 3 ∨ j % 6 = 4 ∨ j % 6 = 5 by omega) with e | e | e | e | e | e
    · rw [show j = j / 6 * 6 by omega, m0]; rfl
    · rw [show j = j / 6 * 6 + 1 by omega, m1]; rfl
    · rw [show j = j / 6 * 6 + 2 by omega, m2]; rfl
    · rw [show j = j / 6 * 6 + 3 by omega, m3]; rfl
    · rw [show j = j / 6 * 6 + 4 by omega, m4]; rfl
    · rw [show j = j / 6 * 6 + 5 by omega, m5]; rfl
  · obtain ⟨g, ⟨k1, k2, k3⟩, ⟨m0, m1, m2, m3, m4, m5⟩, k5, k6⟩ := h4 i hi
    refine ⟨g, _, m2, ⟨k1, k2, k3⟩, fun j hj => ⟨?_, k6 j⟩⟩
    have := k5 j hj
    rw [Nat.zero_add] at this
    rw [this]; rfl
def kAtD (k0 : Nat) (M : Nat → Nat) : Nat → Nat
  | 0 => k0
  | i + 1 => kAtD k0 M i + 5 + M i
theorem kAtD_le (k0 : Nat) (M : Nat → Nat) (i j : Nat) (h : i ≤ j) : kAtD k0 M i ≤ kAtD k0 M j := by
  induction j with
  | zero => obtain rfl : i = 0 := by omega
            exact Nat.le_refl _
  | succ j ih =>
    by_cases e : i = j + 1
    · subst e; exact Nat.le_refl _
    · have := ih (by omega)
      show _ ≤ kAtD k0 M j + 5 + M j
      omega


set_option maxHeartbeats 4000000 in
theorem markDls_any (lo hi b n cap : Nat) (M : Nat → Nat) (hn : n ≤ 1048576) (hMb : ∀ i, i < n → M i ≤ 1048576) (k0 : Nat) (hk1 : 1 ≤ k0) (hk : kAtD k0 M n ≤ 100000000) (w : World) (hM : DlMk lo hi w b n M) :
    Calls Try.prog 18 #[.slice (some ⟨b, 0, none⟩) n cap, .int .i64 (k0 : Int)] w fun e w' => e = .returned (.int .i64 (kAtD k0 M n : Int)) ∧ Span lo hi w w' := by
  have H0 : Hid (DlMk lo hi w b n M) := hM
  have HK : Hid (∀ j, j ≤ n → 1 ≤ kAtD k0 M j ∧ kAtD k0 M j ≤ 100000000) := fun j hj => ⟨Nat.le_trans hk1 (kAtD_le k0 M 0 j (Nat.zero_le _)), Nat.le_trans (kAtD_le _ _ j n hj) hk⟩
  clear hM
  go_enter Try.func18, Try.ntmps18
  go_wp2
  go_loopw [1, 5] (fun k i wr => ∃ j : Nat, j ≤ n ∧ i = .int .i64 (j : Int) ∧ k = .int .i64 (kAtD k0 M j : Int) ∧ Span lo hi w wr ∧ DlMk lo hi wr b n M) (fun _ i _ => n - (intOf i).toNat)
  case atStart => exact ⟨0, Nat.zero_le _, rfl, rfl, Span.refl _ _ _, H0.out⟩
  case round =>
    obtain ⟨j, hj, rfl, rfl, hs, hm⟩ := hrel
    have HS : Hid (Span lo hi w wr) := hs
    have HM : Hid (DlMk lo hi wr b n M) := hm
    clear hs hm
    by_cases hlt : j < n
    · have hlt' : (j : Int) < (n : Int) := by omega
      obtain ⟨hkj0, hkj⟩ := HK.out j hj
      have hkj1 : kAtD k0 M j + 5 + M j ≤ 100000000 := (HK.out (j + 1) hlt).2
      have hMj := hMb j hlt
      have HE : Hid ((kAtD k0 M (j + 1) : Int) = (kAtD k0 M j : Int) + 1 + 1 + (M j : Int) + 1 + 1 + 1) := by
        show ((kAtD k0 M j + 5 + M j : Nat) : Int) = _
        omega
      have t0 := fun w => markText_any (kAtD k0 M j) hkj0 (by omega) w
      generalize mkS (kAtD k0 M j) = s0 at *
      have hlow : lo ≤ wr.heap.size := by have := HM.out.1; omega
      go_wp2_with fail
      (first | go_at_call 48 | skip)
      refine (t0 _).mono ?_
      rintro e w0' ⟨rfl, hb0⟩
      have HM0 : Hid (DlMk lo hi w0' b n M) := HM.out.later hb0
      have HS0 : Hid (Span lo hi w w0') := HS.out.later hlow hb0
      obtain ⟨i0, g0⟩ := HM0.out.2.1 (j * 6) (by omega)
      obtain ⟨i1, g1⟩ := HM0.out.2.1 (j * 6 + 1) (by omega)
      obtain ⟨v0, hv0⟩ := Option.isSome_iff_exists.mp i0
      obtain ⟨v1, hv1⟩ := Option.isSome_iff_exists.mp i1
      obtain ⟨c, cp, hc2, ⟨hcb, hcl, hch⟩, hcc⟩ := HM0.out.2.2 j hlt
      have HT : Hid (∀ W, W = ((w0'.setCell ⟨b, j * 6, none⟩ (.string s0)).setCell ⟨b, j * 6 + 1, none⟩ (.int .i64 ((kAtD k0 M j : Int) + 1))) → Calls Try.prog 49 #[.slice (some ⟨c, 0, none⟩) (M j) cp, .int .i64 ((kAtD k0 M j : Int) + 1 + 1)] W fun e w' => e = .returned (.int .i64 ((kAtD k0 M j : Int) + 1 + 1 + (M j : Int))) ∧ Span lo hi w w' ∧ DlMk lo hi w' b n M) := fun W hW => by
        subst hW
        have d1 := (HM0.out.set (o := j * 6) (by omega) (.string s0)).set (o := j * 6 + 1) (by omega) (.int .i64 ((kAtD k0 M j : Int) + 1))
        have s1 := (HS0.out.set HM0.out.1.1 HM0.out.1.2.1 (j * 6) (.string s0)).set HM0.out.1.1 HM0.out.1.2.1 (j * 6 + 1) (.int .i64 ((kAtD k0 M j : Int) + 1))
        have hcz : c < ((w0'.setCell ⟨b, j * 6, none⟩ (.string s0)).setCell ⟨b, j * 6 + 1, none⟩ (.int .i64 ((kAtD k0 M j : Int) + 1))).heap.size := by have := d1.1; omega
        have hmk : Mk c (M j) ((w0'.setCell ⟨b, j * 6, none⟩ (.string s0)).setCell ⟨b, j * 6 + 1, none⟩ (.int .i64 ((kAtD k0 M j : Int) + 1))) ((w0'.setCell ⟨b, j * 6, none⟩ (.string s0)).setCell ⟨b, j * 6 + 1, none⟩ (.int .i64 ((kAtD k0 M j : Int) + 1))) := by
          refine Mk.start hcz (fun q hq => ?_) (fun q hq => ?_)
          · rw [World.cell?_setCell_far _ _ _ _ (Ne.symm hcb), World.cell?_setCell_far _ _ _ _ (Ne.symm hcb)]; exact (hcc q hq).1
          · rw [World.frozen?_setCell, World.frozen?_setCell]; exact (hcc q hq).2
        have e2 : (kAtD k0 M j : Int) + 1 + 1 = ((kAtD k0 M j + 2 : Nat) : Int) := by omega
        rw [e2]
        refine (markStrs_any c (M j) cp hMj (kAtD k0 M j + 2) (by omega) (by omega) _ hmk).mono ?_
        rintro e w' ⟨rfl, h1, h2⟩
        refine ⟨rfl, s1.trans (Span.ofMk h1 hcl hch), d1.some h2 h1.1.1.size (fun i hi => World.cell?_of_block (a := ⟨b, i * 6 + 2, none⟩) (h1.1.2.2 b (Ne.symm hcb) (by have := d1.1; omega)))⟩
      have hne : b ≠ c := Ne.symm hcb
      clear hb0 t0 i0 i1 hcc
      generalize kAtD k0 M j = K at *
      go_wp2_with fail
      (first | go_at_call 49 | skip)
      refine (HT.out _ rfl).mono ?_
      rintro e w2 ⟨rfl, hs2, hd2⟩
      have HS2 : Hid (Span lo hi w w2) := hs2
      have HD2 : Hid (DlMk lo hi w2 b n M) := hd2
      obtain ⟨i3, g3⟩ := HD2.out.2.1 (j * 6 + 3) (by omega)
      obtain ⟨i4, g4⟩ := HD2.out.2.1 (j * 6 + 4) (by omega)
      obtain ⟨i5, g5⟩ := HD2.out.2.1 (j * 6 + 5) (by omega)
      obtain ⟨v3, hv3⟩ := Option.isSome_iff_exists.mp i3
      obtain ⟨v4, hv4⟩ := Option.isSome_iff_exists.mp i4
      obtain ⟨v5, hv5⟩ := Option.isSome_iff_exists.mp i5
      clear hs2 hd2 i3 i4 i5 HT hv0 hv1 hc2 g0 g1
      generalize M j = m at *
      go_wp2
      exact ⟨⟨j + 1, by omega, by go_num, by rw [HE.out], ((HS2.out.set HD2.out.1.1 HD2.out.1.2.1 _ _).set HD2.out.1.1 HD2.out.1.2.1 _ _).set HD2.out.1.1 HD2.out.1.2.1 _ _, ((HD2.out.set (by omega) _).set (by omega) _).set (by omega) _⟩, by simp [intOf]; omega⟩
    · obtain rfl : j = n := by omega
      go_wp2
      go_ret
      exact ⟨rfl, HS.out⟩

end Go.Proofs.Ytbijgoaanphojaa
