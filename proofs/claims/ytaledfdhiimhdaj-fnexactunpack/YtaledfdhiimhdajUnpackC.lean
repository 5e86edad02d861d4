/-
  Contract of the specification's Unpack, for every list of packs and number of units.
-/
import Derived.Test.YtaledfdhiimhdajUnpackB
import Derived.Test.YtaledfdhiimhdajPackD
namespace Go.Proofs.Ytaledfdhiimhdaj
open Go.ChangeShapes Go.WideShapes Go.ChangeAt Go.RowKit
set_option linter.unusedVariables false

theorem UnInv.drewN {L : List Int} {n : Int} {w1 : World} {D : Nat} {left : Int} {wr : World} (h : UnInv L n w1 D left wr) (m : Nat) : UnInv L n w1 D left (wr.drewN m) := by
  obtain ⟨f, out, h1, h2, h3, h4, h5⟩ := h
  exact ⟨f, out, h1, h2, h3, h4.of_block rfl, below_drewN h5 m⟩
theorem UnInv.low {L : List Int} {n : Int} {w1 : World} {D : Nat} {left : Int} {wr : World} (h : UnInv L n w1 D left wr) : Below D w1 wr := by
  obtain ⟨f, out, h1, h2, h3, h4, h5⟩ := h
  exact h5

set_option maxHeartbeats 4000000 in
theorem specUnpack_any (a : Option Addr) (cap : Nat) (ps : List Pk) (n : Int) (hl : ps.length ≤ 100000000) (hcap : ps.length ≤ cap) (hp : ∀ p ∈ ps, PkOK p) (B : Nat) (w : World) (hBw : w.heap.size = B) (hr : ReadsP B w a ps) :
    Calls Try.prog 17 #[.slice a ps.length cap, .int .i64 n] w (UnPost ps n B w) := by
  have hI := (specPack_any a cap ps hl hcap hp B w hBw hr).mono (fun e w' h => (show ∃ g cp, e = .returned (.tuple #[.slice g (pkAll ps).1.length cp, .int .i64 (pkAll ps).2.1, .string (pkAll ps).2.2]) ∧ Own2 B w' g (pkAll ps).1 ∧ Below B w w' from h))
  clear hr hp
  by_cases hc : (pkAll ps).2.1 = 0
  · obtain ⟨hL, hU⟩ := pkAll_ok hc
    have HU : Hid (UnOK (pkAll ps).1) := hU
    have HE : Hid (unAll ps n = if 0 ≤ n ∧ n ≤ 1000000 then ((upAll (pkAll ps).1 n).1, (upAll (pkAll ps).1 n).2, 0) else ([], 0, 5)) := by show _ = _; unfold unAll; rw [if_pos hc]
    rw [hc] at hI
    have hl' : (pkAll ps).1.length ≤ 100000000 := by omega
    have HL : Hid ((pkAll ps).1.length = ps.length) := hL
    clear hc hL hU
    generalize (pkAll ps).1 = L at *
    generalize (pkAll ps).2.2 = s at *
    have hin := fun w => in_any n 0 1000000 w
    by_cases hn : 0 ≤ n ∧ n ≤ 1000000
    · rw [if_pos hn] at HE
      rw [show inB n 0 1000000 = true from decide_eq_true hn] at hin
      obtain ⟨hn0, hn1⟩ := hn
      have hmk := fun w => run_make_row' (P := Try.prog) 24 3 (.int .i64 0) 8 Try.underlying24 intInfo rfl .i64 .i64 ps.length (by omega) (by omega) w
      go_enter Try.func17, Try.ntmps17
      go_wp2_with (first | (go_at_call 9; refine hI.mono ?_; rintro e w1 ⟨g, cp, rfl, ho1, hb1⟩; have HO1 : Hid (Own2 B w1 g L) := ho1; have B1 : Hid (Below B w w1) := hb1; clear ho1 hb1) | (go_at_call 33; refine (hin _).mono ?_; rintro e w2 ⟨rfl, hw2⟩; rw [hw2]; clear hw2))
      have HM : Hid ((w1.alloc (Obj.cells (madeCells #[.int .i64 0] ps.length) 3)).rowIs w1.heap.size 3 L.length (fun _ => .int .i64 0)) := by
        show World.rowIs _ _ _ _ _
        rw [HL.out]; exact World.rowIs_made w1 (.int .i64 0) ps.length 3
      have HB2 : Hid (Below w1.heap.size w1 (w1.alloc (Obj.cells (madeCells #[.int .i64 0] ps.length) 3))) := below_alloc _ _
      have HDB : Hid (B ≤ w1.heap.size) := by have := B1.out.size; show _ ≤ _; omega
      clear hmk hin
      generalize w1.alloc (Obj.cells (madeCells #[.int .i64 0] ps.length) 3) = w2 at *
      obtain ⟨D, hD⟩ : ∃ D, w1.heap.size = D := ⟨_, rfl⟩
      have HDs : Hid (w1.heap.size = D) := hD
      rw [hD] at HM HB2 HDB ⊢
      clear hD
      go_loopw [11, 12, 13] (fun l _ _ wr => ∃ left : Int, l = .int .i64 left ∧ 0 ≤ left ∧ left ≤ 1000000 ∧ UnInv L n w1 D left wr) (fun l _ _ _ => (intOf l).toNat)
      case atStart => exact ⟨n, rfl, hn0, hn1, UnInv.start HM.out HB2.out⟩
      case round =>
        clear HM HB2
        obtain ⟨left, rfl, hl0, hl1, hinv⟩ := hrel
        have HI : Hid (UnInv L n w1 D left wr) := hinv
        clear hinv
        go_wp2
        go_loopw [12, 13] (fun t c wq => ∃ (k : Nat) (A : Int), k ≤ L.length ∧ c = .int .i64 (k : Int) ∧ t = .int .i64 A ∧ gwOK L left k A ∧ gw L left = gwGo L left (L.length - k) k A ∧ UnInv L n w1 D left wq) (fun _ c _ => L.length - (intOf c).toNat)
        case atStart => exact ⟨0, -1, Nat.zero_le _, rfl, rfl, .inl rfl, rfl, HI.out⟩
        case round =>
        clear HI
        obtain ⟨k, A, hk, rfl, rfl, hok, hgo, hv⟩ := hrel
        have HGo : Hid (gw L left = gwGo L left (L.length - k) k A) := hgo
        have HOk : Hid (gwOK L left k A) := hok
        have HV : Hid (UnInv L n w1 D left wr) := hv
        clear hgo hok hv
        have HC : Hid (∀ wx, Below D w1 wx → L = [] ∨ ∃ bg, g = some ⟨bg, 0, none⟩ ∧ ∀ i, i < L.length → wx.cell? ⟨bg, i, none⟩ = some (.int .i64 (L.getD i 0))) := fun wx hb => by
          rcases HO1.out with h | ⟨bg, hg, hBg, hlg, ig, _⟩
          · exact .inl h
          · refine .inr ⟨bg, hg, fun i hi => ?_⟩
            have := (ig.below hb (by have := HDs.out; omega)) i hi
            rwa [Nat.zero_add] at this
        by_cases hlt : k < L.length
        · have hlt' : (k : Int) < (L.length : Int) := by omega
          rcases HC.out wr HV.out.low with h | ⟨bg, hg, ig⟩
          · rw [h] at hlt; simp at hlt
          have CB : Hid (∀ i, i < L.length → wr.cell? ⟨bg, i, none⟩ = some (.int .i64 (L.getD i 0))) := ig
          have c0 := ig k hlt
          have HN : Hid (gw L left = gwGo L left (L.length - (k + 1)) (k + 1) (gwStep L left k A) ∧ gwOK L left (k + 1) (gwStep L left k A)) := ⟨HGo.out.trans (gwGo_step L left k A hlt), gwStep_ok HOk.out⟩
          rw [hg]
          clear ig
          by_cases h1 : L.getD k 0 ≤ left
          · rcases HOk.out with e | ⟨e1, e2, e3⟩
            · subst e
              have e : gwStep L left k (-1) = (k : Int) := by unfold gwStep; rw [if_pos ⟨h1, .inl (by omega)⟩]
              rw [e] at HN
              clear e
              generalize L.getD k 0 = x at *
              go_wp2
              go_quiet (fail)
              go_wp2
              exact ⟨⟨k + 1, (k : Int), by omega, by go_num, rfl, HN.out.2, HN.out.1, HV.out.drewN _⟩, by simp [intOf]; omega⟩
            · obtain ⟨t, ht⟩ : ∃ t : Nat, A = (t : Int) := ⟨A.toNat, by omega⟩
              subst ht
              have c1 := CB.out t (by omega)
              have ht' : (t : Int) < (L.length : Int) := by omega
              by_cases h2 : L.getD t 0 < L.getD k 0
              · have e : gwStep L left k (t : Int) = (k : Int) := by unfold gwStep; rw [if_pos ⟨h1, .inr (by rw [Int.toNat_natCast]; exact h2)⟩]
                rw [e] at HN
                clear e e3
                generalize L.getD k 0 = x at *
                generalize L.getD t 0 = y at *
                go_wp2
                go_quiet (fail)
                go_wp2
                exact ⟨⟨k + 1, (k : Int), by omega, by go_num, rfl, HN.out.2, HN.out.1, HV.out.drewN _⟩, by simp [intOf]; omega⟩
              · have e : gwStep L left k (t : Int) = (t : Int) := by unfold gwStep; rw [if_neg (fun h => h.2.elim (fun h => by omega) (fun h => h2 (by rw [Int.toNat_natCast] at h; exact h)))]
                rw [e] at HN
                clear e e3
                generalize L.getD k 0 = x at *
                generalize L.getD t 0 = y at *
                go_wp2
                go_quiet (fail)
                go_wp2
                exact ⟨⟨k + 1, (t : Int), by omega, by go_num, rfl, HN.out.2, HN.out.1, HV.out.drewN _⟩, by simp [intOf]; omega⟩
          · have e : gwStep L left k A = A := by unfold gwStep; rw [if_neg (fun h => h1 h.1)]
            rw [e] at HN
            clear e
            generalize L.getD k 0 = x at *
            have hd : decide (x ≤ left) = false := decide_eq_false h1
            have h1' : left < x := by omega
            clear h1
            go_wp2
            go_quiet (fail)
            go_wp2
            exact ⟨⟨k + 1, A, by omega, by go_num, rfl, HN.out.2, HN.out.1, HV.out.drewN _⟩, by simp [intOf]; omega⟩
        · obtain rfl : k = L.length := by omega
          have HG : Hid (gw L left = A) := by show _ = _; rw [HGo.out, Nat.sub_self]; rfl
          rcases HOk.out with e | ⟨e1, e2, e3⟩
          · subst e
            obtain ⟨out, he, hol, hrow, hbl⟩ := HV.out.done (by have := HG.out; omega)
            have HF : Hid (unAll ps n = (out, left, 0)) := by show _ = _; rw [HE.out, he]
            have HRow : Hid (wr.rowIs D 3 L.length (fun i => .int .i64 (out.getD i 0))) := hrow
            have HBl : Hid (Below D w1 wr) := hbl
            have HOl : Hid (ps.length = out.length) := by show _ = _; rw [hol]; exact HL.out.symm
            clear he hol hrow hbl
            go_wp2
            go_ret3
            refine UnPost.mk HF.out HOl.out ?_ (B1.out.trans (HBl.out.mono HDB.out))
            exact .inr ⟨D, rfl, HDB.out, HRow.out.lt, fun i hi => by rw [Nat.zero_add]; exact HRow.out.cell (by have := HOl.out; have := HL.out; omega), fun i hi => by rw [Nat.zero_add]; exact HRow.out.frozen i⟩
          · obtain ⟨k, hk'⟩ : ∃ k : Nat, A = (k : Int) := ⟨A.toNat, by omega⟩
            subst hk'
            rw [Int.toNat_natCast] at e3
            have hkL : k < L.length := by omega
            obtain ⟨x1, x2⟩ := getD_bound HU.out k hkL
            obtain ⟨n1, n2, n3⟩ := HV.out.next HG.out hkL rfl x1 hl0 e3
            have HN : Hid (UnInv L n w1 D (left % L.getD k 0) (wr.setCell ⟨D, k, none⟩ (.int .i64 (left / L.getD k 0)))) := n1
            rcases HC.out wr HV.out.low with h | ⟨bg, hg, ig⟩
            · rw [h] at hkL; simp at hkL
            rcases HC.out _ HN.out.low with h | ⟨bg', hg', ig'⟩
            · rw [h] at hkL; simp at hkL
            obtain rfl : bg = bg' := by rw [hg] at hg'; simpa using hg'
            have c0 := ig k hkL
            have c1 := ig' k hkL
            have hkL' : (k : Int) < (L.length : Int) := by omega
            have hkP' : (k : Int) < (ps.length : Int) := by have := HL.out; omega
            have htd : left.tdiv (L.getD k 0) = left / L.getD k 0 := Int.tdiv_eq_ediv_of_nonneg hl0
            have htm : left.tmod (L.getD k 0) = left % L.getD k 0 := Int.tmod_eq_emod_of_nonneg hl0
            obtain ⟨hq1, hq2⟩ := ediv_bound' left (L.getD k 0) x1 1000000 (by omega) (by omega)
            have hm0 := Int.emod_nonneg left (b := L.getD k 0) (by omega)
            have hm1 := Int.emod_lt_of_pos left (b := L.getD k 0) (by omega)
            clear n1 ig ig' hg' e1
            subst hg
            generalize L.getD k 0 = x at *
            go_wp2
            go_region
            go_wp2
            go_roundw
            case rel => exact ⟨left % x, rfl, hm0, by omega, HN.out.drewN 1⟩
            case measure => simp [intOf]; omega
    · rw [if_neg hn] at HE
      rw [show inB n 0 1000000 = false from decide_eq_false hn] at hin
      clear hn
      go_enter Try.func17, Try.ntmps17
      go_wp2_with (first | (go_at_call 9; refine hI.mono ?_; rintro e w1 ⟨g, cp, rfl, ho1, hb1⟩; have B1 : Hid (Below B w w1) := hb1; have HSz : Hid (B ≤ w1.heap.size) := (by have := hb1.size; show _ ≤ _; omega); clear ho1 hb1) | (go_at_call 33; refine (hin _).mono ?_; rintro e w2 ⟨rfl, hw2⟩; rw [hw2]; clear hw2))
      go_ret3
      exact UnPost.mk HE.out rfl (.inl rfl) (B1.out.alloc HSz.out _)
  · have HE : Hid (unAll ps n = ([], 0, (pkAll ps).2.1)) := by show _ = _; unfold unAll; rw [if_neg hc]
    have hc' : ((pkAll ps).2.1 != 0) = true := by simpa using hc
    clear hc
    generalize (pkAll ps).2.1 = c at *
    generalize (pkAll ps).1 = L at *
    generalize (pkAll ps).2.2 = s at *
    go_enter Try.func17, Try.ntmps17
    go_wp2_with (go_at_call 9; refine hI.mono ?_; rintro e w1 ⟨g, cp, rfl, ho1, hb1⟩; have B1 : Hid (Below B w w1) := hb1; have HSz : Hid (B ≤ w1.heap.size) := (by have := hb1.size; show _ ≤ _; omega); clear ho1 hb1)
    go_ret3
    exact UnPost.mk HE.out rfl (.inl rfl) (B1.out.alloc HSz.out _)

end Go.Proofs.Ytaledfdhiimhdaj
