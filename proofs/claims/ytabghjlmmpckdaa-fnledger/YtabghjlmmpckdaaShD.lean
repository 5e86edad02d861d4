/-
  The specification's HistoryOf: of every list of bytes it draws a short right history and three parts of it. The laws' own has and sameTexts.
-/
import Derived.Test.YtabghjlmmpckdaaShC
import Derived.Test.YtabghjlmmpckdaaDlC
namespace Go.Proofs.Ytabghjlmmpckdaa
open Go.ChangeShapes Go.WideShapes Go.ChangeAt Go.RowKit Go.Deep
set_option linter.unusedVariables false

def PtP (w' : World) (pb : Nat) (L : List REv) : Prop := ∃ (G C : Nat → Nat) (M : Nat → List REv), ∀ j, j < 3 → w'.cell? ⟨pb, j, none⟩ = some (.slice (some ⟨G j, 0, none⟩) (M j).length (C j)) ∧ (M j).Sublist L ∧ G j < w'.heap.size ∧ EvsAt w' (G j) 0 (M j)
def HiP (w : World) (e : Ending) (w' : World) : Prop := ∃ (pb g cp : Nat) (L : List REv), e = .returned (.tuple #[.slice (some ⟨pb, 0, none⟩) 3 3, .slice (some ⟨g, 0, none⟩) L.length cp]) ∧ EvR L ∧ L.length ≤ 21 ∧ g < w'.heap.size ∧ EvsAt w' g 0 L ∧ PtP w' pb L ∧ Below w.heap.size w w'
theorem evs_block {w w' : World} {b off : Nat} {rs : List REv} (h : EvsAt w b off rs) (hk : w'.heap[b]? = w.heap[b]?) : EvsAt w' b off rs := fun i hi => by
  obtain ⟨h0, h1, h2, h3, h4, h5⟩ := h i hi
  have q : ∀ o, w'.cell? ⟨b, o, none⟩ = w.cell? ⟨b, o, none⟩ := fun o => World.cell?_of_block (w := w) (a := ⟨b, o, none⟩) hk
  exact ⟨(q _).trans h0, (q _).trans h1, (q _).trans h2, (q _).trans h3, (q _).trans h4, (q _).trans h5⟩
theorem SoSt.evs {w : World} {b : Nat} {a : Option Addr} {len cap g cp : Nat} {M : List REv} {at' sd : Int} {wr : World} (h : SoSt w b a len cap g cp M at' sd wr) : EvsAt wr g 0 M ∧ g < wr.heap.size ∧ g ≠ b := by
  have := row_lt h.row g rfl
  have := h.bw
  exact ⟨evs_row h.row, by omega, by omega⟩
theorem SoSt.keep {w : World} {b : Nat} {a : Option Addr} {len cap g cp : Nat} {M : List REv} {at' sd : Int} {wr : World} (h : SoSt w b a len cap g cp M at' sd wr) {gl : Nat} {L : List REv} (hL : EvsAt w gl 0 L) (hg : gl < w.heap.size) (hb : gl ≠ b) : EvsAt wr gl 0 L ∧ gl < wr.heap.size := ⟨evs_block hL (h.apart gl hb hg), Nat.lt_of_lt_of_le hg h.size⟩
set_option maxHeartbeats 8000000 in
theorem history_any (a : Option Addr) (len cap : Nat) (zs : List Int) (w : World) (hr : RowB w.heap.size w a len zs) (hl : len ≤ maxLen) :
    Calls Try.prog 7 #[.slice a len cap] w (HiP w) := by
  have hsrc := source_any a len cap w hl
  obtain ⟨b, hb⟩ : ∃ b, b = w.heap.size := ⟨_, rfl⟩
  rw [← hb] at hsrc hr
  have HBw : Hid (b = w.heap.size) := hb
  have HSh : Hid (∀ W (at0 sd : Int), Below b w W → Src W b a len cap at0 sd → at0 ≤ 1000 → Calls Try.prog 24 #[.pointer (some ⟨b, 0, none⟩)] W (ShP W b a len cap at0)) := fun W at0 sd hW h1 h2 => shopEvents_any b a len cap zs at0 sd W h1 (hr.below hW) hl h2
  have HSo : Hid (∀ W (at0 sd : Int) (gl lc : Nat) (L : List REv), Below b w W → Src W b a len cap at0 sd → at0 ≤ 10000 → L.length ≤ 21 → EvsAt W gl 0 L → gl < W.heap.size → gl ≠ b → Calls Try.prog 25 #[.pointer (some ⟨b, 0, none⟩), .slice (some ⟨gl, 0, none⟩) L.length lc] W (SoP W b a len cap L at0)) := fun W at0 sd gl lc L hW h1 h2 h3 h4 h5 h6 => someOf_any b a len cap zs at0 sd gl lc L W h1 (hr.below hW) h2 h3 h4 h5 h6
  clear hr hl hb
  go_enter Try.func7, Try.ntmps7
  go_wp2_with fail
  (first | go_at_call 23 | skip)
  refine hsrc.mono ?_
  rintro e w1 ⟨s1, rfl, hs1, hb1⟩
  have H1 : Hid (Src w1 b a len cap 0 s1 ∧ Below b w w1) := ⟨hs1, hb1⟩
  clear hs1 hb1 hsrc
  go_wp2_with fail
  (first | go_at_call 24 | skip)
  refine (HSh.out w1 0 s1 H1.out.2 H1.out.1 (by omega)).mono ?_
  rintro e w2 ⟨g, cp, L, a2, s2, rfl, hR, hl21, ha2, hst⟩
  have HR : Hid (EvR L) := hR
  have H2 : Hid (Src w2 b a len cap a2 s2 ∧ Below b w w2 ∧ EvsAt w2 g 0 L ∧ g < w2.heap.size ∧ g ≠ b) := ⟨hst.src, H1.out.2.trans hst.low, evs_row hst.row, hst.glt.2, by have := hst.glt.1; omega⟩
  clear hR hst H1 HSh
  go_wp2_with fail
  (first | go_at_call 25 | skip)
  refine (HSo.out w2 a2 s2 g cp L H2.out.2.1 H2.out.1 (by omega) hl21 H2.out.2.2.1 H2.out.2.2.2.1 H2.out.2.2.2.2).mono ?_
  rintro e w3 ⟨g3, c3, M3, a3, s3, rfl, hs3, ha3, hst⟩
  have HM3 : Hid (M3.Sublist L) := hs3
  have H3 : Hid (Src w3 b a len cap a3 s3 ∧ Below b w w3 ∧ (EvsAt w3 g 0 L ∧ g < w3.heap.size) ∧ g ≠ b ∧ (EvsAt w3 g3 0 M3 ∧ g3 < w3.heap.size ∧ g3 ≠ b)) := ⟨hst.src, H2.out.2.1.trans hst.low, hst.keep H2.out.2.2.1 H2.out.2.2.2.1 H2.out.2.2.2.2, H2.out.2.2.2.2, hst.evs⟩
  clear hs3 hst H2
  go_wp2_with fail
  (first | go_at_call 25 | skip)
  refine (HSo.out w3 a3 s3 g cp L H3.out.2.1 H3.out.1 (by omega) hl21 H3.out.2.2.1.1 H3.out.2.2.1.2 H3.out.2.2.2.1).mono ?_
  rintro e w4 ⟨g4, c4, M4, a4, s4, rfl, hs4, ha4, hst⟩
  have HM4 : Hid (M4.Sublist L) := hs4
  have H4 : Hid (Src w4 b a len cap a4 s4 ∧ Below b w w4 ∧ (EvsAt w4 g 0 L ∧ g < w4.heap.size) ∧ g ≠ b ∧ (EvsAt w4 g3 0 M3 ∧ g3 < w4.heap.size) ∧ g3 ≠ b ∧ (EvsAt w4 g4 0 M4 ∧ g4 < w4.heap.size ∧ g4 ≠ b)) := ⟨hst.src, H3.out.2.1.trans hst.low, hst.keep H3.out.2.2.1.1 H3.out.2.2.1.2 H3.out.2.2.2.1, H3.out.2.2.2.1, hst.keep H3.out.2.2.2.2.1 H3.out.2.2.2.2.2.1 H3.out.2.2.2.2.2.2, H3.out.2.2.2.2.2.2, hst.evs⟩
  clear hs4 hst H3
  go_wp2_with fail
  (first | go_at_call 25 | skip)
  refine (HSo.out w4 a4 s4 g cp L H4.out.2.1 H4.out.1 (by omega) hl21 H4.out.2.2.1.1 H4.out.2.2.1.2 H4.out.2.2.2.1).mono ?_
  rintro e w5 ⟨g5, c5, M5, a5, s5, rfl, hs5, ha5, hst⟩
  have HM5 : Hid (M5.Sublist L) := hs5
  have H5 : Hid (Below b w w5 ∧ (EvsAt w5 g 0 L ∧ g < w5.heap.size) ∧ (EvsAt w5 g3 0 M3 ∧ g3 < w5.heap.size) ∧ (EvsAt w5 g4 0 M4 ∧ g4 < w5.heap.size) ∧ (EvsAt w5 g5 0 M5 ∧ g5 < w5.heap.size)) := ⟨H4.out.2.1.trans hst.low, hst.keep H4.out.2.2.1.1 H4.out.2.2.1.2 H4.out.2.2.2.1, hst.keep H4.out.2.2.2.2.1.1 H4.out.2.2.2.2.1.2 H4.out.2.2.2.2.2.1, hst.keep H4.out.2.2.2.2.2.2.1 H4.out.2.2.2.2.2.2.2.1 H4.out.2.2.2.2.2.2.2.2, ⟨hst.evs.1, hst.evs.2.1⟩⟩
  clear hs5 hst H4 HSo
  have HE : Hid (HiP w (.returned (.tuple #[.slice (some ⟨w5.heap.size, 0, none⟩) 3 3, .slice (some ⟨g, 0, none⟩) L.length cp])) (w5.alloc (Obj.cells #[.slice (some ⟨g3, 0, none⟩) M3.length c3, .slice (some ⟨g4, 0, none⟩) M4.length c4, .slice (some ⟨g5, 0, none⟩) M5.length c5] 24))) := by
    have hba := below_alloc w5 (Obj.cells #[.slice (some ⟨g3, 0, none⟩) M3.length c3, .slice (some ⟨g4, 0, none⟩) M4.length c4, .slice (some ⟨g5, 0, none⟩) M5.length c5] 24)
    have hna := heapNew w5 (Obj.cells #[.slice (some ⟨g3, 0, none⟩) M3.length c3, .slice (some ⟨g4, 0, none⟩) M4.length c4, .slice (some ⟨g5, 0, none⟩) M5.length c5] 24)
    obtain ⟨k1, ⟨k2, k3⟩, ⟨k4, k5⟩, ⟨k6, k7⟩, k8, k9⟩ := H5.out
    refine ⟨w5.heap.size, g, cp, L, rfl, HR.out, hl21, Nat.lt_of_lt_of_le k3 hba.size, k2.below hba k3, ⟨fun j => if j = 0 then g3 else if j = 1 then g4 else g5, fun j => if j = 0 then c3 else if j = 1 then c4 else c5, fun j => if j = 0 then M3 else if j = 1 then M4 else M5, fun j hj => ?_⟩, by rw [HBw.out] at k1; exact chain k1 hba⟩
    rcases (by omega : j = 0 ∨ j = 1 ∨ j = 2) with rfl | rfl | rfl
    · exact ⟨blkCell hna 0 _ rfl, HM3.out, Nat.lt_of_lt_of_le k5 hba.size, k4.below hba k5⟩
    · exact ⟨blkCell hna 1 _ rfl, HM4.out, Nat.lt_of_lt_of_le k7 hba.size, k6.below hba k7⟩
    · exact ⟨blkCell hna 2 _ rfl, HM5.out, Nat.lt_of_lt_of_le k9 hba.size, k8.below hba k9⟩
  clear H5 HR HM3 HM4 HM5
  go_wp2
  go_ret2
  exact HE.out
set_option maxHeartbeats 1000000 in
theorem lawHas_any (a : Option Addr) (cap : Nat) (ss : List ByteArray) (hl : ss.length ≤ 100000000) (t : ByteArray) (w : World) (hr : ReadsS w.heap.size w a ss) :
    Calls Try.prog 9 #[.slice a ss.length cap, .string t] w fun e w' => e = .returned (.bool (hasB ss t)) ∧ w' = w := by
  have HR : Hid (ReadsS w.heap.size w a ss) := hr
  clear hr
  go_enter Try.func9, Try.ntmps9
  go_wp2
  go_loop [5] (fun c => ∃ k : Nat, k ≤ ss.length ∧ c = .int .i64 (k : Int) ∧ hasB (ss.take k) t = false) (fun c => ss.length - (intOf c).toNat)
  case atStart => exact ⟨0, Nat.zero_le _, rfl, rfl⟩
  case round =>
    obtain ⟨k, hk, rfl, hf⟩ := hrel
    have HF : Hid (hasB (ss.take k) t = false) := hf
    clear hf
    by_cases hlt : k < ss.length
    · have hlt' : (k : Int) < (ss.length : Int) := by omega
      rcases HR.out with h | ⟨b0, o0, ha, hB0, ia⟩
      · rw [h] at hlt; simp at hlt
      have c0 := ia k hlt
      have HY : Hid (((ss.getD k ByteArray.empty).toList == t.toList) = true → hasB ss t = true) := hasB_yes hlt
      have HN : Hid (((ss.getD k ByteArray.empty).toList == t.toList) = false → hasB (ss.take (k + 1)) t = false) := hasB_next hlt HF.out
      rw [ha]
      clear ia
      generalize ss.getD k ByteArray.empty = s at *
      cases hq : (s.toList == t.toList)
      · have H1 : Hid _ := HN.out hq
        go_wp2
        go_round
        case rel => exact ⟨k + 1, by omega, by go_num, H1.out⟩
        case measure => simp [intOf]; omega
      · have H1 : Hid _ := HY.out hq
        go_wp2
        go_ret
        exact ⟨ret_bool H1.out.symm, rfl⟩
    · have hle : (ss.length : Int) ≤ (k : Int) := by omega
      have HE : Hid (hasB ss t = false) := by have := HF.out; rwa [List.take_of_length_le (by omega)] at this
      go_wp2
      go_ret
      exact ⟨ret_bool HE.out.symm, rfl⟩
set_option maxHeartbeats 1000000 in
theorem sameTexts_any (a b : Option Addr) (ca cb : Nat) (ss : List ByteArray) (hn : ss.length ≤ 1048576) (w : World) (ra : ReadsS w.heap.size w a ss) (rb : ReadsS w.heap.size w b ss) :
    Calls Try.prog 10 #[.slice a ss.length ca, .slice b ss.length cb] w fun e w' => e = .returned (.bool true) ∧ Below w.heap.size w w' := by
  have HA : Hid (ReadsS w.heap.size w a ss) := ra
  have HBb : Hid (ReadsS w.heap.size w b ss) := rb
  clear ra rb
  have hcc : ((ss.length : Int) != (ss.length : Int)) = false := by simp
  go_enter Try.func10, Try.ntmps10
  go_wp2
  go_loopw [5] (fun i wr => ∃ k : Nat, k ≤ ss.length ∧ i = .int .i64 (k : Int) ∧ Below w.heap.size w wr) (fun i _ => ss.length - (intOf i).toNat)
  case atStart => exact ⟨0, Nat.zero_le _, rfl, Below.refl _ _⟩
  case round =>
    obtain ⟨k, hk, rfl, hb⟩ := hrel
    have HB : Hid (Below w.heap.size w wr) := hb
    clear hb
    by_cases hlt : k < ss.length
    · have hlt' : (k : Int) < (ss.length : Int) := by omega
      rcases HA.out with h | ⟨b0, o0, ha, hB0, ia⟩
      · rw [h] at hlt; simp at hlt
      rcases HBb.out with h | ⟨b1, o1, hbb, hB1, ib⟩
      · rw [h] at hlt; simp at hlt
      have c0 := (ia.below HB.out hB0) k hlt
      have d0 := (ib.below HB.out hB1) k hlt
      rw [ha, hbb]
      clear ia ib
      generalize ss.getD k ByteArray.empty = s at *
      have hs : (s.toList != s.toList) = false := by simp
      go_wp2
      go_quiet (fail)
      go_wp2
      go_roundw
      case rel => exact ⟨k + 1, by omega, by go_num, by first | exact HB.out | exact HB.out.drew | exact chain HB.out ⟨rfl, rfl, rfl, Nat.le_refl _, fun _ _ => rfl⟩⟩
      case measure => simp [intOf]; omega
    · go_wp2
      go_ret
      exact ⟨rfl, HB.out⟩
end Go.Proofs.Ytabghjlmmpckdaa
