/-
  Contracts of the program's Hidden$1 and of slices.IndexFunc, slices.ContainsFunc over rooms; of the specification's l06Covers.
-/
import Derived.Test.YthkmgccmeoigpaaRhB
namespace Go.Proofs.Ythkmgccmeoigpaa
open Go.ChangeShapes Go.WideShapes Go.ChangeAt Go.RowKit Go.Deep
set_option linter.unusedVariables false

theorem rowSize {L : List Int} (hL : L.length = 12) : (Try.prog.info? 64).map (·.size) = some (rowI L).size := by rw [rowI_size, hL]; exact infoRm
set_option maxHeartbeats 4000000 in
theorem hiddenFn_any (L M : List Int) (hL : L.length = 12) (hM : M.length = 12) (fb : Nat) (w : World) (hf : RoomAt w fb M) :
    Calls Try.prog 41 #[.agg (rowI L), .pointer (some ⟨fb, 0, none⟩)] w fun e w' => e = .returned (.bool (covL L M)) ∧ Below w.heap.size w w' := by
  have HC : Hid (∀ W, Calls Try.prog 42 #[.agg (rowI L), .agg (rowI M)] W fun e w' => e = .returned (.bool (covL L M)) ∧ Below W.heap.size W w') := fun W => roomCovers_any L M hL hM W
  have gL : (w.alloc (.cells (rowI L) 64)).heap[w.heap.size]? = some (.cells (rowI L) 64 (0, 0)) := heapNew _ _
  have gM : (w.alloc (.cells (rowI L) 64)).heap[fb]? = some (.cells (rowI M) 64 (0, 0)) := hf.later (below_alloc _ _)
  have hsL := rowSize hL
  have hsM := rowSize hM
  clear hf hL hM
  generalize covL L M = b at *
  generalize rowI L = VL at *
  generalize rowI M = VM at *
  go_enter Try.func41, Try.ntmps41
  go_wp2_with (first | (refine wpList_load_row rfl 64 (.tmp 2) rfl w.heap.size rfl 64 _ (0, 0) _ gL Try.underlying64 rfl hsL ?_) | (refine wpList_load_row rfl 64 (.tmp 1) rfl fb rfl 64 _ (0, 0) _ gM Try.underlying64 rfl hsM ?_) | (go_at_call 42; refine (HC.out _).mono ?_; rintro e w2 ⟨rfl, hb2⟩))
  go_ret
  exact ⟨rfl, chain (below_alloc _ _) hb2⟩
set_option maxHeartbeats 8000000 in
theorem rmIndex_any (a : Option Addr) (cap : Nat) (Ls : List (List Int)) (hLs : ∀ L ∈ Ls, L.length = 12) (hl : Ls.length ≤ 100000000) (M : List Int) (hM : M.length = 12) (fb : Nat) (w : World) (hr : ReadsRm w.heap.size w a Ls) (hf : RoomAt w fb M) :
    Calls Try.prog 70 #[.slice a Ls.length cap, .func (.func 41) #[] #[.pointer (some ⟨fb, 0, none⟩)]] w fun e w' => (∃ x : Int, e = .returned (.int .i64 x) ∧ decide (0 ≤ x) = covAny Ls M) ∧ Below w.heap.size w w' := by
  have HR : Hid (ReadsRm w.heap.size w a Ls) := hr
  have HFc : Hid (RoomAt w fb M) := hf
  have HOK : Hid (∀ L ∈ Ls, L.length = 12) := hLs
  clear hr hf hLs
  go_enter Try.func70, Try.ntmps70
  go_wp2
  go_loopw [5, 8] (fun _ c wr => ∃ k : Nat, k ≤ Ls.length ∧ c = .int .i64 (k : Int) ∧ covAny (Ls.take k) M = false ∧ Below w.heap.size w wr) (fun _ c _ => Ls.length - (intOf c).toNat)
  case atStart => exact ⟨0, Nat.zero_le _, rfl, rfl, Below.refl _ _⟩
  case round =>
    obtain ⟨k, hk, rfl, hf, hb⟩ := hrel
    have HF : Hid (covAny (Ls.take k) M = false) := hf
    have HB : Hid (Below w.heap.size w wr) := hb
    clear hf hb
    by_cases hlt : k < Ls.length
    · have hlt' : (k : Int) < (Ls.length : Int) := by omega
      rcases HR.out.later HB.out with h | ⟨b0, o0, ha, hB0, ia⟩
      · rw [h] at hlt; simp at hlt
      subst ha
      have hi := ia k hlt
      have HX : Hid (covL (Ls.getD k []) M = true → covAny Ls M = true) := fun h => covAny_hit hlt h
      have HN : Hid (covL (Ls.getD k []) M = false → covAny (Ls.take (k + 1)) M = false) := fun h => by rw [covAny_take Ls M k hlt, HF.out, h]; rfl
      have h12 := room_at HOK.out hlt
      have hm := hiddenFn_any (Ls.getD k []) M h12 hM fb wr (HFc.out.later HB.out)
      clear ia
      generalize Ls.getD k [] = L at *
      obtain ⟨a0, a1, a2, a3, a4, a5, a6, a7, a8, a9, a10, a11, rfl⟩ := list12 L h12
      have c0 : wr.cell? ⟨b0, o0 + k * 12, none⟩ = some (.int .i64 a0) := hi 0 (by omega)
      have c1 : wr.cell? ⟨b0, o0 + k * 12 + 1, none⟩ = some (.int .i64 a1) := hi 1 (by omega)
      have c2 : wr.cell? ⟨b0, o0 + k * 12 + 2, none⟩ = some (.int .i64 a2) := hi 2 (by omega)
      have c3 : wr.cell? ⟨b0, o0 + k * 12 + 3, none⟩ = some (.int .i64 a3) := hi 3 (by omega)
      have c4 : wr.cell? ⟨b0, o0 + k * 12 + 4, none⟩ = some (.int .i64 a4) := hi 4 (by omega)
      have c5 : wr.cell? ⟨b0, o0 + k * 12 + 5, none⟩ = some (.int .i64 a5) := hi 5 (by omega)
      have c6 : wr.cell? ⟨b0, o0 + k * 12 + 6, none⟩ = some (.int .i64 a6) := hi 6 (by omega)
      have c7 : wr.cell? ⟨b0, o0 + k * 12 + 7, none⟩ = some (.int .i64 a7) := hi 7 (by omega)
      have c8 : wr.cell? ⟨b0, o0 + k * 12 + 8, none⟩ = some (.int .i64 a8) := hi 8 (by omega)
      have c9 : wr.cell? ⟨b0, o0 + k * 12 + 9, none⟩ = some (.int .i64 a9) := hi 9 (by omega)
      have c10 : wr.cell? ⟨b0, o0 + k * 12 + 10, none⟩ = some (.int .i64 a10) := hi 10 (by omega)
      have c11 : wr.cell? ⟨b0, o0 + k * 12 + 11, none⟩ = some (.int .i64 a11) := hi 11 (by omega)
      have hm2 : Calls Try.prog 41 #[.agg #[.int .i64 a0, .int .i64 a1, .int .i64 a2, .int .i64 a3, .int .i64 a4, .int .i64 a5, .int .i64 a6, .int .i64 a7, .int .i64 a8, .int .i64 a9, .int .i64 a10, .int .i64 a11], .pointer (some ⟨fb, 0, none⟩)] wr fun e w' => e = .returned (.bool (covL [a0, a1, a2, a3, a4, a5, a6, a7, a8, a9, a10, a11] M)) ∧ Below wr.heap.size wr w' := hm
      clear hi hm h12
      generalize covL [a0, a1, a2, a3, a4, a5, a6, a7, a8, a9, a10, a11] M = mb at *
      cases mb
      · have H1 : Hid _ := HN.out rfl
        go_wp2_with (go_at_call 41; refine hm2.mono ?_; rintro e w2 ⟨rfl, hb2⟩)
        exact ⟨⟨k + 1, by omega, by go_num, H1.out, chain HB.out hb2⟩, by simp [intOf]; omega⟩
      · have H1 : Hid _ := HX.out rfl
        go_wp2_with (go_at_call 41; refine hm2.mono ?_; rintro e w2 ⟨rfl, hb2⟩)
        go_ret
        exact ⟨⟨(k : Int), rfl, by rw [H1.out]; exact decide_eq_true (by omega)⟩, chain HB.out hb2⟩
    · have hle : (Ls.length : Int) ≤ (k : Int) := by omega
      have HE : Hid (covAny Ls M = false) := by have := HF.out; rwa [List.take_of_length_le (by omega)] at this
      go_wp2
      go_ret
      exact ⟨⟨-1, rfl, by rw [HE.out]; rfl⟩, HB.out⟩
theorem rmContains_any (a : Option Addr) (cap : Nat) (Ls : List (List Int)) (hLs : ∀ L ∈ Ls, L.length = 12) (hl : Ls.length ≤ 100000000) (M : List Int) (hM : M.length = 12) (fb : Nat) (w : World) (hr : ReadsRm w.heap.size w a Ls) (hf : RoomAt w fb M) :
    Calls Try.prog 40 #[.slice a Ls.length cap, .func (.func 41) #[] #[.pointer (some ⟨fb, 0, none⟩)]] w fun e w' => e = .returned (.bool (covAny Ls M)) ∧ Below w.heap.size w w' := by
  have hi := rmIndex_any a cap Ls hLs hl M hM fb w hr hf
  clear hr hf
  go_enter Try.func40, Try.ntmps40
  go_wp2_with (go_at_call 70; refine hi.mono ?_; rintro e w2 ⟨⟨x, rfl, hx⟩, hb2⟩; have HX : Hid (decide (0 ≤ x) = covAny Ls M) := hx; clear hx)
  go_ret
  exact ⟨ret_bool HX.out, hb2⟩
end Go.Proofs.Ythkmgccmeoigpaa
