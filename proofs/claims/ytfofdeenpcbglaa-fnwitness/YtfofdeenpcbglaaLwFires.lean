/-
  The laws' own fires.
-/
import Derived.Test.YtfofdeenpcbglaaRdB
namespace Go.Proofs.Ytfofdeenpcbglaa
open Go.ChangeShapes Go.WideShapes Go.ChangeAt Go.RowKit Go.Deep
set_option linter.unusedVariables false

theorem hold_waysL (F : List Int) (t : RTm) (m : Nat) (hm : t.fd = (m : Int)) (ho : 1 ≤ t.op ∧ t.op ≤ 3) : (t.op = 1 ∧ F.getD m 0 < t.nu ∧ holdB F t = false) ∨ (t.op = 1 ∧ ¬ F.getD m 0 < t.nu ∧ holdB F t = true) ∨ (t.op = 2 ∧ t.nu < F.getD m 0 ∧ holdB F t = false) ∨ (t.op = 2 ∧ ¬ t.nu < F.getD m 0 ∧ holdB F t = true) ∨ (t.op = 3 ∧ (F.getD m 0 == t.nu) = false ∧ holdB F t = false) ∨ (t.op = 3 ∧ F.getD m 0 = t.nu ∧ holdB F t = true) := by
  have e : t.fd.toNat = m := by omega
  unfold holdB
  rw [e]
  generalize F.getD m 0 = x
  rcases (by omega : t.op = 1 ∨ t.op = 2 ∨ t.op = 3) with h | h | h
  · by_cases hx : x < t.nu
    · exact .inl ⟨h, hx, decide_eq_false (fun q => by have := q.1 h; omega)⟩
    · exact .inr (.inl ⟨h, hx, decide_eq_true ⟨fun _ => by omega, fun q => by omega, fun q => by omega⟩⟩)
  · by_cases hx : t.nu < x
    · exact .inr (.inr (.inl ⟨h, hx, decide_eq_false (fun q => by have := q.2.1 h; omega)⟩))
    · exact .inr (.inr (.inr (.inl ⟨h, hx, decide_eq_true ⟨fun q => by omega, fun _ => by omega, fun q => by omega⟩⟩)))
  · by_cases hx : x = t.nu
    · exact .inr (.inr (.inr (.inr (.inr ⟨h, hx, decide_eq_true ⟨fun q => by omega, fun q => by omega, fun _ => hx⟩⟩))))
    · exact .inr (.inr (.inr (.inr (.inl ⟨h, by simpa using hx, decide_eq_false (fun q => hx (q.2.2 h))⟩))))
theorem nine_cells {w : World} {b : Nat} {nm : ByteArray} {v : Value} {ac nu : Int} (h : w.heap[b]? = some (.cells #[.string nm, v, .int .i64 ac, .int .i64 nu] 25 (0, 0))) : w.cell? ⟨b, 1, none⟩ = some v := by
  unfold World.cell?; rw [h]; rfl
set_option maxHeartbeats 8000000 in
set_option maxRecDepth 8000 in
theorem lawFires_any (nm : ByteArray) (ac nu : Int) (a : Option Addr) (cap : Nat) (ts : List RTm) (hok : ts.all tmB = true) (hl : ts.length ≤ 100000000) (x1 x2 x3 x4 x5 : Int) (w : World) (hr : ReadsTm w.heap.size w a ts) :
    Calls Try.prog 7 #[.agg #[.string nm, .slice a ts.length cap, .int .i64 ac, .int .i64 nu], .agg #[.int .i64 x1, .int .i64 x2, .int .i64 x3, .int .i64 x4, .int .i64 x5]] w fun e w' => e = .returned (.bool (fireB [0, x1, x2, x3, x4, x5] ts)) ∧ Below w.heap.size w w' := by
  have HR : Hid (ReadsTm w.heap.size w a ts) := hr
  have HOK : Hid (∀ t ∈ ts, tmB t = true) := List.all_eq_true.mp hok
  have H0 : Hid (Below w.heap.size w ((w.alloc (.cells #[.string nm, .slice a ts.length cap, .int .i64 ac, .int .i64 nu] 25)).alloc (.cells #[.int .i64 x1, .int .i64 x2, .int .i64 x3, .int .i64 x4, .int .i64 x5] 28)) ∧ ((w.alloc (.cells #[.string nm, .slice a ts.length cap, .int .i64 ac, .int .i64 nu] 25)).alloc (.cells #[.int .i64 x1, .int .i64 x2, .int .i64 x3, .int .i64 x4, .int .i64 x5] 28)).cell? ⟨w.heap.size, 1, none⟩ = some (.slice a ts.length cap) ∧ FcAt ((w.alloc (.cells #[.string nm, .slice a ts.length cap, .int .i64 ac, .int .i64 nu] 25)).alloc (.cells #[.int .i64 x1, .int .i64 x2, .int .i64 x3, .int .i64 x4, .int .i64 x5] 28)) (w.heap.size + 1) x1 x2 x3 x4 x5) := by
    have hf := FcAt.new (w.alloc (.cells #[.string nm, .slice a ts.length cap, .int .i64 ac, .int .i64 nu] 25)) x1 x2 x3 x4 x5
    refine ⟨chain (below_alloc _ _) (below_alloc _ _), nine_cells ((Below.heap_alloc _ _ _ (by simp)).trans (heapNew _ _)), by simpa using hf⟩
  clear hr hok
  go_enter Try.func7, Try.ntmps7
  go_wp2
  go_loopw [5, 6, 7] (fun c _ _ wr => ∃ k : Nat, k ≤ ts.length ∧ c = .int .i64 (k : Int) ∧ (ts.take k).all (holdB [0, x1, x2, x3, x4, x5]) = true ∧ Below w.heap.size w wr ∧ wr.cell? ⟨w.heap.size, 1, none⟩ = some (.slice a ts.length cap) ∧ FcAt wr (w.heap.size + 1) x1 x2 x3 x4 x5) (fun c _ _ _ => ts.length - (intOf c).toNat)
  case atStart => exact ⟨0, Nat.zero_le _, rfl, rfl, H0.out.1, H0.out.2.1, H0.out.2.2⟩
  case round =>
    obtain ⟨k, hk, rfl, hf, hb, hsl, hfc⟩ := hrel
    have HF : Hid ((ts.take k).all (holdB [0, x1, x2, x3, x4, x5]) = true) := hf
    have HB : Hid (Below w.heap.size w wr) := hb
    have HFc : Hid (FcAt wr (w.heap.size + 1) x1 x2 x3 x4 x5) := hfc
    have HSl : Hid (wr.cell? ⟨w.heap.size, 1, none⟩ = some (.slice a ts.length cap)) := hsl
    have hfl := hfc.lt
    clear hf hb H0
    by_cases hlt : k < ts.length
    · have hlt' : (k : Int) < (ts.length : Int) := by omega
      rcases HR.out with h0 | ⟨b0, o0, ha, hB0, ia⟩
      · rw [h0] at hlt; simp at hlt
      subst ha
      have hq : tmB (ts.getD k zTm) = true := by
        have e : ts.getD k zTm = ts[k] := by simp [List.getD_eq_getElem?_getD, hlt]
        rw [e]; exact HOK.out _ (List.getElem_mem _)
      have hq' := tmB_iff.mp hq
      obtain ⟨t0, t1, t2⟩ := (ia.below HB.out hB0) k hlt
      obtain ⟨s0, s1, s2, s3, s4⟩ := hfc
      have HX : Hid (holdB [0, x1, x2, x3, x4, x5] (ts.getD k zTm) = false → fireB [0, x1, x2, x3, x4, x5] ts = false) := fun h => tms_fail hlt h
      have HN : Hid (holdB [0, x1, x2, x3, x4, x5] (ts.getD k zTm) = true → (ts.take (k + 1)).all (holdB [0, x1, x2, x3, x4, x5]) = true) := fun h => by rw [tms_take _ ts k hlt, HF.out, h]; rfl
      clear ia hq
      obtain ⟨m, hm⟩ : ∃ m : Nat, (ts.getD k zTm).fd = (m : Int) := ⟨(ts.getD k zTm).fd.toNat, by omega⟩
      have hw := hold_waysL [0, x1, x2, x3, x4, x5] (ts.getD k zTm) m hm hq'.2.1
      have hm1 : 1 ≤ m ∧ m ≤ 5 := by omega
      have HAft : Hid (∀ W, Below wr.heap.size wr W → Below w.heap.size w W ∧ W.cell? ⟨w.heap.size, 1, none⟩ = some (.slice (some ⟨b0, o0, none⟩) ts.length cap) ∧ FcAt W (w.heap.size + 1) x1 x2 x3 x4 x5) := fun W hW => ⟨chain HB.out hW, (hW.cell (p := ⟨w.heap.size, 1, none⟩) (by show w.heap.size < _; omega)).trans HSl.out, HFc.out.later hW⟩
      clear hq' HFc HSl HF
      generalize ts.getD k zTm = r at *
      obtain ⟨f, o, x⟩ := r
      dsimp only at *
      subst hm
      rcases (by omega : m = 1 ∨ m = 2 ∨ m = 3 ∨ m = 4 ∨ m = 5) with rfl | rfl | rfl | rfl | rfl
      all_goals
        simp only [List.getD_eq_getElem?_getD, List.getElem?_cons_succ, List.getElem?_cons_zero, Option.getD_some] at hw
        rcases hw with ⟨rfl, h1, h2⟩ | ⟨rfl, h1, h2⟩ | ⟨rfl, h1, h2⟩ | ⟨rfl, h1, h2⟩ | ⟨rfl, h1, h2⟩ | ⟨rfl, h1, h2⟩
        · have HE : Hid _ := HX.out h2
          clear HX HN h2
          go_wp2
          go_ret
          exact ⟨ret_bool HE.out.symm, (HAft.out _ (by first | exact below_alloc _ _ | exact chain (below_alloc _ _) (below_alloc _ _))).1⟩
        · have HE : Hid _ := HN.out h2
          clear HX HN h2
          go_wp2
          go_roundw
          case rel => exact ⟨k + 1, by omega, by go_num, HE.out, HAft.out _ (by first | exact below_alloc _ _ | exact chain (below_alloc _ _) (below_alloc _ _))⟩
          case measure => simp [intOf]; omega
        · have HE : Hid _ := HX.out h2
          clear HX HN h2
          go_wp2
          go_ret
          exact ⟨ret_bool HE.out.symm, (HAft.out _ (by first | exact below_alloc _ _ | exact chain (below_alloc _ _) (below_alloc _ _))).1⟩
        · have HE : Hid _ := HN.out h2
          clear HX HN h2
          go_wp2
          go_roundw
          case rel => exact ⟨k + 1, by omega, by go_num, HE.out, HAft.out _ (by first | exact below_alloc _ _ | exact chain (below_alloc _ _) (below_alloc _ _))⟩
          case measure => simp [intOf]; omega
        · have HE : Hid _ := HX.out h2
          clear HX HN h2
          go_wp2
          go_ret
          exact ⟨ret_bool HE.out.symm, (HAft.out _ (by first | exact below_alloc _ _ | exact chain (below_alloc _ _) (below_alloc _ _))).1⟩
        · have HE : Hid _ := HN.out h2
          clear HX HN h2
          subst h1
          go_wp2
          go_roundw
          case rel => exact ⟨k + 1, by omega, by go_num, HE.out, HAft.out _ (by first | exact below_alloc _ _ | exact chain (below_alloc _ _) (below_alloc _ _))⟩
          case measure => simp [intOf]; omega
    · have hle : (ts.length : Int) ≤ (k : Int) := by omega
      have HE : Hid (fireB [0, x1, x2, x3, x4, x5] ts = true) := by have := HF.out; rwa [List.take_of_length_le (by omega)] at this
      go_wp2
      go_ret
      exact ⟨ret_bool HE.out.symm, HB.out⟩
end Go.Proofs.Ytfofdeenpcbglaa
