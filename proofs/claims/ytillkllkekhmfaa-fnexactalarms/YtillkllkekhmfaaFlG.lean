/-
  The laws' own helpers on numbers of double precision and lists of them; a list that came in, opened.
-/
import Derived.Test.YtillkllkekhmfaaFlW
import Derived.Test.YtillkllkekhmfaaFlS
import Derived.Test.YtillkllkekhmfaaLists
import Derived.Deep.RegionHeld3
namespace Go.Proofs.Ytillkllkekhmfaa
open Go.ChangeShapes Go.WideShapes Go.ChangeAt Go.RowKit Go.Joins Go.Deep
set_option linter.unusedVariables false
attribute [local go_sem] run_store_float

theorem fltInfo : (Try.prog.info? 24).map (fun i => (i.zero, i.size, i.bytes)) = some (some (.float .f64 0), 1, 8) := by kernel_rfl
theorem take_nextF {xs ys : List Nat} {k : Nat} (hx : k < xs.length) (hy : k < ys.length) (h : xs.take k = ys.take k) (he : xs.getD k 0 = ys.getD k 0) : xs.take (k + 1) = ys.take (k + 1) := by
  rw [List.take_succ_eq_append_getElem hx, List.take_succ_eq_append_getElem hy, h]
  have e1 : xs.getD k 0 = xs[k] := by simp [List.getD_eq_getElem?_getD, hx]
  have e2 : ys.getD k 0 = ys[k] := by simp [List.getD_eq_getElem?_getD, hy]
  rw [← e1, ← e2, he]
theorem toFlts_any (a : Option Addr) (cap : Nat) (xs : List Nat) (hn : xs.length ≤ 100000000) (w : World) (hr : ReadsF w.heap.size w a xs) :
    Calls Try.prog 20 #[.slice a xs.length cap] w fun e w' => e = .returned (.slice (some ⟨w.heap.size, 0, none⟩) xs.length xs.length) ∧ Below w.heap.size w w' ∧ w.heap.size < w'.heap.size ∧ FltsAt w' w.heap.size 0 xs ∧ FreeAt w' w.heap.size 0 xs.length := by
  have hmk := fun w => run_make_row' (P := Try.prog) 23 24 (.float .f64 0) 8 Try.underlying23 fltInfo rfl .i64 .i64 xs.length (by omega) (by omega) w
  have hmade := World.rowIs_made w (.float .f64 0) xs.length 24
  have HR : Hid (ReadsF w.heap.size w a xs) := hr
  have HM : Hid ((w.alloc (Obj.cells (madeCells #[Value.float .f64 0] xs.length) 24)).rowIs w.heap.size 24 xs.length (fun _ => .float .f64 0)) := hmade
  clear hr hmade
  go_enter Try.func20, Try.ntmps20
  go_wp2
  go_loopw [4] (fun i wr => ∃ k : Nat, k ≤ xs.length ∧ i = .int .i64 (k : Int) ∧ Below w.heap.size w wr ∧ wr.rowIs w.heap.size 24 xs.length (fun i => .float .f64 (if i < k then xs.getD i 0 else 0))) (fun i _ => xs.length - (intOf i).toNat)
  case atStart => exact ⟨0, Nat.zero_le _, rfl, below_alloc _ _, HM.out.congr (fun i hi => by simp)⟩
  case round =>
    obtain ⟨k, hk, rfl, hb, hrow⟩ := hrel
    have HB : Hid (Below w.heap.size w wr) := hb
    have HW : Hid (wr.rowIs w.heap.size 24 xs.length (fun i => .float .f64 (if i < k then xs.getD i 0 else 0))) := hrow
    clear hb hrow
    by_cases hlt : k < xs.length
    · have hlt' : (k : Int) < (xs.length : Int) := by omega
      rcases HR.out with h | ⟨b0, o0, ha, hB0, ia⟩
      · rw [h] at hlt; simp at hlt
      have c0 := (ia.below HB.out hB0) k hlt
      obtain ⟨v, hv⟩ : ∃ v, wr.cell? ⟨w.heap.size, k, none⟩ = some v := ⟨_, HW.out.cell hlt⟩
      have hfz : wr.frozen? ⟨w.heap.size, k, none⟩ = false := HW.out.frozen k
      rw [ha]
      have HX : Hid (xs.getD k 0 = xs.getD k 0) := rfl
      generalize hx0 : xs.getD k 0 = p at *
      have HP : Hid (xs.getD k 0 = p) := hx0
      clear hx0 ia HX
      go_wp2
      go_roundw
      case rel =>
        refine ⟨k + 1, by omega, by go_num, HB.out.setCell (Nat.le_refl _) _, (HW.out.set k (.float .f64 p)).congr (fun i hi => ?_)⟩
        by_cases e : i = k
        · rw [if_pos e, if_pos (by omega), e, HP.out]
        · rw [if_neg e]
          by_cases h2 : i < k
          · rw [if_pos h2, if_pos (by omega)]
          · rw [if_neg h2, if_neg (by omega)]
      case measure => simp [intOf]; omega
    · go_wp2
      go_ret
      refine ⟨rfl, HB.out, HW.out.lt, fun i hi => ?_, fun i hi => ?_⟩
      · rw [Nat.zero_add, HW.out.cell hi, if_pos (by omega)]
      · rw [Nat.zero_add]; exact HW.out.frozen i
theorem keepFl {W W' : World} {b0 o0 b1 o1 : Nat} {x y : Value} (h : W.cell? ⟨b0, o0, none⟩ = some x ∧ W.cell? ⟨b1, o1, none⟩ = some y ∧ b0 < W.heap.size ∧ b1 < W.heap.size) (hb : Below W.heap.size W W') :
    W'.cell? ⟨b0, o0, none⟩ = some x ∧ W'.cell? ⟨b1, o1, none⟩ = some y ∧ b0 < W'.heap.size ∧ b1 < W'.heap.size :=
  ⟨(hb.cell (p := ⟨b0, o0, none⟩) h.2.2.1).trans h.1, (hb.cell (p := ⟨b1, o1, none⟩) h.2.2.2).trans h.2.1, Nat.lt_of_lt_of_le h.2.2.1 hb.size, Nat.lt_of_lt_of_le h.2.2.2 hb.size⟩
theorem eqFlts_any (a b : Option Addr) (ca cb : Nat) (L : List Nat) (hl : L.length ≤ 100000000) (w : World) (ra : ReadsF w.heap.size w a L) (rb : ReadsF w.heap.size w b L) :
    Calls Try.prog 22 #[.slice a L.length ca, .slice b L.length cb] w fun e w' => e = .returned (.bool true) ∧ Below w.heap.size w w' := by
  have HA : Hid (ReadsF w.heap.size w a L) := ra
  have HBb : Hid (ReadsF w.heap.size w b L) := rb
  clear ra rb
  have hne : ((L.length : Int) != (L.length : Int)) = false := by simp
  go_enter Try.func22, Try.ntmps22
  go_wp2
  go_loopw [5] (fun c wr => ∃ k : Nat, k ≤ L.length ∧ c = .int .i64 (k : Int) ∧ Below w.heap.size w wr) (fun c _ => L.length - (intOf c).toNat)
  case atStart => exact ⟨0, Nat.zero_le _, rfl, Below.refl _ _⟩
  case round =>
    obtain ⟨k, hk, rfl, hb⟩ := hrel
    have HB : Hid (Below w.heap.size w wr) := hb
    clear hb
    by_cases hlt : k < L.length
    · have hlt' : (k : Int) < (L.length : Int) := by omega
      rcases HA.out with h | ⟨b0, o0, ha, hB0, ia⟩
      · rw [h] at hlt; simp at hlt
      rcases HBb.out with h | ⟨b1, o1, hbb, hB1, ib⟩
      · rw [h] at hlt; simp at hlt
      have c0 := (ia.below HB.out hB0) k hlt
      have d0 := (ib.below HB.out hB1) k hlt
      have lt0 : b0 < wr.heap.size := Nat.lt_of_lt_of_le hB0 HB.out.size
      have lt1 : b1 < wr.heap.size := Nat.lt_of_lt_of_le hB1 HB.out.size
      rw [ha, hbb]
      clear ia ib
      generalize L.getD k 0 = x at *
      go_wp2
      go_region_held3 (fun W => W.cell? ⟨b0, o0 + k, none⟩ = some (.float .f64 x) ∧ W.cell? ⟨b1, o1 + k, none⟩ = some (.float .f64 x) ∧ b0 < W.heap.size ∧ b1 < W.heap.size) (first | exact ⟨c0, d0, lt0, lt1⟩ | exact keepFl (by assumption) (by assumption)) (first | (go_at_call 28; refine (sameF_any _ _).mono ?_; rintro e w2 ⟨rfl, hb2⟩))
      have HB2 : Hid (Below w.heap.size w w2) := chain HB.out.drew hb2
      go_wp2
      go_roundw
      case rel => exact ⟨k + 1, by omega, by go_num, HB2.out⟩
      case measure => simp [intOf]; omega
    · have hle : (L.length : Int) ≤ (k : Int) := by omega
      go_wp2
      go_ret
      exact ⟨rfl, HB.out⟩
set_option maxHeartbeats 1000000 in
theorem markFlts_any (b off n cap : Nat) (hn : n ≤ 100000000) (k0 : Int) (h0 : 0 ≤ k0) (h1 : k0 ≤ 100000000) (w : World) (hc : ∀ i, i < n → (w.cell? ⟨b, off + i, none⟩).isSome = true) (hf : FreeAt w b off n) :
    Calls Try.prog 24 #[.slice (some ⟨b, off, none⟩) n cap, .int .i64 k0] w fun e w' => e = .returned (.int .i64 (k0 + (n : Int))) ∧ Others b w w' := by
  have HC : Hid (∀ i, i < n → (w.cell? ⟨b, off + i, none⟩).isSome = true) := hc
  have HF : Hid (FreeAt w b off n) := hf
  clear hc hf
  have hcv := fun W k => run_convert_int_float (P := Try.prog) W 3 24 .i64 .f64 k (by rw [Try.underlying3]; rfl) Try.underlying24
  go_enter Try.func24, Try.ntmps24
  go_wp2
  go_loopw [1, 5] (fun k i wr => ∃ j : Nat, j ≤ n ∧ i = .int .i64 (j : Int) ∧ k = .int .i64 (k0 + (j : Int)) ∧ Others b w wr ∧ (∀ i, i < n → (wr.cell? ⟨b, off + i, none⟩).isSome = true)) (fun _ i _ => n - (intOf i).toNat)
  case atStart => exact ⟨0, Nat.zero_le _, rfl, by simp, Others.refl _ _, HC.out⟩
  case round =>
    obtain ⟨j, hj, rfl, rfl, ho, hs⟩ := hrel
    have HO : Hid (Others b w wr) := ho
    have HS : Hid (∀ i, i < n → (wr.cell? ⟨b, off + i, none⟩).isSome = true) := hs
    clear ho hs
    by_cases hlt : j < n
    · have hlt' : (j : Int) < (n : Int) := by omega
      obtain ⟨v, hv⟩ := Option.isSome_iff_exists.mp (HS.out j hlt)
      have hfz : wr.frozen? ⟨b, off + j, none⟩ = false := (HO.out.2.1 b (off + j)).trans (HF.out j hlt)
      go_wp2
      go_roundw
      case rel =>
        refine ⟨j + 1, by omega, by go_num, by go_num, HO.out.set _ _, fun i hi => ?_⟩
        by_cases e : i = j
        · rw [e, World.cell?_setCell_same _ _ _ hv]; rfl
        · rw [World.cell?_setCell_other _ _ _ _ (fun h => e (by first | (simp at h; omega) | (simp at h; done) | (cases h; rfl)))]; exact HS.out i hi
      case measure => simp [intOf]; omega
    · have e : j = n := by omega
      have HE : Hid (j = n) := e
      clear e
      go_wp2
      go_ret
      exact ⟨ret_int (by rw [HE.out]), HO.out⟩
theorem markFlts_none (a : Option Addr) (cap : Nat) (k0 : Int) (w : World) :
    Calls Try.prog 24 #[.slice a 0 cap, .int .i64 k0] w fun e w' => e = .returned (.int .i64 k0) ∧ w' = w := by
  go_enter Try.func24, Try.ntmps24
  go_wp2
  go_loop [1, 5] (fun k i => i = .int .i64 0 ∧ k = .int .i64 k0) (fun _ i => 0)
  case atStart => exact ⟨rfl, rfl⟩
  case round =>
    obtain ⟨rfl, rfl⟩ := hrel
    go_wp2
    go_ret
    exact ⟨rfl, rfl⟩
/-! ### A list that came in -/
def IsFls (w : World) (a : Option Addr) (len cap : Nat) (xs : List Nat) : Prop := xs.length = len ∧ len ≤ cap ∧ cap ≤ maxLen ∧ ReadsF w.heap.size w a xs
theorem openFls {H : Type} {enc : TypeId × Value → H} {w : World} {spare : Nat → Bool} {held : Bool} {fuel : Nat} {a : Option Addr} {len cap : Nat} {x : DataW H × List MemPlace} (h : DataW.trod enc Try.prog w 0 spare held fuel 23 [.slice a len cap] = some x) :
    ∃ xs, IsFls w a len cap xs := by
  rcases open_slice Try.underlying23 h with ⟨hcs, _⟩ | ⟨ad, l, c, m, n, D, Pl, hcs, _, hl, hm, hmm, _, hx⟩
  · simp at hcs
    obtain ⟨rfl, rfl, rfl⟩ := hcs
    exact ⟨[], rfl, Nat.le_refl _, by unfold maxLen; omega, .inl rfl⟩
  · simp at hcs
    obtain ⟨rfl, rfl, rfl⟩ := hcs
    have hlm : len ≤ m := by rw [hmm]; split <;> omega
    have hc : Try.prog.cellsOf 24 = 1 := by kernel_rfl
    rw [hc] at hx
    obtain ⟨f, hf⟩ := choose_lt (α := Nat) (n := len) (p := fun i r => w.cell? ((ad.add (i * 1)).add 0) = some (.float .f64 r)) (fun i hi => by
      obtain ⟨cs', h1, h2⟩ := hx i (by omega)
      obtain ⟨hlen, hnone, hcell⟩ := World.cells?_some h1
      obtain ⟨v, rfl⟩ : ∃ v, cs' = [v] := by
        rcases cs' with _ | ⟨v, _ | ⟨u, l⟩⟩
        · first | (simp at hlen; done) | (simp at hnone; done)
        · exact ⟨v, rfl⟩
        · first | (simp at hlen; done) | (simp at hnone; done)
      obtain ⟨r, rfl⟩ := trod_float h2
      exact ⟨r, hcell 0 (by omega)⟩)
    have hg : ∀ i, i < len → ((List.range len).map f).getD i 0 = f i := fun i hi => by simp [List.getD_eq_getElem?_getD, hi]
    refine ⟨(List.range len).map f, by simp, hl, hm, ?_⟩
    by_cases h0 : len = 0
    · exact .inl (by subst h0; rfl)
    · obtain ⟨b, off, spot⟩ := ad
      have hspot : spot = none := by simpa [Addr.add] using World.cell?_spot (hf 0 (by omega))
      subst hspot
      refine .inr ⟨b, off, rfl, ?_, fun i hi => ?_⟩
      · have := hf 0 (by omega)
        rw [Go.WideShapes.add_plain, Go.WideShapes.add_plain] at this
        exact World.block_lt_of_cell? _ _ this
      · have hi' : i < len := by simpa using hi
        have q0 := hf i hi'
        rw [Go.WideShapes.add_plain, Go.WideShapes.add_plain] at q0
        rw [hg i hi']
        simpa using q0
end Go.Proofs.Ytillkllkekhmfaa
