/-
  Lists of tax lines in memory; the program's taxLineOK and its search for a line that is not right.
-/
import Derived.Test.YtoaimjocphfcaaaTaxA
import Derived.Test.YtoaimjocphfcaaaAmt
namespace Go.Proofs.Ytoaimjocphfcaaa
open Go.ChangeShapes Go.WideShapes Go.ChangeAt Go.RowKit
set_option linter.unusedVariables false

/-- A line: its class, its gross. -/
structure TL where
  cl : Int
  gr : Int
def tl0 : TL := ⟨0, 0⟩
def LineAt (w : World) (b off : Nat) (l : TL) : Prop := w.cell? ⟨b, off, none⟩ = some (.int .i64 l.cl) ∧ w.cell? ⟨b, off + 1, none⟩ = some (.int .i64 l.gr)
def LinesAt (w : World) (b off : Nat) (ls : List TL) : Prop := ∀ i, i < ls.length → LineAt w b (off + i * 2) (ls.getD i tl0)
def ReadsL (B : Nat) (w : World) (a : Option Addr) (ls : List TL) : Prop := ls = [] ∨ ∃ b off, a = some ⟨b, off, none⟩ ∧ b < B ∧ LinesAt w b off ls
theorem LineAt.below {B : Nat} {w w' : World} {b off : Nat} {l : TL} (h : LineAt w b off l) (hb : Below B w w') (hB : b < B) : LineAt w' b off l :=
  ⟨(hb.cell (p := ⟨b, off, none⟩) hB).trans h.1, (hb.cell (p := ⟨b, off + 1, none⟩) hB).trans h.2⟩
theorem LinesAt.below {B : Nat} {w w' : World} {b off : Nat} {ls : List TL} (h : LinesAt w b off ls) (hb : Below B w w') (hB : b < B) : LinesAt w' b off ls := fun i hi => (h i hi).below hb hB
theorem ReadsL.below {B : Nat} {w w' : World} {a : Option Addr} {ls : List TL} (h : ReadsL B w a ls) (hb : Below B w w') : ReadsL B w' a ls := by
  rcases h with h | ⟨b, off, ha, hB, hi⟩
  · exact .inl h
  · exact .inr ⟨b, off, ha, hB, hi.below hb hB⟩
theorem ReadsL.mono {B B' : Nat} {w : World} {a : Option Addr} {ls : List TL} (h : ReadsL B w a ls) (hb : B ≤ B') : ReadsL B' w a ls := by
  rcases h with h | ⟨b, off, ha, hB, hi⟩
  · exact .inl h
  · exact .inr ⟨b, off, ha, by omega, hi⟩

/-- Is a line right? -/
def tlOK (l : TL) : Bool := inB l.cl 1 9 && amtB l.gr
theorem line_any (c g : Int) (w : World) :
    Calls Try.prog 16 #[.agg #[.int .i64 c, .int .i64 g]] w fun e w' => e = .returned (.bool (tlOK ⟨c, g⟩)) ∧ Below w.heap.size w w' := by
  have e : tlOK ⟨c, g⟩ = (inB c 1 9 && amtB g) := rfl
  rw [e]
  have HC : Hid (∀ b, inB c 1 9 = b → ∀ w, Calls Try.prog 30 #[.int .i64 c] w fun e w' => e = .returned (.bool b) ∧ w' = w) := fun b h w => h ▸ class_any c w
  have hA := fun w => implMoney_any g w
  generalize amtB g = ab at *
  cases hc : inB c 1 9
  all_goals
    have H1 : Hid _ := HC.out _ hc
    clear hc e
    go_enter Try.func16, Try.ntmps16
    go_wp2_with (first
      | (go_at_call 30; refine (H1.out _).mono ?_; rintro e w1 ⟨rfl, rfl⟩)
      | (go_at_call 31; refine (hA _).mono ?_; rintro e w2 ⟨rfl, rfl⟩))
    go_ret
    exact ⟨rfl, below_alloc _ _⟩
theorem wrong1_any (c g : Int) (w : World) :
    Calls Try.prog 15 #[.agg #[.int .i64 c, .int .i64 g]] w fun e w' => e = .returned (.bool (!tlOK ⟨c, g⟩)) ∧ Below w.heap.size w w' := by
  have h := fun w => line_any c g w
  generalize tlOK ⟨c, g⟩ = b at *
  go_enter Try.func15, Try.ntmps15
  go_wp2_with (go_at_call 16; refine (h _).mono ?_; rintro e w1 ⟨rfl, hb1⟩)
  go_ret
  exact ⟨rfl, chain (below_alloc _ _) hb1⟩
theorem anyL_next (p : TL → Bool) (ls : List TL) (k : Nat) (h : k < ls.length) : (ls.take (k + 1)).any p = ((ls.take k).any p || p (ls.getD k tl0)) := by
  rw [List.take_succ_eq_append_getElem h, List.any_append]
  have e : ls.getD k tl0 = ls[k] := by simp [List.getD_eq_getElem?_getD, h]
  rw [e]; simp
theorem anyL_at {p : TL → Bool} {ls : List TL} {k : Nat} (h : k < ls.length) (hp : p (ls.getD k tl0) = true) : ls.any p = true := by
  have e : ls.getD k tl0 = ls[k] := by simp [List.getD_eq_getElem?_getD, h]
  rw [e] at hp
  exact List.any_eq_true.mpr ⟨ls[k], List.getElem_mem _, hp⟩

set_option maxHeartbeats 2000000 in
theorem indexL_any (a : Option Addr) (cap : Nat) (ls : List TL) (hl : ls.length ≤ 100000000) (w : World) (hr : ReadsL w.heap.size w a ls) :
    Calls Try.prog 29 #[.slice a ls.length cap, .func (.func 15) #[] #[]] w fun e w' => (∃ x : Int, e = .returned (.int .i64 x) ∧ decide (0 ≤ x) = ls.any (fun l => !tlOK l)) ∧ Below w.heap.size w w' := by
  have HR : Hid (ReadsL w.heap.size w a ls) := hr
  clear hr
  go_enter Try.func29, Try.ntmps29
  go_wp2
  go_loopw [5, 8] (fun _ c wr => ∃ k : Nat, k ≤ ls.length ∧ c = .int .i64 (k : Int) ∧ (ls.take k).any (fun l => !tlOK l) = false ∧ Below w.heap.size w wr) (fun _ c _ => ls.length - (intOf c).toNat)
  case atStart => exact ⟨0, Nat.zero_le _, rfl, rfl, Below.refl _ _⟩
  case round =>
    obtain ⟨k, hk, rfl, hf, hb⟩ := hrel
    have HF : Hid ((ls.take k).any (fun l => !tlOK l) = false) := hf
    have HB : Hid (Below w.heap.size w wr) := hb
    clear hf hb
    by_cases hlt : k < ls.length
    · have hlt' : (k : Int) < (ls.length : Int) := by omega
      rcases HR.out with h | ⟨b0, o0, ha, hB0, ia⟩
      · rw [h] at hlt; simp at hlt
      obtain ⟨c0, c1⟩ := (ia.below HB.out hB0) k hlt
      have HX : Hid ((!tlOK (ls.getD k tl0)) = true → ls.any (fun l => !tlOK l) = true) := fun h => anyL_at (p := fun l => !tlOK l) hlt h
      have HN : Hid ((ls.take (k + 1)).any (fun l => !tlOK l) = ((ls.take k).any (fun l => !tlOK l) || !tlOK (ls.getD k tl0))) := anyL_next (fun l => !tlOK l) ls k hlt
      rw [ha]
      clear ia
      generalize ls.getD k tl0 = q at *
      obtain ⟨qc, qg⟩ := q
      dsimp only at c0 c1
      have hm := fun w => wrong1_any qc qg w
      generalize tlOK ⟨qc, qg⟩ = mb at *
      cases mb
      · go_wp2_with (go_at_call 15; refine (hm _).mono ?_; rintro e w2 ⟨rfl, hb2⟩)
        go_ret
        exact ⟨⟨(k : Int), rfl, by rw [HX.out rfl]; exact decide_eq_true (by omega)⟩, chain HB.out hb2⟩
      · go_wp2_with (go_at_call 15; refine (hm _).mono ?_; rintro e w2 ⟨rfl, hb2⟩)
        exact ⟨⟨k + 1, by omega, by go_num, by rw [HN.out, HF.out]; rfl, chain HB.out hb2⟩, by simp [intOf]; omega⟩
    · have hle : (ls.length : Int) ≤ (k : Int) := by omega
      have HE : Hid (ls.any (fun l => !tlOK l) = false) := by have := HF.out; rwa [List.take_of_length_le (by omega)] at this
      go_wp2
      go_ret
      exact ⟨⟨-1, rfl, by rw [HE.out]; rfl⟩, HB.out⟩
theorem containsL_any (a : Option Addr) (cap : Nat) (ls : List TL) (hl : ls.length ≤ 100000000) (w : World) (hr : ReadsL w.heap.size w a ls) :
    Calls Try.prog 14 #[.slice a ls.length cap, .func (.func 15) #[] #[]] w fun e w' => e = .returned (.bool (ls.any (fun l => !tlOK l))) ∧ Below w.heap.size w w' := by
  have hi := indexL_any a cap ls hl w hr
  clear hr
  go_enter Try.func14, Try.ntmps14
  go_wp2_with (go_at_call 29; refine hi.mono ?_; rintro e w2 ⟨⟨x, rfl, hx⟩, hb2⟩; have HX : Hid (decide (0 ≤ x) = ls.any (fun l => !tlOK l)) := hx; clear hx)
  go_ret
  exact ⟨ret_bool HX.out, hb2⟩
end Go.Proofs.Ytoaimjocphfcaaa
