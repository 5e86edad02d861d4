/-
  Levels smoothed, as mathematics; contracts of the program's levelBehind, levelsOf, Smooth and of the specification's Smooth, for all arguments.
-/
import Derived.Test.YtjdjopikljdigaaQsA
import Derived.Test.YtjdjopikljdigaaRound
import Derived.Test.YtjdjopikljdigaaRow1
import Derived.Test.YtjdjopikljdigaaRowG
namespace Go.Proofs.Ytjdjopikljdigaa
open Go.ChangeShapes Go.WideShapes Go.ChangeAt Go.RowKit Go.Joins
set_option linter.unusedVariables false

/-- The level behind one that was p, where x is now. -/
def lvS (num den p x : Int) : Int := p + (x - p) * num / den
/-- The level behind the k-th number. -/
def lvN (num den : Int) (xs : List Int) : Nat → Int
  | 0 => 64 * xs.getD 0 0
  | k + 1 => lvS num den (lvN num den xs k) (64 * xs.getD (k + 1) 0)
def lvL (num den : Int) (xs : List Int) (n : Nat) : List Int := (List.range n).map (lvN num den xs)
def lvP (num den : Int) (xs : List Int) (k : Nat) : Int := lvN num den xs (k - 1)
theorem lvL_length (num den : Int) (xs : List Int) (n : Nat) : (lvL num den xs n).length = n := by simp [lvL]
theorem lvL_next (num den : Int) (xs : List Int) (n : Nat) : lvL num den xs (n + 1) = lvL num den xs n ++ [lvN num den xs n] := by simp [lvL, List.range_succ]
theorem lvL_at (num den : Int) (xs : List Int) {n k : Nat} (h : k < n) : (lvL num den xs n).getD k 0 = lvN num den xs k := by simp [lvL, List.getD_eq_getElem?_getD, h]
theorem lv_q {num den d : Int} (h1 : 1 ≤ den) (h2 : 0 ≤ num) (h3 : num ≤ den) : (0 ≤ d → 0 ≤ d * num / den ∧ d * num / den ≤ d) ∧ (d ≤ 0 → d ≤ d * num / den ∧ d * num / den ≤ 0) := by
  constructor
  · intro h
    have a1 : 0 ≤ d * num := Int.mul_nonneg h h2
    have a2 : d * num ≤ d * den := Int.mul_le_mul_of_nonneg_left h3 h
    exact ⟨Int.ediv_nonneg a1 (by omega), Int.ediv_le_of_le_mul (by omega) a2⟩
  · intro h
    have a1 : d * den ≤ d * num := Int.mul_le_mul_of_nonpos_left h h3
    have a2 : d * num ≤ 0 * den := by rw [Int.zero_mul]; exact Int.mul_nonpos_of_nonpos_of_nonneg h h2
    exact ⟨Int.le_ediv_of_mul_le (by omega) a1, Int.ediv_le_of_le_mul (by omega) a2⟩
/-- A level lies between the one ahead and what is now. -/
theorem lv_between {num den p x : Int} (h1 : 1 ≤ den) (h2 : 0 ≤ num) (h3 : num ≤ den) : (p ≤ x → p ≤ lvS num den p x ∧ lvS num den p x ≤ x) ∧ (x ≤ p → x ≤ lvS num den p x ∧ lvS num den p x ≤ p) := by
  obtain ⟨a, b⟩ := lv_q (d := x - p) h1 h2 h3
  unfold lvS
  generalize (x - p) * num / den = q at *
  exact ⟨fun h => by have := a (by omega); omega, fun h => by have := b (by omega); omega⟩
theorem lv_small {num den p x : Int} (h1 : 1 ≤ den) (hd : den ≤ 1000) (h2 : 0 ≤ num) (h3 : num ≤ den) (p1 : 0 ≤ p) (p2 : p ≤ 6400000) (x1 : 0 ≤ x) (x2 : x ≤ 6400000) :
    (0 ≤ lvS num den p x ∧ lvS num den p x ≤ 6400000) ∧ (-6400000000 ≤ (x - p) * num ∧ (x - p) * num ≤ 6400000000) ∧ (-6400000 ≤ (x - p) * num / den ∧ (x - p) * num / den ≤ 6400000) := by
  obtain ⟨a, b⟩ := lv_between (p := p) (x := x) h1 h2 h3
  obtain ⟨c, d⟩ := lv_q (d := x - p) h1 h2 h3
  refine ⟨?_, ?_, ?_⟩
  · rcases (by omega : p ≤ x ∨ x ≤ p) with h | h
    · have := a h; omega
    · have := b h; omega
  · have m1 : (x - p) * num ≤ 6400000 * num := Int.mul_le_mul_of_nonneg_right (by omega) h2
    have m2 : (-6400000) * num ≤ (x - p) * num := Int.mul_le_mul_of_nonneg_right (by omega) h2
    omega
  · rcases (by omega : 0 ≤ x - p ∨ x - p ≤ 0) with h | h
    · have := c h; omega
    · have := d h; omega
theorem lvN_bound {num den : Int} {xs : List Int} (h1 : 1 ≤ den) (hd : den ≤ 1000) (h2 : 0 ≤ num) (h3 : num ≤ den) (hx : ∀ k, 0 ≤ xs.getD k 0 ∧ xs.getD k 0 ≤ 100000) : ∀ k, 0 ≤ lvN num den xs k ∧ lvN num den xs k ≤ 6400000
  | 0 => by have := hx 0; show 0 ≤ 64 * xs.getD 0 0 ∧ 64 * xs.getD 0 0 ≤ 6400000; omega
  | k + 1 => by
    have i := lvN_bound h1 hd h2 h3 hx k
    have := hx (k + 1)
    exact (lv_small h1 hd h2 h3 i.1 i.2 (by omega) (by omega)).1
def smB (xs : List Int) (num den : Int) : Bool := alB 0 100000 xs && ptB 0 num den
def smC (xs : List Int) (num den : Int) : Int := if 4096 < xs.length then 2 else if smB xs num den = true then 0 else 1
def smL (xs : List Int) (num den : Int) : List Int := if smC xs num den = 0 then lvL num den xs xs.length else []
theorem sm_ways (xs : List Int) (num den : Int) : (4096 < xs.length ∧ smC xs num den = 2 ∧ smL xs num den = []) ∨ (¬ 4096 < xs.length ∧ smB xs num den = false ∧ smC xs num den = 1 ∧ smL xs num den = []) ∨
    (¬ 4096 < xs.length ∧ smB xs num den = true ∧ smC xs num den = 0 ∧ smL xs num den = lvL num den xs xs.length) := by
  unfold smL smC
  by_cases h : 4096 < xs.length
  · exact .inl ⟨h, by rw [if_pos h], by rw [if_pos h]; rfl⟩
  · cases hb : smB xs num den
    · exact .inr (.inl ⟨h, rfl, by rw [if_neg h]; rfl, by rw [if_neg h]; rfl⟩)
    · exact .inr (.inr ⟨h, rfl, by rw [if_neg h]; rfl, by rw [if_neg h]; rfl⟩)
theorem sm_le (xs : List Int) (num den : Int) : (smL xs num den).length ≤ xs.length := by
  rcases sm_ways xs num den with ⟨_, _, h⟩ | ⟨_, _, _, h⟩ | ⟨_, _, _, h⟩ <;> rw [h]
  · simp
  · simp
  · rw [lvL_length]; exact Nat.le_refl _

theorem row_capG {w : World} {B : Nat} {e : TypeId} {k n c : Nat} {g : Option Addr} {xs : List Value} (h : w.ownsRow B e k (.slice g n c) n xs) : n ≤ c := by
  rcases h.2 with ⟨q, q2⟩ | ⟨g', cap, cur, q, _, _, hc, _⟩
  · omega
  · simp only [Value.slice.injEq] at q
    omega
theorem fldFloor (a b c : Int) (w : World) : (Instr.field 79 (.agg #[.int .i64 a, .int .i64 b, .int .i64 c]) 0).run Try.prog w = .ok (.int .i64 a) w := by kernel_rfl
theorem levelBehind_any (p x num den : Int) (h1 : 1 ≤ den) (hd : den ≤ 1000) (h2 : 0 ≤ num) (h3 : num ≤ den) (p1 : 0 ≤ p) (p2 : p ≤ 6400000) (x1 : 0 ≤ x) (x2 : x ≤ 6400000) (w : World) :
    Calls Try.prog 53 #[.int .i64 p, .int .i64 x, .int .i64 num, .int .i64 den] w fun e w' => e = .returned (.int .i64 (lvS num den p x)) ∧ Below w.heap.size w w' := by
  obtain ⟨a, b, c⟩ := lv_small h1 hd h2 h3 p1 p2 x1 x2
  have HD : Hid (∀ W, Calls Try.prog 61 #[.int .i64 ((x - p) * num), .int .i64 den] W fun e w' => e = .returned (.agg #[.int .i64 ((x - p) * num / den), .int .i64 ((x - p) * num % den), .int .i64 den]) ∧ Below W.heap.size W w') := fun W => divide_any _ den W (by omega) (by omega) h1 (by omega)
  have e1 : IntKind.i64.wrap (x - p) = x - p := wrap_id _ (by omega) (by omega)
  have e2 : IntKind.i64.wrap ((x - p) * num) = (x - p) * num := wrap_id _ (by omega) (by omega)
  unfold lvS at *
  have e3 : IntKind.i64.wrap (p + (x - p) * num / den) = p + (x - p) * num / den := wrap_id _ (by omega) (by omega)
  clear a b c h1 hd h2 h3 p1 p2 x1 x2
  generalize (x - p) * num % den = r at *
  generalize (x - p) * num / den = q at *
  have hfd := fldFloor q r den
  go_enter Try.func53, Try.ntmps53
  go_wp2_with (go_at_call 61; refine (HD.out _).mono ?_; rintro e w2 ⟨rfl, hb2⟩)
  go_ret
  exact ⟨rfl, hb2⟩
set_option maxHeartbeats 4000000 in
set_option maxRecDepth 4000 in
theorem levelsOf_any (a : Option Addr) (cap : Nat) (xs : List Int) (num den : Int) (hl : xs.length ≤ 4096) (hs : alB 0 100000 xs = true) (hp : ptB 0 num den = true) (w : World) (hr : Reads w.heap.size w a xs) :
    Calls Try.prog 34 #[.slice a xs.length cap, .int .i64 num, .int .i64 den] w fun e w' => ∃ g cp, e = .returned (.slice g xs.length cp) ∧ Own2 w.heap.size w' g (lvL num den xs xs.length) ∧ Below w.heap.size w w' ∧ xs.length ≤ cp := by
  obtain ⟨⟨h1, hd⟩, h2, h3⟩ := pt_facts hp
  have HX : Hid (∀ k, 0 ≤ xs.getD k 0 ∧ xs.getD k 0 ≤ 100000) := fun k => al_getD hs (by omega) k
  have HB : Hid (∀ k, 0 ≤ lvN num den xs k ∧ lvN num den xs k ≤ 6400000) := lvN_bound h1 hd h2 h3 HX.out
  have HR : Hid (Reads w.heap.size w a xs) := hr
  have HL : Hid (∀ p x W, 0 ≤ p → p ≤ 6400000 → 0 ≤ x → x ≤ 6400000 → Calls Try.prog 53 #[.int .i64 p, .int .i64 x, .int .i64 num, .int .i64 den] W fun e w' => e = .returned (.int .i64 (lvS num den p x)) ∧ Below W.heap.size W w') := fun p x W a b c d => levelBehind_any p x num den h1 hd h2 h3 a b c d W
  have hmk := fun w => run_make_cap xs.length (by omega) w
  obtain ⟨i0, hi, hzz⟩ := Option.map_eq_some_iff.1 intInfo1
  simp only [Prod.mk.injEq] at hzz
  obtain ⟨hi0, hi1, hi2⟩ := hzz
  have H0 : Hid (One w w.heap.size (.slice (some ⟨w.heap.size, 0, none⟩) 0 xs.length) [] (w.alloc (Obj.cells (madeCells #[.int .i64 0] xs.length) 3))) := One.made w _ rfl xs.length (by omega)
  clear hr hs hp h1 hd h2 h3
  go_enter Try.func34, Try.ntmps34
  go_wp2
  go_loopw [7, 8, 9, 10, 16] (fun v _ _ _ c wr => ∃ k : Nat, k ≤ xs.length ∧ c = .int .i64 (k : Int) ∧ One w w.heap.size v (lvL num den xs k) wr) (fun _ _ _ _ c _ => xs.length - (intOf c).toNat)
  case atStart => exact ⟨0, Nat.zero_le _, rfl, H0.out⟩
  case round =>
    clear H0
    obtain ⟨k, hk, rfl, hO⟩ := hrel
    obtain ⟨gv, cv, hv⟩ := row_slice hO.1
    rw [lvL_length] at hv
    subst hv
    have HO : Hid (One w w.heap.size (.slice gv k cv) (lvL num den xs k) wr) := hO
    clear hO
    by_cases hlt : k < xs.length
    · have hlt' : (k : Int) < (xs.length : Int) := by omega
      rcases HR.out with h | ⟨b0, o0, ha, hB0, ia⟩
      · rw [h] at hlt; simp at hlt
      have c0 := (ia.below HO.out.2.2 hB0) k hlt
      have HN : Hid (lvL num den xs (k + 1) = lvL num den xs k ++ [lvN num den xs k]) := lvL_next _ _ _ _
      have hq := HX.out k
      rw [ha]
      clear ia
      have HK : Hid ((lvL num den xs k).length = k) := lvL_length _ _ _ _
      by_cases h0 : k = 0
      · subst h0
        rw [Nat.add_zero] at c0
        have hwr : IntKind.i64.wrap (64 * xs.getD 0 0) = lvN num den xs 0 := wrap_id _ (by omega) (by omega)
        have HO2 := HO
        clear hq
        generalize lvL num den xs 0 = L at *
        generalize lvN num den xs 0 = y at *
        generalize xs.getD 0 0 = x at *
        go_wp2_with (at_builtin; refine wpList_append_lies _ rfl _ _ 23 rfl w.heap.size 3 i0 (.int .i64 0) 1 8 Try.underlying23 hi hi0 hi1 hi2 rfl (by decide) _ _ _ rfl (by have h9 := HO2.out.1; rw [HK.out] at h9; exact h9.alloc _) ⟨wr.heap.size, 0, none⟩ 1 1 [.int .i64 y] rfl rfl (newsOne wr _ _) (by intro u hu; simp at hu; subst hu; rfl) (by omega) (by unfold maxLen; omega) (by omega) (by have := HO2.out.2.1; simp; omega) _ rfl ?_; intro g1 cp1 w5 hown1 hgrow1 hat1 hglt1; have HT5 : Hid _ := (HO2.out.alloc _).push (by rw [HK.out]; exact hown1) hgrow1; clear hown1 hgrow1 hat1 hglt1)
        exact ⟨⟨0 + 1, by omega, by go_num, by rw [HN.out]; have h9 := HT5.out; rw [HK.out] at h9; exact h9⟩, by simp [intOf]; omega⟩
      · have hz0 : 0 < (k : Int) := by omega
        obtain ⟨m, rfl⟩ : ∃ m, k = m + 1 := ⟨k - 1, by omega⟩
        have hq2 := HB.out m
        have hb := HL.out (lvN num den xs m) (64 * xs.getD (m + 1) 0) wr hq2.1 hq2.2 (by omega) (by omega)
        have ey : lvS num den (lvN num den xs m) (64 * xs.getD (m + 1) 0) = lvN num den xs (m + 1) := rfl
        rw [ey] at hb
        have hwr : IntKind.i64.wrap (64 * xs.getD (m + 1) 0) = 64 * xs.getD (m + 1) 0 := wrap_id _ (by omega) (by omega)
        have hwk : IntKind.i64.wrap (((m + 1 : Nat) : Int) - 1) = (m : Int) := by rw [wrap_id _ (by omega) (by omega)]; omega
        have hmk1 : (m : Int) < ((m + 1 : Nat) : Int) := by omega
        obtain ⟨gb, rfl, c1⟩ : ∃ gb, gv = some ⟨gb, 0, none⟩ ∧ wr.cell? ⟨gb, m, none⟩ = some (.int .i64 (lvN num den xs m)) := by
          rcases HO.out.own2 HK.out.symm with hz | ⟨gb, hg, _, _, hi, _⟩
          · rw [hz] at HK; have := HK.out; simp at this
          · have := hi m (by rw [HK.out]; omega)
            rw [Nat.zero_add, lvL_at _ _ _ (by omega)] at this
            exact ⟨gb, hg, this⟩
        clear ey hq hq2
        generalize lvL num den xs (m + 1) = L at *
        generalize lvN num den xs (m + 1) = y at *
        generalize lvN num den xs m = p at *
        generalize xs.getD (m + 1) 0 = x at *
        generalize hk1 : (m + 1 : Nat) = k at *
        go_wp2_with fail
        (first | go_at_call 53 | skip)
        refine hb.mono ?_
        rintro e w2 ⟨rfl, hb2⟩
        have HO2 : Hid (One w w.heap.size (.slice (some ⟨gb, 0, none⟩) k cv) L w2) := HO.out.later hb2
        clear hb hb2
        go_wp2_with (at_builtin; refine wpList_append_lies _ rfl _ _ 23 rfl w.heap.size 3 i0 (.int .i64 0) 1 8 Try.underlying23 hi hi0 hi1 hi2 rfl (by decide) _ _ _ rfl (by have h9 := HO2.out.1; rw [HK.out] at h9; exact h9.alloc _) ⟨w2.heap.size, 0, none⟩ 1 1 [.int .i64 y] rfl rfl (newsOne w2 _ _) (by intro u hu; simp at hu; subst hu; rfl) (by omega) (by unfold maxLen; omega) (by omega) (by have := HO2.out.2.1; simp; omega) _ rfl ?_; intro g1 cp1 w5 hown1 hgrow1 hat1 hglt1; have HT5 : Hid _ := (HO2.out.alloc _).push (by rw [HK.out]; exact hown1) hgrow1; clear hown1 hgrow1 hat1 hglt1)
        exact ⟨⟨k + 1, by omega, by go_num, by rw [HN.out]; have h9 := HT5.out; rw [HK.out] at h9; exact h9⟩, by simp [intOf]; omega⟩
    · have hle : (xs.length : Int) ≤ (k : Int) := by omega
      obtain rfl : k = xs.length := by omega
      go_wp2
      go_ret
      exact ⟨gv, cv, rfl, HO.out.own2 (by rw [lvL_length]), HO.out.2.2, row_capG (by have := HO.out.1; rw [lvL_length] at this; exact this)⟩
theorem own2_mono {B B' : Nat} {w : World} {g : Option Addr} {L : List Int} (h : Own2 B w g L) (hb : B' ≤ B) : Own2 B' w g L := by
  rcases h with h | ⟨b, hg, hB, r⟩
  · exact .inl h
  · exact .inr ⟨b, hg, Nat.le_trans hb hB, r⟩
/-- What Smooth answers, of whatever is handed in. -/
def AnsL (w : World) (L : List Int) (c : Int) (e : Ending) (w' : World) : Prop := ∃ g cp, e = .returned (.tuple #[.slice g L.length cp, .int .i64 c]) ∧ Own2 w.heap.size w' g L ∧ Below w.heap.size w w'
/-- .. and there is room for what is answered. -/
def AnsLC (w : World) (L : List Int) (c : Int) (e : Ending) (w' : World) : Prop := ∃ g cp, e = .returned (.tuple #[.slice g L.length cp, .int .i64 c]) ∧ Own2 w.heap.size w' g L ∧ Below w.heap.size w w' ∧ L.length ≤ cp
theorem AnsLC.weak {w : World} {L : List Int} {c : Int} {e : Ending} {w' : World} (h : AnsLC w L c e w') : AnsL w L c e w' := by
  obtain ⟨g, cp, h1, h2, h3, _⟩ := h
  exact ⟨g, cp, h1, h2, h3⟩
theorem AnsLC.nil {w w' : World} {c : Int} (g : Option Addr) (cp : Nat) (hb : Below w.heap.size w w') : AnsLC w [] c (.returned (.tuple #[.slice g 0 cp, .int .i64 c])) w' := ⟨g, cp, rfl, .inl rfl, hb, Nat.zero_le _⟩
theorem AnsL.nil {w w' : World} {c : Int} (g : Option Addr) (cp : Nat) (hb : Below w.heap.size w w') : AnsL w [] c (.returned (.tuple #[.slice g 0 cp, .int .i64 c])) w' := ⟨g, cp, rfl, .inl rfl, hb⟩
set_option maxHeartbeats 2000000 in
theorem implSmooth_cap (a : Option Addr) (cap : Nat) (xs : List Int) (num den : Int) (hl : xs.length ≤ 100000000) (w : World) (hr : Reads w.heap.size w a xs) :
    Calls Try.prog 10 #[.slice a xs.length cap, .int .i64 num, .int .i64 den] w (AnsLC w (smL xs num den) (smC xs num den)) := by
  rcases sm_ways xs num den with ⟨h1, h2, h3⟩ | ⟨h1, h0, h2, h3⟩ | ⟨h1, h0, h2, h3⟩ <;> rw [h2, h3] <;> clear h2 h3
  · have h1' : (4096 : Int) < (xs.length : Int) := by omega
    go_enter Try.func10, Try.ntmps10
    go_wp2
    go_ret2
    exact AnsLC.nil _ _ (Below.refl _ _)
  · have h1' : ¬ (4096 : Int) < (xs.length : Int) := by omega
    have HS : Hid (∀ W, Below w.heap.size w W → Calls Try.prog 32 #[.slice a xs.length cap] W fun e w' => e = .returned (.bool (alB 0 100000 xs)) ∧ Below W.heap.size W w') := fun W hb => salesOK_any a cap xs hl W ((hr.below hb).mono hb.size)
    have HP : Hid (∀ W, Calls Try.prog 33 #[.int .i64 0, .int .i64 num, .int .i64 den] W fun e w' => e = .returned (.bool (ptB 0 num den)) ∧ Below W.heap.size W w') := fun W => partsOK_any 0 num den W
    unfold smB at h0
    clear hr
    generalize alB 0 100000 xs = b1 at *
    generalize ptB 0 num den = b2 at *
    cases b1
    · go_enter Try.func10, Try.ntmps10
      go_wp2_with (go_at_call 32; refine (HS.out _ (Below.refl _ _)).mono ?_; rintro e w2 ⟨rfl, hb2⟩)
      go_ret2
      exact AnsLC.nil _ _ hb2
    · obtain rfl : b2 = false := h0
      go_enter Try.func10, Try.ntmps10
      go_wp2_with (first | (go_at_call 32; refine (HS.out _ (Below.refl _ _)).mono ?_; rintro e w2 ⟨rfl, hb2⟩) | (go_at_call 33; refine (HP.out _).mono ?_; rintro e w3 ⟨rfl, hb3⟩))
      go_ret2
      exact AnsLC.nil _ _ (chain hb2 hb3)
  · have h1' : ¬ (4096 : Int) < (xs.length : Int) := by omega
    unfold smB at h0
    rw [Bool.and_eq_true] at h0
    have HS : Hid (∀ W, Below w.heap.size w W → Calls Try.prog 32 #[.slice a xs.length cap] W fun e w' => e = .returned (.bool (alB 0 100000 xs)) ∧ Below W.heap.size W w') := fun W hb => salesOK_any a cap xs hl W ((hr.below hb).mono hb.size)
    have HP : Hid (∀ W, Calls Try.prog 33 #[.int .i64 0, .int .i64 num, .int .i64 den] W fun e w' => e = .returned (.bool (ptB 0 num den)) ∧ Below W.heap.size W w') := fun W => partsOK_any 0 num den W
    have HL : Hid (∀ W, Below w.heap.size w W → Calls Try.prog 34 #[.slice a xs.length cap, .int .i64 num, .int .i64 den] W fun e w' => ∃ g cp, e = .returned (.slice g xs.length cp) ∧ Own2 W.heap.size w' g (lvL num den xs xs.length) ∧ Below W.heap.size W w' ∧ xs.length ≤ cp) := fun W hb => levelsOf_any a cap xs num den (by omega) h0.1 h0.2 W ((hr.below hb).mono hb.size)
    rw [h0.1] at HS
    rw [h0.2] at HP
    have hlen := lvL_length num den xs xs.length
    generalize lvL num den xs xs.length = L at *
    clear hr h0
    go_enter Try.func10, Try.ntmps10
    go_wp2_with (first | (go_at_call 32; refine (HS.out _ (Below.refl _ _)).mono ?_; rintro e w2 ⟨rfl, hb2⟩) | (go_at_call 33; refine (HP.out _).mono ?_; rintro e w3 ⟨rfl, hb3⟩) | (go_at_call 34; refine (HL.out _ (chain hb2 hb3)).mono ?_; rintro e w4 ⟨g, cp, rfl, ho, hb4, hc4⟩))
    go_ret2
    exact ⟨g, cp, by rw [hlen]; rfl, own2_mono ho (chain hb2 hb3).size, chain (chain hb2 hb3) hb4, by rw [hlen]; exact hc4⟩
theorem implSmooth_any (a : Option Addr) (cap : Nat) (xs : List Int) (num den : Int) (hl : xs.length ≤ 100000000) (w : World) (hr : Reads w.heap.size w a xs) :
    Calls Try.prog 10 #[.slice a xs.length cap, .int .i64 num, .int .i64 den] w (AnsL w (smL xs num den) (smC xs num den)) := (implSmooth_cap a cap xs num den hl w hr).mono (fun _ _ h => h.weak)
set_option maxHeartbeats 4000000 in
set_option maxRecDepth 4000 in
theorem specSmooth_any (a : Option Addr) (cap : Nat) (xs : List Int) (num den : Int) (hl : xs.length ≤ 100000000) (w : World) (hr : Reads w.heap.size w a xs) :
    Calls Try.prog 19 #[.slice a xs.length cap, .int .i64 num, .int .i64 den] w (AnsL w (smL xs num den) (smC xs num den)) := by
  rcases sm_ways xs num den with ⟨h1, h2, h3⟩ | ⟨h1, h0, h2, h3⟩ | ⟨h1, h0, h2, h3⟩ <;> rw [h2, h3] <;> clear h2 h3
  · have h1' : (4096 : Int) < (xs.length : Int) := by omega
    go_enter Try.func19, Try.ntmps19
    go_wp2
    go_ret2
    exact AnsL.nil _ _ (below_alloc _ _)
  · have h1' : ¬ (4096 : Int) < (xs.length : Int) := by omega
    have HS : Hid (∀ W, W = w → Calls Try.prog 44 #[.slice a xs.length cap] W fun e w' => e = .returned (.bool (alB 0 100000 xs)) ∧ W = w') := fun W hb => by subst hb; exact l16Sales_any a cap xs hl W hr
    have HP : Hid (∀ W, Calls Try.prog 45 #[.int .i64 den, .int .i64 1, .int .i64 1000] W fun e w' => e = .returned (.bool (inB den 1 1000)) ∧ W = w') := fun W => (in_any _ _ _ W).mono (fun e w' h => ⟨h.1, h.2.symm⟩)
    have HQ : Hid (∀ W, Calls Try.prog 45 #[.int .i64 num, .int .i64 0, .int .i64 den] W fun e w' => e = .returned (.bool (inB num 0 den)) ∧ W = w') := fun W => (in_any _ _ _ W).mono (fun e w' h => ⟨h.1, h.2.symm⟩)
    unfold smB ptB at h0
    clear hr
    generalize alB 0 100000 xs = b1 at *
    generalize inB den 1 1000 = b2 at *
    generalize inB num 0 den = b3 at *
    cases b1
    · go_enter Try.func19, Try.ntmps19
      go_wp2_with (go_at_call 44; refine (HS.out _ rfl).mono ?_; rintro e w2 ⟨rfl, rfl⟩)
      go_ret2
      exact AnsL.nil _ _ (below_alloc _ _)
    · cases b2
      · go_enter Try.func19, Try.ntmps19
        go_wp2_with (first | (go_at_call 44; refine (HS.out _ rfl).mono ?_; rintro e w2 ⟨rfl, rfl⟩) | (go_at_call 45; refine (HP.out _).mono ?_; rintro e w3 ⟨rfl, rfl⟩))
        go_ret2
        exact AnsL.nil _ _ (below_alloc _ _)
      · obtain rfl : b3 = false := h0
        go_enter Try.func19, Try.ntmps19
        go_wp2_with (go_at_call 44; refine (HS.out _ rfl).mono ?_; rintro e w2 ⟨rfl, rfl⟩)
        (first | go_at_call 45 | skip)
        refine (HP.out _).mono ?_
        rintro e w3 ⟨rfl, rfl⟩
        go_wp2_with (go_at_call 45; refine (HQ.out _).mono ?_; rintro e w3 ⟨rfl, rfl⟩)
        go_ret2
        exact AnsL.nil _ _ (below_alloc _ _)
  · have h1' : ¬ (4096 : Int) < (xs.length : Int) := by omega
    unfold smB at h0
    rw [Bool.and_eq_true] at h0
    obtain ⟨hs, hp⟩ := h0
    obtain ⟨⟨h1, hd⟩, h2, h3⟩ := pt_facts hp
    have HS : Hid (∀ W, W = w → Calls Try.prog 44 #[.slice a xs.length cap] W fun e w' => e = .returned (.bool (alB 0 100000 xs)) ∧ W = w') := fun W hb => by subst hb; exact l16Sales_any a cap xs hl W hr
    have HP : Hid (∀ W, Calls Try.prog 45 #[.int .i64 den, .int .i64 1, .int .i64 1000] W fun e w' => e = .returned (.bool (inB den 1 1000)) ∧ W = w') := fun W => (in_any _ _ _ W).mono (fun e w' h => ⟨h.1, h.2.symm⟩)
    have HQ : Hid (∀ W, Calls Try.prog 45 #[.int .i64 num, .int .i64 0, .int .i64 den] W fun e w' => e = .returned (.bool (inB num 0 den)) ∧ W = w') := fun W => (in_any _ _ _ W).mono (fun e w' h => ⟨h.1, h.2.symm⟩)
    rw [hs] at HS
    rw [show inB den 1 1000 = true from decide_eq_true (by omega)] at HP
    rw [show inB num 0 den = true from decide_eq_true (by omega)] at HQ
    have HX : Hid (∀ k, 0 ≤ xs.getD k 0 ∧ xs.getD k 0 ≤ 100000) := fun k => al_getD hs (by omega) k
    have HB : Hid (∀ k, 0 ≤ lvN num den xs k ∧ lvN num den xs k ≤ 6400000) := lvN_bound h1 hd h2 h3 HX.out
    have HR : Hid (Reads w.heap.size w a xs) := hr
    have HF : Hid (∀ p x W, 0 ≤ p → p ≤ 6400000 → 0 ≤ x → x ≤ 6400000 → (Calls Try.prog 46 #[.int .i64 ((x - p) * num), .int .i64 den] W fun e w' => e = .returned (.int .i64 ((x - p) * num / den)) ∧ W = w') ∧ IntKind.i64.wrap (x - p) = x - p ∧ IntKind.i64.wrap ((x - p) * num) = (x - p) * num ∧ IntKind.i64.wrap (p + (x - p) * num / den) = lvS num den p x) := fun p x W q1 q2 q3 q4 => by
      obtain ⟨f1, f2, f3⟩ := lv_small h1 hd h2 h3 q1 q2 q3 q4
      exact ⟨(floor_any _ den W (by omega) (by omega) h1 (by omega)).mono (fun e w' h => ⟨h.1, h.2.symm⟩), wrap_id _ (by omega) (by omega), wrap_id _ (by omega) (by omega), wrap_id _ (by omega) (by omega)⟩
    obtain ⟨i0, hi, hzz⟩ := Option.map_eq_some_iff.1 intInfo1
    simp only [Prod.mk.injEq] at hzz
    obtain ⟨hi0, hi1, hi2⟩ := hzz
    have H0 : Hid (One w w.heap.size (.slice (some ⟨w.heap.size, 0, none⟩) 0 0) [] (w.alloc (Obj.cells #[] 3))) := One.start w _ rfl
    clear hr hs hp h1 hd h2 h3 hl
    have hl : xs.length ≤ 4096 := by omega
    go_enter Try.func19, Try.ntmps19
    go_wp2_with (go_at_call 44; refine (HS.out _ rfl).mono ?_; rintro e w2 ⟨rfl, rfl⟩)
    (first | go_at_call 45 | skip)
    refine (HP.out _).mono ?_
    rintro e w3 ⟨rfl, rfl⟩
    go_wp2_with (go_at_call 45; refine (HQ.out _).mono ?_; rintro e w3 ⟨rfl, rfl⟩)
    clear HS HP HQ
    go_loopw [8, 9, 10, 11] (fun v l c _ wr => ∃ k : Nat, k ≤ xs.length ∧ c = .int .i64 (k : Int) ∧ (0 < k → l = .int .i64 (lvP num den xs k)) ∧ One w w.heap.size v (lvL num den xs k) wr) (fun _ _ c _ _ => xs.length - (intOf c).toNat)
    case atStart => exact ⟨0, Nat.zero_le _, rfl, fun h => absurd h (by omega), H0.out⟩
    case round =>
      clear H0
      obtain ⟨k, hk, rfl, hlv, hO⟩ := hrel
      obtain ⟨gv, cv, hv⟩ := row_slice hO.1
      rw [lvL_length] at hv
      subst hv
      have HO2 : Hid (One w w.heap.size (.slice gv k cv) (lvL num den xs k) wr) := hO
      clear hO
      have HK : Hid ((lvL num den xs k).length = k) := lvL_length _ _ _ _
      by_cases hlt : k < xs.length
      · have hlt' : (k : Int) < (xs.length : Int) := by omega
        rcases HR.out with h | ⟨b0, o0, ha, hB0, ia⟩
        · rw [h] at hlt; simp at hlt
        have c0 := (ia.below HO2.out.2.2 hB0) k hlt
        have HN : Hid (lvL num den xs (k + 1) = lvL num den xs k ++ [lvN num den xs k]) := lvL_next _ _ _ _
        have hq := HX.out k
        rw [ha]
        clear ia
        by_cases h0 : k = 0
        · subst h0
          rw [Nat.add_zero] at c0
          have hwr : IntKind.i64.wrap (64 * xs.getD 0 0) = lvN num den xs 0 := wrap_id _ (by omega) (by omega)
          have HK1 : Hid (lvP num den xs (0 + 1) = lvN num den xs 0) := rfl
          clear hq hlv
          generalize lvL num den xs 0 = L at *
          generalize lvN num den xs 0 = y at *
          generalize xs.getD 0 0 = x at *
          go_wp2_with (at_builtin; refine wpList_append_lies _ rfl _ _ 23 rfl w.heap.size 3 i0 (.int .i64 0) 1 8 Try.underlying23 hi hi0 hi1 hi2 rfl (by decide) _ _ _ rfl (by have h9 := HO2.out.1; rw [HK.out] at h9; exact h9.alloc _) ⟨wr.heap.size, 0, none⟩ 1 1 [.int .i64 y] rfl rfl (newsOne wr _ _) (by intro u hu; simp at hu; subst hu; rfl) (by omega) (by unfold maxLen; omega) (by omega) (by have := HO2.out.2.1; simp; omega) _ rfl ?_; intro g1 cp1 w5 hown1 hgrow1 hat1 hglt1; have HT5 : Hid _ := (HO2.out.alloc _).push (by rw [HK.out]; exact hown1) hgrow1; clear hown1 hgrow1 hat1 hglt1)
          exact ⟨⟨0 + 1, by omega, by go_num, fun _ => by rw [HK1.out], by rw [HN.out]; have h9 := HT5.out; rw [HK.out] at h9; exact h9⟩, by simp [intOf]; omega⟩
        · have hl2 := hlv (by omega)
          unfold lvP at hl2
          subst hl2
          have hz0 : ((k : Int) == 0) = false := by simp; omega
          have hz1 : ¬ ((k : Int) = 0) := by omega
          have hq2 := HB.out (k - 1)
          obtain ⟨x64, hx64⟩ : ∃ z : Int, 64 * xs.getD k 0 = z := ⟨_, rfl⟩
          have hwr : IntKind.i64.wrap (64 * xs.getD k 0) = x64 := by rw [← hx64]; exact wrap_id _ (by omega) (by omega)
          obtain ⟨hb, e1, e2, e3⟩ := HF.out (lvN num den xs (k - 1)) (64 * xs.getD k 0) wr hq2.1 hq2.2 (by omega) (by omega)
          have ey : lvS num den (lvN num den xs (k - 1)) (64 * xs.getD k 0) = lvN num den xs k := by
            obtain ⟨m, rfl⟩ : ∃ m, k = m + 1 := ⟨k - 1, by omega⟩
            rfl
          rw [ey] at e3
          rw [hx64] at hb e1 e2 e3
          have HK1 : Hid (lvP num den xs (k + 1) = lvN num den xs k) := rfl
          clear ey hq hq2 hlv h0 hx64
          generalize lvL num den xs k = L at *
          generalize lvN num den xs k = y at *
          generalize lvN num den xs (k - 1) = p at *
          generalize xs.getD k 0 = x at *
          go_wp2_with (first | (go_at_call 46; refine hb.mono ?_; rintro e w3 ⟨rfl, rfl⟩) | (at_builtin; refine wpList_append_lies _ rfl _ _ 23 rfl w.heap.size 3 i0 (.int .i64 0) 1 8 Try.underlying23 hi hi0 hi1 hi2 rfl (by decide) _ _ _ rfl (by have h9 := HO2.out.1; rw [HK.out] at h9; exact h9.alloc _) ⟨wr.heap.size, 0, none⟩ 1 1 [.int .i64 y] rfl rfl (newsOne wr _ _) (by intro u hu; simp at hu; subst hu; rfl) (by omega) (by unfold maxLen; omega) (by omega) (by have := HO2.out.2.1; simp; omega) _ rfl ?_; intro g1 cp1 w5 hown1 hgrow1 hat1 hglt1; have HT5 : Hid _ := (HO2.out.alloc _).push (by rw [HK.out]; exact hown1) hgrow1; clear hown1 hgrow1 hat1 hglt1))
          exact ⟨⟨k + 1, by omega, by go_num, fun _ => by rw [HK1.out], by rw [HN.out]; have h9 := HT5.out; rw [HK.out] at h9; exact h9⟩, by simp [intOf]; omega⟩
      · have hle : (xs.length : Int) ≤ (k : Int) := by omega
        obtain rfl : k = xs.length := by omega
        go_wp2
        go_ret2
        exact ⟨gv, cv, by rw [HK.out]; rfl, HO2.out.own2 HK.out.symm, HO2.out.2.2⟩
end Go.Proofs.Ytjdjopikljdigaa
