/-
  What a tax book answers; the program's TaxBook answers it.
-/
import Derived.Test.YtoaimjocphfcaaaBookD
import Derived.Test.YtoaimjocphfcaaaTaxH
namespace Go.Proofs.Ytoaimjocphfcaaa
open Go.ChangeShapes Go.WideShapes Go.ChangeAt Go.RowKit
set_option linter.unusedVariables false

def tbN (rs : List TR) (s : ByteArray) (day c : Int) : Int := oN (rowFor rs c s day)
def tbD (rs : List TR) (s : ByteArray) (day c : Int) : Int := oD (rowFor rs c s day)
def tbT (rs : List TR) (s : ByteArray) (day : Int) (ls : List TL) (c : Int) : Int := spT (sumOf ls c) (tbN rs s day c) (tbD rs s day c)
def tbAll (rs : List TR) (s : ByteArray) (day : Int) (cs : List Int) : Bool := cs.all fun c => (rowFor rs c s day).isSome
def tbOK (rs : List TR) (s : ByteArray) (day : Int) (ls : List TL) (cs : List Int) : Bool := cs.all fun c => spOK (sumOf ls c) (tbN rs s day c) (tbD rs s day c)
/-- The book's numbers, and the code. -/
def tbGo (rs : List TR) (s : ByteArray) (day : Int) (ls : List TL) : List Int × Int :=
  if 4096 < rs.length ∨ 65536 < s.size ∨ 4096 < ls.length then ([], 2)
  else if trAll rs = false then ([], 1)
  else if ls.any (fun l => !tlOK l) = true then ([], 5)
  else if tbAll rs s day (cls ls) = false then ([], 8)
  else if tbOK rs s day ls (cls ls) = true then (bkL (sumOf ls) (tbT rs s day ls) (cls ls), 0) else ([], 11)
def TbPost (rs : List TR) (s : ByteArray) (day : Int) (ls : List TL) (w : World) (e : Ending) (w' : World) : Prop :=
  ∃ g cap, e = .returned (.tuple #[.slice g ((tbGo rs s day ls).1.length / 4) cap, .int .i64 (tbGo rs s day ls).2]) ∧ Own2 w.heap.size w' g (tbGo rs s day ls).1 ∧ Below w.heap.size w w'
theorem TbPost.none {rs : List TR} {s : ByteArray} {day : Int} {ls : List TL} {w w' : World} {q : Int} {g : Option Addr} {cap : Nat} (hE : tbGo rs s day ls = ([], q)) (hb : Below w.heap.size w w') : TbPost rs s day ls w (.returned (.tuple #[.slice g 0 cap, .int .i64 q])) w' :=
  ⟨g, cap, by rw [hE]; simp, by rw [hE]; exact .inl rfl, hb⟩
theorem own2_base {B B' : Nat} {w : World} {g : Option Addr} {L : List Int} (h : Own2 B w g L) (hb : B' ≤ B) : Own2 B' w g L := by
  rcases h with h | ⟨b, h1, h2, h3⟩
  · exact .inl h
  · exact .inr ⟨b, h1, by omega, h3⟩
theorem TbPost.book {rs : List TR} {s : ByteArray} {day : Int} {ls : List TL} {w W w' : World} {e : Ending} (h1 : ¬ (4096 < rs.length ∨ 65536 < s.size ∨ 4096 < ls.length)) (h2 : trAll rs = true) (h3 : ls.any (fun l => !tlOK l) = false) (h4 : tbAll rs s day (cls ls) = true) (hb : Below w.heap.size w W)
    (h : BkPost (tbOK rs s day ls (cls ls)) (bkL (sumOf ls) (tbT rs s day ls) (cls ls)) W e w') : TbPost rs s day ls w e w' := by
  obtain ⟨g, cap, he, ho, hb2⟩ := h
  have e5 : tbGo rs s day ls = (if tbOK rs s day ls (cls ls) = true then bkL (sumOf ls) (tbT rs s day ls) (cls ls) else [], if tbOK rs s day ls (cls ls) = true then 0 else 11) := by
    unfold tbGo
    rw [if_neg h1, if_neg (by rw [h2]; simp), if_neg (by rw [h3]; simp), if_neg (by rw [h4]; simp)]
    split <;> rfl
  exact ⟨g, cap, by rw [e5]; exact he, by rw [e5]; exact own2_base ho hb.size, chain hb hb2⟩
theorem rateInfo : (Try.prog.info? 36).map (fun i => (i.zero, i.size, i.bytes)) = some (some (.agg #[.int .i64 0, .int .i64 0]), 2, 16) := by kernel_rfl
theorem make_rates (n : Nat) (hn : n ≤ 100000000) (w : World) :
    (Instr.makeSlice 61 (.int .i64 (n : Int)) (.int .i64 (n : Int))).run Try.prog w = .ok (.slice (some ⟨w.heap.size, 0, none⟩) n n) (w.alloc (.cells (madeCells #[.int .i64 0, .int .i64 0] (n * 2)) 36)) := by
  obtain ⟨i, hi, hzz⟩ := Option.map_eq_some_iff.1 rateInfo
  simp only [Prod.mk.injEq] at hzz
  obtain ⟨hz, hs, hb⟩ := hzz
  have hr := run_make (P := Try.prog) w 61 36 i _ Try.underlying61 hi hz .i64 .i64 (n : Int) (n : Int) (by omega) (Int.le_refl _) (by rw [hb]; omega) (by omega)
  simp only [Int.toNat_natCast, hs] at hr
  exact hr
def rtFill (RN RD : Int → Int) (cs : List Int) (k j : Nat) : Value := .int .i64 (if j / 2 < k then (if j % 2 = 0 then RN (cs.getD (j / 2) 0) else RD (cs.getD (j / 2) 0)) else 0)
theorem rates_made (w : World) (RN RD : Int → Int) (cs : List Int) (n : Nat) : (w.alloc (.cells (madeCells #[.int .i64 0, .int .i64 0] (n * 2)) 36)).rowIs w.heap.size 36 (n * 2) (rtFill RN RD cs 0) := by
  refine ⟨_, heapNew _ _, size_madeCells _ _, fun i hi => ?_⟩
  have h4 : i % 2 = 0 ∨ i % 2 = 1 := by omega
  unfold rtFill
  rcases h4 with h | h <;> simp [madeCells, hi, h]
theorem rtFill_set {w : World} {b : Nat} {RN RD : Int → Int} {cs : List Int} {n k : Nat} (h : w.rowIs b 36 (n * 2) (rtFill RN RD cs k)) :
    ((w.setCell ⟨b, k * 2, none⟩ (.int .i64 (RN (cs.getD k 0)))).setCell ⟨b, k * 2 + 1, none⟩ (.int .i64 (RD (cs.getD k 0)))).rowIs b 36 (n * 2) (rtFill RN RD cs (k + 1)) := by
  refine ((h.set (k * 2) _).set (k * 2 + 1) _).congr fun j hj => ?_
  unfold rtFill
  by_cases e1 : j = k * 2 + 1
  · rw [if_pos e1, if_pos (show j / 2 < k + 1 by omega), show j / 2 = k by omega, if_neg (by omega)]
  rw [if_neg e1]
  by_cases e0 : j = k * 2
  · rw [if_pos e0, if_pos (show j / 2 < k + 1 by omega), show j / 2 = k by omega, if_pos (by omega)]
  rw [if_neg e0]
  by_cases h : j / 2 < k
  · rw [if_pos h, if_pos (show j / 2 < k + 1 by omega)]
  · rw [if_neg h, if_neg (show ¬ j / 2 < k + 1 by omega)]
theorem rates_of_fill {w : World} {b : Nat} {RN RD : Int → Int} {cs : List Int} (h : w.rowIs b 36 (cs.length * 2) (rtFill RN RD cs cs.length)) : RatesAt w b RN RD cs := fun i hi => by
  refine ⟨?_, ?_⟩
  · rw [h.cell (by omega)]; unfold rtFill; rw [if_pos (by omega), show i * 2 / 2 = i by omega, if_pos (by omega)]
  · rw [h.cell (by omega)]; unfold rtFill; rw [if_pos (by omega), show (i * 2 + 1) / 2 = i by omega, if_neg (by omega)]
theorem allOK_of {ls : List TL} (h : ls.any (fun l => !tlOK l) = false) : ∀ l ∈ ls, tlOK l = true := fun l hl => by
  have := List.any_eq_false.mp h l hl
  simpa using this

set_option maxHeartbeats 2000000 in
set_option maxRecDepth 4000 in
theorem implBook_any (a : Option Addr) (cap : Nat) (rs : List TR) (hl : rs.length ≤ 100000000) (hp : ∀ r ∈ rs, TrOK r) (s : ByteArray) (hs : s.size ≤ maxLen) (day : Int) (la : Option Addr) (lcap : Nat) (ls : List TL) (hll : ls.length ≤ 100000000) (w : World) (hr : ReadsT w.heap.size w a rs) (hL : ReadsL w.heap.size w la ls) :
    Calls Try.prog 6 #[.slice a rs.length cap, .string s, .int .i64 day, .slice la ls.length lcap] w (TbPost rs s day ls w) := by
  have hs' := hs
  unfold maxLen at hs'
  rcases (by omega : (4096 : Int) < (rs.length : Int) ∨ ((rs.length : Int) ≤ 4096 ∧ (65536 : Int) < (s.size : Int)) ∨ ((rs.length : Int) ≤ 4096 ∧ (s.size : Int) ≤ 65536 ∧ (4096 : Int) < (ls.length : Int)) ∨ ((rs.length : Int) ≤ 4096 ∧ (s.size : Int) ≤ 65536 ∧ (ls.length : Int) ≤ 4096)) with h | ⟨h, h'⟩ | ⟨h, h', h''⟩ | ⟨h, h', h''⟩
  · have HE : Hid (tbGo rs s day ls = ([], 2)) := by show _ = _; unfold tbGo; rw [if_pos (by omega)]
    have d1 : decide ((4096 : Int) < (rs.length : Int)) = true := decide_eq_true h
    go_enter Try.func6, Try.ntmps6
    go_wp2
    exact bodyPost_ret (v := .tuple #[.slice none 0 0, .int .i64 2]) (by simp [results, Try.results6, go_sem]) rfl (TbPost.none HE.out (Below.refl _ _))
  · have HE : Hid (tbGo rs s day ls = ([], 2)) := by show _ = _; unfold tbGo; rw [if_pos (by omega)]
    have d1 : decide ((4096 : Int) < (rs.length : Int)) = false := decide_eq_false (by omega)
    have d2 : decide ((65536 : Int) < (s.size : Int)) = true := decide_eq_true h'
    go_enter Try.func6, Try.ntmps6
    go_wp2
    exact bodyPost_ret (v := .tuple #[.slice none 0 0, .int .i64 2]) (by simp [results, Try.results6, go_sem]) rfl (TbPost.none HE.out (Below.refl _ _))
  · have HE : Hid (tbGo rs s day ls = ([], 2)) := by show _ = _; unfold tbGo; rw [if_pos (by omega)]
    have d1 : decide ((4096 : Int) < (rs.length : Int)) = false := decide_eq_false (by omega)
    have d2 : decide ((65536 : Int) < (s.size : Int)) = false := decide_eq_false (by omega)
    have d3 : decide ((4096 : Int) < (ls.length : Int)) = true := decide_eq_true h''
    go_enter Try.func6, Try.ntmps6
    go_wp2
    exact bodyPost_ret (v := .tuple #[.slice none 0 0, .int .i64 2]) (by simp [results, Try.results6, go_sem]) rfl (TbPost.none HE.out (Below.refl _ _))
  have d1 : decide ((4096 : Int) < (rs.length : Int)) = false := decide_eq_false (by omega)
  have d2 : decide ((65536 : Int) < (s.size : Int)) = false := decide_eq_false (by omega)
  have d3 : decide ((4096 : Int) < (ls.length : Int)) = false := decide_eq_false (by omega)
  have HNL : Hid (¬ (4096 < rs.length ∨ 65536 < s.size ∨ 4096 < ls.length)) := by show ¬ _; omega
  have ht := table_any a cap rs hl hp w hr
  have HL : Hid (ReadsL w.heap.size w la ls) := hL
  clear hr hp hL
  cases hA : trAll rs
  · have HE : Hid (tbGo rs s day ls = ([], 1)) := by show _ = _; unfold tbGo; rw [if_neg HNL.out, if_pos hA]
    have ht' : Calls Try.prog 13 #[.slice a rs.length cap] w fun e w' => e = .returned (.tuple #[.map none, .bool false]) ∧ Below w.heap.size w w' := ht.mono fun e w' h => by
      rcases h with ⟨_, h1, h2⟩ | ⟨h0, _⟩
      · exact ⟨h1, h2⟩
      · rw [hA] at h0; cases h0
    clear ht hA
    go_enter Try.func6, Try.ntmps6
    go_wp2_with (go_at_call 13; refine ht'.mono ?_; rintro e w1 ⟨rfl, hb1⟩; have HB1 : Hid (Below w.heap.size w w1) := hb1; clear hb1)
    exact bodyPost_ret (v := .tuple #[.slice none 0 0, .int .i64 1]) (by simp [results, Try.results6, go_sem]) rfl (TbPost.none HE.out HB1.out)
  have ht' : Calls Try.prog 13 #[.slice a rs.length cap] w fun e w' => ∃ b, e = .returned (.tuple #[.map (some b), .bool true]) ∧ Tab w' b (b + 1) rs.length (groups rs) ∧ Below w.heap.size w w' := ht.mono fun e w' h => by
    rcases h with ⟨h0, _⟩ | ⟨_, _, b, h1, h2, _, h3⟩
    · rw [hA] at h0; cases h0
    · exact ⟨b, h1, h2, h3⟩
  have HT : Hid (trAll rs = true) := hA
  have HCF : Hid (∀ w' : World, ReadsL w'.heap.size w' la ls → Calls Try.prog 14 #[.slice la ls.length lcap, .func (.func 15) #[] #[]] w' fun e w'' => e = .returned (.bool (ls.any (fun l => !tlOK l))) ∧ Below w'.heap.size w' w'') := fun w' h => containsL_any la lcap ls hll w' h
  clear ht hA
  cases hB : ls.any (fun l => !tlOK l)
  case true =>
    have HE : Hid (tbGo rs s day ls = ([], 5)) := by show _ = _; unfold tbGo; rw [if_neg HNL.out, if_neg (by rw [HT.out]; simp), if_pos hB]
    rw [hB] at HCF
    clear hB
    go_enter Try.func6, Try.ntmps6
    go_wp2_with (first
      | (go_at_call 13; refine ht'.mono ?_; rintro e w1 ⟨b, rfl, hT1, hb1⟩; have HB1 : Hid (Below w.heap.size w w1) := hb1; clear hT1 hb1)
      | (go_at_call 14; refine (HCF.out w1 ((HL.out.below HB1.out).mono HB1.out.size)).mono ?_; rintro e w2 ⟨rfl, hb2⟩; have HB2 : Hid (Below w.heap.size w w2) := chain HB1.out hb2; clear hb2))
    exact bodyPost_ret (v := .tuple #[.slice none 0 0, .int .i64 5]) (by simp [results, Try.results6, go_sem]) rfl (TbPost.none HE.out HB2.out)
  have HAny : Hid (ls.any (fun l => !tlOK l) = false) := hB
  have HOK : Hid (∀ l ∈ ls, tlOK l = true) := allOK_of hB
  rw [hB] at HCF
  clear hB
  have HSum : Hid (∀ w', ReadsL w'.heap.size w' la ls → Calls Try.prog 17 #[.slice la ls.length lcap, .func (.func 18) #[] #[], .func (.func 19) #[] #[]] w' fun e w'' => e = .returned (.map (some w'.heap.size)) ∧ SumTab w'' w'.heap.size ls.length ls ∧ Below w'.heap.size w' w'') := fun w' h => sums_any la lcap ls (by omega) HOK.out w' h
  have HSort : Hid (∀ b w', SumTab w' b ls.length ls → Calls Try.prog 20 #[.func (.func 34) #[] #[.pointer (some ⟨w'.heap.size, 0, none⟩)]] (w'.alloc (.cells #[.map (some b)] 53)) fun e w'' => ∃ a5 c5, e = .returned (.slice a5 (cls ls).length c5) ∧ Reads w''.heap.size w'' a5 (cls ls) ∧ Below w'.heap.size w' w'') := fun b w' h => (sorted_any b ls.length ls HOK.out (by omega) w' h).mono fun e w'' hh => by
    obtain ⟨v, rfl, hrow, hb⟩ := hh
    obtain ⟨a5, c5, rfl, _, hrd⟩ := own_of_row hrow
    exact ⟨a5, c5, rfl, hrd, (below_alloc _ _).trans hb⟩
  have hlen := cls_len ls
  have HWF : Hid (∀ c ∈ cls ls, WfI c) := fun c hc => by
    have := cls_in ls c hc
    exact WalkArith.wf_i64 (by omega)
  have hmk := fun w => make_rates (cls ls).length (by omega) w
  have HM : Hid (∀ w : World, (w.alloc (.cells (madeCells #[.int .i64 0, .int .i64 0] ((cls ls).length * 2)) 36)).rowIs w.heap.size 36 ((cls ls).length * 2) (rtFill (tbN rs s day) (tbD rs s day) (cls ls) 0)) := fun w => rates_made w _ _ _ _
  have HRt : Hid (∀ b m c w', WfI c → Tab w' b (b + 1) m (groups rs) → Calls Try.prog 22 #[.map (some b), .int .i64 c, .string s, .int .i64 day] w' fun e w'' => e = RateV (rowFor rs c s day) (oC (rowFor rs c s day)) ∧ Below w'.heap.size w' w'') := fun b m c w' hc hT => rateAt_any b (b + 1) m rs hl c s ⟨hc, hs⟩ day w' hT
  have HBk : Hid (∀ a5 c5 m rb w', Reads w'.heap.size w' a5 (cls ls) → SumTab w' m ls.length ls → rb < w'.heap.size → RatesAt w' rb (tbN rs s day) (tbD rs s day) (cls ls) → Calls Try.prog 23 #[.slice a5 (cls ls).length c5, .map (some m), .slice (some ⟨rb, 0, none⟩) (cls ls).length (cls ls).length] w' (BkPost (tbOK rs s day ls (cls ls)) (bkL (sumOf ls) (tbT rs s day ls) (cls ls)) w')) := fun a5 c5 m rb w' h1 h2 h3 h4 => bookOf_any a5 c5 (cls ls) hlen HWF.out m ls.length ls rb _ _ _ _ (fun _ => rfl) (fun _ => rfl) w' h1 h2 h3 h4
  have HEnd : Hid (∀ W e w', tbAll rs s day (cls ls) = true → Below w.heap.size w W → BkPost (tbOK rs s day ls (cls ls)) (bkL (sumOf ls) (tbT rs s day ls) (cls ls)) W e w' → TbPost rs s day ls w e w') := fun W e w' h4 hb h => TbPost.book HNL.out HT.out HAny.out h4 hb h
  have HE8 : Hid (tbAll rs s day (cls ls) = false → tbGo rs s day ls = ([], 8)) := fun h => by
    unfold tbGo
    rw [if_neg HNL.out, if_neg (by rw [HT.out]; simp), if_neg (by rw [HAny.out]; simp), if_pos h]
  clear HNL HT HAny HOK hs hs'
  generalize cls ls = cs at *
  go_enter Try.func6, Try.ntmps6
  go_wp2_with (first
    | (go_at_call 13; refine ht'.mono ?_; rintro e w1 ⟨tb, rfl, hT1, hb1⟩; have HB1 : Hid (Below w.heap.size w w1) := hb1; have HT1 : Hid (Tab w1 tb (tb + 1) rs.length (groups rs)) := hT1; clear hT1 hb1)
    | (go_at_call 14; refine (HCF.out w1 ((HL.out.below HB1.out).mono HB1.out.size)).mono ?_; rintro e w2 ⟨rfl, hb2⟩; have HB2 : Hid (Below w.heap.size w w2) := chain HB1.out hb2; have HT2 : Hid (Tab w2 tb (tb + 1) rs.length (groups rs)) := HT1.out.later hb2; clear hb2)
    | (go_at_call 17; refine (HSum.out w2 ((HL.out.below HB2.out).mono HB2.out.size)).mono ?_; rintro e w3 ⟨rfl, hS3, hb3⟩; have HB3 : Hid (Below w.heap.size w w3) := chain HB2.out hb3; have HT3 : Hid (Tab w3 tb (tb + 1) rs.length (groups rs)) := HT2.out.later hb3; have HS3 : Hid (SumTab w3 w2.heap.size ls.length ls) := hS3; clear hb3 hS3)
    | (go_at_call 21; refine (keys_any _ _).mono ?_; rintro e w4 ⟨rfl, rfl⟩)
    | (go_at_call 20; refine (HSort.out _ w3 HS3.out).mono ?_; rintro e w5 ⟨a5, c5, rfl, hr5, hb5⟩; have HB5 : Hid (Below w.heap.size w w5) := chain HB3.out hb5; have HT5 : Hid (Tab w5 tb (tb + 1) rs.length (groups rs)) := HT3.out.later hb5; have HS5 : Hid (SumTab w5 w2.heap.size ls.length ls) := HS3.out.block (hb5.block _ HS3.out.lt); have HR5 : Hid (Reads w5.heap.size w5 a5 cs) := hr5; clear hb5 hr5))
  clear HCF HSum HSort HL ht'
  go_loopw [15, 16, 17, 18, 51] (fun _ _ _ _ i wr => ∃ k : Nat, k ≤ cs.length ∧ i = .int .i64 (k : Int) ∧ tbAll rs s day (cs.take k) = true ∧ wr.rowIs w5.heap.size 36 (cs.length * 2) (rtFill (tbN rs s day) (tbD rs s day) cs k) ∧ Below w5.heap.size w5 wr) (fun _ _ _ _ i _ => cs.length - (intOf i).toNat)
  case atStart => exact ⟨0, Nat.zero_le _, rfl, rfl, HM.out w5, below_alloc w5 _⟩
  case round =>
    obtain ⟨k, hk, rfl, hall, hrow, hb⟩ := hrel
    have HB : Hid (Below w5.heap.size w5 wr) := hb
    have HW : Hid (wr.rowIs w5.heap.size 36 (cs.length * 2) (rtFill (tbN rs s day) (tbD rs s day) cs k)) := hrow
    have HA : Hid (tbAll rs s day (cs.take k) = true) := hall
    clear hb hrow hall HM
    by_cases hlt : k < cs.length
    · have hlt' : (k : Int) < (cs.length : Int) := by omega
      rcases HR5.out with h0 | ⟨b0, o0, ha, hB0, ia⟩
      · rw [h0] at hlt; simp at hlt
      have c0 := (ia.below HB.out hB0) k hlt
      have lt0 : b0 < wr.heap.size := Nat.lt_of_lt_of_le hB0 HB.out.size
      have hwc : WfI (cs.getD k 0) := by
        have e : cs.getD k 0 = cs[k] := by simp [List.getD_eq_getElem?_getD, hlt]
        rw [e]; exact HWF.out _ (List.getElem_mem _)
      have HC : Hid (Calls Try.prog 22 #[.map (some tb), .int .i64 (cs.getD k 0), .string s, .int .i64 day] wr fun e w'' => e = .returned (.tuple #[.agg #[.int .i64 (tbN rs s day (cs.getD k 0)), .int .i64 (tbD rs s day (cs.getD k 0))], .int .i64 (oC (rowFor rs (cs.getD k 0) s day))]) ∧ Below wr.heap.size wr w'') := (HRt.out tb rs.length _ wr hwc (HT5.out.later HB.out)).mono fun e w'' h => ⟨h.1, h.2⟩
      have HA0 : Hid (tbAll rs s day (cs.take (k + 1)) = (tbAll rs s day (cs.take k) && (rowFor rs (cs.getD k 0) s day).isSome)) := allC_next _ cs k hlt
      have HX : Hid ((rowFor rs (cs.getD k 0) s day).isSome = false → tbAll rs s day cs = false) := fun h => allC_not (p := fun c => (rowFor rs c s day).isSome) hlt h
      have HN : Hid (∀ W, Below wr.heap.size wr W → ((W.setCell ⟨w5.heap.size, k * 2, none⟩ (.int .i64 (tbN rs s day (cs.getD k 0)))).setCell ⟨w5.heap.size, k * 2 + 1, none⟩ (.int .i64 (tbD rs s day (cs.getD k 0)))).rowIs w5.heap.size 36 (cs.length * 2) (rtFill (tbN rs s day) (tbD rs s day) cs (k + 1)) ∧ Below w5.heap.size w5 ((W.setCell ⟨w5.heap.size, k * 2, none⟩ (.int .i64 (tbN rs s day (cs.getD k 0)))).setCell ⟨w5.heap.size, k * 2 + 1, none⟩ (.int .i64 (tbD rs s day (cs.getD k 0)))) ∧ (∃ v0 v1, W.cell? ⟨w5.heap.size, k * 2, none⟩ = some v0 ∧ W.cell? ⟨w5.heap.size, k * 2 + 1, none⟩ = some v1) ∧ (∀ j, W.frozen? ⟨w5.heap.size, j, none⟩ = false) ∧ w5.heap.size < W.heap.size) := fun W hb2 => by
        have hw2 := HW.out.of_block (hb2.block _ HW.out.lt)
        exact ⟨rtFill_set hw2, (((HB.out.trans (hb2.mono HB.out.size)).setCell (Nat.le_refl _) _).setCell (Nat.le_refl _) _), ⟨_, _, hw2.cell (by omega), hw2.cell (by omega)⟩, fun j => hw2.frozen j, hw2.lt⟩
      rw [ha]
      clear ia HRt HBk HWF hwc hmk HT5
      generalize cs.getD k 0 = c at *
      cases ho : (rowFor rs c s day).isSome
      · have HE : Hid (tbGo rs s day ls = ([], 8)) := HE8.out (HX.out ho)
        have hq : oC (rowFor rs c s day) = 8 := by unfold oC; rw [ho]; rfl
        rw [hq] at HC
        clear HA0 HX HN hq ho
        generalize tbN rs s day c = n at *
        generalize tbD rs s day c = d at *
        go_wp2_with (go_at_call 22; refine HC.out.mono ?_; rintro e w6 ⟨rfl, hb6⟩; have HB6 : Hid (Below w.heap.size w w6) := chain (chain HB5.out HB.out) hb6; clear hb6)
        exact bodyPost_ret (v := .tuple #[.slice none 0 0, .int .i64 8]) (by simp [results, Try.results6, go_sem]) rfl (TbPost.none HE.out (chain HB6.out (below_alloc _ _)))
      · have HA1 : Hid (tbAll rs s day (cs.take (k + 1)) = true) := by
          show _ = true
          rw [HA0.out, HA.out, ho]; rfl
        have hq : oC (rowFor rs c s day) = 0 := by unfold oC; rw [ho]; rfl
        rw [hq] at HC
        clear HA0 HX hq ho HE8
        generalize tbN rs s day c = n at *
        generalize tbD rs s day c = d at *
        go_wp2_with (go_at_call 22; refine HC.out.mono ?_; rintro e w6 ⟨rfl, hb6⟩; obtain ⟨n1, n2, ⟨v0, v1, hv0, hv1⟩, n4, n5⟩ := HN.out w6 hb6; have N1 : Hid (_) := n1; have N2 : Hid (_) := n2; have n6 : w5.heap.size ≠ w6.heap.size := (by omega); clear n1 n2 hb6)
        exact ⟨⟨k + 1, by omega, by go_num, HA1.out, World.rowIs.alloc N1.out _, N2.out.trans ((below_alloc _ _).mono N2.out.size)⟩, by simp [intOf]; omega⟩
    · obtain rfl : k = cs.length := by omega
      have hle : (cs.length : Int) ≤ (cs.length : Int) := by omega
      have HAe : Hid (tbAll rs s day cs = true) := by have := HA.out; rwa [List.take_of_length_le (Nat.le_refl _)] at this
      have HC := HBk.out a5 c5 w2.heap.size w5.heap.size wr ((HR5.out.below HB.out).mono HB.out.size) (HS5.out.block (HB.out.block _ HS5.out.lt)) HW.out.lt (rates_of_fill HW.out)
      have HC' : Hid (Calls Try.prog 23 #[.slice a5 cs.length c5, .map (some w2.heap.size), .slice (some ⟨w5.heap.size, 0, none⟩) cs.length cs.length] wr fun e w' => ∃ v q, e = .returned (.tuple #[v, .int .i64 q]) ∧ TbPost rs s day ls w (.returned (.tuple #[v, .int .i64 q])) w') := HC.mono fun e w' h => by
        have h2 := HEnd.out wr e w' HAe.out (chain HB5.out HB.out) h
        obtain ⟨g, cap, he, _⟩ := h
        exact ⟨_, _, he, he ▸ h2⟩
      clear HC HBk HEnd HRt HWF hmk HE8 HR5
      go_wp2_with (go_at_call 23; refine HC'.out.mono ?_; rintro e w6 ⟨v, q, rfl, hpost⟩; have HPo : Hid (TbPost rs s day ls w (.returned (.tuple #[v, .int .i64 q])) w6) := hpost; clear hpost)
      exact bodyPost_ret (v := .tuple #[v, .int .i64 q]) (by simp [results, Try.results6, go_sem]) rfl HPo.out
end Go.Proofs.Ytoaimjocphfcaaa
