/-
  The specification's drawn rows with a rate for each class on each day, and drawn lines: whatever the code, the rows are right and each day has its rate.
-/
import Derived.Test.YtoaimjocphfcaaaDrawTax4
import Derived.Test.YtoaimjocphfcaaaBookA
namespace Go.Proofs.Ytoaimjocphfcaaa
open Go.ChangeShapes Go.WideShapes Go.ChangeAt Go.RowKit
set_option linter.unusedVariables false

theorem gapCells (c f d : Int) : rowCells (gapRow c f d) = [.int .i64 c, .string ⟨#[]⟩, .int .i64 f, .int .i64 d, .int .i64 (7 * c), .int .i64 100] := rfl
def lnCells : List TL → List Value
  | [] => []
  | l :: ls => [.int .i64 l.cl, .int .i64 l.gr] ++ lnCells ls
theorem lnCells_length : ∀ ls, (lnCells ls).length = ls.length * 2
  | [] => rfl
  | l :: ls => by simp [lnCells, lnCells_length ls]; omega
theorem lnCells_append : ∀ ls qs, lnCells (ls ++ qs) = lnCells ls ++ lnCells qs
  | [], qs => rfl
  | l :: ls, qs => by simp [lnCells, lnCells_append ls qs]
theorem lnCells_get : ∀ (ls : List TL) (i : Nat), i < ls.length → (lnCells ls)[i * 2]? = some (.int .i64 (ls.getD i tl0).cl) ∧ (lnCells ls)[i * 2 + 1]? = some (.int .i64 (ls.getD i tl0).gr)
  | l :: ls, 0, h => ⟨rfl, rfl⟩
  | l :: ls, i + 1, h => by
    have := lnCells_get ls i (by simpa using h)
    rw [lnCells, List.getElem?_append_right (by simp; omega), List.getElem?_append_right (by simp; omega), show (i + 1) * 2 - [Value.int .i64 l.cl, .int .i64 l.gr].length = i * 2 by simp; omega, show (i + 1) * 2 + 1 - [Value.int .i64 l.cl, .int .i64 l.gr].length = i * 2 + 1 by simp; omega]
    exact this
theorem reads_lines {w : World} {B g cp : Nat} {ls : List TL} (h : w.ownsRow B 32 2 (.slice (some ⟨g, 0, none⟩) ls.length cp) ls.length (lnCells ls)) : ReadsL w.heap.size w (some ⟨g, 0, none⟩) ls := by
  by_cases h0 : ls.length = 0
  · exact .inl (List.eq_nil_of_length_eq_zero h0)
  · obtain ⟨g', cap, he, hB, hlt⟩ := h.form (by omega)
    simp at he
    obtain ⟨rfl, rfl⟩ := he
    refine .inr ⟨g, 0, rfl, hlt, fun i hi => ?_⟩
    obtain ⟨h1, h2⟩ := lnCells_get ls i hi
    refine ⟨?_, ?_⟩
    · rw [Nat.zero_add, h.cellAt (i * 2) (by omega), h1]
    · rw [Nat.zero_add, h.cellAt (i * 2 + 1) (by omega), h2]
theorem lineInfo0 : (Try.prog.info? 32).map (fun i => (i.zero, i.size, i.bytes)) = some (some (.agg #[.int .i64 0, .int .i64 0]), 2, 16) := by kernel_rfl
theorem oneLine (x y : Int) : ∀ u ∈ [Value.int .i64 x, .int .i64 y], u.oneCell' = true := fun u hu => by
  simp at hu; rcases hu with rfl | rfl <;> rfl
/-- The rows, the lines drawn so far, and the source. -/
def LnSt (w : World) (b : Nat) (a : Option Addr) (len cap g cp : Nat) (rs : List TR) (gl cl : Nat) (ls : List TL) (at' sd : Int) (wr : World) : Prop :=
  TxSt w b a len cap (.slice (some ⟨g, 0, none⟩) rs.length cp) rs at' sd wr ∧ wr.ownsRow (b + 1) 32 2 (.slice (some ⟨gl, 0, none⟩) ls.length cl) ls.length (lnCells ls) ∧ gl ≠ g ∧ g < wr.heap.size
theorem LnSt.step {w : World} {b : Nat} {a : Option Addr} {len cap g cp gl cl : Nat} {rs : List TR} {ls : List TL} {at' sd at2 sd2 : Int} {wr w' : World} (h : LnSt w b a len cap g cp rs gl cl ls at' sd wr) (ha : Apart b wr w') (hb : Below b wr w') (hs : Src w' b a len cap at2 sd2) : LnSt w b a len cap g cp rs gl cl ls at2 sd2 w' :=
  ⟨h.1.step ha hb hs, ownsRow_sameT h.2.1 (fun k hk => ha.2 k (by have := (h.2.1.lt k hk).1; omega) (h.2.1.lt k hk).2), h.2.2.1, Nat.lt_of_lt_of_le h.2.2.2 ha.1⟩
theorem LnSt.later {w : World} {b : Nat} {a : Option Addr} {len cap g cp gl cl : Nat} {rs : List TR} {ls : List TL} {at' sd : Int} {wr w' : World} (h : LnSt w b a len cap g cp rs gl cl ls at' sd wr) (hb : Below wr.heap.size wr w') : LnSt w b a len cap g cp rs gl cl ls at' sd w' :=
  ⟨h.1.later hb, ownsRow_sameT h.2.1 (fun k hk => hb.block k (h.2.1.lt k hk).2), h.2.2.1, Nat.lt_of_lt_of_le h.2.2.2 hb.size⟩
theorem LnSt.push {w : World} {b : Nat} {a : Option Addr} {len cap g cp gl cl g1 c1 : Nat} {rs : List TR} {ls : List TL} {l : TL} {at' sd : Int} {wr w' : World} (h : LnSt w b a len cap g cp rs gl cl ls at' sd wr)
    (ho : w'.ownsRow (b + 1) 32 2 (.slice (some ⟨g1, 0, none⟩) (ls.length + 1) c1) (ls.length + 1) (lnCells ls ++ [.int .i64 l.cl, .int .i64 l.gr])) (hg : wr.grownBy w' (Value.slice (some ⟨gl, 0, none⟩) ls.length cl).ownBlock) (hat : (Value.slice (some ⟨gl, 0, none⟩) ls.length cl).ownBlock = some g1 ∨ g1 = wr.heap.size) : LnSt w b a len cap g cp rs g1 c1 (ls ++ [l]) at' sd w' := by
  obtain ⟨⟨h1, h2, h3, h4⟩, h5, h6, h7⟩ := h
  have hq : ∀ q, (Value.slice (some ⟨gl, 0, none⟩) ls.length cl).ownBlock = some q → b + 1 ≤ q := fun q hq => (h5.lt q hq).1
  have hgl : (Value.slice (some ⟨gl, 0, none⟩) ls.length cl).ownBlock = some gl := rfl
  refine ⟨⟨ownsRow_sameT h1 (fun k hk => ?_), h2.grownT hg (fun k hk => by have := hq k hk; omega), Nat.le_trans h3 hg.size, h4.grown hg (by omega) (fun k hk => by have := hq k hk; omega)⟩, ?_, ?_, Nat.lt_of_lt_of_le h7 hg.size⟩
  · obtain rfl : g = k := by simpa [Value.ownBlock] using hk
    exact hg.block g h7 (fun e => by rw [hgl] at e; simp at e; exact h6 e.symm)
  · rw [List.length_append, lnCells_append]
    have : lnCells [l] = [.int .i64 l.cl, .int .i64 l.gr] := by simp [lnCells]
    rw [this]; exact ho
  · rcases hat with e | e
    · rw [hgl] at e; simp at e; rw [← e]; exact h6
    · omega
theorem LnSt.start {w : World} {b : Nat} {a : Option Addr} {len cap g cp : Nat} {rs : List TR} {at' sd : Int} {wr : World} (h : TxSt w b a len cap (.slice (some ⟨g, 0, none⟩) rs.length cp) rs at' sd wr) : LnSt w b a len cap g cp rs wr.heap.size 0 [] at' sd (wr.alloc (Obj.cells #[] 32)) := by
  have hg : g < wr.heap.size := (h.1.lt g rfl).2
  exact ⟨h.later (below_alloc _ _), ⟨rfl, .inr ⟨wr.heap.size, 0, #[], rfl, h.2.2.1, heapNew wr _, Nat.le_refl _, by unfold maxLen; omega, rfl, rfl⟩⟩, by omega, by simp; omega⟩
set_option maxHeartbeats 400000 in
theorem next_bigT (B b : Nat) (a : Option Addr) (len cap : Nat) (zs : List Int) (n at' seed : Int) (w : World) (hB : B ≤ b) (hs : Src w b a len cap at' seed) (hr : RowB B w a len zs) (a1 : at' ≤ 999999999000) (h1 : 1 < n) (h2 : 256 < n) (hn : n ≤ 1000000000000) :
    Calls Try.prog 11 #[.pointer (some ⟨b, 0, none⟩), .int .i64 n] w fun e w' => ∃ x at2 s' : Int, e = .returned (.int .i64 x) ∧ Drawn x n ∧ at' ≤ at2 ∧ at2 ≤ at' + 3 ∧ Src w' b a len cap at2 s' ∧ Below B w w' ∧ Apt b w w' := by
  have hbyte := byte_anyA B b a len cap zs at' seed w hB hs hr (by omega)
  have hbyte2 := fun s' w1 (hs1 : Src w1 b a len cap (at' + 1) s') (hb1 : Below B w w1) => byte_anyA B b a len cap zs (at' + 1) s' w1 hB hs1 (hr.below hb1) (by omega)
  have hbyte3 := fun s' w1 (hs1 : Src w1 b a len cap (at' + 1 + 1) s') (hb1 : Below B w w1) => byte_anyA B b a len cap zs (at' + 1 + 1) s' w1 hB hs1 (hr.below hb1) (by omega)
  clear hr
  go_enter Try.func11, Try.ntmps11
  go_wp2_with (first | (go_at_call 26; refine hbyte.mono ?_; rintro e w1 ⟨x, s', rfl, hx0, hx1, hs1, hb1, ha1⟩) | (go_at_call 26; refine (hbyte2 _ _ hs1 hb1).mono ?_; rintro e w2 ⟨y, s2, rfl, hy0, hy1, hs2, hb2, ha2⟩; replace hb2 := hb1.trans hb2; replace ha2 := Apt.trans ha1 ha2) | (go_at_call 26; refine (hbyte3 _ _ hs2 hb2).mono ?_; rintro e w3 ⟨z, s3, rfl, hz0, hz1, hs3, hb3, ha3⟩; replace hb3 := hb2.trans hb3; replace ha3 := Apt.trans ha2 ha3))
  go_ret
  exact ⟨_, _, _, rfl, drawn_mod _ n (by omega) h1, by omega, by omega, hs3, hb3, ha3⟩
def DrLine (l : TL) : Prop := (1 ≤ l.cl ∧ l.cl ≤ 3) ∧ -800 ≤ l.gr ∧ l.gr ≤ 4199
def TaxesPost (w : World) (e : Ending) (w' : World) : Prop := ∃ (rs : List TR) (ls : List TL) (g cp gl cl : Nat) (day : Int), e = .returned (.tuple #[.slice (some ⟨g, 0, none⟩) rs.length cp, .slice (some ⟨gl, 0, none⟩) ls.length cl, .int .i64 day]) ∧
  trAll rs = true ∧ (∀ r ∈ rs, TrOK r) ∧ (∀ c : Int, 1 ≤ c → c ≤ 3 → ∀ d, 0 ≤ d → d < 200 → cov rs c d) ∧ ls.length ≤ 12 ∧ (∀ l ∈ ls, DrLine l) ∧ (0 ≤ day ∧ day < 200) ∧ ReadsT w'.heap.size w' (some ⟨g, 0, none⟩) rs ∧ ReadsL w'.heap.size w' (some ⟨gl, 0, none⟩) ls ∧ Below w.heap.size w w'

set_option maxHeartbeats 20000000 in
set_option maxRecDepth 8000 in
theorem taxesOf_any (a : Option Addr) (len cap : Nat) (zs : List Int) (w : World) (hr : RowB w.heap.size w a len zs) :
    Calls Try.prog 4 #[.slice a len cap] w (TaxesPost w) := by
  have HR : Hid (RowB w.heap.size w a len zs) := hr
  have hlen : len ≤ maxLen := hr.1
  obtain ⟨i0, hti, hzz⟩ := Option.map_eq_some_iff.1 taxRowInfo
  simp only [Prod.mk.injEq] at hzz
  obtain ⟨hi0, hi1, hi2⟩ := hzz
  clear hr
  go_enter Try.func4, Try.ntmps4
  go_wp2_with fail
  (first | go_at_call 8 | skip)
  refine (source_any a len cap w hlen).mono ?_
  rintro e w1 ⟨sd1, rfl, hs1, hb1⟩
  go_wp2_with fail
  (first | go_at_call 9 | skip)
  refine (taxRows_any w.heap.size a len cap zs sd1 w1 hs1 (HR.out.below hb1)).mono ?_
  rintro e w2 ⟨rs0, g0, cp0, at0, sd0, rfl, hl0, hat0, htr0, hdr0, hT0⟩
  have HB1 : Hid (Below w.heap.size w w1) := hb1
  have HC0 : Hid (ClsInv rs0 rs0 0) := ClsInv.first htr0 hl0 hdr0
  have HT0 : Hid (TxSt w1 w.heap.size a len cap (.slice (some ⟨g0, 0, none⟩) rs0.length cp0) rs0 at0 sd0 w2) := hT0
  have HRow : Hid (∀ (rs : List TR) (g cp : Nat) (c d : Int) (W : World), rs.length ≤ 100 → TxSt w1 w.heap.size a len cap (.slice (some ⟨g, 0, none⟩) rs.length cp) rs at0 sd0 W → Calls Try.prog 10 #[.slice (some ⟨g, 0, none⟩) rs.length cp, .int .i64 c, .string ⟨#[]⟩, .int .i64 d] W fun e w' => (∃ x : Int, e = .returned (.int .i64 x) ∧ ((0 ≤ x ∧ cov rs c d) ∨ (x = -1 ∧ ¬ cov rs c d))) ∧ TxSt w1 w.heap.size a len cap (.slice (some ⟨g, 0, none⟩) rs.length cp) rs at0 sd0 w') := fun rs g cp c d W hl h => by
    refine (specRow_any (some ⟨g, 0, none⟩) cp rs (by omega) c ⟨#[]⟩ d W h.reads.1).mono ?_
    rintro e w' ⟨⟨x, rfl, hx⟩, hb⟩
    exact ⟨⟨x, rfl, idx_cov hx⟩, h.later hb⟩
  clear hb1 hs1 htr0 hdr0 hT0
  go_wp2_with fail
  go_loopw [6, 7, 8, 9] (fun v c _ _ wr => ∃ (rs : List TR) (g cp k : Nat), v = .slice (some ⟨g, 0, none⟩) rs.length cp ∧ c = .int .i64 ((k : Int) + 1) ∧ k ≤ 3 ∧ ClsInv rs0 rs k ∧ TxSt w1 w.heap.size a len cap (.slice (some ⟨g, 0, none⟩) rs.length cp) rs at0 sd0 wr) (fun _ c _ _ _ => (4 - intOf c).toNat)
  case atStart => exact ⟨rs0, g0, cp0, 0, rfl, rfl, by omega, HC0.out, HT0.out⟩
  case round =>
    clear HC0 HT0
    obtain ⟨rs, g, cp, k, rfl, rfl, hk, hC, hT⟩ := hrel
    have HC : Hid (ClsInv rs0 rs k) := hC
    have HT : Hid (TxSt w1 w.heap.size a len cap (.slice (some ⟨g, 0, none⟩) rs.length cp) rs at0 sd0 wr) := hT
    clear hC hT
    by_cases hk3 : k ≤ 2
    · have hkd : decide ((k : Int) + 1 ≤ 3) = true := decide_eq_true (by omega)
      have hkd' : (k : Int) + 1 ≤ 3 := by omega
      have hD0 : Hid (DayInv rs0 rs k 0 0) := DayInv.start HC.out hl0
      go_wp2_with fail
      go_loopw [6, 8, 9] (fun v f d wr => ∃ (rs : List TR) (g cp : Nat) (fi di : Int), v = .slice (some ⟨g, 0, none⟩) rs.length cp ∧ f = .int .i64 fi ∧ d = .int .i64 di ∧ DayInv rs0 rs k fi di ∧ TxSt w1 w.heap.size a len cap (.slice (some ⟨g, 0, none⟩) rs.length cp) rs at0 sd0 wr) (fun _ _ d _ => (201 - intOf d).toNat)
      case atStart => exact ⟨rs, g, cp, 0, 0, rfl, rfl, rfl, hD0.out, HT.out⟩
      case round =>
        clear HC HT hD0
        obtain ⟨rs, g, cp, fi, di, rfl, rfl, rfl, hD, hT⟩ := hrel
        have HD : Hid (DayInv rs0 rs k fi di) := hD
        have HT : Hid (TxSt w1 w.heap.size a len cap (.slice (some ⟨g, 0, none⟩) rs.length cp) rs at0 sd0 wr) := hT
        obtain ⟨b1, b2, b3, b4⟩ := hD.2.2.2.2.2.1
        have hrl : rs.length ≤ 60 := ((trAll_iff rs).1 hD.1).1
        clear hD hT
        by_cases h201 : di = 201
        · subst h201
          have HE : Hid (ClsInv rs0 rs (k + 1)) := HD.out.end
          go_wp2_with fail
          go_roundw
          case rel => exact ⟨rs, g, cp, k + 1, rfl, by go_num, by omega, HE.out, HT.out⟩
          case measure => simp [intOf]; omega
        · have hle : di ≤ 200 := by omega
          clear h201 b3
          by_cases h200 : di = 200
          · subst h200
            have hcov : (200 : Int) = 200 ∨ cov rs ((k : Int) + 1) 200 := .inl rfl
            by_cases hfd : fi = 200
            · subst hfd
              have HM : Hid (MidInv rs0 rs k 200) := HD.out.same (by omega)
              have HTT : Hid (TxSt w1 w.heap.size a len cap (.slice (some ⟨g, 0, none⟩) rs.length cp) rs at0 sd0 wr) := HT.out
              clear HD HT
              go_wp2_with fail
              go_loopw [9] (fun d wr => ∃ dz : Int, d = .int .i64 dz ∧ 200 ≤ dz ∧ MidInv rs0 rs k dz ∧ TxSt w1 w.heap.size a len cap (.slice (some ⟨g, 0, none⟩) rs.length cp) rs at0 sd0 wr) (fun d _ => (200 - intOf d).toNat)
              case atStart => exact ⟨_, rfl, Int.le_refl _, HM.out, HTT.out⟩
              case round =>
              clear HM HTT
              obtain ⟨dj, rfl, hst, hM, hTj⟩ := hrel
              have HM : Hid (MidInv rs0 rs k dj) := hM
              have HTT : Hid (TxSt w1 w.heap.size a len cap (.slice (some ⟨g, 0, none⟩) rs.length cp) rs at0 sd0 wr) := hTj
              obtain ⟨j1, j2⟩ := hM.2.2.2.2.2.1
              have hrl2 : rs.length ≤ 60 := ((trAll_iff rs).1 hM.1).1
              clear hM hTj
              by_cases hj200 : dj = 200
              · subst hj200
                have HE : Hid (DayInv rs0 rs k 200 201) := HM.out.done (.inl rfl)
                go_wp2_with fail
                go_roundw
                case rel => exact ⟨rs, g, cp, 200, 201, rfl, rfl, rfl, HE.out, HTT.out⟩
                case measure => first | (simp [intOf]; done) | (simp [intOf]; omega)
              · exfalso; omega
            · have hlt : fi < 200 := by omega
              have HM0 : Hid (MidInv rs0 (rs ++ [gapRow ((k : Int) + 1) fi 200]) k 200) := HD.out.fill hk3 (by omega) hlt hcov
              have HT7 : Hid (TxSt w1 w.heap.size a len cap (.slice (some ⟨g, 0, none⟩) rs.length cp) rs at0 sd0 (wr.alloc (Obj.cells #[.int .i64 ((k : Int) + 1), .string ⟨#[]⟩, .int .i64 fi, .int .i64 200, .int .i64 (7 * ((k : Int) + 1)), .int .i64 100] 45))) := HT.out.later (below_alloc _ _)
              clear HD HT
              go_wp2_with (at_builtin; refine wpList_append_lies _ rfl _ _ 23 rfl (w.heap.size + 1) 45 i0 (.agg #[.int .i64 0, .string ⟨#[]⟩, .int .i64 0, .int .i64 0, .int .i64 0, .int .i64 0]) 6 56 Try.underlying23 hti hi0 hi1 hi2 rfl (by decide) _ _ _ rfl HT7.out.1 ⟨wr.heap.size, 0, none⟩ 1 1 (rowCells (gapRow ((k : Int) + 1) fi 200)) rfl rfl (World.news_of_block (heapNew wr _)) (oneRowT (gapRow ((k : Int) + 1) fi 200)) (by omega) (by unfold maxLen; omega) (by omega) HT7.out.2.2.1 _ rfl ?_; intro g7 cp7 W7 own7 grow7 hat7 hlt7; have HT8 : Hid (TxSt w1 w.heap.size a len cap (.slice (some ⟨g7, 0, none⟩) (rs.length + 1) cp7) (rs ++ [gapRow ((k : Int) + 1) fi 200]) at0 sd0 W7) := HT7.out.push (r := gapRow ((k : Int) + 1) fi 200) own7 grow7; clear own7 grow7 hat7 hlt7 HT7)
              obtain ⟨RS, hRS⟩ : ∃ RS, RS = rs ++ [gapRow ((k : Int) + 1) fi 200] := ⟨_, rfl⟩
              have hlR : rs.length + 1 = RS.length := by rw [hRS]; simp
              rw [← hRS] at HM0 HT8
              rw [hlR] at HT8 ⊢
              have HM : Hid (MidInv rs0 RS k 200) := HM0.out
              have HTT : Hid (TxSt w1 w.heap.size a len cap (.slice (some ⟨g7, 0, none⟩) RS.length cp7) RS at0 sd0 W7) := HT8.out
              clear HM0 HT8 hRS hlR
              go_wp2_with fail
              go_loopw [9] (fun d wr => ∃ dz : Int, d = .int .i64 dz ∧ 200 ≤ dz ∧ MidInv rs0 RS k dz ∧ TxSt w1 w.heap.size a len cap (.slice (some ⟨g7, 0, none⟩) RS.length cp7) RS at0 sd0 wr) (fun d _ => (200 - intOf d).toNat)
              case atStart => exact ⟨_, rfl, Int.le_refl _, HM.out, HTT.out⟩
              case round =>
              clear HM HTT
              obtain ⟨dj, rfl, hst, hM, hTj⟩ := hrel
              have HM : Hid (MidInv rs0 RS k dj) := hM
              have HTT : Hid (TxSt w1 w.heap.size a len cap (.slice (some ⟨g7, 0, none⟩) RS.length cp7) RS at0 sd0 wr) := hTj
              obtain ⟨j1, j2⟩ := hM.2.2.2.2.2.1
              have hrl2 : RS.length ≤ 60 := ((trAll_iff RS).1 hM.1).1
              clear hM hTj
              by_cases hj200 : dj = 200
              · subst hj200
                have HE : Hid (DayInv rs0 RS k 200 201) := HM.out.done (.inl rfl)
                go_wp2_with fail
                go_roundw
                case rel => exact ⟨RS, g7, cp7, 200, 201, rfl, rfl, rfl, HE.out, HTT.out⟩
                case measure => first | (simp [intOf]; done) | (simp [intOf]; omega)
              · exfalso; omega
          · have hne : (di == 200) = false := by rw [beq_eq_false_iff_ne]; exact h200
            have hdl : di < 200 := by omega
            have hcall := HRow.out rs g cp ((k : Int) + 1) di wr (by omega) HT.out
            by_cases hcv : cov rs ((k : Int) + 1) di
            · have hcov : di = 200 ∨ cov rs ((k : Int) + 1) di := .inr hcv
              have hyes : Calls Try.prog 10 #[.slice (some ⟨g, 0, none⟩) rs.length cp, .int .i64 ((k : Int) + 1), .string ⟨#[]⟩, .int .i64 di] wr fun e w' => ∃ j : Nat, e = .returned (.int .i64 (j : Int)) ∧ TxSt w1 w.heap.size a len cap (.slice (some ⟨g, 0, none⟩) rs.length cp) rs at0 sd0 w' := hcall.mono fun e w' ⟨⟨x, h1, h2⟩, h3⟩ => by
                rcases h2 with ⟨h2, _⟩ | ⟨_, h2⟩
                · exact ⟨x.toNat, by rw [h1, Int.toNat_of_nonneg h2], h3⟩
                · exact absurd hcv h2
              clear hcall HT
              by_cases hfd : fi = di
              · subst hfd
                have HM : Hid (MidInv rs0 rs k fi) := HD.out.same (by omega)
                clear HD
                go_wp2_with (go_at_call 10; refine hyes.mono ?_; rintro e w3 ⟨jx, rfl, hT3⟩; have HTT : Hid (TxSt w1 w.heap.size a len cap (.slice (some ⟨g, 0, none⟩) rs.length cp) rs at0 sd0 w3) := hT3; clear hT3)
                go_wp2_with fail
                go_loopw [9] (fun d wr => ∃ dz : Int, d = .int .i64 dz ∧ fi ≤ dz ∧ MidInv rs0 rs k dz ∧ TxSt w1 w.heap.size a len cap (.slice (some ⟨g, 0, none⟩) rs.length cp) rs at0 sd0 wr) (fun d _ => (200 - intOf d).toNat)
                case atStart => exact ⟨_, rfl, Int.le_refl _, HM.out, HTT.out⟩
                case round =>
                clear HM HTT
                obtain ⟨dj, rfl, hst, hM, hTj⟩ := hrel
                have HM : Hid (MidInv rs0 rs k dj) := hM
                have HTT : Hid (TxSt w1 w.heap.size a len cap (.slice (some ⟨g, 0, none⟩) rs.length cp) rs at0 sd0 wr) := hTj
                obtain ⟨j1, j2⟩ := hM.2.2.2.2.2.1
                have hrl2 : rs.length ≤ 60 := ((trAll_iff rs).1 hM.1).1
                clear hM hTj
                by_cases hj200 : dj = 200
                · subst hj200
                  have HE : Hid (DayInv rs0 rs k 200 201) := HM.out.done (.inl rfl)
                  go_wp2_with fail
                  go_roundw
                  case rel => exact ⟨rs, g, cp, 200, 201, rfl, rfl, rfl, HE.out, HTT.out⟩
                  case measure => first | (simp [intOf]; done) | (simp [intOf]; omega)
                · have hjl : dj < 200 := by omega
                  have hcall := HRow.out rs g cp ((k : Int) + 1) dj wr (by omega) HTT.out
                  go_wp2_with (go_at_call 10; refine hcall.mono ?_; rintro e w6 ⟨⟨x, rfl, hx⟩, hT6⟩; have HX : Hid ((0 ≤ x ∧ cov rs ((k : Int) + 1) dj) ∨ (x = -1 ∧ ¬ cov rs ((k : Int) + 1) dj)) := hx; have HT6 : Hid (TxSt w1 w.heap.size a len cap (.slice (some ⟨g, 0, none⟩) rs.length cp) rs at0 sd0 w6) := hT6; clear hx hT6)
                  · have hcv : cov rs ((k : Int) + 1) dj := by rcases HX.out with h | h; exact h.2; omega
                    have HE : Hid (MidInv rs0 rs k (dj + 1)) := HM.out.next hjl hcv
                    go_roundw
                    case rel => exact ⟨dj + 1, by go_num, by omega, HE.out, HT6.out⟩
                    case measure => simp [intOf]; omega
                  · have hcv : ¬ cov rs ((k : Int) + 1) dj := by rcases HX.out with h | h; omega; exact h.2
                    have HE : Hid (DayInv rs0 rs k dj (dj + 1)) := HM.out.done (.inr hcv)
                    go_roundw
                    case rel => exact ⟨rs, g, cp, dj, dj + 1, rfl, rfl, by go_num, HE.out, HT6.out⟩
                    case measure => first | (simp [intOf]; done) | (simp [intOf]; omega)
              · have hlt : fi < di := by omega
                have HM0 : Hid (MidInv rs0 (rs ++ [gapRow ((k : Int) + 1) fi di]) k di) := HD.out.fill hk3 (by omega) hlt hcov
                clear HD
                go_wp2_with (first
                  | (at_builtin; refine wpList_append_lies _ rfl _ _ 23 rfl (w.heap.size + 1) 45 i0 (.agg #[.int .i64 0, .string ⟨#[]⟩, .int .i64 0, .int .i64 0, .int .i64 0, .int .i64 0]) 6 56 Try.underlying23 hti hi0 hi1 hi2 rfl (by decide) _ _ _ rfl HT7.out.1 ⟨w3.heap.size, 0, none⟩ 1 1 (rowCells (gapRow ((k : Int) + 1) fi di)) rfl rfl (World.news_of_block (heapNew w3 _)) (oneRowT (gapRow ((k : Int) + 1) fi di)) (by omega) (by unfold maxLen; omega) (by omega) HT7.out.2.2.1 _ rfl ?_; intro g7 cp7 W7 own7 grow7 hat7 hlt7; have HT8 : Hid (TxSt w1 w.heap.size a len cap (.slice (some ⟨g7, 0, none⟩) (rs.length + 1) cp7) (rs ++ [gapRow ((k : Int) + 1) fi di]) at0 sd0 W7) := HT7.out.push (r := gapRow ((k : Int) + 1) fi di) own7 grow7; clear own7 grow7 hat7 hlt7 HT7)
                  | (go_at_call 10; refine hyes.mono ?_; rintro e w3 ⟨jx, rfl, hT3⟩; have HT3 : Hid (TxSt w1 w.heap.size a len cap (.slice (some ⟨g, 0, none⟩) rs.length cp) rs at0 sd0 w3) := hT3; have HT7 : Hid (TxSt w1 w.heap.size a len cap (.slice (some ⟨g, 0, none⟩) rs.length cp) rs at0 sd0 (w3.alloc (Obj.cells #[.int .i64 ((k : Int) + 1), .string ⟨#[]⟩, .int .i64 fi, .int .i64 di, .int .i64 (7 * ((k : Int) + 1)), .int .i64 100] 45))) := HT3.out.later (below_alloc _ _); clear hT3))
                obtain ⟨RS, hRS⟩ : ∃ RS, RS = rs ++ [gapRow ((k : Int) + 1) fi di] := ⟨_, rfl⟩
                have hlR : rs.length + 1 = RS.length := by rw [hRS]; simp
                rw [← hRS] at HM0 HT8
                rw [hlR] at HT8 ⊢
                have HM : Hid (MidInv rs0 RS k di) := HM0.out
                have HTT : Hid (TxSt w1 w.heap.size a len cap (.slice (some ⟨g7, 0, none⟩) RS.length cp7) RS at0 sd0 W7) := HT8.out
                clear HM0 HT8 hRS hlR
                go_wp2_with fail
                go_loopw [9] (fun d wr => ∃ dz : Int, d = .int .i64 dz ∧ di ≤ dz ∧ MidInv rs0 RS k dz ∧ TxSt w1 w.heap.size a len cap (.slice (some ⟨g7, 0, none⟩) RS.length cp7) RS at0 sd0 wr) (fun d _ => (200 - intOf d).toNat)
                case atStart => exact ⟨_, rfl, Int.le_refl _, HM.out, HTT.out⟩
                case round =>
                clear HM HTT
                obtain ⟨dj, rfl, hst, hM, hTj⟩ := hrel
                have HM : Hid (MidInv rs0 RS k dj) := hM
                have HTT : Hid (TxSt w1 w.heap.size a len cap (.slice (some ⟨g7, 0, none⟩) RS.length cp7) RS at0 sd0 wr) := hTj
                obtain ⟨j1, j2⟩ := hM.2.2.2.2.2.1
                have hrl2 : RS.length ≤ 60 := ((trAll_iff RS).1 hM.1).1
                clear hM hTj
                by_cases hj200 : dj = 200
                · subst hj200
                  have HE : Hid (DayInv rs0 RS k 200 201) := HM.out.done (.inl rfl)
                  go_wp2_with fail
                  go_roundw
                  case rel => exact ⟨RS, g7, cp7, 200, 201, rfl, rfl, rfl, HE.out, HTT.out⟩
                  case measure => first | (simp [intOf]; done) | (simp [intOf]; omega)
                · have hjl : dj < 200 := by omega
                  have hcall := HRow.out RS g7 cp7 ((k : Int) + 1) dj wr (by omega) HTT.out
                  go_wp2_with (go_at_call 10; refine hcall.mono ?_; rintro e w6 ⟨⟨x, rfl, hx⟩, hT6⟩; have HX : Hid ((0 ≤ x ∧ cov RS ((k : Int) + 1) dj) ∨ (x = -1 ∧ ¬ cov RS ((k : Int) + 1) dj)) := hx; have HT6 : Hid (TxSt w1 w.heap.size a len cap (.slice (some ⟨g7, 0, none⟩) RS.length cp7) RS at0 sd0 w6) := hT6; clear hx hT6)
                  · have hcv : cov RS ((k : Int) + 1) dj := by rcases HX.out with h | h; exact h.2; omega
                    have HE : Hid (MidInv rs0 RS k (dj + 1)) := HM.out.next hjl hcv
                    go_roundw
                    case rel => exact ⟨dj + 1, by go_num, by omega, HE.out, HT6.out⟩
                    case measure => simp [intOf]; omega
                  · have hcv : ¬ cov RS ((k : Int) + 1) dj := by rcases HX.out with h | h; omega; exact h.2
                    have HE : Hid (DayInv rs0 RS k dj (dj + 1)) := HM.out.done (.inr hcv)
                    go_roundw
                    case rel => exact ⟨RS, g7, cp7, dj, dj + 1, rfl, rfl, by go_num, HE.out, HT6.out⟩
                    case measure => first | (simp [intOf]; done) | (simp [intOf]; omega)
            · have hno : Calls Try.prog 10 #[.slice (some ⟨g, 0, none⟩) rs.length cp, .int .i64 ((k : Int) + 1), .string ⟨#[]⟩, .int .i64 di] wr fun e w' => e = .returned (.int .i64 (-1)) ∧ TxSt w1 w.heap.size a len cap (.slice (some ⟨g, 0, none⟩) rs.length cp) rs at0 sd0 w' := hcall.mono fun e w' ⟨⟨x, h1, h2⟩, h3⟩ => by
                rcases h2 with ⟨_, h2⟩ | ⟨h2, _⟩
                · exact absurd h2 hcv
                · exact ⟨by rw [h1, h2], h3⟩
              have HE : Hid (DayInv rs0 rs k fi (di + 1)) := HD.out.next hdl hcv
              clear hcall HT HD
              go_wp2_with (go_at_call 10; refine hno.mono ?_; rintro e w3 ⟨rfl, hT3⟩; have HT3 : Hid (TxSt w1 w.heap.size a len cap (.slice (some ⟨g, 0, none⟩) rs.length cp) rs at0 sd0 w3) := hT3; clear hT3)
              go_roundw
              case rel => exact ⟨rs, g, cp, fi, di + 1, rfl, rfl, by go_num, HE.out, HT3.out⟩
              case measure => simp [intOf]; omega
    · obtain rfl : k = 3 := by omega
      have HL0 : Hid (LnSt w1 w.heap.size a len cap g cp rs wr.heap.size 0 [] at0 sd0 (wr.alloc (Obj.cells #[] 32))) := LnSt.start HT.out
      have HSz : Hid (Calls Try.prog 12 #[.pointer (some ⟨w.heap.size, 0, none⟩), .int .i64 12] (wr.alloc (Obj.cells #[] 32)) fun e w' => (∃ x : Int, e = .returned (.int .i64 x) ∧ 1 ≤ x ∧ x ≤ 12) ∧ w' = wr.alloc (Obj.cells #[] 32)) := size_src w.heap.size a len cap 12 at0 sd0 _ HL0.out.1.2.1 hlen (by omega) (by omega)
      have HNx : Hid (∀ (n at' sd : Int) (W : World), n ≤ 256 → at' ≤ 999999999000 → Src W w.heap.size a len cap at' sd → Below w.heap.size w1 W → Calls Try.prog 11 #[.pointer (some ⟨w.heap.size, 0, none⟩), .int .i64 n] W fun e w' => ∃ x at2 s' : Int, e = .returned (.int .i64 x) ∧ Drawn x n ∧ at' ≤ at2 ∧ at2 ≤ at' + 3 ∧ Src w' w.heap.size a len cap at2 s' ∧ Below w.heap.size W w' ∧ Apt w.heap.size W w') := fun n at' sd W hn ha hS hB => next_anyA w.heap.size w.heap.size a len cap zs n at' sd W (Nat.le_refl _) hS (HR.out.below (HB1.out.trans hB)) ha hn
      have HNb : Hid (∀ (at' sd : Int) (W : World), at' ≤ 999999999000 → Src W w.heap.size a len cap at' sd → Below w.heap.size w1 W → Calls Try.prog 11 #[.pointer (some ⟨w.heap.size, 0, none⟩), .int .i64 5000] W fun e w' => ∃ x at2 s' : Int, e = .returned (.int .i64 x) ∧ Drawn x 5000 ∧ at' ≤ at2 ∧ at2 ≤ at' + 3 ∧ Src w' w.heap.size a len cap at2 s' ∧ Below w.heap.size W w' ∧ Apt w.heap.size W w') := fun at' sd W ha hS hB => next_bigT w.heap.size w.heap.size a len cap zs 5000 at' sd W (Nat.le_refl _) hS (HR.out.below (HB1.out.trans hB)) ha (by omega) (by omega) (by omega)
      obtain ⟨k0, hti2, hzz2⟩ := Option.map_eq_some_iff.1 lineInfo0
      simp only [Prod.mk.injEq] at hzz2
      obtain ⟨hk0, hk1, hk2⟩ := hzz2
      clear HT HRow
      go_wp2_with fail
      (first | go_at_call 12 | skip)
      refine HSz.out.mono ?_
      rintro e w3 ⟨⟨y, rfl, y1, y2⟩, hw3⟩
      rw [hw3]
      clear hw3 w3
      go_wp2_with fail
      (first | go_at_call 11 | skip)
      refine (HNx.out _ _ _ _ (by omega) (by omega) HL0.out.1.2.1 HL0.out.1.2.2.2).mono ?_
      rintro e w4 ⟨x4, a4, s4, rfl, hx4, ql4, qu4, hs4, hb4, ha4⟩
      have HL4 : Hid (LnSt w1 w.heap.size a len cap g cp rs wr.heap.size 0 [] a4 s4 w4) := HL0.out.step (ha4.apart hb4) hb4 hs4
      have hx40 : 0 ≤ x4 := hx4.1
      have hx41 : x4 ≤ 12 := by rcases hx4.2 with h | h <;> omega
      clear hs4 hb4 ha4 hx4 HL0 HSz
      generalize wr.heap.size = gl0 at *
      go_wp2_with fail
      go_loopw [10, 11] (fun v c wr => ∃ (ls : List TL) (gl cl : Nat) (i at' sd : Int), v = .slice (some ⟨gl, 0, none⟩) ls.length cl ∧ c = .int .i64 i ∧ 0 ≤ i ∧ (ls.length : Int) + i ≤ 12 ∧ at' + 6 * i ≤ 400 ∧ (∀ l ∈ ls, DrLine l) ∧ LnSt w1 w.heap.size a len cap g cp rs gl cl ls at' sd wr) (fun _ c _ => (intOf c).toNat)
      case atStart => exact ⟨[], gl0, 0, x4, a4, s4, rfl, rfl, hx40, by simp; omega, by omega, by simp, HL4.out⟩
      case round =>
        clear HL4
        obtain ⟨ls, gl, cl, i, at', sd, rfl, rfl, hi, hil, hat, hdl, hLn⟩ := hrel
        have HL : Hid (LnSt w1 w.heap.size a len cap g cp rs gl cl ls at' sd wr) := hLn
        have HG : Hid (∀ l ∈ ls, DrLine l) := hdl
        have hat1 : 0 ≤ at' := hLn.1.2.1.2.2.2.2.2.2.1
        clear hLn hdl
        by_cases hz : i = 0
        · subst hz
          go_wp2_with fail
          (first | go_at_call 11 | skip)
          refine (HNx.out 200 _ _ _ (by omega) (by omega) HL.out.1.2.1 HL.out.1.2.2.2).mono ?_
          rintro e w5 ⟨x5, a5, s5, rfl, hx5, ql5, qu5, hs5, hb5, ha5⟩
          have HL5 : Hid (LnSt w1 w.heap.size a len cap g cp rs gl cl ls a5 s5 w5) := HL.out.step (ha5.apart hb5) hb5 hs5
          have hx50 : 0 ≤ x5 := hx5.1
          have hx51 : x5 < 200 := by rcases hx5.2 with h | h <;> omega
          clear hs5 hb5 ha5 hx5 HL
          go_wp2
          refine bodyPost_ret (v := .tuple #[.slice (some ⟨g, 0, none⟩) rs.length cp, .slice (some ⟨gl, 0, none⟩) ls.length cl, .int .i64 x5]) (by simp [results, Try.results4, go_sem]) rfl ?_
          exact ⟨rs, ls, g, cp, gl, cl, x5, rfl, HC.out.1, HC.out.2.2.2.1, fun c c1 c2 => HC.out.2.2.2.2 c c1 (by omega), by omega, HG.out, ⟨hx50, hx51⟩, HL5.out.1.reads.1, reads_lines HL5.out.2.1, HB1.out.trans HL5.out.1.2.2.2⟩
        · have hpos : 1 ≤ i := by omega
          clear hz
          go_wp2_with fail
          (first | go_at_call 11 | skip)
          refine (HNx.out 3 _ _ _ (by omega) (by omega) HL.out.1.2.1 HL.out.1.2.2.2).mono ?_
          rintro e w5 ⟨x5, a5, s5, rfl, hx5, ql5, qu5, hs5, hb5, ha5⟩
          have HL5 : Hid (LnSt w1 w.heap.size a len cap g cp rs gl cl ls a5 s5 w5) := HL.out.step (ha5.apart hb5) hb5 hs5
          have d50 : 0 ≤ x5 := hx5.1
          have d51 : x5 ≤ 2 := by rcases hx5.2 with h | h <;> omega
          clear hs5 hb5 ha5 hx5 HL
          go_wp2_with fail
          (first | go_at_call 11 | skip)
          refine (HNb.out _ _ _ (by omega) HL5.out.1.2.1 HL5.out.1.2.2.2).mono ?_
          rintro e w6 ⟨x6, a6, s6, rfl, hx6, ql6, qu6, hs6, hb6, ha6⟩
          have HL6 : Hid (LnSt w1 w.heap.size a len cap g cp rs gl cl ls a6 s6 w6) := HL5.out.step (ha6.apart hb6) hb6 hs6
          have d60 : 0 ≤ x6 := hx6.1
          have d61 : x6 ≤ 4999 := by rcases hx6.2 with h | h <;> omega
          clear hs6 hb6 ha6 hx6 HL5
          have HL7 : Hid (LnSt w1 w.heap.size a len cap g cp rs gl cl ls a6 s6 (w6.alloc (Obj.cells #[.int .i64 (1 + x5), .int .i64 (x6 - 800)] 32))) := HL6.out.later (below_alloc _ _)
          go_wp2_with (at_builtin; refine wpList_append_lies _ rfl _ _ 24 rfl (w.heap.size + 1) 32 k0 (.agg #[.int .i64 0, .int .i64 0]) 2 16 Try.underlying24 hti2 hk0 hk1 hk2 rfl (by decide) _ _ _ rfl HL7.out.2.1 ⟨w6.heap.size, 0, none⟩ 1 1 [.int .i64 (1 + x5), .int .i64 (x6 - 800)] rfl rfl (World.news_of_block (heapNew w6 _)) (oneLine _ _) (by omega) (by unfold maxLen; omega) (by omega) HL7.out.1.2.2.1 _ rfl ?_; intro g7 cp7 W7 own7 grow7 hat7 hlt7; have HL8 : Hid (LnSt w1 w.heap.size a len cap g cp rs g7 cp7 (ls ++ [⟨1 + x5, x6 - 800⟩]) a6 s6 W7) := HL7.out.push (l := ⟨1 + x5, x6 - 800⟩) own7 grow7 hat7; clear own7 grow7 hat7 hlt7)
          have HGn : Hid (∀ l ∈ ls ++ [(⟨1 + x5, x6 - 800⟩ : TL)], DrLine l) := fun l hl => by
            rcases List.mem_append.1 hl with h | h
            · exact HG.out l h
            · simp at h; subst h; exact ⟨⟨by dsimp only; omega, by dsimp only; omega⟩, by dsimp only; omega, by dsimp only; omega⟩
          go_roundw
          case rel => exact ⟨ls ++ [⟨1 + x5, x6 - 800⟩], g7, cp7, i - 1, a6, s6, by rw [List.length_append]; rfl, by go_num, by omega, by rw [List.length_append]; simp; omega, by omega, HGn.out, HL8.out⟩
          case measure => simp [intOf]; omega
end Go.Proofs.Ytoaimjocphfcaaa
