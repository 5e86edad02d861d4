/-
  Two lists that are settled, as mathematics: which are right, the first that is the same and has no pair yet, the pairs, what is left; contracts of the program's settledOK and the specification's l11Right.
-/
import Derived.Test.YtgjffmeafdpfhaaSeA
import Derived.Test.YtgjffmeafdpfhaaRowG
import Derived.Test.YtgjffmeafdpfhaaNameAny
import Derived.Test.YtgjffmeafdpfhaaAmt
import Derived.Laws.StructEq
namespace Go.Proofs.Ytgjffmeafdpfhaa
open Go.ChangeShapes Go.WideShapes Go.ChangeAt Go.RowKit Go.Deep
set_option linter.unusedVariables false

def seEq (x y : RSe) : Bool := x.id.toList == y.id.toList && x.am == y.am
theorem seEql_run (a b : ByteArray) (m n : Int) (w : World) : (binOp BinOp.eql 33 (.agg #[.string a, .int .i64 m]) (.agg #[.string b, .int .i64 n])).run Try.prog w = .ok (.bool (seEq ⟨a, m⟩ ⟨b, n⟩)) w := by
  unfold seEq
  go_simp
  by_cases h1 : a.toList = b.toList
  · by_cases h2 : m = n
    · rw [if_pos h1, if_pos h2]; simp [h1, h2]
    · rw [if_pos h1, if_neg h2]; simp [h2]
  · rw [if_neg h1]; simp [h1]
def seOne (r : RSe) : Bool := nameB r.id && inB r.am (-1000000000) 1000000000
def seAll (rs : List RSe) : Bool := rs.all seOne
theorem ReadsSe.later {w w' : World} {a : Option Addr} {rs : List RSe} (h : ReadsSe w.heap.size w a rs) (hb : Below w.heap.size w w') : ReadsSe w'.heap.size w' a rs := (h.below hb).mono hb.size
theorem ses_take (p : RSe → Bool) (rs : List RSe) (k : Nat) (h : k < rs.length) : (rs.take (k + 1)).all p = ((rs.take k).all p && p (rs.getD k zSe)) := by
  rw [List.take_succ_eq_append_getElem h, List.all_append]
  have e : rs.getD k zSe = rs[k] := by simp [List.getD_eq_getElem?_getD, h]
  rw [e]; simp
theorem ses_fail {p : RSe → Bool} {rs : List RSe} {k : Nat} (h : k < rs.length) (hp : p (rs.getD k zSe) = false) : rs.all p = false := by
  have e : rs.getD k zSe = rs[k] := by simp [List.getD_eq_getElem?_getD, h]
  rw [e] at hp
  rw [List.all_eq_false]
  exact ⟨rs[k], List.getElem_mem _, by simp [hp]⟩
theorem seOne_ways (a : ByteArray) (p : Int) : (nameB a = false ∧ seOne ⟨a, p⟩ = false) ∨ (nameB a = true ∧ p < -1000000000 ∧ inB p (-1000000000) 1000000000 = false ∧ seOne ⟨a, p⟩ = false) ∨ (nameB a = true ∧ -1000000000 ≤ p ∧ 1000000000 < p ∧ inB p (-1000000000) 1000000000 = false ∧ seOne ⟨a, p⟩ = false) ∨ (nameB a = true ∧ -1000000000 ≤ p ∧ p ≤ 1000000000 ∧ inB p (-1000000000) 1000000000 = true ∧ seOne ⟨a, p⟩ = true) := by
  have e : seOne ⟨a, p⟩ = (nameB a && inB p (-1000000000) 1000000000) := rfl
  rw [e]
  cases h : nameB a
  · exact .inl ⟨rfl, rfl⟩
  · rcases (by omega : p < -1000000000 ∨ (-1000000000 ≤ p ∧ 1000000000 < p) ∨ (-1000000000 ≤ p ∧ p ≤ 1000000000)) with q | ⟨q, q'⟩ | ⟨q, q'⟩
    · have : inB p (-1000000000) 1000000000 = false := decide_eq_false (by omega)
      exact .inr (.inl ⟨rfl, q, this, by rw [this]; rfl⟩)
    · have : inB p (-1000000000) 1000000000 = false := decide_eq_false (by omega)
      exact .inr (.inr (.inl ⟨rfl, q, q', this, by rw [this]; rfl⟩))
    · have : inB p (-1000000000) 1000000000 = true := decide_eq_true (by omega)
      exact .inr (.inr (.inr ⟨rfl, q, q', this, by rw [this]; rfl⟩))
theorem seOne_am {r : RSe} (h : seOne r = true) : -1000000000 ≤ r.am ∧ r.am ≤ 1000000000 := by
  unfold seOne at h
  rw [Bool.and_eq_true] at h
  exact of_decide_eq_true h.2
theorem seAll_am {rs : List RSe} (h : seAll rs = true) : ∀ r ∈ rs, -1000000000 ≤ r.am ∧ r.am ≤ 1000000000 := fun r hr => seOne_am (List.all_eq_true.1 h r hr)

def sePart (x : RSe) (tk : Bool) (y : RSe) : Bool := seEq y x && !tk
/-- The first of bank that is the same as x and has no pair yet. -/
def firstU (bank : List RSe) (tk : Nat → Bool) (x : RSe) : Option Nat := (List.range bank.length).find? fun j => sePart x (tk j) (bank.getD j zSe)
theorem firstU_at {bank : List RSe} {tk : Nat → Bool} {x : RSe} {k : Nat} (hk : k < bank.length) (h0 : ∀ j, j < k → sePart x (tk j) (bank.getD j zSe) = false) (h1 : sePart x (tk k) (bank.getD k zSe) = true) : firstU bank tk x = some k := by
  unfold firstU
  rw [List.find?_range_eq_some]
  exact ⟨by simpa using h1, by simpa using hk, fun j hj => by simpa using h0 j hj⟩
theorem firstU_none {bank : List RSe} {tk : Nat → Bool} {x : RSe} (h0 : ∀ j, j < bank.length → sePart x (tk j) (bank.getD j zSe) = false) : firstU bank tk x = none := by
  unfold firstU
  rw [List.find?_range_eq_none]
  exact fun j hj => by simpa using h0 j hj
theorem firstU_some {bank : List RSe} {tk : Nat → Bool} {x : RSe} {j : Nat} (h : firstU bank tk x = some j) : j < bank.length ∧ sePart x (tk j) (bank.getD j zSe) = true := by
  unfold firstU at h
  rw [List.find?_range_eq_some] at h
  exact ⟨by simpa using h.2.1, by simpa using h.1⟩
theorem firstU_miss {bank : List RSe} {tk : Nat → Bool} {x : RSe} (h : firstU bank tk x = none) (j : Nat) (hj : j < bank.length) : sePart x (tk j) (bank.getD j zSe) = false := by
  unfold firstU at h
  rw [List.find?_range_eq_none] at h
  have := h j hj
  simpa using this
def fuI (o : Option Nat) : Int := match o with | none => -1 | some j => (j : Int)
/-- What is paired when some of mine were gone through: who of bank has a pair, the pairs, who of mine has none. -/
structure MS where
  tk : Nat → Bool
  ps : List (Nat × Nat)
  ms : List Nat
def msStep (o : Option Nat) (i : Nat) (s : MS) : MS := match o with
  | none => ⟨s.tk, s.ps, s.ms ++ [i]⟩
  | some j => ⟨fun q => if q = j then true else s.tk q, s.ps ++ [(i, j)], s.ms⟩
def msAt (mine bank : List RSe) : Nat → MS
  | 0 => ⟨fun _ => false, [], []⟩
  | i + 1 => msStep (firstU bank (msAt mine bank i).tk (mine.getD i zSe)) i (msAt mine bank i)
theorem msAt_len (mine bank : List RSe) : ∀ i, (msAt mine bank i).ps.length + (msAt mine bank i).ms.length = i
  | 0 => rfl
  | i + 1 => by
    have ih := msAt_len mine bank i
    rw [msAt]
    unfold msStep
    split <;> simp <;> omega
/-- Those of bank below n that have no pair. -/
def bkAt (tk : Nat → Bool) : Nat → List Nat
  | 0 => []
  | n + 1 => if tk n = true then bkAt tk n else bkAt tk n ++ [n]
theorem bkAt_len (tk : Nat → Bool) : ∀ n, (bkAt tk n).length ≤ n
  | 0 => Nat.le_refl _
  | n + 1 => by
    have ih := bkAt_len tk n
    rw [bkAt]
    split
    · omega
    · simp; omega
def sumS : List RSe → Nat → Int
  | rs, 0 => 0
  | rs, k + 1 => sumS rs k + (rs.getD k zSe).am
theorem sumS_bound {rs : List RSe} (h : ∀ r ∈ rs, -1000000000 ≤ r.am ∧ r.am ≤ 1000000000) : ∀ k, k ≤ rs.length → -1000000000 * (k : Int) ≤ sumS rs k ∧ sumS rs k ≤ 1000000000 * (k : Int)
  | 0, _ => ⟨by simp [sumS], by simp [sumS]⟩
  | k + 1, hk => by
    have ih := sumS_bound h k (by omega)
    have hg := getSe (p := fun r => -1000000000 ≤ r.am ∧ r.am ≤ 1000000000) h (k := k) (by omega)
    rw [sumS]
    omega
/-- The code with which Settle refuses, 0 if it does not. -/
def fltS (mine bank : List RSe) : Int := if 4096 < mine.length ∨ 4096 < bank.length then 2 else if 60 < mine.length ∨ 60 < bank.length then 9 else if (seAll mine && seAll bank) = true then 0 else 1
structure Mt where
  ps : List (Nat × Nat)
  ms : List Nat
  bs : List Nat
  df : Int
def noMt : Mt := ⟨[], [], [], 0⟩
def mtOf (mine bank : List RSe) : Mt := ⟨(msAt mine bank mine.length).ps, (msAt mine bank mine.length).ms, bkAt (msAt mine bank mine.length).tk bank.length, sumS mine mine.length - sumS bank bank.length⟩
def mtR (mine bank : List RSe) : Mt := if fltS mine bank = 0 then mtOf mine bank else noMt

set_option maxHeartbeats 2000000 in
theorem seRight_any (a : ByteArray) (p : Int) (ha : a.size ≤ 2000000) (w : World) :
    Calls Try.prog 36 #[.agg #[.string a, .int .i64 p]] w fun e w' => e = .returned (.bool (seOne ⟨a, p⟩)) ∧ Below w.heap.size w w' := by
  have HN : Hid (∀ b, nameB a = b → ∀ w, Calls Try.prog 42 #[.string a] w fun e w' => e = .returned (.bool b) ∧ Below w.heap.size w w') := fun b h w => h ▸ implName_any a (by unfold maxLen; omega) w
  have HA : Hid (∀ w, Calls Try.prog 43 #[.int .i64 p] w fun e w' => e = .returned (.bool (inB p (-1000000000) 1000000000)) ∧ w' = w) := fun w => by
    unfold inB
    rcases (by omega : p < -1000000000 ∨ (-1000000000 ≤ p ∧ 1000000000 < p) ∨ (-1000000000 ≤ p ∧ p ≤ 1000000000)) with q | ⟨q, q'⟩ | ⟨q, q'⟩
    all_goals
      go_enter Try.func43, Try.ntmps43
      go_wp2
      go_ret
      exact ⟨ret_bool (by simp <;> omega), rfl⟩
  rcases seOne_ways a p with ⟨h1, hE⟩ | ⟨h1, h2, h3, hE⟩ | ⟨h1, h2, h3, h4, hE⟩ | ⟨h1, h2, h3, h4, hE⟩
  · rw [hE]
    have H1 : Hid (∀ w, Calls Try.prog 42 #[.string a] w fun e w' => e = .returned (.bool false) ∧ Below w.heap.size w w') := HN.out _ h1
    clear h1 HN hE
    go_enter Try.func36, Try.ntmps36
    go_wp2_with fail
    (first | go_at_call 42 | skip)
    refine (H1.out _).mono ?_
    rintro e w1 ⟨rfl, hb1⟩
    have HB1 : Hid (Below w.heap.size w w1) := chain (below_alloc _ _) hb1
    clear hb1 H1
    go_wp2
    go_ret
    exact ⟨rfl, HB1.out⟩
  all_goals
    rw [hE]
    have H1 : Hid (∀ w, Calls Try.prog 42 #[.string a] w fun e w' => e = .returned (.bool true) ∧ Below w.heap.size w w') := HN.out _ h1
    clear h1 HN hE
    first | rw [h3] at HA | rw [h4] at HA
    go_enter Try.func36, Try.ntmps36
    go_wp2_with fail
    (first | go_at_call 42 | skip)
    refine (H1.out _).mono ?_
    rintro e w1 ⟨rfl, hb1⟩
    have c1 : w1.cell? ⟨w.heap.size, 1, none⟩ = some (.int .i64 p) := (hb1.cell (p := ⟨w.heap.size, 1, none⟩) (by simp)).trans (blkCell (heapNew _ _) 1 _ rfl)
    have HB1 : Hid (Below w.heap.size w w1) := chain (below_alloc _ _) hb1
    clear hb1 H1
    go_wp2_with fail
    (first | go_at_call 43 | skip)
    refine (HA.out _).mono ?_
    rintro e w2 ⟨rfl, rfl⟩
    go_wp2
    go_ret
    exact ⟨rfl, HB1.out⟩
set_option maxHeartbeats 2000000 in
theorem seNot_any (a : ByteArray) (p : Int) (ha : a.size ≤ 2000000) (w : World) :
    Calls Try.prog 35 #[.agg #[.string a, .int .i64 p]] w fun e w' => e = .returned (.bool (!seOne ⟨a, p⟩)) ∧ Below w.heap.size w w' := by
  have H1 : Hid (∀ W, Calls Try.prog 36 #[.agg #[.string a, .int .i64 p]] W fun e w' => e = .returned (.bool (seOne ⟨a, p⟩)) ∧ Below W.heap.size W w') := fun W => seRight_any a p ha W
  generalize seOne ⟨a, p⟩ = b at *
  go_enter Try.func35, Try.ntmps35
  go_wp2_with fail
  (first | go_at_call 36 | skip)
  refine (H1.out _).mono ?_
  rintro e w1 ⟨rfl, hb1⟩
  have HB1 : Hid (Below w.heap.size w w1) := chain (below_alloc _ _) hb1
  clear hb1 H1
  go_wp2
  go_ret
  exact ⟨rfl, HB1.out⟩
set_option maxHeartbeats 2000000 in
theorem seIndex_any (a : Option Addr) (cap : Nat) (rs : List RSe) (hl : rs.length ≤ 100000000) (hp : ∀ r ∈ rs, SeOK r) (w : World) (hr : ReadsSe w.heap.size w a rs) :
    Calls Try.prog 41 #[.slice a rs.length cap, .func (.func 35) #[] #[]] w fun e w' => (∃ x : Int, e = .returned (.int .i64 x) ∧ decide (0 ≤ x) = !rs.all seOne) ∧ Below w.heap.size w w' := by
  have HR : Hid (ReadsSe w.heap.size w a rs) := hr
  have HOK : Hid (∀ r ∈ rs, SeOK r) := hp
  clear hr hp
  go_enter Try.func41, Try.ntmps41
  go_wp2
  go_loopw [5, 8] (fun _ c wr => ∃ k : Nat, k ≤ rs.length ∧ c = .int .i64 (k : Int) ∧ (rs.take k).all seOne = true ∧ Below w.heap.size w wr) (fun _ c _ => rs.length - (intOf c).toNat)
  case atStart => exact ⟨0, Nat.zero_le _, rfl, rfl, Below.refl _ _⟩
  case round =>
    obtain ⟨k, hk, rfl, hf, hb⟩ := hrel
    have HF : Hid ((rs.take k).all seOne = true) := hf
    have HB : Hid (Below w.heap.size w wr) := hb
    clear hf hb
    by_cases hlt : k < rs.length
    · have hlt' : (k : Int) < (rs.length : Int) := by omega
      rcases HR.out with h | ⟨b0, o0, ha, hB0, ia⟩
      · rw [h] at hlt; simp at hlt
      obtain ⟨c0, c1⟩ := (ia.below HB.out hB0) k hlt
      have hW : SeOK (rs.getD k zSe) := getSe HOK.out hlt
      have HX : Hid (seOne (rs.getD k zSe) = false → rs.all seOne = false) := fun h => ses_fail hlt h
      have HN : Hid ((rs.take (k + 1)).all seOne = ((rs.take k).all seOne && seOne (rs.getD k zSe))) := ses_take seOne rs k hlt
      rw [ha]
      clear ia
      generalize rs.getD k zSe = q at *
      obtain ⟨qa, qp⟩ := q
      dsimp only at c0 c1
      have hm := seNot_any qa qp hW wr
      clear hW
      generalize seOne ⟨qa, qp⟩ = mb at *
      cases mb
      · go_wp2_with (go_at_call 35; refine hm.mono ?_; rintro e w2 ⟨rfl, hb2⟩)
        go_ret
        exact ⟨⟨(k : Int), rfl, by rw [HX.out trivial]; exact decide_eq_true (by omega)⟩, chain HB.out hb2⟩
      · go_wp2_with (go_at_call 35; refine hm.mono ?_; rintro e w2 ⟨rfl, hb2⟩)
        exact ⟨⟨k + 1, by omega, by go_num, by rw [HN.out, HF.out]; rfl, chain HB.out hb2⟩, by simp [intOf]; omega⟩
    · have hle : (rs.length : Int) ≤ (k : Int) := by omega
      have HE : Hid (rs.all seOne = true) := by have := HF.out; rwa [List.take_of_length_le (by omega)] at this
      go_wp2
      go_ret
      exact ⟨⟨-1, rfl, by rw [HE.out]; rfl⟩, HB.out⟩
theorem seContains_any (a : Option Addr) (cap : Nat) (rs : List RSe) (hl : rs.length ≤ 100000000) (hp : ∀ r ∈ rs, SeOK r) (w : World) (hr : ReadsSe w.heap.size w a rs) :
    Calls Try.prog 34 #[.slice a rs.length cap, .func (.func 35) #[] #[]] w fun e w' => e = .returned (.bool (!rs.all seOne)) ∧ Below w.heap.size w w' := by
  have hi := seIndex_any a cap rs hl hp w hr
  clear hr hp
  go_enter Try.func34, Try.ntmps34
  go_wp2_with (go_at_call 41; refine hi.mono ?_; rintro e w2 ⟨⟨x, rfl, hx⟩, hb2⟩; have HX : Hid (decide (0 ≤ x) = !rs.all seOne) := hx; clear hx)
  go_ret
  exact ⟨ret_bool HX.out, hb2⟩
theorem settledOK_any (a : Option Addr) (cap : Nat) (rs : List RSe) (hl : rs.length ≤ 100000000) (hp : ∀ r ∈ rs, SeOK r) (w : World) (hr : ReadsSe w.heap.size w a rs) :
    Calls Try.prog 20 #[.slice a rs.length cap] w fun e w' => e = .returned (.bool (seAll rs)) ∧ Below w.heap.size w w' := by
  have hi := seContains_any a cap rs hl hp w hr
  have HA : Hid (seAll rs = rs.all seOne) := rfl
  clear hr hp
  generalize rs.all seOne = b at *
  go_enter Try.func20, Try.ntmps20
  go_wp2_with (go_at_call 34; refine hi.mono ?_; rintro e w2 ⟨rfl, hb2⟩)
  go_ret
  exact ⟨ret_bool (by rw [HA.out] <;> simp), hb2⟩
set_option maxHeartbeats 4000000 in
theorem right11_any (a : Option Addr) (cap : Nat) (rs : List RSe) (hl : rs.length ≤ 100000000) (hp : ∀ r ∈ rs, SeOK r) (w : World) (hr : ReadsSe w.heap.size w a rs) :
    Calls Try.prog 23 #[.slice a rs.length cap] w fun e w' => e = .returned (.bool (seAll rs)) ∧ Below w.heap.size w w' := by
  have HR : Hid (ReadsSe w.heap.size w a rs) := hr
  have HOK : Hid (∀ r ∈ rs, SeOK r) := hp
  generalize hAe : seAll rs = bb
  have HAe : Hid (rs.all seOne = bb) := hAe
  clear hr hp hAe
  have HM : Hid (∀ (q : Int) W, Calls Try.prog 40 #[.int .i64 q] W fun e w' => e = .returned (.bool (inB q (-1000000000) 1000000000)) ∧ w' = W) := fun q W => specMoney_any q W
  go_enter Try.func23, Try.ntmps23
  go_wp2
  go_loop [3] (fun i => ∃ k : Nat, k ≤ rs.length ∧ i = .int .i64 (k : Int) ∧ (rs.take k).all seOne = true) (fun i => rs.length - (intOf i).toNat)
  case atStart => exact ⟨0, Nat.zero_le _, rfl, rfl⟩
  case round =>
    obtain ⟨k, hk, rfl, hf⟩ := hrel
    have HF : Hid ((rs.take k).all seOne = true) := hf
    clear hf
    by_cases hlt : k < rs.length
    · have hlt' : (k : Int) < (rs.length : Int) := by omega
      rcases HR.out with h | ⟨b0, o0, ha, hB0, ia⟩
      · rw [h] at hlt; simp at hlt
      obtain ⟨c0, c1⟩ := ia k hlt
      have hW : SeOK (rs.getD k zSe) := getSe HOK.out hlt
      have HX : Hid (seOne (rs.getD k zSe) = false → rs.all seOne = false) := fun h => ses_fail hlt h
      have HN : Hid ((rs.take (k + 1)).all seOne = ((rs.take k).all seOne && seOne (rs.getD k zSe))) := ses_take seOne rs k hlt
      subst ha
      clear ia
      generalize rs.getD k zSe = q at *
      obtain ⟨qa, qp⟩ := q
      dsimp only at c0 c1
      have HNm : Hid (∀ b, nameB qa = b → ∀ W, Calls Try.prog 39 #[.string qa] W fun e w' => e = .returned (.bool b) ∧ w' = W) := fun b h W => h ▸ specName_any qa (by have : qa.size ≤ 2000000 := hW; unfold maxLen; omega) W
      clear hW
      rcases seOne_ways qa qp with ⟨h1, hE⟩ | ⟨h1, h2, h3, hE⟩ | ⟨h1, h2, h3, h4, hE⟩ | ⟨h1, h2, h3, h4, hE⟩
      · have HE : Hid (rs.all seOne = false) := HX.out hE
        have H1 : Hid (∀ W, Calls Try.prog 39 #[.string qa] W fun e w' => e = .returned (.bool false) ∧ w' = W) := HNm.out _ h1
        clear HNm h1 hE HX HN
        go_wp2_with fail
        (first | go_at_call 39 | skip)
        refine (H1.out _).mono ?_
        rintro e w2 ⟨rfl, h⟩
        rw [h]
        clear h w2
        go_wp2
        go_ret
        exact ⟨ret_bool (by rw [← HAe.out, HE.out]), Below.refl _ _⟩
      · have HE : Hid (rs.all seOne = false) := HX.out hE
        have H1 : Hid (∀ W, Calls Try.prog 39 #[.string qa] W fun e w' => e = .returned (.bool true) ∧ w' = W) := HNm.out _ h1
        have HM2 := HM.out qp
        rw [h3] at HM2
        clear HNm h1 hE HX HN h3 h2
        go_wp2_with fail
        (first | go_at_call 39 | skip)
        refine (H1.out _).mono ?_
        rintro e w2 ⟨rfl, h⟩
        rw [h]
        clear h w2
        go_wp2_with fail
        (first | go_at_call 40 | skip)
        refine (HM2 _).mono ?_
        rintro e w2 ⟨rfl, h⟩
        rw [h]
        clear h w2
        go_wp2
        go_ret
        exact ⟨ret_bool (by rw [← HAe.out, HE.out]), Below.refl _ _⟩
      · have HE : Hid (rs.all seOne = false) := HX.out hE
        have H1 : Hid (∀ W, Calls Try.prog 39 #[.string qa] W fun e w' => e = .returned (.bool true) ∧ w' = W) := HNm.out _ h1
        have HM2 := HM.out qp
        rw [h4] at HM2
        clear HNm h1 hE HX HN h3 h2 h4
        go_wp2_with fail
        (first | go_at_call 39 | skip)
        refine (H1.out _).mono ?_
        rintro e w2 ⟨rfl, h⟩
        rw [h]
        clear h w2
        go_wp2_with fail
        (first | go_at_call 40 | skip)
        refine (HM2 _).mono ?_
        rintro e w2 ⟨rfl, h⟩
        rw [h]
        clear h w2
        go_wp2
        go_ret
        exact ⟨ret_bool (by rw [← HAe.out, HE.out]), Below.refl _ _⟩
      · have HE : Hid ((rs.take (k + 1)).all seOne = true) := by show _ = _; rw [HN.out, HF.out, hE]; rfl
        have H1 : Hid (∀ W, Calls Try.prog 39 #[.string qa] W fun e w' => e = .returned (.bool true) ∧ w' = W) := HNm.out _ h1
        have HM2 := HM.out qp
        rw [h4] at HM2
        clear HNm h1 hE HX HN h3 h2 h4
        go_wp2_with fail
        (first | go_at_call 39 | skip)
        refine (H1.out _).mono ?_
        rintro e w2 ⟨rfl, h⟩
        rw [h]
        clear h w2
        go_wp2_with fail
        (first | go_at_call 40 | skip)
        refine (HM2 _).mono ?_
        rintro e w2 ⟨rfl, h⟩
        rw [h]
        clear h w2
        go_wp2
        first
        | exact ⟨⟨k + 1, by omega, by go_num, HE.out⟩, by simp [intOf]; omega⟩
        | (go_round
           case rel => exact ⟨k + 1, by omega, by go_num, HE.out⟩
           case measure => simp [intOf]; omega)
    · have hle : (rs.length : Int) ≤ (k : Int) := by omega
      have HE : Hid (rs.all seOne = true) := by have := HF.out; rwa [List.take_of_length_le (by omega)] at this
      go_wp2
      go_ret
      exact ⟨ret_bool (by rw [← HAe.out, HE.out]), Below.refl _ _⟩
end Go.Proofs.Ytgjffmeafdpfhaa
