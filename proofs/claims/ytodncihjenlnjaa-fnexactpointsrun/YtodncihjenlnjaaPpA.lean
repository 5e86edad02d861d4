/-
  Points as mathematics: lots, what is taken first, what is in time; the program's pointsIn, endsFirst, inTime, daysAhead.
-/
import Derived.Test.YtodncihjenlnjaaRowG
import Derived.Test.YtodncihjenlnjaaLoA
namespace Go.Proofs.Ytodncihjenlnjaa
open Go.ChangeShapes Go.WideShapes Go.ChangeAt Go.RowKit Go.Deep
set_option linter.unusedVariables false

def sumP (L : List RLo) : Int := (L.map RLo.nu).sum
theorem sumP_append (a b : List RLo) : sumP (a ++ b) = sumP a + sumP b := by unfold sumP; rw [List.map_append, List.sum_append]
theorem sumP_next (L : List RLo) (k : Nat) (h : k < L.length) : sumP (L.take (k + 1)) = sumP (L.take k) + (L.getD k zLo).nu := by
  rw [List.take_succ_eq_append_getElem h, sumP_append]
  have e : L.getD k zLo = L[k] := by simp [List.getD_eq_getElem?_getD, h]
  rw [e]; simp [sumP]
/-- A right lot. -/
def LoN (r : RLo) : Prop := 1 ≤ r.nu ∧ r.nu ≤ 1000000
theorem sumP_bound {L : List RLo} (h : ∀ r ∈ L, LoN r) : (L.length : Int) ≤ sumP L ∧ sumP L ≤ 1000000 * (L.length : Int) := by
  induction L with
  | nil => simp [sumP]
  | cons r L ih =>
    have h1 := ih (fun x hx => h x (List.mem_cons_of_mem _ hx))
    have h2 := h r List.mem_cons_self
    unfold LoN at h2
    have e : sumP (r :: L) = r.nu + sumP L := by simp [sumP]
    rw [e]; simp; omega
theorem sumP_take {L : List RLo} (h : ∀ r ∈ L, LoN r) (k : Nat) (hk : k ≤ L.length) : 0 ≤ sumP (L.take k) ∧ sumP (L.take k) ≤ 1000000 * (k : Int) := by
  have := sumP_bound (L := L.take k) (fun r hr => h r (List.mem_of_mem_take hr))
  rw [List.length_take, Nat.min_eq_left hk] at this
  omega
/-- The cells of lots. -/
def loC (r : RLo) : List Value := [.int .i64 r.nu, .int .i64 r.un]
def loCells (L : List RLo) : List Value := L.flatMap loC
theorem loCells_append (a b : List RLo) : loCells (a ++ b) = loCells a ++ loCells b := by simp [loCells]
theorem loCells_len : ∀ L : List RLo, (loCells L).length = L.length * 2
  | [] => rfl
  | r :: L => by
    show (loC r ++ loCells L).length = _
    rw [List.length_append, loCells_len L]; simp [loC]; omega
theorem loCells_at : ∀ (L : List RLo) (i : Nat), i < L.length → (loCells L)[i * 2]? = some (.int .i64 (L.getD i zLo).nu) ∧ (loCells L)[i * 2 + 1]? = some (.int .i64 (L.getD i zLo).un)
  | r :: L, 0, h => ⟨rfl, rfl⟩
  | r :: L, i + 1, h => by
    have := loCells_at L i (by simpa using h)
    rw [show (i + 1) * 2 = i * 2 + 1 + 1 by omega]
    exact this
theorem lo_reads {B : Nat} {W : World} {a : Option Addr} {cp : Nat} {L : List RLo} (h : W.ownsRow B 67 2 (.slice a L.length cp) L.length (loCells L)) : ReadsLo W.heap.size W a L := by
  by_cases h0 : L.length = 0
  · exact .inl (List.eq_nil_of_length_eq_zero h0)
  · obtain ⟨g, c, hq⟩ := row_some h (by omega)
    simp only [Value.slice.injEq, true_and] at hq
    obtain ⟨rfl, rfl⟩ := hq
    refine .inr ⟨g, 0, rfl, (row_lt h g rfl).2, fun i hi => ?_⟩
    obtain ⟨q0, q1⟩ := loCells_at L i hi
    refine ⟨?_, ?_⟩
    · rw [h.cellAt (0 + i * 2) (by omega), show 0 + i * 2 = i * 2 by omega, q0]
    · rw [h.cellAt (0 + i * 2 + 1) (by omega), show 0 + i * 2 + 1 = i * 2 + 1 by omega, q1]
theorem loInfo : (Try.prog.info? 67).map (fun i => (i.zero, i.size, i.bytes)) = some (some (.agg #[.int .i64 0, .int .i64 0]), 2, 16) := by kernel_rfl
theorem getLo' {p : RLo → Prop} {L : List RLo} (h : ∀ r ∈ L, p r) {k : Nat} (hk : k < L.length) : p (L.getD k zLo) := by
  have e : L.getD k zLo = L[k] := by simp [List.getD_eq_getElem?_getD, hk]
  rw [e]; exact h _ (List.getElem_mem hk)

set_option maxHeartbeats 2000000 in
theorem pointsIn_any (a : Option Addr) (cap : Nat) (L : List RLo) (hl : L.length ≤ 100000000) (hN : ∀ r ∈ L, LoN r) (w : World) (hr : ReadsLo w.heap.size w a L) :
    Calls Try.prog 20 #[.slice a L.length cap] w fun e w' => e = .returned (.int .i64 (sumP L)) ∧ Below w.heap.size w w' := by
  have HR : Hid (ReadsLo w.heap.size w a L) := hr
  have HB : Hid (∀ k, k ≤ L.length → 0 ≤ sumP (L.take k) ∧ sumP (L.take k) ≤ 1000000 * (k : Int)) := fun k hk => sumP_take hN k hk
  have HN : Hid (∀ r ∈ L, LoN r) := hN
  clear hr hN
  go_enter Try.func20, Try.ntmps20
  go_wp2
  go_loopw [3, 5, 8] (fun n _ x wr => ∃ (k : Nat) (z : Int), k ≤ L.length ∧ x = .int .i64 (k : Int) ∧ n = .int .i64 z ∧ z = sumP (L.take k) ∧ Below w.heap.size w wr) (fun _ _ x _ => L.length - (intOf x).toNat)
  case atStart => exact ⟨0, 0, Nat.zero_le _, rfl, rfl, rfl, Below.refl _ _⟩
  case round =>
    obtain ⟨k, z, hk, rfl, rfl, hz, hb⟩ := hrel
    have HBl : Hid (Below w.heap.size w wr) := hb
    clear hb
    by_cases hlt : k < L.length
    · have hlt' : (k : Int) < (L.length : Int) := by omega
      have hzb := HB.out k hk
      rw [← hz] at hzb
      rcases HR.out with h | ⟨b0, o0, ha, hB0, ia⟩
      · rw [h] at hlt; simp at hlt
      subst ha
      obtain ⟨q0, q1⟩ := (ia.below HBl.out hB0) k hlt
      have HS : Hid (sumP (L.take (k + 1)) = z + (L.getD k zLo).nu) := by rw [hz]; exact sumP_next L k hlt
      have hn := getLo' HN.out hlt
      clear ia hz
      generalize L.getD k zLo = r at *
      obtain ⟨rn, ru⟩ := r
      unfold LoN at hn
      dsimp only at q0 q1 hn HS
      go_wp2
      exact ⟨⟨k + 1, _, by omega, by go_num, rfl, by rw [HS.out], chain HBl.out (below_alloc _ _)⟩, by simp [intOf]; omega⟩
    · obtain rfl : k = L.length := by omega
      have e : sumP (L.take L.length) = sumP L := by rw [List.take_length]
      go_wp2
      go_ret
      exact ⟨ret_int (by rw [hz, e]), HBl.out⟩
/-- Of the first k lots the one that ends first, the first of several. -/
def feN (L : List RLo) : Nat → Nat
  | 0 => 0
  | k + 1 => if (L.getD k zLo).un < (L.getD (feN L k) zLo).un then k else feN L k
theorem feN_lt (L : List RLo) : ∀ k, 0 < k → feN L k < k
  | 1, _ => by rw [feN]; split <;> simp [feN]
  | k + 2, _ => by
    have := feN_lt L (k + 1) (by omega)
    rw [feN]; split <;> omega
set_option maxHeartbeats 2000000 in
theorem endsFirst_any (a : Option Addr) (cap : Nat) (L : List RLo) (hl : L.length ≤ 100000000) (w : World) (hr : ReadsLo w.heap.size w a L) :
    Calls Try.prog 40 #[.slice a L.length cap] w fun e w' => e = .returned (.int .i64 ((feN L L.length : Nat) : Int)) ∧ Below w.heap.size w w' := by
  have HR : Hid (ReadsLo w.heap.size w a L) := hr
  clear hr
  go_enter Try.func40, Try.ntmps40
  go_wp2
  go_loopw [3, 4, 5, 8] (fun n _ _ x wr => ∃ (k m : Nat), k ≤ L.length ∧ x = .int .i64 (k : Int) ∧ n = .int .i64 (m : Int) ∧ m = feN L k ∧ Below w.heap.size w wr) (fun _ _ _ x _ => L.length - (intOf x).toNat)
  case atStart => exact ⟨0, 0, Nat.zero_le _, rfl, rfl, rfl, Below.refl _ _⟩
  case round =>
    obtain ⟨k, m, hk, rfl, rfl, hm, hb⟩ := hrel
    have HBl : Hid (Below w.heap.size w wr) := hb
    clear hb
    by_cases hlt : k < L.length
    · have hlt' : (k : Int) < (L.length : Int) := by omega
      have hml : m < L.length := by
        rcases Nat.eq_zero_or_pos k with h | h
        · rw [hm, h]; simp [feN]; omega
        · have := feN_lt L k h; omega
      have hml' : (m : Int) < (L.length : Int) := by omega
      rcases HR.out with h | ⟨b0, o0, ha, hB0, ia⟩
      · rw [h] at hlt; simp at hlt
      subst ha
      obtain ⟨q0, q1⟩ := (ia.below HBl.out hB0) k hlt
      have HP : Hid (∀ W, Below wr.heap.size wr W → W.cell? ⟨b0, o0 + m * 2 + 1, none⟩ = some (.int .i64 (L.getD m zLo).un)) := fun W hW => ((ia.below (chain HBl.out hW) hB0) m hml).2
      have HF : Hid (feN L (k + 1) = if (L.getD k zLo).un < (L.getD m zLo).un then k else m) := by rw [hm]; rfl
      clear ia
      generalize L.getD k zLo = r at *
      generalize L.getD m zLo = s at *
      obtain ⟨rn, ru⟩ := r
      obtain ⟨sn, su⟩ := s
      dsimp only at q0 q1 HP HF
      clear hm
      have p1 := HP.out _ (below_alloc wr (Obj.cells #[.int .i64 rn, .int .i64 ru] 67))
      have HB2 : Hid (Below w.heap.size w (wr.alloc (Obj.cells #[.int .i64 rn, .int .i64 ru] 67))) := chain HBl.out (below_alloc _ _)
      have hnw := heapNew wr (Obj.cells #[.int .i64 rn, .int .i64 ru] 67)
      have n1 := blkCell hnw 1 _ rfl
      clear hnw
      go_wp2
      generalize wr.alloc (Obj.cells #[.int .i64 rn, .int .i64 ru] 67) = W1 at *
      by_cases hc : ru < su
      · go_quiet (fail)
        go_wp2
        refine ⟨⟨k + 1, k, by omega, by go_num, rfl, ?_, below_drewN HB2.out _⟩, by simp [intOf]; omega⟩
        rw [HF.out, if_pos hc]
      · go_quiet (fail)
        go_wp2
        refine ⟨⟨k + 1, m, by omega, by go_num, rfl, ?_, below_drewN HB2.out _⟩, by simp [intOf]; omega⟩
        rw [HF.out, if_neg hc]
    · obtain rfl : k = L.length := by omega
      go_wp2
      go_ret
      exact ⟨ret_int (by rw [hm]), HBl.out⟩
/-- The lots whose time is not over. -/
def keptL (d : Int) (L : List RLo) : List RLo := L.filter fun r => decide (d ≤ r.un)
theorem keptL_next (d : Int) (L : List RLo) (k : Nat) (h : k < L.length) : keptL d (L.take (k + 1)) = if d ≤ (L.getD k zLo).un then keptL d (L.take k) ++ [L.getD k zLo] else keptL d (L.take k) := by
  have e : L.getD k zLo = L[k] := by simp [List.getD_eq_getElem?_getD, h]
  unfold keptL
  rw [List.take_succ_eq_append_getElem h, List.filter_append, e]
  by_cases hc : d ≤ L[k].un
  · rw [if_pos hc]; simp [hc]
  · rw [if_neg hc]; simp [hc]
theorem keptL_len (d : Int) (L : List RLo) : (keptL d L).length ≤ L.length := List.length_filter_le _ _
theorem keptL_N {d : Int} {L : List RLo} (h : ∀ r ∈ L, LoN r) : ∀ r ∈ keptL d L, LoN r := fun r hr => h r (List.mem_filter.1 hr).1
/-- A row of lots of its own, from block B on, that nothing old is touched by. -/
def LoRow (w : World) (B : Nat) (v : Value) (L : List RLo) (wr : World) : Prop := wr.ownsRow B 67 2 v L.length (loCells L) ∧ B ≤ wr.heap.size ∧ Below B w wr
theorem LoRow.alloc {w : World} {B : Nat} {v : Value} {L : List RLo} {wr : World} (h : LoRow w B v L wr) (o : Obj) : LoRow w B v L (wr.alloc o) :=
  ⟨h.1.alloc _, by have := h.2.1; simp; omega, h.2.2.alloc h.2.1 _⟩
theorem LoRow.later {w : World} {B : Nat} {v : Value} {L : List RLo} {wr w' : World} (h : LoRow w B v L wr) (hb : Below wr.heap.size wr w') : LoRow w B v L w' :=
  ⟨row_of h.1 (fun q hq => hb.block q (row_lt h.1 q hq).2), Nat.le_trans h.2.1 hb.size, h.2.2.trans (hb.mono h.2.1)⟩
theorem LoRow.push {w : World} {B : Nat} {v : Value} {L : List RLo} {wr w' : World} {g cp : Nat} {r : RLo} (h : LoRow w B v L wr)
    (ho : w'.ownsRow B 67 2 (.slice (some ⟨g, 0, none⟩) (L.length + 1) cp) (L.length + 1) (loCells L ++ [.int .i64 r.nu, .int .i64 r.un])) (hg : wr.grownBy w' v.ownBlock) : LoRow w B (.slice (some ⟨g, 0, none⟩) (L.length + 1) cp) (L ++ [r]) w' := by
  refine ⟨?_, Nat.le_trans h.2.1 hg.size, h.2.2.grown hg h.2.1 (fun q hq => (row_lt h.1 q hq).1)⟩
  rw [List.length_append, loCells_append]; exact ho
set_option maxHeartbeats 4000000 in
theorem inTime_any (a : Option Addr) (cap : Nat) (L : List RLo) (hl : L.length ≤ 100000000) (hN : ∀ r ∈ L, LoN r) (d : Int) (w : World) (hr : ReadsLo w.heap.size w a L) :
    Calls Try.prog 39 #[.slice a L.length cap, .int .i64 d] w fun e w' => ∃ ka kc, e = .returned (.tuple #[.slice ka (keptL d L).length kc, .int .i64 (sumP L - sumP (keptL d L))]) ∧ LoRow w w.heap.size (.slice ka (keptL d L).length kc) (keptL d L) w' ∧ (keptL d L = [] → ka = none ∧ kc = 0) := by
  have HR : Hid (ReadsLo w.heap.size w a L) := hr
  have HN : Hid (∀ r ∈ L, LoN r) := hN
  have hs1 := sumP_bound hN
  have hs2 := sumP_bound (keptL_N (d := d) hN)
  have hkl := keptL_len d L
  have HPt : Hid (∀ W, Below w.heap.size w W → Calls Try.prog 20 #[.slice a L.length cap] W fun e w' => e = .returned (.int .i64 (sumP L)) ∧ Below W.heap.size W w') := fun W hW => pointsIn_any a cap L hl hN W ((hr.below hW).mono hW.size)
  have HPk : Hid (∀ W ka kc, ReadsLo W.heap.size W ka (keptL d L) → Calls Try.prog 20 #[.slice ka (keptL d L).length kc] W fun e w' => e = .returned (.int .i64 (sumP (keptL d L))) ∧ Below W.heap.size W w') := fun W ka kc hW => pointsIn_any ka kc _ (by omega) (keptL_N hN) W hW
  obtain ⟨i0, hi, hzz⟩ := Option.map_eq_some_iff.1 loInfo
  simp only [Prod.mk.injEq] at hzz
  obtain ⟨hi0, hi1, hi2⟩ := hzz
  clear hr hN
  go_enter Try.func39, Try.ntmps39
  go_wp2
  go_loopw [6, 8, 11] (fun v _ x wr => ∃ (k : Nat) (ka : Option Addr) (kc : Nat), k ≤ L.length ∧ x = .int .i64 (k : Int) ∧ v = .slice ka (keptL d (L.take k)).length kc ∧ LoRow w w.heap.size v (keptL d (L.take k)) wr ∧ (keptL d (L.take k) = [] → ka = none ∧ kc = 0)) (fun _ _ x _ => L.length - (intOf x).toNat)
  case atStart => exact ⟨0, none, 0, Nat.zero_le _, rfl, rfl, ⟨World.ownsRow_nil _ _ _ _, Nat.le_refl _, Below.refl _ _⟩, fun _ => ⟨rfl, rfl⟩⟩
  case round =>
    obtain ⟨k, ka, kc, hk, rfl, rfl, hrow, hem⟩ := hrel
    have HEm : Hid (keptL d (L.take k) = [] → ka = none ∧ kc = 0) := hem
    have HRw : Hid (LoRow w w.heap.size (.slice ka (keptL d (L.take k)).length kc) (keptL d (L.take k)) wr) := hrow
    clear hrow hem
    by_cases hlt : k < L.length
    · have hlt' : (k : Int) < (L.length : Int) := by omega
      rcases HR.out with h | ⟨b0, o0, ha, hB0, ia⟩
      · rw [h] at hlt; simp at hlt
      subst ha
      obtain ⟨q0, q1⟩ := (ia.below HRw.out.2.2 hB0) k hlt
      have HKn := keptL_next d L k hlt
      have hkk := keptL_len d (L.take k)
      rw [List.length_take] at hkk
      clear ia
      generalize L.getD k zLo = r at *
      obtain ⟨rn, ru⟩ := r
      dsimp only at q0 q1 HKn
      by_cases hc : d ≤ ru
      · rw [if_pos hc] at HKn
        have HK : Hid (keptL d (L.take (k + 1)) = keptL d (L.take k) ++ [⟨rn, ru⟩]) := HKn
        clear HKn
        have hkk2 : (keptL d (L.take k)).length ≤ k := by omega
        generalize keptL d (L.take k) = K at *
        have HA1 : Hid (LoRow w w.heap.size (.slice ka K.length kc) K ((wr.alloc (Obj.cells #[.int .i64 rn, .int .i64 ru] 67)).alloc (Obj.cells #[.int .i64 rn, .int .i64 ru] 67))) := (HRw.out.alloc _).alloc _
        have hnw : ((wr.alloc (Obj.cells #[.int .i64 rn, .int .i64 ru] 67)).alloc (Obj.cells #[.int .i64 rn, .int .i64 ru] 67)).heap[wr.heap.size + 1]? = some (.cells #[.int .i64 rn, .int .i64 ru] 67 (0, 0)) := by
          have := heapNew (wr.alloc (Obj.cells #[.int .i64 rn, .int .i64 ru] 67)) (Obj.cells #[.int .i64 rn, .int .i64 ru] 67)
          simpa using this
        have HNw : Hid _ := hnw
        clear hnw
        go_wp2_with (at_builtin; refine wpList_append_lies _ rfl _ _ 25 rfl w.heap.size 67 i0 (.agg #[.int .i64 0, .int .i64 0]) 2 16 Try.underlying25 hi hi0 hi1 hi2 rfl (by decide) _ _ _ rfl HA1.out.1 ⟨wr.heap.size + 1, 0, none⟩ 1 1 [.int .i64 rn, .int .i64 ru] rfl rfl (World.news_of_block HNw.out) (by simp [Value.oneCell']) (by omega) (by unfold maxLen; omega) (by omega) HA1.out.2.1 _ rfl ?_; intro g1 cp1 w9 hown1 hgrow1 hat1 hglt1; have HF : Hid (LoRow w w.heap.size (.slice (some ⟨g1, 0, none⟩) (K.length + 1) cp1) (K ++ [⟨rn, ru⟩]) w9) := HA1.out.push (r := ⟨rn, ru⟩) hown1 hgrow1; clear hown1 hgrow1 hat1 hglt1)
        refine ⟨⟨k + 1, some ⟨g1, 0, none⟩, cp1, by omega, by go_num, by rw [HK.out]; simp, ?_⟩, by simp [intOf]; omega⟩
        rw [HK.out]; exact ⟨HF.out, fun h => absurd h (by simp)⟩
      · rw [if_neg hc] at HKn
        have HK : Hid (keptL d (L.take (k + 1)) = keptL d (L.take k)) := HKn
        clear HKn
        have hc' : ¬ d ≤ ru := hc
        go_wp2
        refine ⟨⟨k + 1, ka, kc, by omega, by go_num, by rw [HK.out], ?_⟩, by simp [intOf]; omega⟩
        rw [HK.out]; exact ⟨HRw.out.alloc _, HEm.out⟩
    · obtain rfl : k = L.length := by omega
      rw [List.take_length] at HRw HEm ⊢
      have hw1 : IntKind.i64.wrap (sumP L - sumP (keptL d L)) = sumP L - sumP (keptL d L) := wrap_id _ (by omega) (by omega)
      generalize hKe : keptL d L = K at *
      generalize hs1e : sumP L = s1 at *
      generalize hs2e : sumP K = s2 at *
      have HKe : Hid (keptL d L = K ∧ sumP L = s1 ∧ sumP K = s2) := ⟨hKe, hs1e, hs2e⟩
      clear hKe hs1e hs2e
      go_wp2_with fail
      (first | go_at_call 20 | skip)
      refine (HPt.out wr HRw.out.2.2).mono ?_
      rintro e w3 ⟨rfl, hb3⟩
      have HR3 : Hid (LoRow w w.heap.size (.slice ka K.length kc) K w3) := HRw.out.later hb3
      clear hb3 HRw HPt
      go_wp2_with fail
      (first | go_at_call 20 | skip)
      refine (HPk.out w3 ka kc (lo_reads HR3.out.1)).mono ?_
      rintro e w4 ⟨rfl, hb4⟩
      have HR4 : Hid (LoRow w w.heap.size (.slice ka K.length kc) K w4) := HR3.out.later hb4
      clear hb4 HR3 HPk
      go_wp2
      go_ret2
      obtain ⟨rfl, rfl, rfl⟩ := HKe.out
      exact ⟨ka, kc, rfl, HR4.out, HEm.out⟩
end Go.Proofs.Ytodncihjenlnjaa
