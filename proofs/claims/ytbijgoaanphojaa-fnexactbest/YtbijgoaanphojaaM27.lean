/-
  Texts of this claim laid together: BeH, BsA.
-/
import Derived.Test.YtbijgoaanphojaaM26
import Derived.Test.YtbijgoaanphojaaM20
/-
  The ways that are known: a way more.
-/
namespace Go.Proofs.Ytbijgoaanphojaa
open Go.ChangeShapes Go.WideShapes Go.ChangeAt Go.RowKit Go.Deep
set_option linter.unusedVariables false

theorem foldBits_test : ∀ (l : List Nat) (b x : Nat), (l.foldl (fun b x => b ||| 2 ^ x) b).testBit x = (b.testBit x || decide (x ∈ l))
  | [], b, x => by simp
  | y :: l, b, x => by
    rw [List.foldl_cons, foldBits_test l, Nat.testBit_or, Nat.testBit_two_pow, Bool.or_assoc]
    congr 1
    by_cases h : y = x
    · subst h; simp
    · have h' : ¬ x = y := fun e => h e.symm
      simp [h, h']
theorem bitsN_test (l : List Nat) (x : Nat) : (bitsN l).testBit x = decide (x ∈ l) := by
  unfold bitsN
  rw [foldBits_test, Nat.zero_testBit, Bool.false_or]
theorem sorted_ext : ∀ (a b : List Nat), a.Pairwise (· < ·) → b.Pairwise (· < ·) → (∀ x, x ∈ a ↔ x ∈ b) → a = b
  | [], [], _, _, _ => rfl
  | [], y :: b, _, _, h => absurd ((h y).2 List.mem_cons_self) (by simp)
  | x :: a, [], _, _, h => absurd ((h x).1 List.mem_cons_self) (by simp)
  | x :: a, y :: b, ha, hb, h => by
    obtain ⟨a1, a2⟩ := List.pairwise_cons.1 ha
    obtain ⟨b1, b2⟩ := List.pairwise_cons.1 hb
    have e : x = y := by
      rcases List.mem_cons.1 ((h x).1 List.mem_cons_self) with e | e
      · exact e
      · rcases List.mem_cons.1 ((h y).2 List.mem_cons_self) with e' | e'
        · exact e'.symm
        · have := b1 x e
          have := a1 y e'
          omega
    subst e
    rw [sorted_ext a b a2 b2 (fun z => ⟨fun hz => ?_, fun hz => ?_⟩)]
    · have := a1 z hz
      rcases List.mem_cons.1 ((h z).1 (List.mem_cons_of_mem _ hz)) with e | e
      · omega
      · exact e
    · have := b1 z hz
      rcases List.mem_cons.1 ((h z).2 (List.mem_cons_of_mem _ hz)) with e | e
      · omega
      · exact e
theorem bits_inj {n m : Nat} {a b : List Nat} (ha : Ris n a) (hb : Ris m b) (h : bitsN a = bitsN b) : a = b := sorted_ext a b ha.1 hb.1 (fun x => by
  have h1 := bitsN_test a x
  rw [h, bitsN_test b x] at h1
  simpa using h1.symm)
theorem lenS {H : Type} (l : List (Lit × DataW H)) : (l.foldr DataW.insert []).length = l.length := _root_.Go.length_sorted l
theorem own_exact {H : Type} {P : Program} {k : TypeId} {R : Value → Option (DataW H × List MemPlace)} {w : World} {b n m : Nat} {D : DataW H} (h : w.ownsMap P k R b n D) (hm : Maps.size D ≤ m) : w.ownsMap P k R b m D := by
  obtain ⟨es, clock, hb, F, hs, rfl⟩ := h
  refine ⟨es, clock, hb, F, ?_, rfl⟩
  simpa [Maps.size, lenS] using hm
theorem MapS.put_old {z : Value} {w : World} {b n : Nat} {f : Nat → Nat → Option Value} {t e : TypeId} (h : MapS z w b n f) (ht : Try.prog.underlying t = some (.map 107 e)) (hn : n < maxLen) {l s : Nat} (hl : WfU l) (hs : WfU s) (hf : (f l s).isSome = true) (v : Value) :
    ∃ w', (Instr.mapUpdate t (.map (some b)) (keyS l s) v).run Try.prog w = .ok () w' ∧ MapS z w' b n (fun l' s' => if l' = l ∧ s' = s then some v else f l' s') ∧ w.grownBy w' (some b) := by
  obtain ⟨D, h1, h2, h3, h4⟩ := h
  obtain ⟨w', hrun, hown, hg⟩ := h1.store stKeyed ht hn (keyS_mk hl hs) (show heldS v = some (.held v, []) from rfl)
  have hkl : WideAt.IsKeyLit (klS l s) := stKeyed.key (keyS_mk hl hs)
  have hne : ∀ l' s', WfU l' → WfU s' → ¬ (l' = l ∧ s' = s) → klS l' s' ≠ klS l s := fun l' s' a1 a2 h e => h (klS_inj a1 a2 hl hs e)
  have hsz : Maps.size (D.put (klS l s) (.held v)) ≤ n := by
    rw [Maps.size_put (h1.tidy stKeyed), h4 l s hl hs, if_pos hf]
    exact h1.size_le
  refine ⟨w', hrun, ⟨_, own_exact hown hsz, h2.put _ _, fun l' s' a1 a2 => ?_, fun l' s' a1 a2 => ?_⟩, hg.grown⟩
  · dsimp only
    by_cases e : l' = l ∧ s' = s
    · obtain ⟨rfl, rfl⟩ := e
      rw [if_pos ⟨rfl, rfl⟩]
      exact Maps.atKey_put_same h2 hkl _ _
    · rw [if_neg e, Maps.atKey_put_other (hne l' s' a1 a2 e)]
      exact h3 l' s' a1 a2
  · dsimp only
    by_cases e : l' = l ∧ s' = s
    · obtain ⟨rfl, rfl⟩ := e
      rw [Maps.has_put_same h2 hkl]; simp
    · rw [Maps.has_put_other (hne l' s' a1 a2 e), h4 l' s' a1 a2, if_neg e]
theorem grown_fr {w w' : World} {b : Nat} (h : w.grownBy w' (some b)) : Fr (fun q => q = b) w w' := (fr_grown h).mono (fun k e => (Option.some.inj e).symm)
/-- One way more that is known. -/
theorem Memo.put {us : List RUn} {ds : List CDl} {W : World} {kb : Nat} (h : Memo us ds W kb) (hus : us.length ≤ 8) {r : List Nat} (hr : Ris us.length r) {sp : Nat} (hsp : sp < 64) {v : Value} (hv : HoldsW W v (sr us ds r sp)) :
    ∃ w', (Instr.mapUpdate 101 (.map (some kb)) (keyS (bitsN r) sp) v).run Try.prog W = .ok () w' ∧ Memo us ds w' kb ∧ Fr (fun q => q = kb) W w' := by
  have ht := typ_map h.is
  obtain ⟨n, f, h1, h2, h3⟩ := h
  have hb : bitsN r < 256 := bitsN_lt (fun x hx => by have := hr.2 x hx; omega)
  have hwl : WfU (bitsN r) := wfU_of _ (by omega)
  have hws : WfU sp := wfU_of _ (by omega)
  have hle := cntF_le f
  have hlt : n < maxLen := by unfold maxLen; omega
  have hkeep : ∀ w', Fr (fun q => q = kb) W w' → ∀ l s v', (if l = bitsN r ∧ s = sp then some v else f l s) = some v' → ∀ left, Ris us.length left → bitsN left = l → HoldsW w' v' (sr us ds left s) := fun w' hf l s v' e left hrl hbl => by
    by_cases he : l = bitsN r ∧ s = sp
    · rw [if_pos he] at e
      rw [← Option.some.inj e, he.2, bits_inj hrl hr (hbl.trans he.1)]
      exact hv.fr ht hf
    · rw [if_neg he] at e
      exact (h3 l s v' e left hrl hbl).fr ht hf
  by_cases hs : (f (bitsN r) sp).isSome = true
  · obtain ⟨w', hrun, hm, hg⟩ := h1.put_old Try.underlying101 hlt hwl hws hs v
    refine ⟨w', hrun, ⟨n, _, hm, ?_, hkeep w' (grown_fr hg)⟩, grown_fr hg⟩
    refine Nat.le_trans h2 (Nat.le_of_eq ?_)
    unfold cntF
    refine congrArg List.length (List.filter_congr (fun c hc => ?_))
    dsimp only
    by_cases e : c % 256 = bitsN r ∧ c / 256 = sp
    · rw [if_pos e, e.1, e.2, hs]; rfl
    · rw [if_neg e]
  · obtain ⟨w', hrun, hm, hg⟩ := h1.put Try.underlying101 hlt hwl hws v
    have hc := cntF_put hb hsp (f := f) (by simpa using hs) v
    exact ⟨w', hrun, ⟨n + 1, _, hm, Nat.le_trans (Nat.succ_le_succ h2) (Nat.le_of_eq hc.symm), hkeep w' (grown_fr hg)⟩, grown_fr hg⟩
end Go.Proofs.Ytbijgoaanphojaa

/-
  The specification's l05Mask, spent.
-/
namespace Go.Proofs.Ytbijgoaanphojaa
open Go.ChangeShapes Go.WideShapes Go.ChangeAt Go.RowKit Go.Deep
set_option linter.unusedVariables false

theorem wrapsI (n : Int) (h₀ : 0 ≤ n) (h₁ : n < 2 ^ 63) : IntKind.i64.wrap n = n := wrap_id _ (by omega) (by omega)
theorem orI (a b : Nat) (ha : a < 65536) (hb : b < 65536) : bits .or .i64 (a : Int) (b : Int) = ((a ||| b : Nat) : Int) := (bits_nat .i64 63 (by decide) wrapsI a b (by omega) (by omega)).2
theorem andI (a b : Nat) (ha : a < 65536) (hb : b < 65536) : bits .and .i64 (a : Int) (b : Int) = ((a &&& b : Nat) : Int) := (bits_nat .i64 63 (by decide) wrapsI a b (by omega) (by omega)).1
theorem powI (x : Nat) (h : x < 8) : wrap64 ((2 : Int) ^ x) = ((2 ^ x : Nat) : Int) := by
  rcases (by omega : x = 0 ∨ x = 1 ∨ x = 2 ∨ x = 3 ∨ x = 4 ∨ x = 5 ∨ x = 6 ∨ x = 7) with rfl | rfl | rfl | rfl | rfl | rfl | rfl | rfl <;> first | decide | kernel_rfl
set_option maxHeartbeats 2000000 in
theorem mask_any (a : Option Addr) (cap : Nat) (left : List Nat) (hl : left.length ≤ 8) (hr : ∀ x ∈ left, x < 8) (w : World) (h : RI w a left) :
    Calls Try.prog 41 #[.slice a left.length cap] w fun e w' => e = .returned (.int .i64 (bitsN left : Int)) ∧ w' = w := by
  have HR : Hid (Reads w.heap.size w a (zN left)) := h.reads
  have HRi : Hid (∀ x ∈ left, x < 8) := hr
  clear h hr
  go_enter Try.func41, Try.ntmps41
  go_wp2
  go_loopw [3, 4] (fun b x wr => ∃ k : Nat, k ≤ left.length ∧ x = .int .i64 (k : Int) ∧ b = .int .i64 (bitsN (left.take k) : Int) ∧ wr = w) (fun _ x _ => left.length - (intOf x).toNat)
  case atStart => exact ⟨0, Nat.zero_le _, rfl, rfl, rfl⟩
  case round =>
    obtain ⟨k, hk, rfl, rfl, rfl⟩ := hrel
    by_cases hlt : k < left.length
    · have hlt' : (k : Int) < (left.length : Int) := by omega
      rcases HR.out with h | ⟨b0, o0, ha, hB0, ia⟩
      · have := congrArg List.length h
        rw [zN_len, List.length_nil] at this
        omega
      subst ha
      have q0 := ia k (by rw [zN_len]; exact hlt)
      rw [zN_get] at q0
      have hx : left.getD k 0 < 8 := HRi.out _ (by rw [show left.getD k 0 = left[k] by simp [List.getD_eq_getElem?_getD, hlt]]; exact List.getElem_mem _)
      have HN : Hid (bitsN (left.take (k + 1)) = bitsN (left.take k) ||| 2 ^ (left.getD k 0)) := bits_next left k hlt
      have hbl : bitsN (left.take k) < 256 := bitsN_lt (fun x hx => HRi.out x (List.mem_of_mem_take hx))
      clear ia
      generalize left.getD k 0 = x at *
      generalize bitsN (left.take k) = b at *
      have HPw : Hid (bits .or .i64 (b : Int) (wrap64 ((2 : Int) ^ x)) = ((b ||| 2 ^ x : Nat) : Int)) := by
        have := pow_lt x hx
        show _ = _
        rw [powI x hx, orI b (2 ^ x) (by omega) (by omega)]
      go_wp2
      exact ⟨⟨k + 1, by omega, by go_num, by rw [HPw.out, HN.out], trivial⟩, by simp [intOf]; omega⟩
    · obtain rfl : k = left.length := by omega
      rw [List.take_length]
      go_wp2
      go_ret
      exact ⟨rfl, rfl⟩
/-- The specification's search in memory: units, deals, the table. -/
def SvIs (W : World) (sb : Nat) (ua : Option Addr) (nu uc : Nat) (da : Option Addr) (nd dc : Nat) (mb : Nat) : Prop := W.heap[sb]? = some (.cells #[.slice ua nu uc, .slice da nd dc, .slice (some ⟨mb, 0, none⟩) 16384 16384] 74 (0, 0))
set_option maxHeartbeats 2000000 in
theorem spent_any (sb : Nat) (ua : Option Addr) (nu uc : Nat) (da : Option Addr) (dc mb : Nat) (ds : List CDl) (hd : ds.length ≤ 6) (sp k : Nat) (hsp : sp < 64) (hk : k < ds.length) (w : World) (hS : SvIs w sb ua nu uc da ds.length dc mb) (hr : ReadsDl w.heap.size w da ds) :
    Calls Try.prog 42 #[.pointer (some ⟨sb, 0, none⟩), .int .i64 (sp : Int), .int .i64 (k : Int)] w fun e w' => e = .returned (.int .i64 (spD (ds.getD k zDl) sp k : Int)) ∧ w' = w := by
  rcases hr with h | ⟨b, o, rfl, hB, hi⟩
  · rw [h] at hk; simp at hk
  obtain ⟨h', cp, k0, k1, k2⟩ := hi k hk
  have x1 : w.cell? ⟨sb, 1, none⟩ = some (.slice (some ⟨b, o, none⟩) ds.length dc) := blkCell hS 1 _ rfl
  have x5 := k0.2.2.2.2.2
  have hlt' : (k : Int) < (ds.length : Int) := by omega
  have HPw : Hid (bits .or .i64 (sp : Int) (wrap64 ((2 : Int) ^ k)) = ((sp ||| 2 ^ k : Nat) : Int)) := by
    have := pow_lt k (by omega)
    show _ = _
    rw [powI k (by omega), orI sp (2 ^ k) (by omega) (by omega)]
  have HD : Hid (spD (ds.getD k zDl) sp k = if (ds.getD k zDl).on = true then sp ||| 2 ^ k else sp) := rfl
  rw [HD.out]
  clear hi k0 k1 k2 HD hS
  generalize (ds.getD k zDl).on = on at *
  cases on
  · go_enter Try.func42, Try.ntmps42
    go_wp2
    go_ret
    exact ⟨rfl, rfl⟩
  · go_enter Try.func42, Try.ntmps42
    go_wp2
    go_ret
    exact ⟨congrArg (fun z => Ending.returned (Value.int .i64 z)) HPw.out, rfl⟩
end Go.Proofs.Ytbijgoaanphojaa
