/-
  Texts of this claim laid together: BeB, BeC.
-/
import Derived.Test.YtkfmifbffgbiiaaM36
import Derived.Laws.BitsLemmas
import Derived.Laws.Bits64
/-
  bitsOf, couponBit, numbersBelow of the program.
-/
namespace Go.Proofs.Ytkfmifbffgbiiaa
open Go.ChangeShapes Go.WideShapes Go.ChangeAt Go.RowKit Go.Deep
set_option linter.unusedVariables false

theorem bits_next (l : List Nat) (k : Nat) (h : k < l.length) : bitsN (l.take (k + 1)) = bitsN (l.take k) ||| 2 ^ (l.getD k 0) := by
  unfold bitsN
  rw [List.take_succ_eq_append_getElem h, List.foldl_append]
  simp [List.getD_eq_getElem?_getD, h]
theorem wrapsU (n : Int) (h₀ : 0 ≤ n) (h₁ : n < 2 ^ 63) : IntKind.u64.wrap n = n := by rw [IntKind.wrap_u64]; omega
theorem orU (a b : Nat) (ha : a < 65536) (hb : b < 65536) : bits .or .u64 (a : Int) (b : Int) = ((a ||| b : Nat) : Int) := (bits_nat .u64 63 (by decide) wrapsU a b (by omega) (by omega)).2
theorem andU (a b : Nat) (ha : a < 65536) (hb : b < 65536) : bits .and .u64 (a : Int) (b : Int) = ((a &&& b : Nat) : Int) := (bits_nat .u64 63 (by decide) wrapsU a b (by omega) (by omega)).1
theorem powU (x : Nat) (h : x < 8) : IntKind.u64.wrap ((2 : Int) ^ x) = ((2 ^ x : Nat) : Int) := by
  rcases (by omega : x = 0 ∨ x = 1 ∨ x = 2 ∨ x = 3 ∨ x = 4 ∨ x = 5 ∨ x = 6 ∨ x = 7) with rfl | rfl | rfl | rfl | rfl | rfl | rfl | rfl <;> rfl
theorem pow_lt (x : Nat) (h : x < 8) : 2 ^ x < 256 := by
  rcases (by omega : x = 0 ∨ x = 1 ∨ x = 2 ∨ x = 3 ∨ x = 4 ∨ x = 5 ∨ x = 6 ∨ x = 7) with rfl | rfl | rfl | rfl | rfl | rfl | rfl | rfl <;> decide
theorem foldBits_lt : ∀ (l : List Nat) (b : Nat), b < 256 → (∀ x ∈ l, x < 8) → l.foldl (fun b x => b ||| 2 ^ x) b < 256
  | [], b, h, _ => h
  | x :: l, b, h, hx => by
    rw [List.foldl_cons]
    exact foldBits_lt l _ (Nat.or_lt_two_pow (n := 8) h (pow_lt x (hx x List.mem_cons_self))) (fun y hy => hx y (List.mem_cons_of_mem _ hy))
theorem bitsN_lt {l : List Nat} (h : ∀ x ∈ l, x < 8) : bitsN l < 256 := foldBits_lt l 0 (by decide) h
set_option maxHeartbeats 2000000 in
theorem bitsOf_any (a : Option Addr) (cap : Nat) (left : List Nat) (hr : Ris 8 left) (w : World) (h : RI w a left) :
    Calls Try.prog 37 #[.slice a left.length cap] w fun e w' => e = .returned (.int .u64 (bitsN left : Int)) ∧ w' = w := by
  have hl : left.length ≤ 8 := by have := Ris.len (a := 0) hr.1 (fun x hx => ⟨Nat.zero_le _, hr.2 x hx⟩); omega
  have HR : Hid (Reads w.heap.size w a (zN left)) := h.reads
  have HRi : Hid (Ris 8 left) := hr
  clear h hr
  go_enter Try.func37, Try.ntmps37
  go_wp2
  go_loopw [3, 5, 8] (fun b _ x wr => ∃ k : Nat, k ≤ left.length ∧ x = .int .i64 (k : Int) ∧ b = .int .u64 (bitsN (left.take k) : Int) ∧ wr = w) (fun _ _ x _ => left.length - (intOf x).toNat)
  case atStart => exact ⟨0, Nat.zero_le _, rfl, rfl, rfl⟩
  case round =>
    obtain ⟨k, hk, rfl, rfl, rfl⟩ := hrel
    by_cases hlt : k < left.length
    · have hlt' : (k : Int) < (left.length : Int) := by omega
      rcases HR.out with h | ⟨b0, o0, ha, hB0, ia⟩
      · have := congrArg List.length h
        rw [zN_len, List.length_nil] at this
        omega
      subst ha
      have q0 := ia k (by rw [zN_len]; exact hlt)
      rw [zN_get] at q0
      have hx : left.getD k 0 < 8 := HRi.out.2 _ (by rw [show left.getD k 0 = left[k] by simp [List.getD_eq_getElem?_getD, hlt]]; exact List.getElem_mem _)
      have HN : Hid (bitsN (left.take (k + 1)) = bitsN (left.take k) ||| 2 ^ (left.getD k 0)) := bits_next left k hlt
      have hbl : bitsN (left.take k) < 256 := bitsN_lt (fun x hx => HRi.out.2 x (List.mem_of_mem_take hx))
      clear ia
      generalize left.getD k 0 = x at *
      generalize bitsN (left.take k) = b at *
      have HPw : Hid (bits .or .u64 (b : Int) (IntKind.u64.wrap ((2 : Int) ^ x)) = ((b ||| 2 ^ x : Nat) : Int)) := by
        have := pow_lt x hx
        show _ = _
        rw [powU x hx, orU b (2 ^ x) (by omega) (by omega)]
      go_wp2
      exact ⟨⟨k + 1, by omega, by go_num, by rw [HPw.out, HN.out], trivial⟩, by simp [intOf]; omega⟩
    · obtain rfl : k = left.length := by omega
      rw [List.take_length]
      go_wp2
      go_ret
      exact ⟨rfl, rfl⟩
theorem couponBit_any (k : Nat) (hk : k < 6) (c : CDl) (h : Option Addr) (cp : Nat) (w : World) :
    Calls Try.prog 38 #[.int .i64 (k : Int), .agg #[.string c.nm, .int .i64 c.kd, .slice h c.arts.length cp, .int .i64 c.nd, .int .i64 c.vl, .bool c.on]] w fun e w' => e = .returned (.int .u64 ((if c.on = true then 2 ^ k else 0 : Nat) : Int)) ∧ Below w.heap.size w w' := by
  have HB : Hid (∀ o, Below w.heap.size w (w.alloc o)) := fun o => below_alloc _ _
  cases hon : c.on
  · go_enter Try.func38, Try.ntmps38
    go_wp2
    go_ret
    exact ⟨rfl, HB.out _⟩
  · go_enter Try.func38, Try.ntmps38
    go_wp2
    go_ret
    exact ⟨by rw [powU k (by omega)]; simp, HB.out _⟩
end Go.Proofs.Ytkfmifbffgbiiaa

/-
  The closures of the search: whether a unit fits; what is handed on.
-/
namespace Go.Proofs.Ytkfmifbffgbiiaa
open Go.ChangeShapes Go.WideShapes Go.ChangeAt Go.RowKit Go.Deep
set_option linter.unusedVariables false

/-- The deal's box. -/
def DlB (C : Cx) (k dlb : Nat) (W : World) : Prop := ∃ h cp, W.heap[dlb]? = some (.cells #[.string (C.ds.getD k zDl).nm, .int .i64 (C.ds.getD k zDl).kd, .slice h (C.ds.getD k zDl).arts.length cp, .int .i64 (C.ds.getD k zDl).nd, .int .i64 (C.ds.getD k zDl).vl, .bool (C.ds.getD k zDl).on] 39 (0, 0)) ∧ ReadsS C.B0 C.w0 h (C.ds.getD k zDl).arts
theorem unit_at {C : Cx} (hC : CxOK C) {W : World} (hE : Env C W) (x : Nat) (hx : x < C.us.length) : ∃ b o, C.ua = some ⟨b, o, none⟩ ∧ W.cell? ⟨b, o + x * 2, none⟩ = some (.string (C.us.getD x zUn).art) ∧ W.cell? ⟨b, o + x * 2 + 1, none⟩ = some (.int .i64 (C.us.getD x zUn).pr) := by
  rcases hC.ru with h | ⟨b, o, ha, hB, hi⟩
  · rw [h] at hx; simp at hx
  · have := (hi.below hE.low hB) x hx
    exact ⟨b, o, ha, this.1, this.2⟩
set_option maxHeartbeats 4000000 in
theorem fits_any (C : Cx) (hC : CxOK C) (k dlb x : Nat) (hk : k < C.ds.length) (hx : x < C.us.length) (W : World) (hE : Env C W) (hD : DlB C k dlb W) :
    Calls Try.prog 39 #[.int .i64 (x : Int), .pointer (some ⟨dlb, 0, none⟩), .pointer (some ⟨C.ub, 0, none⟩)] W fun e w' => e = .returned (.bool (fitU C.us (C.ds.getD k zDl) x)) ∧ Below W.heap.size W w' := by
  obtain ⟨h, cp, hD, hrs⟩ := hD
  obtain ⟨b, o, hua, u0, u1⟩ := unit_at hC hE x hx
  have hdk : DlOK (C.ds.getD k zDl) := hC.dk _ (by rw [show C.ds.getD k zDl = C.ds[k] by simp [List.getD_eq_getElem?_getD, hk]]; exact List.getElem_mem _)
  have HW : Hid (∀ W', Below W.heap.size W W' → Calls Try.prog 40 #[.agg #[.string (C.ds.getD k zDl).nm, .int .i64 (C.ds.getD k zDl).kd, .slice h (C.ds.getD k zDl).arts.length cp, .int .i64 (C.ds.getD k zDl).nd, .int .i64 (C.ds.getD k zDl).vl, .bool (C.ds.getD k zDl).on], .agg #[.string (C.us.getD x zUn).art, .int .i64 (C.us.getD x zUn).pr]] W' fun e w' => e = .returned (.bool (hasB (C.ds.getD k zDl).arts (C.us.getD x zUn).art)) ∧ Below W'.heap.size W' w') := fun W' hW => wants_any _ h cp hdk.2.1 _ _ W' ((hrs.below (hE.low.trans (hW.mono hE.top))).mono (Nat.le_trans hE.top hW.size))
  have HF : Hid (fitU C.us (C.ds.getD k zDl) x = hasB (C.ds.getD k zDl).arts (C.us.getD x zUn).art) := rfl
  have HDb : Hid (∀ W', Below W.heap.size W W' → W'.heap[dlb]? = some (.cells #[.string (C.ds.getD k zDl).nm, .int .i64 (C.ds.getD k zDl).kd, .slice h (C.ds.getD k zDl).arts.length cp, .int .i64 (C.ds.getD k zDl).nd, .int .i64 (C.ds.getD k zDl).vl, .bool (C.ds.getD k zDl).on] 39 (0, 0)) ∧ W'.cell? ⟨C.ub, 0, none⟩ = some (.slice C.ua C.us.length C.uc) ∧ W'.cell? ⟨b, o + x * 2, none⟩ = some (.string (C.us.getD x zUn).art) ∧ W'.cell? ⟨b, o + x * 2 + 1, none⟩ = some (.int .i64 (C.us.getD x zUn).pr)) := fun W' hW => by
    have hE' := hE.later hW
    obtain ⟨b2, o2, e2, k0, k1⟩ := unit_at hC hE' x hx
    rw [hua] at e2
    simp only [Option.some.injEq, Addr.mk.injEq] at e2
    obtain ⟨rfl, rfl, _⟩ := e2
    exact ⟨(hW.block dlb (blkLt hD)).trans hD, blkCell hE'.ubx 0 _ rfl, k0, k1⟩
  have hx' : (x : Int) < (C.us.length : Int) := by omega
  clear hE hD hrs u0 u1 hdk
  rw [hua] at HDb
  rw [HF.out]
  clear HF
  generalize hasB (C.ds.getD k zDl).arts (C.us.getD x zUn).art = fb at *
  generalize (C.us.getD x zUn).art = art at *
  generalize (C.us.getD x zUn).pr = pr at *
  generalize C.ds.getD k zDl = d at *
  go_enter Try.func39, Try.ntmps39
  go_wp2_with fail
  refine wp_region_held_drew (S := fun W' => Below W.heap.size W W') (by kernel_rfl) (below_drew _) (fun hH => ?_)
  refine wpAnyH_take (i := 0) (v := .agg #[.string d.nm, .int .i64 d.kd, .slice h d.arts.length cp, .int .i64 d.nd, .int .i64 d.vl, .bool d.on]) rfl (by kernel_rfl) (by kernel_rfl) (by kernel_rfl) (fun _ _ _ h => h) (Or.inl ⟨by rfl, fun w hSw => by have f := (HDb.out w hSw).1; have f0 := blkCell f 0 _ rfl; have f1 := blkCell f 1 _ rfl; have f2 := blkCell f 2 _ rfl; have f3 := blkCell f 3 _ rfl; have f4 := blkCell f 4 _ rfl; have f5 := blkCell f 5 _ rfl; clear f; go_simp⟩) hH ?_
  refine wpAnyH_take (i := 1) (v := .slice (some ⟨b, o, none⟩) C.us.length C.uc) rfl (by kernel_rfl) (by kernel_rfl) (by kernel_rfl) (fun _ _ _ h => h) (Or.inl ⟨by rfl, fun w hSw => by have f0 := (HDb.out w hSw).2.1; go_simp⟩) hH ?_
  try simp only [Act.put, List.setIfInBounds_toArray, List.set_cons_zero, List.set_cons_succ, List.getElem_toArray, List.getElem_cons_succ, List.getElem_cons_zero]
  refine wpAnyH_take (i := 2) (v := .int .i64 (x : Int)) rfl (by kernel_rfl) (by kernel_rfl) (by kernel_rfl) (fun _ _ _ h => h) (Or.inl ⟨by rfl, fun w hSw => by go_simp⟩) hH ?_
  try simp only [Act.put, List.setIfInBounds_toArray, List.set_cons_zero, List.set_cons_succ, List.getElem_toArray, List.getElem_cons_succ, List.getElem_cons_zero]
  refine wpAnyH_take (i := 3) (v := .pointer (some ⟨b, o + x * 2, none⟩)) rfl (by kernel_rfl) (by kernel_rfl) (by kernel_rfl) (fun _ _ _ h => h) (Or.inl ⟨by rfl, fun w hSw => by go_simp⟩) hH ?_
  try simp only [Act.put, List.setIfInBounds_toArray, List.set_cons_zero, List.set_cons_succ, List.getElem_toArray, List.getElem_cons_succ, List.getElem_cons_zero]
  refine wpAnyH_take (i := 4) (v := .agg #[.string art, .int .i64 pr]) rfl (by kernel_rfl) (by kernel_rfl) (by kernel_rfl) (fun _ _ _ h => h) (Or.inl ⟨by rfl, fun w hSw => by have f0 := (HDb.out w hSw).2.2.1; have f1 := (HDb.out w hSw).2.2.2; go_simp⟩) hH ?_
  try simp only [Act.put, List.setIfInBounds_toArray, List.set_cons_zero, List.set_cons_succ, List.getElem_toArray, List.getElem_cons_succ, List.getElem_cons_zero]
  refine wpAnyH_ready (rs := [5]) (by kernel_rfl) (by simp) ?_
  refine AllReadyH.cons rfl (fun K hK => ?_) AllReadyH.nil
  go_simp
  go_at_call 40
  refine (HW.out _ hH).mono ?_
  rintro e w3 ⟨rfl, hb3⟩
  have hw3 : Below W.heap.size W w3 := chain hH hb3
  clear hb3
  refine hK.out _ _ hw3 (fun _ => ?_)
  clear hK K
  try simp only [Act.put, List.setIfInBounds_toArray, List.set_cons_zero, List.set_cons_succ, List.getElem_toArray, List.getElem_cons_succ, List.getElem_cons_zero]
  refine wpAnyH_take (i := 6) (v := .bool fb) rfl (by kernel_rfl) (by kernel_rfl) (by kernel_rfl) (fun _ _ _ h => h) (Or.inl ⟨by rfl, fun w hSw => by go_simp⟩) hw3 ?_
  try simp only [Act.put, List.setIfInBounds_toArray, List.set_cons_zero, List.set_cons_succ, List.getElem_toArray, List.getElem_cons_succ, List.getElem_cons_zero]
  refine wpAnyH_done (by kernel_rfl) ?_ _
  have H3 : Hid (Below W.heap.size W w3) := hw3
  clear hw3 hH HW HDb
  go_wp2
  go_ret
  exact ⟨rfl, H3.out⟩
/-- In the midst of a search: the best way so far, and what the closures ask for. -/
structure StB (C : Cx) (k sp bb spb cpb dlb nmb : Nat) (b : Wy) (W : World) : Prop where
  env : Env C W
  best : ∃ a c, W.heap[bb]? = some (.cells #[.int .i64 b.sv, .slice a b.us.length c] 73 (0, 0)) ∧ RU W a b.us
  spx : W.heap[spb]? = some (.cells #[.int .u64 (sp : Int)] 71 (0, 0))
  cpx : W.heap[cpb]? = some (.cells #[.int .u64 ((if (C.ds.getD k zDl).on = true then 2 ^ k else 0 : Nat) : Int)] 71 (0, 0))
  dlx : DlB C k dlb W
  nmx : W.heap[nmb]? = some (.cells #[.int .i64 (k : Int)] 3 (0, 0))
  hbb : C.B0 ≤ bb
theorem DlB.fr {C : Cx} {k dlb : Nat} {W W' : World} {X : Nat → Prop} (h : DlB C k dlb W) (ht : Typ W X) (hf : Fr X W W') : DlB C k dlb W' := by
  obtain ⟨h1, cp, h2, h3⟩ := h
  exact ⟨h1, cp, (ht.keep hf h2 (by decide)).trans h2, h3⟩
/-- What a closure may touch of what was there: the ways that are known, the best way so far. -/
def XB (C : Cx) (bb : Nat) : Nat → Prop := fun q => q = C.kb ∨ q = bb
theorem StB.typ {C : Cx} {k sp bb spb cpb dlb nmb : Nat} {b : Wy} {W : World} (h : StB C k sp bb spb cpb dlb nmb b W) : Typ W (XB C bb) := by
  obtain ⟨a, c, hb, _⟩ := h.best
  exact typ_both h.env.memo.is ⟨_, hb⟩
theorem StB.fr {C : Cx} (hC : CxOK C) {k sp bb spb cpb dlb nmb : Nat} {b : Wy} {W W' : World} (h : StB C k sp bb spb cpb dlb nmb b W) (hf : Fr (fun q => q = C.kb) W W') (hm : Memo C.us C.ds W' C.kb) : StB C k sp bb spb cpb dlb nmb b W' := by
  have ht := typ_map h.env.memo.is
  obtain ⟨a, c, hb, hr⟩ := h.best
  have hne : bb ≠ C.kb := fun e => by
    obtain ⟨es, ck, hm⟩ := h.env.memo.is
    rw [e, hm] at hb
    simp at hb
  exact ⟨h.env.fr ht hf (fun q e => by rw [e]; exact hC.lkb) hm, ⟨a, c, (hf.block bb (blkLt hb) hne).trans hb, hr.fr ht hf⟩, (ht.keep hf h.spx (by decide)).trans h.spx, (ht.keep hf h.cpx (by decide)).trans h.cpx, h.dlx.fr ht hf, (ht.keep hf h.nmx (by decide)).trans h.nmx, h.hbb⟩
theorem StB.later {C : Cx} (hC : CxOK C) {k sp bb spb cpb dlb nmb : Nat} {b : Wy} {W W' : World} (h : StB C k sp bb spb cpb dlb nmb b W) (hb : Below W.heap.size W W') : StB C k sp bb spb cpb dlb nmb b W' := h.fr hC (Fr.of hb) (h.env.later hb).memo
/-- What the search answers, of lists shorter than N. -/
def SrP (C : Cx) (N : Nat) : Prop := ∀ (r : List Nat) (sp : Nat) (a : Option Addr) (c : Nat) (W : World), r.length < N → Ris C.us.length r → sp < 64 → r.length ≤ c → Env C W → RI W a r →
  Calls Try.prog 36 #[.slice a r.length c, .int .u64 (sp : Int), .pointer (some ⟨C.kx, 0, none⟩), .pointer (some ⟨C.sb, 0, none⟩), .pointer (some ⟨C.db, 0, none⟩), .pointer (some ⟨C.ub, 0, none⟩)] W fun e w' => ∃ v, e = .returned v ∧ HoldsW w' v (sr C.us C.ds r sp) ∧ Fr (fun q => q = C.kb) W w' ∧ Memo C.us C.ds w' C.kb
end Go.Proofs.Ytkfmifbffgbiiaa
