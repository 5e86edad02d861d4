/-
  Texts of this claim laid together: BsB.
-/
import Derived.Test.YtbijgoaanphojaaM27
import Derived.Test.YtbijgoaanphojaaM22
/-
  The specification's l05Sets.
-/
namespace Go.Proofs.Ytbijgoaanphojaa
open Go.ChangeShapes Go.WideShapes Go.ChangeAt Go.RowKit Go.Deep
set_option linter.unusedVariables false

/-- Values that are lists of numbers. -/
def FitE (W : World) (E : List Value) (L : List (List Nat)) : Prop := E.length = L.length ∧ ∀ i, i < L.length → ∃ h c, E[i]? = some (.slice h (L.getD i []).length c) ∧ (L.getD i []).length ≤ c ∧ RI W h (L.getD i [])
theorem FitE.of {W W' : World} {E : List Value} {L : List (List Nat)} (h : FitE W E L) (hk : ∀ a xs, RI W a xs → RI W' a xs) : FitE W' E L := ⟨h.1, fun i hi => by
  obtain ⟨g, c, h1, h2, h3⟩ := h.2 i hi
  exact ⟨g, c, h1, h2, hk _ _ h3⟩⟩
theorem FitE.push {W : World} {E : List Value} {L : List (List Nat)} (h : FitE W E L) {g : Option Addr} {c : Nat} {s : List Nat} (hc : s.length ≤ c) (hr : RI W g s) : FitE W (E ++ [.slice g s.length c]) (L ++ [s]) := by
  refine ⟨by simp [h.1], fun i hi => ?_⟩
  rw [List.length_append, List.length_singleton] at hi
  by_cases e : i < L.length
  · obtain ⟨g', c', h1, h2, h3⟩ := h.2 i e
    rw [show (L ++ [s]).getD i [] = L.getD i [] by simp [List.getD_eq_getElem?_getD, List.getElem?_append_left e], List.getElem?_append_left (by rw [h.1]; exact e)]
    exact ⟨g', c', h1, h2, h3⟩
  · have e' : i = L.length := by omega
    subst e'
    rw [show (L ++ [s]).getD L.length [] = s by simp, ← h.1]
    exact ⟨g, c, by simp, hc, hr⟩
theorem row_typ {W : World} {B : Nat} {e : TypeId} {k : Nat} {v : Value} {n : Nat} {xs : List Value} (h : W.ownsRow B e k v n xs) {q : Nat} (hq : v.ownBlock = some q) : ∃ cur, W.heap[q]? = some (.cells cur e (0, 0)) := by
  rcases h.2 with ⟨rfl, _⟩ | ⟨g, cap, cur, rfl, _, hg, _⟩
  · cases hq
  · simp [Value.ownBlock] at hq
    subst hq
    exact ⟨cur, hg⟩
theorem ri_grown {W W' : World} {B : Nat} {v : Value} {n : Nat} {xs : List Value} (h : W.ownsRow B 34 1 v n xs) (hg : W.grownBy W' v.ownBlock) : ∀ a ys, RI W a ys → RI W' a ys := fun a ys hr => hr.of (fun q cur hq => hg.block q (blkLt hq) (fun e => by
  obtain ⟨cur2, h2⟩ := row_typ h e.symm
  rw [h2] at hq
  simp at hq))
theorem sliceInfoE : (Try.prog.info? 34).map (fun i => (i.zero, i.size, i.bytes)) = some (some (.slice none 0 0), 1, 24) := by kernel_rfl
/-- Lists that are made, in a block of their own. -/
structure OutS (w : World) (v : Value) (L : List (List Nat)) (E : List Value) (wr : World) : Prop where
  own : wr.ownsRow w.heap.size 34 1 v L.length E
  fit : FitE wr E L
  low : Below w.heap.size w wr
  top : w.heap.size ≤ wr.heap.size
theorem OutS.later {w wr w' : World} {v : Value} {L : List (List Nat)} {E : List Value} (h : OutS w v L E wr) (hb : Below wr.heap.size wr w') : OutS w v L E w' :=
  ⟨row_of h.own (fun q hq => hb.block q (row_lt h.own q hq).2), h.fit.of (fun a xs hr => hr.later hb), h.low.trans (hb.mono h.top), Nat.le_trans h.top hb.size⟩
def SetsP (n : Nat) : Prop := ∀ (a : Option Addr) (c : Nat) (l : List Nat) (w : World), l.length ≤ 8 → l.length ≤ c → RI w a l →
  Calls Try.prog 80 #[.slice a l.length c, .int .i64 (n : Int)] w fun e w' => ∃ g cp E, e = .returned (.slice g (setsR n l).length cp) ∧ OutS w (.slice g (setsR n l).length cp) (setsR n l) E w'
set_option maxHeartbeats 2000000 in
theorem sets_zero : SetsP 0 := by
  intro a c l w hl hc hr
  rw [setsR_zero]
  have HEn : Hid (∀ W5, W5 = (w.alloc (Obj.cells #[] 3)).alloc (Obj.cells #[.slice (some ⟨w.heap.size, 0, none⟩) 0 0] 34) → OutS w (.slice (some ⟨w.heap.size + 1, 0, none⟩) 1 1) [[]] [.slice (some ⟨w.heap.size, 0, none⟩) 0 0] W5) := fun W5 e => by
    have hb : Below w.heap.size w W5 := by rw [e]; exact chain (below_alloc _ _) (below_alloc _ _)
    have h1 : W5.heap[w.heap.size + 1]? = some (.cells #[.slice (some ⟨w.heap.size, 0, none⟩) 0 0] 34 (0, 0)) := by
      have := heapNew (w.alloc (Obj.cells #[] 3)) (Obj.cells #[.slice (some ⟨w.heap.size, 0, none⟩) 0 0] 34)
      rw [alloc_size] at this
      rw [e]; exact this
    refine ⟨⟨rfl, .inr ⟨w.heap.size + 1, 1, _, rfl, by omega, h1, Nat.le_refl _, by unfold maxLen; omega, rfl, rfl⟩⟩, ⟨rfl, fun i hi => ?_⟩, hb, hb.size⟩
    have e0 : i = 0 := by simpa using hi
    subst e0
    exact ⟨_, 0, rfl, Nat.le_refl _, .inl rfl⟩
  clear hr
  go_enter Try.func80, Try.ntmps80
  go_wp2
  go_ret
  exact ⟨_, _, _, rfl, HEn.out _ rfl⟩
theorem wrap_small (z : Int) (h0 : 0 ≤ z) (h1 : z ≤ 100000) : wrap64 z = z := by unfold wrap64; omega
theorem kw_small (k r q : Nat) (h : k < r) (h2 : q + r ≤ 256) : (k : Int) + 1 ≤ 100000 := by omega
theorem setsR_count : ∀ (k : Nat) (l : List Nat), (setsR k l).length ≤ 2 ^ l.length
  | 0, l => by rw [setsR_zero]; exact Nat.one_le_two_pow
  | k + 1, [] => Nat.zero_le _
  | k + 1, x :: l => by
    rw [setsR, List.length_append, List.length_map, List.length_cons, Nat.pow_succ]
    have h1 := setsR_count k l
    have h2 := setsR_count (k + 1) l
    omega
theorem setsR_small (k : Nat) (l : List Nat) (h : l.length ≤ 8) : (setsR k l).length ≤ 256 := Nat.le_trans (setsR_count k l) (Nat.pow_le_pow_right (by omega) h)
theorem map_take_nx (x : Nat) (R : List (List Nat)) (k : Nat) (h : k < R.length) : (R.take (k + 1)).map (x :: ·) = (R.take k).map (x :: ·) ++ [x :: R.getD k []] := by
  rw [List.take_succ_eq_append_getElem h, List.map_append]
  simp [List.getD_eq_getElem?_getD, h]
theorem OutS.push {w wr w5 w6 : World} {v : Value} {L : List (List Nat)} {E : List Value} (h : OutS w v L E wr) (hb : Below wr.heap.size wr w5) {va : Option Addr} {vc : Nat} {g : Option Addr} {c : Nat} {s : List Nat} (hs : s.length ≤ c) (hr : RI w5 g s)
    (hown : w6.ownsRow w.heap.size 34 1 (.slice va (L.length + 1) vc) (L.length + 1) (E ++ [.slice g s.length c])) (hg : w5.grownBy w6 v.ownBlock) : OutS w (.slice va (L ++ [s]).length vc) (L ++ [s]) (E ++ [.slice g s.length c]) w6 := by
  have h5 := h.later hb
  have hl : (L ++ [s]).length = L.length + 1 := by simp
  refine ⟨by rw [hl]; exact hown, (h5.fit.push hs hr).of (ri_grown h5.own hg), h5.low.grown hg h5.top (fun q hq => (row_lt h5.own q hq).1), Nat.le_trans h5.top hg.size⟩
set_option maxHeartbeats 8000000 in
theorem sets_succ (n : Nat) (hn : n ≤ 8) (IH : SetsP n) : SetsP (n + 1) := by
  intro a c l w hl hc hr
  obtain ⟨i0, hi, hzz⟩ := Option.map_eq_some_iff.1 sliceInfoE
  simp only [Prod.mk.injEq] at hzz
  obtain ⟨hi0, hi1, hi2⟩ := hzz
  have HIH : Hid (SetsP n) := IH
  have HR : Hid (RI w a l) := hr
  have hne : (((n + 1 : Nat) : Int) == 0) = false := by rw [beq_eq_false_iff_ne]; omega
  have HO0 : Hid (OutS w (.slice (some ⟨w.heap.size, 0, none⟩) 0 0) [] [] (w.alloc (Obj.cells #[] 34))) := ⟨⟨rfl, .inr ⟨w.heap.size, 0, #[], rfl, Nat.le_refl _, heapNew w _, Nat.le_refl _, by unfold maxLen; omega, rfl, rfl⟩⟩, ⟨rfl, fun i hi => (by simp at hi)⟩, below_alloc _ _, by simp⟩
  clear IH hr
  obtain ⟨m, hm⟩ : ∃ m, m = n + 1 := ⟨_, rfl⟩
  have HM : Hid (m = n + 1) := hm
  rw [← hm] at hne ⊢
  have hm9 : m ≤ 9 := by omega
  have hm1 : 1 ≤ m := by omega
  clear hm
  go_enter Try.func80, Try.ntmps80
  go_wp2
  go_loopw [5, 6, 7, 8] (fun v c6 _ _ wr => ∃ (i : Nat) (L : List (List Nat)) (E : List Value), i ≤ l.length ∧ c6 = .int .i64 (i : Int) ∧ OutS w v L E wr ∧ setsR (n + 1) l = L ++ setsR (n + 1) (l.drop i)) (fun _ c6 _ _ _ => l.length - (intOf c6).toNat)
  case atStart => exact ⟨0, [], [], Nat.zero_le _, rfl, HO0.out, by simp⟩
  case round =>
    clear HO0
    obtain ⟨i, L, E, hil, rfl, hO, hL⟩ := hrel
    obtain ⟨oa, oc, rfl⟩ := row_slice hO.own
    have HO : Hid (OutS w (.slice oa L.length oc) L E wr) := hO
    have HL : Hid (setsR (n + 1) l = L ++ setsR (n + 1) (l.drop i)) := hL
    clear hO hL
    have hwa : wrap64 ((i : Int) + (m : Int)) = (i : Int) + (m : Int) := wrap_small _ (by omega) (by omega)
    by_cases hlt : i + m ≤ l.length
    · have hle' : (i : Int) + (m : Int) ≤ (l.length : Int) := by omega
      obtain ⟨ab, ao, rfl, hcell⟩ := (HR.out.later HO.out.low).at i (by omega)
      obtain ⟨x, hx⟩ : ∃ x, x = l.getD i 0 := ⟨_, rfl⟩
      rw [← hx] at hcell
      have HXe : Hid (x = l.getD i 0) := hx
      clear hx
      obtain ⟨o8, ho8⟩ : ∃ o8 : Nat, o8 = if c = i + 1 then ao else ao + (i + 1) := ⟨_, rfl⟩
      have hof : (if c = i + 1 then (some (⟨ab, ao, none⟩ : Addr)) else some ⟨ab, ao + (i + 1), none⟩) = some ⟨ab, o8, none⟩ := by rw [ho8]; split <;> rfl
      have HDr : Hid (i + 1 < l.length → o8 = ao + (i + 1)) := fun h => by rw [ho8, if_neg (by omega)]
      clear ho8
      have HCl : Hid (Calls Try.prog 80 #[.slice (some ⟨ab, o8, none⟩) (l.length - (i + 1)) (c - (i + 1)), .int .i64 (n : Int)] wr fun e w' => ∃ g cp E, e = .returned (.slice g (setsR n (l.drop (i + 1))).length cp) ∧ OutS wr (.slice g (setsR n (l.drop (i + 1))).length cp) (setsR n (l.drop (i + 1))) E w') := by
        have := HIH.out (some ⟨ab, o8, none⟩) (c - (i + 1)) (l.drop (i + 1)) wr (by rw [List.length_drop]; omega) (by rw [List.length_drop]; omega) ((HR.out.later HO.out.low).drop (i + 1) o8 HDr.out)
        rw [List.length_drop] at this
        exact this
      have HNx : Hid (setsR (n + 1) l = (L ++ (setsR n (l.drop (i + 1))).map (x :: ·)) ++ setsR (n + 1) (l.drop (i + 1))) := by
        show _ = _
        rw [HL.out, setsR_drop n l i (by omega), HXe.out, List.append_assoc]
      have HRw : Hid (RI wr (some ⟨ab, ao, none⟩) l) := HR.out.later HO.out.low
      have hxl : i < l.length := by omega
      obtain ⟨R, hRe⟩ : ∃ R, R = setsR n (l.drop (i + 1)) := ⟨_, rfl⟩
      have HLR : Hid (L.length + R.length ≤ 256) := by
        have h1 := setsR_small (n + 1) l hl
        have e := congrArg List.length HNx.out
        rw [← hRe, List.length_append, List.length_append, List.length_map] at e
        rw [e] at h1
        exact Nat.le_trans (Nat.le_add_right _ _) h1
      have HRs : Hid (∀ s ∈ R, s.length ≤ 8) := fun s hs => by
        rw [hRe] at hs
        have := (setsR_len _ _ _ hs).1
        omega
      rw [← hRe] at HCl HNx
      clear HL hRe
      have hi1' : i + 1 ≤ l.length := by omega
      have hwi : wrap64 ((i : Int) + 1) = (i : Int) + 1 := wrap_small _ (by omega) (by omega)
      have hi2' : (i : Int) + 1 ≤ (l.length : Int) := by omega
      have hi3' : (0 : Int) ≤ (i : Int) + 1 := by omega
      have hi4' : ¬ ((i : Int) + 1 < 0) := by omega
      have hmn : (m : Int) - 1 = (n : Int) := by have := HM.out; omega
      have hwn : wrap64 ((m : Int) - 1) = (n : Int) := by rw [hmn]; exact wrap_small _ (by omega) (by omega)
      clear hcell
      go_wp2_with fail
      refine HCl.out.mono ?_
      rintro e w2 ⟨g, cp, E2, rfl, hO2⟩
      have hb2 := hO2.low
      have H2 : Hid (OutS w (.slice oa L.length oc) L E w2 ∧ RI w2 (some ⟨ab, ao, none⟩) l ∧ FitE w2 E2 R ∧ ∀ k, k < R.length → ∃ gb, g = some ⟨gb, 0, none⟩ ∧ (Value.slice oa L.length oc).ownBlock ≠ some gb ∧ gb < w2.heap.size ∧ ∃ v, E2[k]? = some v ∧ w2.cell? ⟨gb, k, none⟩ = some v) := by
        refine ⟨HO.out.later hb2, HRw.out.later hb2, hO2.fit, fun k hk => ?_⟩
        rcases hO2.own.2 with ⟨q, h3⟩ | ⟨gb, cap, cur, q, hB, hg, hc, hmx, hs, ht⟩
        · omega
        · simp only [Value.slice.injEq] at q
          refine ⟨gb, q.1, fun e => ?_, blkLt hg, ?_⟩
          · have := (row_lt HO.out.own gb e).2
            omega
          · obtain ⟨v, hv⟩ : ∃ v, E2[k]? = some v := ⟨E2[k]'(by rw [hO2.fit.1]; exact hk), by simp⟩
            refine ⟨v, hv, blkCell hg k v ?_⟩
            rw [← Array.getElem?_toList, ← hv, ← ht, List.getElem?_take_of_lt (by omega)]
      clear hO2 hb2 HCl HO HRw
      go_wp2_with fail
      go_loopw [5, 8] (fun v c8 wq => ∃ (k : Nat) (E' : List Value) (va : Option Addr) (vc : Nat), k ≤ R.length ∧ c8 = .int .i64 (k : Int) ∧ v = .slice va (L ++ (R.take k).map (x :: ·)).length vc ∧ OutS w v (L ++ (R.take k).map (x :: ·)) E' wq ∧ RI wq (some ⟨ab, ao, none⟩) l ∧ FitE wq E2 R ∧ ∀ k, k < R.length → ∃ gb, g = some ⟨gb, 0, none⟩ ∧ v.ownBlock ≠ some gb ∧ gb < wq.heap.size ∧ ∃ u, E2[k]? = some u ∧ wq.cell? ⟨gb, k, none⟩ = some u) (fun _ c8 _ => R.length - (intOf c8).toNat)
      case atStart =>
        refine ⟨0, E, oa, oc, Nat.zero_le _, rfl, by simp, by simpa using H2.out.1, H2.out.2.1, H2.out.2.2.1, H2.out.2.2.2⟩
      case round =>
        clear H2
        obtain ⟨k, E', va, vc, hk, rfl, rfl, hO, hRI, hF, hCe⟩ := hrel
        by_cases hkl : k < R.length
        · have hkl' : (k : Int) < (R.length : Int) := by omega
          have hkw : wrap64 ((k : Int) + 1) = (k : Int) + 1 := wrap_small _ (Int.le_add_one (Int.natCast_nonneg k)) (kw_small k R.length L.length hkl HLR.out)
          obtain ⟨gb, rfl, hnb, hgb, u, hu1, hu2⟩ := hCe k hkl
          obtain ⟨sh, sc, hs1, hs2, hs3⟩ := hF.2 k hkl
          obtain rfl : u = .slice sh (R.getD k []).length sc := Option.some.inj (hu1.symm.trans hs1)
          have hsl : (R.getD k []).length ≤ 8 := HRs.out _ (by rw [show R.getD k [] = R[k] by simp [List.getD_eq_getElem?_getD, hkl]]; exact List.getElem_mem _)
          have HMn : Hid (L ++ (R.take (k + 1)).map (x :: ·) = (L ++ (R.take k).map (x :: ·)) ++ [x :: R.getD k []]) := by show _ = _; rw [map_take_nx x R k hkl, List.append_assoc]
          obtain ⟨s0, hs0⟩ : ∃ s0, s0 = R.getD k [] := ⟨_, rfl⟩
          rw [← hs0] at hs2 hs3 hu2 hsl HMn
          obtain ⟨b0, o0, e0, hx0⟩ := hRI.at i hxl
          simp only [Option.some.injEq, Addr.mk.injEq, and_true] at e0
          obtain ⟨rfl, rfl⟩ := e0
          rw [← HXe.out] at hx0
          have hLk : (L ++ (R.take k).map (x :: ·)).length ≤ 256 := by rw [List.length_append, List.length_map, List.length_take]; exact Nat.le_trans (Nat.add_le_add_left (Nat.min_le_right _ _) _) HLR.out
          have HCe : Hid (∀ j, j < R.length → ∃ u, E2[j]? = some u ∧ wr.cell? ⟨gb, j, none⟩ = some u) := fun j hj => by
            obtain ⟨gb', h1, h2, h3, u, h4, h5⟩ := hCe j hj
            have e1 := Option.some.inj h1
            simp only [Addr.mk.injEq, and_true] at e1
            exact ⟨u, h4, by rw [e1]; exact h5⟩
          obtain ⟨M, hM⟩ : ∃ M, M = L ++ (R.take k).map (x :: ·) := ⟨_, rfl⟩
          rw [← hM] at hLk HMn hnb hO ⊢
          have HSt : Hid (OutS w (.slice va M.length vc) M E' wr ∧ RI wr (some ⟨ab, ao, none⟩) l ∧ FitE wr E2 R ∧ RI wr sh s0) := ⟨hO, hRI, hF, hs3⟩
          have Hnb : Hid ((Value.slice va M.length vc).ownBlock ≠ some gb) := hnb
          clear hO hRI hF hs3 hCe hs1 hu1 hs0 hnb hM
          have hil' : (i : Int) < (l.length : Int) := by omega
          have hS0 : wr.drew.cell? ⟨ab, ao + i, none⟩ = some (.int .i64 (x : Int)) ∧ wr.drew.cell? ⟨gb, k, none⟩ = some (.slice sh s0.length sc) := ⟨hx0, hu2⟩
          have HLow : Hid (∀ W', Below wr.heap.size wr W' → W'.cell? ⟨ab, ao + i, none⟩ = some (.int .i64 (x : Int)) ∧ W'.cell? ⟨gb, k, none⟩ = some (.slice sh s0.length sc)) := fun W' hb => ⟨(hb.cell (p := ⟨ab, ao + i, none⟩) (cell_lt hx0)).trans hx0, (hb.cell (p := ⟨gb, k, none⟩) hgb).trans hu2⟩
          clear hx0 hu2
          go_wp2_with fail
          refine wp_region_held_drew (S := fun W' => W'.cell? ⟨ab, ao + i, none⟩ = some (.int .i64 (x : Int)) ∧ W'.cell? ⟨gb, k, none⟩ = some (.slice sh s0.length sc)) (by kernel_rfl) hS0 (fun hH => ?_)
          clear hS0
          refine wpAnyH_take (i := 0) (v := .slice va M.length vc) rfl (by kernel_rfl) (by kernel_rfl) (by kernel_rfl) (fun _ _ _ h => h) (Or.inl ⟨by rfl, fun w hSw => by clear hSw; go_simp⟩) hH ?_
          refine wpAnyH_take (i := 1) (v := .slice (some ⟨ab, ao, none⟩) l.length c) rfl (by kernel_rfl) (by kernel_rfl) (by kernel_rfl) (fun _ _ _ h => h) (Or.inl ⟨by rfl, fun w hSw => by clear hSw; go_simp⟩) hH ?_
          try simp only [Act.put, List.setIfInBounds_toArray, List.set_cons_zero, List.set_cons_succ, List.getElem_toArray, List.getElem_cons_succ, List.getElem_cons_zero]
          refine wpAnyH_take (i := 2) (v := .int .i64 (i : Int)) rfl (by kernel_rfl) (by kernel_rfl) (by kernel_rfl) (fun _ _ _ h => h) (Or.inl ⟨by rfl, fun w hSw => by clear hSw; go_simp⟩) hH ?_
          try simp only [Act.put, List.setIfInBounds_toArray, List.set_cons_zero, List.set_cons_succ, List.getElem_toArray, List.getElem_cons_succ, List.getElem_cons_zero]
          refine wpAnyH_take (i := 3) (v := .pointer (some ⟨ab, ao + i, none⟩)) rfl (by kernel_rfl) (by kernel_rfl) (by kernel_rfl) (fun _ _ _ h => h) (Or.inl ⟨by rfl, fun w hSw => by clear hSw; go_simp⟩) hH ?_
          try simp only [Act.put, List.setIfInBounds_toArray, List.set_cons_zero, List.set_cons_succ, List.getElem_toArray, List.getElem_cons_succ, List.getElem_cons_zero]
          refine wpAnyH_take (i := 4) (v := .int .i64 (x : Int)) rfl (by kernel_rfl) (by kernel_rfl) (by kernel_rfl) (fun _ _ _ h => h) (Or.inl ⟨by rfl, fun w hSw => by have f0 := hSw.1; clear hSw; go_simp⟩) hH ?_
          try simp only [Act.put, List.setIfInBounds_toArray, List.set_cons_zero, List.set_cons_succ, List.getElem_toArray, List.getElem_cons_succ, List.getElem_cons_zero]
          refine wpAnyH_take (i := 6) (v := .slice (some ⟨gb, 0, none⟩) R.length cp) rfl (by kernel_rfl) (by kernel_rfl) (by kernel_rfl) (fun _ _ _ h => h) (Or.inl ⟨by rfl, fun w hSw => by clear hSw; go_simp⟩) hH ?_
          try simp only [Act.put, List.setIfInBounds_toArray, List.set_cons_zero, List.set_cons_succ, List.getElem_toArray, List.getElem_cons_succ, List.getElem_cons_zero]
          refine wpAnyH_take (i := 7) (v := .int .i64 (k : Int)) rfl (by kernel_rfl) (by kernel_rfl) (by kernel_rfl) (fun _ _ _ h => h) (Or.inl ⟨by rfl, fun w hSw => by clear hSw; go_simp⟩) hH ?_
          try simp only [Act.put, List.setIfInBounds_toArray, List.set_cons_zero, List.set_cons_succ, List.getElem_toArray, List.getElem_cons_succ, List.getElem_cons_zero]
          refine wpAnyH_take (i := 8) (v := .pointer (some ⟨gb, k, none⟩)) rfl (by kernel_rfl) (by kernel_rfl) (by kernel_rfl) (fun _ _ _ h => h) (Or.inl ⟨by rfl, fun w hSw => by clear hSw; go_simp⟩) hH ?_
          try simp only [Act.put, List.setIfInBounds_toArray, List.set_cons_zero, List.set_cons_succ, List.getElem_toArray, List.getElem_cons_succ, List.getElem_cons_zero]
          refine wpAnyH_take (i := 9) (v := .slice sh s0.length sc) rfl (by kernel_rfl) (by kernel_rfl) (by kernel_rfl) (fun _ _ _ h => h) (Or.inl ⟨by rfl, fun w hSw => by have f0 := hSw.2; clear hSw; go_simp⟩) hH ?_
          try simp only [Act.put, List.setIfInBounds_toArray, List.set_cons_zero, List.set_cons_succ, List.getElem_toArray, List.getElem_cons_succ, List.getElem_cons_zero]
          refine wpAnyH_ready (rs := [5]) (by kernel_rfl) (by simp) ?_
          refine AllReadyH.cons rfl (fun K hK => ?_) AllReadyH.nil
          go_simp
          have h3b : Below wr.heap.size wr (wr.alloc (Obj.cells #[.int .i64 (x : Int)] 3)).drew := chain (below_alloc _ _) (below_drew _)
          have h3 := HLow.out _ h3b
          have HBx : Hid (RI (wr.alloc (Obj.cells #[.int .i64 (x : Int)] 3)).drew (some ⟨wr.heap.size, 0, none⟩) [x]) := .inr ⟨wr.heap.size, 0, #[.int .i64 (x : Int)], rfl, heapNew wr _, fun j hj => by have e : j = 0 := (by simpa using hj); subst e; rfl⟩
          refine hK.out _ _ h3 (fun _ => ?_)
          clear hK K
          try simp only [Act.put, List.setIfInBounds_toArray, List.set_cons_zero, List.set_cons_succ, List.getElem_toArray, List.getElem_cons_succ, List.getElem_cons_zero]
          generalize (wr.alloc (Obj.cells #[.int .i64 (x : Int)] 3)).drew = W3 at *
          refine wpAnyH_ready (rs := [10]) (by kernel_rfl) (by simp) ?_
          refine AllReadyH.cons rfl (fun K hK => ?_) AllReadyH.nil
          refine step_ri rfl (.tmp 40) (.tmp 44) rfl (some ⟨wr.heap.size, 0, none⟩) sh [x] s0 sc (by simp) (by omega) (by simp [Act.eval]) (by simp [Act.eval]) HBx.out (HSt.out.2.2.2.later h3b) (fun ua uc w4 hr4 hc4 hb4 => ?_)
          have h4b : Below wr.heap.size wr w4 := chain h3b hb4
          have H4 : Hid (RI w4 ua (x :: s0) ∧ (x :: s0).length ≤ uc) := ⟨hr4, hc4⟩
          clear hr4 hc4 hb4 HBx h3 h3b
          obtain ⟨m1, hm1'⟩ : ∃ m1, m1 = ([x] ++ s0).length := ⟨_, rfl⟩
          rw [← hm1']
          have HM1 : Hid (m1 = (x :: s0).length) := hm1'
          clear hm1'
          have h4 := HLow.out _ h4b
          refine hK.out _ _ h4 (fun _ => ?_)
          clear hK K
          try simp only [Act.put, List.setIfInBounds_toArray, List.set_cons_zero, List.set_cons_succ, List.getElem_toArray, List.getElem_cons_succ, List.getElem_cons_zero]
          refine wpAnyH_ready (rs := [11]) (by kernel_rfl) (by simp) ?_
          refine AllReadyH.cons rfl (fun K hK => ?_) AllReadyH.nil
          go_simp
          have h5b : Below wr.heap.size wr (w4.alloc (Obj.cells #[.slice ua m1 uc] 34)) := chain h4b (below_alloc _ _)
          have h5 := HLow.out _ h5b
          have HN5 : Hid ((w4.alloc (Obj.cells #[.slice ua m1 uc] 34)).heap[w4.heap.size]? = some (.cells #[.slice ua m1 uc] 34 (0, 0))) := heapNew _ _
          have HR5 : Hid (RI (w4.alloc (Obj.cells #[.slice ua m1 uc] 34)) ua (x :: s0)) := H4.out.1.later (below_alloc _ _)
          clear h4b h4
          refine hK.out _ _ h5 (fun _ => ?_)
          clear hK K
          try simp only [Act.put, List.setIfInBounds_toArray, List.set_cons_zero, List.set_cons_succ, List.getElem_toArray, List.getElem_cons_succ, List.getElem_cons_zero]
          generalize w4.alloc (Obj.cells #[.slice ua m1 uc] 34) = W5 at *
          refine wpAnyH_ready (rs := [12]) (by kernel_rfl) (by simp) ?_
          refine AllReadyH.cons rfl (fun K hK => ?_) AllReadyH.nil
          refine step_append_any rfl (.tmp 35) (.tmp 46) 77 rfl w.heap.size 34 i0 (.slice none 0 0) 1 24 Try.underlying77 hi hi0 hi1 hi2 rfl (by decide) (.slice va M.length vc) M.length E' (by simp [Act.eval]) (HSt.out.1.later h5b).own (some ⟨w4.heap.size, 0, none⟩) 1 1 [.slice ua m1 uc] (by simp [Act.eval]) rfl (fun _ => ⟨_, rfl, World.news_of_block HN5.out⟩) (by intro u hu; simp at hu; subst hu; rfl) (by unfold maxLen; omega) (by omega) (HSt.out.1.later h5b).top (fun qa qc w6 ho6 hg6 ha6 => ?_)
          have hP := HSt.out.1.push h5b (va := qa) (vc := qc) (g := ua) (c := uc) (s := x :: s0) H4.out.2 HR5.out (by rw [← HM1.out]; exact ho6) hg6
          have hfar : ∀ q, q < wr.heap.size → some q ≠ (Value.slice va M.length vc).ownBlock → w6.heap[q]? = wr.heap[q]? := fun q hq hne => (hg6.block q (Nat.lt_of_lt_of_le hq h5b.size) hne).trans (h5b.block q hq)
          have hri := fun a ys (h : RI wr a ys) => ri_grown (HSt.out.1.later h5b).own hg6 a ys (h.later h5b)
          have h6 : w6.cell? ⟨ab, ao + i, none⟩ = some (.int .i64 (x : Int)) ∧ w6.cell? ⟨gb, k, none⟩ = some (.slice sh s0.length sc) := by
            have hw := HLow.out wr (Below.refl _ _)
            refine ⟨?_, (World.cell?_of_block (w := wr) (a := ⟨gb, k, none⟩) (hfar gb hgb (fun e => Hnb.out e.symm))).trans hw.2⟩
            obtain ⟨b2, o2, e2, hc2⟩ := (hri _ _ HSt.out.2.1).at i hxl
            simp only [Option.some.injEq, Addr.mk.injEq, and_true] at e2
            obtain ⟨rfl, rfl⟩ := e2
            rw [HXe.out]; exact hc2
          have HEn : Hid (OutS w (.slice qa (M ++ [x :: s0]).length qc) (M ++ [x :: s0]) (E' ++ [.slice ua (x :: s0).length uc]) w6 ∧ RI w6 (some ⟨ab, ao, none⟩) l ∧ FitE w6 E2 R ∧ ∀ k, k < R.length → ∃ gb', some (⟨gb, 0, none⟩ : Addr) = some ⟨gb', 0, none⟩ ∧ (Value.slice qa (M ++ [x :: s0]).length qc).ownBlock ≠ some gb' ∧ gb' < w6.heap.size ∧ ∃ u, E2[k]? = some u ∧ w6.cell? ⟨gb', k, none⟩ = some u) := by
            refine ⟨hP, hri _ _ HSt.out.2.1, HSt.out.2.2.1.of hri, fun j hj => ⟨gb, rfl, fun e => ?_, Nat.lt_of_lt_of_le hgb (Nat.le_trans h5b.size hg6.size), ?_⟩⟩
            · have e1 : Value.ownBlock (.slice qa (M.length + 1) qc) = some gb := by rw [← e]; cases qa <;> rfl
              rcases ha6 gb e1 with h | h
              · exact Hnb.out h
              · have := h5b.size; omega
            · obtain ⟨u, h1, h2⟩ := HCe.out j hj
              exact ⟨u, h1, (World.cell?_of_block (w := wr) (a := ⟨gb, j, none⟩) (hfar gb hgb (fun e => Hnb.out e.symm))).trans h2⟩
          clear hP hfar hri ho6 hg6 ha6 h5
          refine hK.out _ _ h6 (fun _ => ?_)
          clear hK K
          try simp only [Act.put, List.setIfInBounds_toArray, List.set_cons_zero, List.set_cons_succ, List.getElem_toArray, List.getElem_cons_succ, List.getElem_cons_zero]
          refine wpAnyH_take (i := 13) (v := .slice qa (M.length + 1) qc) rfl (by kernel_rfl) (by kernel_rfl) (by kernel_rfl) (fun _ _ _ h => h) (Or.inl ⟨by rfl, fun w hSw => by clear hSw; go_simp⟩) h6 ?_
          try simp only [Act.put, List.setIfInBounds_toArray, List.set_cons_zero, List.set_cons_succ, List.getElem_toArray, List.getElem_cons_succ, List.getElem_cons_zero]
          refine wpAnyH_done (by kernel_rfl) ?_ _
          clear h6 hH HLow h5b
          have HMl : Hid (M.length + 1 = (M ++ [x :: s0]).length) := by show _ = _; simp
          go_wp2
          try rw [hkw]
          refine ⟨⟨k + 1, E' ++ [.slice ua (x :: s0).length uc], qa, qc, hkl, rfl, ?_, ?_⟩, Nat.sub_lt_sub_left hkl (Nat.lt_succ_self k)⟩
          · rw [HMn.out, HMl.out]
          · rw [HMn.out, HMl.out]; exact HEn.out
        · obtain rfl : k = R.length := by omega
          have hnn : ¬ ((R.length : Int) < (R.length : Int)) := by omega
          rw [List.take_length] at hO
          have HEn : Hid (OutS w (.slice va (L ++ R.map (x :: ·)).length vc) (L ++ R.map (x :: ·)) E' wr) := hO
          clear hO hRI hF hCe
          rw [List.take_length]
          generalize (L ++ R.map (x :: ·)).length = oln at *
          go_wp2
          exact ⟨⟨i + 1, _, E', hi1', by go_num, HEn.out, HNx.out⟩, by simp [intOf]; omega⟩
    · have hgt' : ¬ ((i : Int) + (m : Int) ≤ (l.length : Int)) := by omega
      have HEn : Hid (setsR (n + 1) l = L) := by
        show _ = _
        rw [HL.out, setsR_short (n + 1) (l.drop i) (by rw [List.length_drop]; have := HM.out; omega), List.append_nil]
      go_wp2
      go_ret
      rw [HM.out, HEn.out]
      first | exact ⟨oa, oc, E, rfl, HO.out⟩ | exact ⟨oa, oc, rfl, E, HO.out⟩
theorem sets_any : ∀ n, n ≤ 9 → SetsP n
  | 0, _ => sets_zero
  | n + 1, h => sets_succ n (by omega) (sets_any n (by omega))
end Go.Proofs.Ytbijgoaanphojaa
