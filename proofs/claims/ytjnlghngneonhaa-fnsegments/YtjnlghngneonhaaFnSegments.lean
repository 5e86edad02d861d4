/-
  For every two lists of bytes the law FnSegments answers true: drawn segments are written alike by both sides and read as they were, one list and two behind each other; with no condition.
-/
import Derived.Test.YtjnlghngneonhaaSdF
import Derived.Test.YtjnlghngneonhaaSbE
import Derived.Test.YtjnlghngneonhaaAppSg
namespace Go.Proofs.Ytjnlghngneonhaa
open Go.ChangeShapes Go.WideShapes Go.ChangeAt Go.RowKit Go.Joins Go.Deep
set_option linter.unusedVariables false
namespace FnSegments
set_option maxHeartbeats 16000000 in
set_option maxRecDepth 8000 in
theorem walk (a0 : Option Addr) (len0 cap0 : Nat) (z0 : List Int) (a1 : Option Addr) (len1 cap1 : Nat) (z1 : List Int) (w : World) (r0 : RowB w.heap.size w a0 len0 z0) (r1 : RowB w.heap.size w a1 len1 z1) :
    Calls Try.prog 3 #[.slice a0 len0 cap0, .slice a1 len1 cap1] w fun e w' => e = .returned (.bool true) ∧ Below w.heap.size w w' := by
  by_cases hbig : (1048576 : Int) < (len0 : Int)
  · clear r0 r1
    go_enter Try.func3, Try.ntmps3
    go_wp2
    go_ret
    exact ⟨rfl, Below.refl _ _⟩
  by_cases hbig1 : (1048576 : Int) < (len1 : Int)
  · clear r0 r1
    go_enter Try.func3, Try.ntmps3
    go_wp2
    go_ret
    exact ⟨rfl, Below.refl _ _⟩
  have hT := SegmentsOf_any a0 len0 cap0 z0 w r0
  have HT2 : Hid (∀ W, Below w.heap.size w W → Calls Try.prog 6 #[.slice a1 len1 cap1] W fun e w' => ∃ (V : World) (E : List SgE) (la : Option Addr) (lk : Nat), e = .returned (.slice la E.length lk) ∧ E.length ≤ 6 ∧ (∀ e ∈ E, DrSg e.c) ∧ W.heap.size ≤ V.heap.size ∧ SpR V.heap.size E la lk w' ∧ Below W.heap.size W w') := fun W hb => SegmentsOf_any a1 len1 cap1 z1 W (by have := r1.below hb; exact ⟨this.1, this.2.imp id (fun ⟨b0, off, e, h1, h2⟩ => ⟨b0, off, e, by have := hb.size; omega, h2⟩)⟩)
  clear r0 r1
  go_enter Try.func3, Try.ntmps3
  go_wp2_with fail
  (first | go_at_call 6 | skip)
  refine hT.mono ?_
  rintro e w1 ⟨V1, E1, la1, lk1, rfl, hl1, hd1, _, hs1, hb1⟩
  have B1 : Hid (Below w.heap.size w w1) := hb1
  have S1 : Hid (SpR V1.heap.size E1 la1 lk1 w1) := hs1
  clear hT hb1 hs1
  go_wp2_with fail
  (first | go_at_call 6 | skip)
  refine (HT2.out w1 B1.out).mono ?_
  rintro e w2 ⟨V2, E2, la2, lk2, rfl, hl2, hd2, _, hs2, hb2⟩
  have B2 : Hid (Below w.heap.size w w2) := chain B1.out hb2
  have S12 : Hid (SpR V1.heap.size E1 la1 lk1 w2 ∧ SpR V2.heap.size E2 la2 lk2 w2) := ⟨S1.out.later hb2, hs2⟩
  clear HT2 hb2 hs2 B1 S1
  have k1 : ∀ c ∈ E1.map (·.c), DrSg c := fun c hc => by obtain ⟨e, he, rfl⟩ := List.mem_map.1 hc; exact hd1 e he
  have k2 : ∀ c ∈ E2.map (·.c), DrSg c := fun c hc => by obtain ⟨e, he, rfl⟩ := List.mem_map.1 hc; exact hd2 e he
  have m1 : (E1.map (·.c)).length ≤ 6 := by rw [List.length_map]; exact hl1
  have m2 : (E2.map (·.c)).length ≤ 6 := by rw [List.length_map]; exact hl2
  obtain ⟨t1, t2, t3⟩ := dr_text m1 k1
  obtain ⟨u1, u2, u3⟩ := dr_text m2 k2
  have HR1 := dr_read m1 k1
  have HR2 := dr_read2 m1 k1 m2 k2
  have HK1 : Hid (∀ c ∈ E1.map (·.c), DrSg c) := k1
  have HK2 : Hid (∀ c ∈ E2.map (·.c), DrSg c) := k2
  have HX1 : Hid (∀ W, Below w2.heap.size w2 W → Calls Try.prog 7 #[.slice la1 E1.length lk1] W (AnsX W (sgT (E1.map (·.c))) 0)) := fun W hb => by
    have q := implSegText_any la1 lk1 (E1.map (·.c)) (by omega) (fun c hc => dr_sgOK (k1 c hc)) W (S12.out.1.later hb).reads
    rwa [t1, List.length_map] at q
  have HX2 : Hid (∀ W, Below w2.heap.size w2 W → Calls Try.prog 7 #[.slice la2 E2.length lk2] W (AnsX W (sgT (E2.map (·.c))) 0)) := fun W hb => by
    have q := implSegText_any la2 lk2 (E2.map (·.c)) (by omega) (fun c hc => dr_sgOK (k2 c hc)) W (S12.out.2.later hb).reads
    rwa [u1, List.length_map] at q
  have HX3 : Hid (∀ W, Below w2.heap.size w2 W → Calls Try.prog 8 #[.slice la1 E1.length lk1] W (AnsX W (sgT (E1.map (·.c))) 0)) := fun W hb => by
    have q := specSegText_any la1 lk1 (E1.map (·.c)) (by omega) (fun c hc => dr_sgOK (k1 c hc)) W (S12.out.1.later hb).reads
    rwa [t1, List.length_map] at q
  have HG1 : Hid (∀ W, Calls Try.prog 9 #[.string (sgT (E1.map (·.c)))] W (AnsRd W (0, 0, E1.map (·.c)))) := fun W => by
    have q := implRead_any (sgT (E1.map (·.c))) (by omega) W
    rwa [HR1] at q
  have HG2 : Hid (∀ W, Calls Try.prog 9 #[.string (sgT (E1.map (·.c)) ++ sgT (E2.map (·.c)))] W (AnsRd W (0, 0, E1.map (·.c) ++ E2.map (·.c)))) := fun W => by
    have q := implRead_any (sgT (E1.map (·.c)) ++ sgT (E2.map (·.c))) (by rw [ByteArray.size_append]; omega) W
    rwa [HR2] at q
  have hsum : (sgT (E1.map (·.c))).size + (sgT (E2.map (·.c))).size ≤ 9223372036854775807 := by omega
  have hsum2 : ¬ 9223372036854775807 < (sgT (E1.map (·.c))).size + (sgT (E2.map (·.c))).size := by omega
  clear k1 k2 hd1 hd2 t1 t2 t3 u1 u2 u3 HR1 HR2 m1 m2
  unfold AnsX at HX1 HX2 HX3
  unfold AnsRd at HG1 HG2
  dsimp only at HG1 HG2
  generalize sgT (E1.map (·.c)) = x1 at *
  generalize sgT (E2.map (·.c)) = x2 at *
  have hxx : (x1.toList != x1.toList) = false := by simp
  go_wp2_with fail
  (first | go_at_call 7 | skip)
  refine (HX1.out w2 (Below.refl _ _)).mono ?_
  rintro e w3 ⟨rfl, hb3⟩
  have C3 : Hid (Below w2.heap.size w2 w3) := hb3
  clear hb3 HX1
  go_wp2_with fail
  (first | go_at_call 7 | skip)
  refine (HX2.out w3 C3.out).mono ?_
  rintro e w4 ⟨rfl, hb4⟩
  have C4 : Hid (Below w2.heap.size w2 w4) := chain C3.out hb4
  clear hb4 HX2 C3
  go_wp2_with fail
  (first | go_at_call 8 | skip)
  refine (HX3.out w4 C4.out).mono ?_
  rintro e w5 ⟨rfl, hb5⟩
  have C5 : Hid (Below w2.heap.size w2 w5) := chain C4.out hb5
  clear hb5 HX3 C4
  go_wp2_with fail
  (first | go_at_call 9 | skip)
  refine (HG1.out w5).mono ?_
  rintro e w6 ⟨E3, la3, lk3, rfl, he3, hr3, ho3, hp3, hb6⟩
  have C6 : Hid (Below w2.heap.size w2 w6) := chain C5.out hb6
  have S3 : Hid (SpR w5.heap.size E3 la3 lk3 w6) := AnsRd.spr hr3 ho3 hp3 hb6
  have H3 : Hid (E1.map (·.c) = E3.map (·.c)) := he3
  clear hr3 ho3 hp3 hb6 he3 HG1 C5
  go_wp2_with fail
  (first | go_at_call 9 | skip)
  refine (HG2.out w6).mono ?_
  rintro e w7 ⟨E4, la4, lk4, rfl, he4, hr4, ho4, hp4, hb7⟩
  have C7 : Hid (Below w2.heap.size w2 w7) := chain C6.out hb7
  have S4 : Hid (SpR w5.heap.size E3 la3 lk3 w7 ∧ SpR w6.heap.size E4 la4 lk4 w7) := ⟨S3.out.later hb7, AnsRd.spr hr4 ho4 hp4 hb7⟩
  have H4 : Hid (E1.map (·.c) ++ E2.map (·.c) = E4.map (·.c)) := he4
  clear hr4 ho4 hp4 hb7 he4 HG2 C6 S3
  go_upto_region 12 with fail
  have HQ1 : Hid (∀ W, Below w7.heap.size w7 W → Calls Try.prog 10 #[.slice la3 E3.length lk3, .slice la1 E1.length lk1] W fun e w' => e = .returned (.bool true) ∧ Below W.heap.size W w') := fun W hb => by
    have e3 : (E1.map (·.c)).length = E3.length := by rw [H3.out, List.length_map]
    have q := sameSg_any la3 la1 lk3 lk1 (E1.map (·.c)) (by rw [List.length_map]; omega) (fun c hc => dr_sgOK (HK1.out c hc)) W (by rw [H3.out]; exact (S4.out.1.later hb).reads) (S12.out.1.later (chain C7.out hb)).reads
    rw [e3] at q
    have e1 : E1.length = E3.length := by have h := e3; rw [List.length_map] at h; exact h
    rw [e1]
    exact q
  go_wp2_with fail
  (first | go_at_call 10 | skip)
  refine (HQ1.out w7 (Below.refl _ _)).mono ?_
  rintro e w8 ⟨rfl, hb8⟩
  have C8 : Hid (Below w7.heap.size w7 w8) := hb8
  clear hb8
  rename_i K0 hK0
  obtain ⟨i0, hi, hinf⟩ := Option.map_eq_some_iff.1 sgInfo
  simp only [Prod.mk.injEq] at hinf
  obtain ⟨hi0, hi1, hi2⟩ := hinf
  have R9 : Hid ((w8.alloc (Obj.cells #[] 43)).ownsRow w8.heap.size 43 2 (.slice (some ⟨w8.heap.size, 0, none⟩) 0 0) 0 [] ∧ Below w8.heap.size w8 (w8.alloc (Obj.cells #[] 43))) := ⟨⟨rfl, .inr ⟨w8.heap.size, 0, #[], rfl, Nat.le_refl _, heapNew w8 _, Nat.le_refl _, by unfold maxLen; omega, rfl, rfl⟩⟩, below_alloc _ _⟩
  have hone : ∀ E : List SgE, ∀ u ∈ sgV E, u.oneCell' = true := fun E u hu => by
    unfold sgV at hu
    obtain ⟨l, hl, hul⟩ := List.mem_flatten.1 hu
    obtain ⟨e, _, rfl⟩ := List.mem_map.1 hl
    simp [SgE.row] at hul
    rcases hul with rfl | rfl <;> rfl
  have HOne : Hid (∀ E : List SgE, ∀ u ∈ sgV E, u.oneCell' = true) := hone
  clear hone
  have HSp : Hid (∀ W, Below w8.heap.size w8 W → SpR V1.heap.size E1 la1 lk1 W ∧ SpR V2.heap.size E2 la2 lk2 W) := fun W hb => ⟨S12.out.1.later (chain C7.out (chain C8.out hb)), S12.out.2.later (chain C7.out (chain C8.out hb))⟩
  refine hK0 _ _ ?_
  clear hK0 K0
  try simp only [Act.put, List.setIfInBounds_toArray, List.set_cons_zero, List.set_cons_succ, List.getElem_toArray, List.getElem_cons_succ, List.getElem_cons_zero]
  refine BigFrame.wpList_want (by first | rfl | kernel_rfl) (fun K hK => ?_)
  go_simp
  refine hK _ _ ?_
  clear hK K
  try simp only [Act.put, List.setIfInBounds_toArray, List.set_cons_zero, List.set_cons_succ, List.getElem_toArray, List.getElem_cons_succ, List.getElem_cons_zero]
  refine BigFrame.wpList_want (by first | rfl | kernel_rfl) (fun K hK => ?_)
  go_simp
  refine hK _ _ ?_
  clear hK K
  try simp only [Act.put, List.setIfInBounds_toArray, List.set_cons_zero, List.set_cons_succ, List.getElem_toArray, List.getElem_cons_succ, List.getElem_cons_zero]
  refine BigFrame.wpList_want (by first | rfl | kernel_rfl) (fun K hK => ?_)
  go_simp
  refine hK _ _ ?_
  clear hK K
  try simp only [Act.put, List.setIfInBounds_toArray, List.set_cons_zero, List.set_cons_succ, List.getElem_toArray, List.getElem_cons_succ, List.getElem_cons_zero]
  refine BigFrame.wpList_want (by first | rfl | kernel_rfl) (fun K hK => ?_)
  go_simp
  refine hK _ _ ?_
  clear hK K
  try simp only [Act.put, List.setIfInBounds_toArray, List.set_cons_zero, List.set_cons_succ, List.getElem_toArray, List.getElem_cons_succ, List.getElem_cons_zero]
  refine BigFrame.wpList_want (by first | rfl | kernel_rfl) (fun K hK => ?_)
  refine wp_append_any (.tmp 88) (.tmp 89) 23 rfl w8.heap.size 43 i0 (.agg #[.string ⟨#[]⟩, .slice none 0 0]) 2 40 Try.underlying23 hi hi0 hi1 hi2 rfl (by decide) (.slice (some ⟨w8.heap.size, 0, none⟩) 0 0) 0 [] (by simp [Act.eval]) R9.out.1 la1 E1.length lk1 (sgV E1) (by simp [Act.eval]) (sgV_len E1) (row_news (HSp.out _ R9.out.2).1.rowL) (HOne.out E1) (by unfold maxLen; omega) (by omega) (by simp) (fun va88 vc88 w88 hrow hgr hat => hK _ _ ?_)
  clear hK K
  rw [Nat.zero_add, List.nil_append] at hrow
  rw [Nat.zero_add]
  have R10 : Hid (w88.ownsRow w8.heap.size 43 2 (.slice va88 E1.length vc88) E1.length (sgV E1) ∧ Below w8.heap.size w8 w88) := ⟨hrow, R9.out.2.grown hgr (by simp) (fun k e => (row_lt R9.out.1 k e).1)⟩
  clear hrow hgr hat R9
  try simp only [Act.put, List.setIfInBounds_toArray, List.set_cons_zero, List.set_cons_succ]
  refine BigFrame.wpList_want (by first | rfl | kernel_rfl) (fun K hK => ?_)
  go_simp
  refine hK _ _ ?_
  clear hK K
  try simp only [Act.put, List.setIfInBounds_toArray, List.set_cons_zero, List.set_cons_succ, List.getElem_toArray, List.getElem_cons_succ, List.getElem_cons_zero]
  refine BigFrame.wpList_want (by first | rfl | kernel_rfl) (fun K hK => ?_)
  refine wp_append_any (.tmp 90) (.tmp 91) 23 rfl w8.heap.size 43 i0 (.agg #[.string ⟨#[]⟩, .slice none 0 0]) 2 40 Try.underlying23 hi hi0 hi1 hi2 rfl (by decide) (.slice va88 E1.length vc88) E1.length (sgV E1) (by simp [Act.eval]) R10.out.1 la2 E2.length lk2 (sgV E2) (by simp [Act.eval]) (sgV_len E2) (row_news (HSp.out _ R10.out.2).2.rowL) (HOne.out E2) (by unfold maxLen; omega) (by omega) R10.out.2.size (fun va90 vc90 w90 hrow hgr hat => hK _ _ ?_)
  clear hK K
  have R11 : Hid (w90.ownsRow w8.heap.size 43 2 (.slice va90 (E1.length + E2.length) vc90) (E1.length + E2.length) (sgV E1 ++ sgV E2) ∧ Below w8.heap.size w8 w90) := ⟨hrow, R10.out.2.grown hgr R10.out.2.size (fun k e => (row_lt R10.out.1 k e).1)⟩
  clear hrow hgr hat R10
  try simp only [Act.put, List.setIfInBounds_toArray, List.set_cons_zero, List.set_cons_succ]
  have HQ2 : Hid (Calls Try.prog 10 #[.slice la4 E4.length lk4, .slice va90 (E1.length + E2.length) vc90] w90 fun e w' => e = .returned (.bool true) ∧ Below w90.heap.size w90 w') := by
    have e5 : (E1 ++ E2).length = E1.length + E2.length := List.length_append
    have e6 : (E1 ++ E2).map (·.c) = E4.map (·.c) := by rw [List.map_append]; exact H4.out
    have e7 : E4.length = E1.length + E2.length := by rw [← e5, ← List.length_map (f := (·.c)), ← e6, List.length_map]
    have e8 : sgV (E1 ++ E2) = sgV E1 ++ sgV E2 := by unfold sgV; rw [List.map_append, List.flatten_append]
    obtain ⟨s1, s2⟩ := HSp.out w90 R11.out.2
    have hrow := R11.out.1
    rw [← e8, ← e5] at hrow
    have rd : ReadsSg w90.heap.size w90 va90 ((E1 ++ E2).map (·.c)) := reads_row hrow (fun e he => by
      rcases List.mem_append.1 he with h | h
      · exact row_cap (s1.old e h)
      · exact row_cap (s2.old e h)) (fun e he => by
      rcases List.mem_append.1 he with h | h
      · exact row_reads (s1.old e h)
      · exact row_reads (s2.old e h))
    have q := sameSg_any la4 va90 lk4 vc90 ((E1 ++ E2).map (·.c)) (by rw [List.length_map, e5]; omega) (fun c hc => by
      rw [List.map_append] at hc
      rcases List.mem_append.1 hc with h | h
      · exact dr_sgOK (HK1.out c h)
      · exact dr_sgOK (HK2.out c h)) w90 (by rw [e6]; exact (S4.out.2.later (chain C8.out R11.out.2)).reads) rd
    rw [List.length_map, e5] at q
    rw [e7]
    exact q
  refine BigFrame.wpList_want (by first | rfl | kernel_rfl) (fun K hK => ?_)
  go_simp
  go_at_call 10
  refine HQ2.out.mono ?_
  rintro e w12 ⟨rfl, hb12⟩
  have Z : Hid (Below w.heap.size w w12) := chain (chain (chain (chain B2.out C7.out) C8.out) R11.out.2) hb12
  refine hK _ _ ?_
  clear hK K hb12
  try simp only [Act.put, List.setIfInBounds_toArray, List.set_cons_zero, List.set_cons_succ, List.getElem_toArray, List.getElem_cons_succ, List.getElem_cons_zero]
  go_wp2
  go_ret
  exact ⟨rfl, Z.out⟩

theorem own : ownKnob Try.prog.godebug = none := by kernel_rfl
theorem laidOut : laidOutB Try.prog = true := by kernel_rfl

set_option maxRecDepth 100000 in
theorem lifted (os : Os) (started : os.Started) (H : Type) (enc : TypeId × Value → H) :
    ReturnsInHanded {} Try.checked os 3 .any (Rows.fnSegmentsSpec.pre6 enc Try.prog Try.f3 Rows.fnSegmentsRow.domain false) (Rows.fnSegmentsSpec.post enc Try.prog Try.f3 false true false false) := by
  refine returnsInHanded_of_change (C := Try.checked) own started (by kernel_rfl) Try.func3
    (ChangeSpec.witness6 (enc := enc) (C := Try.checked) false ⟨#[], #[.slice none 0 0, .slice none 0 0], []⟩ 8 (by kernel_rfl) (by kernel_rfl) (by kernel_rfl) (by kernel_rfl)) ?_
  intro W base args ds gs before hval0 hW hcnd _
  have hval : ∀ (j : Nat) t v, Try.f3.params[j]? = some t → args[j]? = some v → Value.okWide Try.prog W .any base t v := hval0
  have hW' := hW
  obtain ⟨p, q, hA0, hV, rfl, hfz, hnd⟩ := hW
  have hA : DataW.TrodAll enc Try.prog W 0 (fun _ => true) true Try.f3.params.toList args.toList ds p := hA0
  rw [Try.params3] at hA hval
  obtain ⟨v0, vs0, d0, ds0, p0, q0, hargs, rfl, rfl, h0, r0⟩ := trodAll_cons hA
  obtain ⟨v1, vs1, d1, ds1, p1, q1, rfl, rfl, rfl, h1, r1⟩ := trodAll_cons r0
  obtain ⟨rfl, rfl, rfl⟩ := trodAll_nil r1
  obtain rfl : args = #[v0, v1] := by cases args; simp_all
  obtain ⟨rfl, rfl⟩ := trodVars_none hV
  have k0 := h0
  have lt0 : ∀ x ∈ p0, x.block < W.heap.size := by obtain ⟨m, hm⟩ := k0; exact DataW.trod_lt m _ _ _ hm
  have k1 := h1
  have lt1 : ∀ x ∈ p1, x.block < W.heap.size := by obtain ⟨m, hm⟩ := k1; exact DataW.trod_lt m _ _ _ hm
  obtain ⟨a0, len0, cap0, rfl⟩ := okWide_slice Try.underlying22 (hval 0 22 v0 rfl rfl)
  obtain ⟨z0, w0⟩ : ∃ zs, IsRow .u8 W a0 len0 cap0 zs := by
    obtain ⟨fuel, hf⟩ := h0
    rcases open_ints Try.underlying22 Try.underlying5 (by kernel_rfl) hf with ⟨hcs, _⟩ | ⟨x, l, c, zs, hcs, _, hl, hm, hz, _, hcell, hwz⟩
    · simp [Value.cells] at hcs
      obtain ⟨rfl, rfl, rfl⟩ := hcs
      exact ⟨[], .inl ⟨rfl, rfl, rfl, rfl⟩⟩
    · simp [Value.cells] at hcs
      obtain ⟨rfl, rfl, rfl⟩ := hcs
      exact ⟨zs, .inr ⟨_, rfl, hl, hm, by simpa using hz, hcell, hwz⟩⟩
  obtain ⟨a1, len1, cap1, rfl⟩ := okWide_slice Try.underlying22 (hval 1 22 v1 rfl rfl)
  obtain ⟨z1, w1⟩ : ∃ zs, IsRow .u8 W a1 len1 cap1 zs := by
    obtain ⟨fuel, hf⟩ := h1
    rcases open_ints Try.underlying22 Try.underlying5 (by kernel_rfl) hf with ⟨hcs, _⟩ | ⟨x, l, c, zs, hcs, _, hl, hm, hz, _, hcell, hwz⟩
    · simp [Value.cells] at hcs
      obtain ⟨rfl, rfl, rfl⟩ := hcs
      exact ⟨[], .inl ⟨rfl, rfl, rfl, rfl⟩⟩
    · simp [Value.cells] at hcs
      obtain ⟨rfl, rfl, rfl⟩ := hcs
      exact ⟨zs, .inr ⟨_, rfl, hl, hm, by simpa using hz, hcell, hwz⟩⟩
  clear hA0 hval0
  refine (walk a0 len0 cap0 z0 a1 len1 cap1 z1 W (rowB_of _ _ _ _ _ w0) (rowB_of _ _ _ _ _ w1)).mono fun e W' ⟨he, bel⟩ => ?_
  subst he
  exact ⟨_, rfl, _, _, _, [], _, [], hW', trodAll_mk1 (shut_bool Try.underlying4 _), (trodAll_cons_mk (Below.trod laidOut (by kernel_rfl) (of_decide_eq_true (by kernel_rfl)) k0 bel lt0) (trodAll_cons_mk (Below.trod laidOut (by kernel_rfl) (of_decide_eq_true (by kernel_rfl)) k1 bel lt1) trodAll_mk0)), rfl, bel.frame _, fun h => by cases h⟩

theorem over : Rows.fnSegmentsRow.holds Try.pinned (OpenSpec.ofChange Rows.fnSegmentsSpec) :=
  OpenClaim.holds_of_wide 3 Try.f3 rfl rfl rfl rfl rfl rfl rfl ⟨rfl, rfl, rfl, rfl, rfl⟩ rfl rfl rfl rfl rfl (by kernel_rfl) Try.func3 (by kernel_rfl)
    (of_decide_eq_true (by kernel_rfl)) (by unfold Func.isWrapper; first | (rw [if_pos (by decide +kernel)]; kernel_rfl) | (rw [if_neg (by decide +kernel)]; exact ⟨rfl, rfl⟩))
    (fun os started H enc _ => lifted os started H enc)
end FnSegments

theorem fnSegments_holds : Rows.FnSegmentsSaid := FnSegments.over
end Go.Proofs.Ytjnlghngneonhaa
