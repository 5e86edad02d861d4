/-
  For every hall, every list of picks and every order the law FnExactPathLength answers true: the program's PathLength answers as the specification's and writes into no argument; with no condition.
-/
import Derived.Test.YtghbabflcahhnaaPlE
import Derived.Test.YtghbabflcahhnaaPtF
import Derived.Test.YtghbabflcahhnaaLists
import Derived.Test.YtghbabflcahhnaaBetweenLaw
namespace Go.Proofs.Ytghbabflcahhnaa
open Go.ChangeShapes Go.WideShapes Go.ChangeAt Go.RowKit Go.Joins Go.Deep
set_option linter.unusedVariables false
namespace PathLengthLaw
theorem hlNewL (w : World) (a p g : Int) : HlAt (w.alloc (Obj.cells #[.int .i64 a, .int .i64 p, .int .i64 g] 46)) w.heap.size a p g := ⟨cellNew _ _ _ _ rfl rfl, cellNew _ _ _ _ rfl rfl, cellNew _ _ _ _ rfl rfl⟩
set_option maxHeartbeats 8000000 in
theorem walk' (a p g : Int) (a1 : Option Addr) (c1 : Nat) (rs : List RPt) (a2 : Option Addr) (c2 : Nat) (os : List Int) (hl2 : (os.length : Int) ≤ 1048576) (hm : rs.length ≤ maxLen) (w : World) (hr1 : ReadsPt w.heap.size w a1 rs) (hr2 : Reads w.heap.size w a2 os) :
    Calls Try.prog 6 #[.agg #[.int .i64 a, .int .i64 p, .int .i64 g], .slice a1 rs.length c1, .slice a2 os.length c2] w fun e w' => e = .returned (.bool true) ∧ Below w.heap.size w w' := by
  have HSz : Hid (∀ W, Calls Try.prog 19 #[.slice a1 rs.length c1, .int .i64 1048576] W fun e w' => (∃ y : Int, e = .returned (.int .i64 y) ∧ (y < 0 ∨ (0 ≤ y ∧ y + (rs.length : Int) ≤ 1048576))) ∧ w' = W) := fun W => szPts_any a1 c1 rs hm 1048576 (by omega) (by omega) W
  have HH : Hid (∀ W, Calls Try.prog 17 #[.agg #[.int .i64 a, .int .i64 p, .int .i64 g]] W fun e w' => e = .returned (.agg #[.int .i64 a, .int .i64 p, .int .i64 g]) ∧ Below W.heap.size W w') := fun W => toHall_any a p g W
  have HTp : Hid ((rs.length : Int) ≤ 1048576 → ∀ W, Below w.heap.size w W → Calls Try.prog 21 #[.slice a1 rs.length c1] W fun e w' => e = .returned (.slice (some ⟨W.heap.size, 0, none⟩) rs.length rs.length) ∧ Below W.heap.size W w' ∧ W.heap.size < w'.heap.size ∧ PtsAt w' W.heap.size 0 rs ∧ FreePt w' W.heap.size rs.length) := fun h W hW => toPts_any a1 c1 rs (by omega) W ((hr1.below hW).mono hW.size)
  have HTi : Hid (∀ W, Below w.heap.size w W → Calls Try.prog 22 #[.slice a2 os.length c2] W fun e w' => e = .returned (.slice (some ⟨W.heap.size, 0, none⟩) os.length os.length) ∧ Below W.heap.size W w' ∧ W.heap.size < w'.heap.size ∧ IntsAt w' W.heap.size 0 os ∧ FreeAt w' W.heap.size 0 os.length) := fun W hW => toInts_any a2 c2 os (by omega) W ((hr2.below hW).mono hW.size)
  have HS : Hid ((rs.length : Int) ≤ 1048576 → ∀ x y W, ReadsPt W.heap.size W x rs → Reads W.heap.size W y os → Calls Try.prog 20 #[.agg #[.int .i64 a, .int .i64 p, .int .i64 g], .slice x rs.length rs.length, .slice y os.length os.length] W fun e w' => e = .returned (.tuple #[.int .i64 (plV a p g rs os), .int .i64 (plC a p g rs os)]) ∧ Below W.heap.size W w') := fun h x y W h1 h2 => specPath_any a p g x rs.length rs y os.length os (by omega) (by omega) W h1 h2
  have HI : Hid ((rs.length : Int) ≤ 1048576 → ∀ x y W, ReadsPt W.heap.size W x rs → Reads W.heap.size W y os → Calls Try.prog 11 #[.agg #[.int .i64 a, .int .i64 p, .int .i64 g], .slice x rs.length rs.length, .slice y os.length os.length] W fun e w' => e = .returned (.tuple #[.int .i64 (plV a p g rs os), .int .i64 (plC a p g rs os)]) ∧ Below W.heap.size W w') := fun h x y W h1 h2 => implPath_any a p g x rs.length rs y os.length os (by omega) (by omega) W h1 h2
  have HEp : Hid ((rs.length : Int) ≤ 1048576 → ∀ x y W, ReadsPt W.heap.size W x rs → ReadsPt W.heap.size W y rs → Calls Try.prog 23 #[.slice x rs.length rs.length, .slice y rs.length rs.length] W fun e w' => e = .returned (.bool true) ∧ Below W.heap.size W w') := fun h x y W h1 h2 => eqPts_any x y rs.length rs.length rs (by omega) W h1 h2
  have HEi : Hid (∀ x y W, Reads W.heap.size W x os → Reads W.heap.size W y os → Calls Try.prog 24 #[.slice x os.length os.length, .slice y os.length os.length] W fun e w' => e = .returned (.bool true) ∧ Below W.heap.size W w') := fun x y W h1 h2 => by
    have := eqInts_any W.heap.size x y os.length os.length os os (by omega) (by omega) W h1 h2
    rwa [decide_eq_true rfl] at this
  generalize plV a p g rs os = dd at *
  generalize plC a p g rs os = cc at *
  have hdd : (dd != dd) = false := by simp
  have hcc : (cc != cc) = false := by simp
  have hl2' : ¬ (1048576 : Int) < (os.length : Int) := by omega
  have HN := hlNewL w a p g
  have HN0 : Hid (HlAt (w.alloc (Obj.cells #[.int .i64 a, .int .i64 p, .int .i64 g] 46)) w.heap.size a p g) := HN
  clear hr1 hr2 HN hl2 hm
  go_enter Try.func6, Try.ntmps6
  go_wp2_with fail
  (first | go_at_call 19 | skip)
  refine (HSz.out _).mono ?_
  rintro e w1 ⟨⟨y, rfl, hy⟩, hw1⟩
  have HB1 : Hid (Below w.heap.size w w1) := by rw [hw1]; exact below_alloc _ _
  have HH1 : Hid (HlAt w1 w.heap.size a p g ∧ w.heap.size < w1.heap.size) := by rw [hw1]; exact ⟨HN0.out, by simp⟩
  clear hw1 HN0
  rcases hy with hy | ⟨hy0, hy1⟩
  · go_wp2
    go_ret
    exact ⟨rfl, HB1.out⟩
  have hl1 : (rs.length : Int) ≤ 1048576 := by omega
  have HTp2 := HTp.out hl1
  have HTq : Hid (∀ W, Below w.heap.size w W → Calls Try.prog 21 #[.slice a1 rs.length c1] W fun e w' => e = .returned (.slice (some ⟨W.heap.size, 0, none⟩) rs.length rs.length) ∧ Below W.heap.size W w' ∧ W.heap.size < w'.heap.size ∧ PtsAt w' W.heap.size 0 rs ∧ FreePt w' W.heap.size rs.length) := HTp2
  have HS2 := HS.out hl1
  have HI2 := HI.out hl1
  have HE2 := HEp.out hl1
  have HSq : Hid (∀ x y W, ReadsPt W.heap.size W x rs → Reads W.heap.size W y os → Calls Try.prog 20 #[.agg #[.int .i64 a, .int .i64 p, .int .i64 g], .slice x rs.length rs.length, .slice y os.length os.length] W fun e w' => e = .returned (.tuple #[.int .i64 dd, .int .i64 cc]) ∧ Below W.heap.size W w') := HS2
  have HIq : Hid (∀ x y W, ReadsPt W.heap.size W x rs → Reads W.heap.size W y os → Calls Try.prog 11 #[.agg #[.int .i64 a, .int .i64 p, .int .i64 g], .slice x rs.length rs.length, .slice y os.length os.length] W fun e w' => e = .returned (.tuple #[.int .i64 dd, .int .i64 cc]) ∧ Below W.heap.size W w') := HI2
  have HEq : Hid (∀ x y W, ReadsPt W.heap.size W x rs → ReadsPt W.heap.size W y rs → Calls Try.prog 23 #[.slice x rs.length rs.length, .slice y rs.length rs.length] W fun e w' => e = .returned (.bool true) ∧ Below W.heap.size W w') := HE2
  clear HTp2 HS2 HI2 HE2 HTp HS HI HEp hy1
  obtain ⟨c0, c1', c2'⟩ := HH1.out.1
  go_wp2_with fail
  (first | go_at_call 17 | skip)
  refine (HH.out _).mono ?_
  rintro e w2 ⟨rfl, hb2⟩
  have HB2 : Hid (Below w.heap.size w w2) := chain HB1.out hb2
  have HH2 : Hid (HlAt w2 w.heap.size a p g ∧ w.heap.size < w2.heap.size) := ⟨HH1.out.1.below hb2 HH1.out.2, Nat.lt_of_lt_of_le HH1.out.2 hb2.size⟩
  clear hb2 HH1 HB1 c0 c1' c2'
  go_wp2_with fail
  (first | go_at_call 21 | skip)
  refine (HTq.out _ HB2.out).mono ?_
  rintro e w3 ⟨rfl, hb3, hz3, hp3, _⟩
  have HB3 : Hid (Below w.heap.size w w3) := chain HB2.out hb3
  have HH3 : Hid (HlAt w3 w.heap.size a p g ∧ w.heap.size < w3.heap.size) := ⟨HH2.out.1.below hb3 HH2.out.2, Nat.lt_of_lt_of_le HH2.out.2 hb3.size⟩
  have HP3 : Hid (ReadsPt w3.heap.size w3 (some ⟨w2.heap.size, 0, none⟩) rs) := .inr ⟨_, _, rfl, hz3, hp3⟩
  clear hb3 HH2 HB2 hz3 hp3
  generalize w2.heap.size = q2 at *
  go_wp2_with fail
  (first | go_at_call 22 | skip)
  refine (HTi.out _ HB3.out).mono ?_
  rintro e w4 ⟨rfl, hb4, hz4, hp4, _⟩
  have HB4 : Hid (Below w.heap.size w w4) := chain HB3.out hb4
  have HH4 : Hid (HlAt w4 w.heap.size a p g ∧ w.heap.size < w4.heap.size) := ⟨HH3.out.1.below hb4 HH3.out.2, Nat.lt_of_lt_of_le HH3.out.2 hb4.size⟩
  have HC4 := HSq.out (some ⟨q2, 0, none⟩) (some ⟨w3.heap.size, 0, none⟩) w4 ((HP3.out.below hb4).mono hb4.size) (.inr ⟨_, _, rfl, hz4, hp4⟩)
  clear hb4 HH3 HB3 hz4 hp4 HP3
  generalize w3.heap.size = q3 at *
  go_wp2_with fail
  (first | go_at_call 20 | skip)
  refine HC4.mono ?_
  rintro e w5 ⟨rfl, hb5⟩
  have HB5 : Hid (Below w.heap.size w w5) := chain HB4.out hb5
  have HH5 : Hid (HlAt w5 w.heap.size a p g ∧ w.heap.size < w5.heap.size) := ⟨HH4.out.1.below hb5 HH4.out.2, Nat.lt_of_lt_of_le HH4.out.2 hb5.size⟩
  clear hb5 HC4 HH4 HB4
  go_wp2_with fail
  (first | go_at_call 21 | skip)
  refine (HTq.out _ HB5.out).mono ?_
  rintro e w6 ⟨rfl, hb6, hz6, hp6, _⟩
  have HB6 : Hid (Below w.heap.size w w6) := chain HB5.out hb6
  have HH6 : Hid (HlAt w6 w.heap.size a p g ∧ w.heap.size < w6.heap.size) := ⟨HH5.out.1.below hb6 HH5.out.2, Nat.lt_of_lt_of_le HH5.out.2 hb6.size⟩
  have HP6 : Hid (ReadsPt w6.heap.size w6 (some ⟨w5.heap.size, 0, none⟩) rs) := .inr ⟨_, _, rfl, hz6, hp6⟩
  clear hb6 HH5 HB5 hz6 hp6
  generalize w5.heap.size = q5 at *
  go_wp2_with fail
  (first | go_at_call 22 | skip)
  refine (HTi.out _ HB6.out).mono ?_
  rintro e w7 ⟨rfl, hb7, hz7, hp7, _⟩
  have HB7 : Hid (Below w.heap.size w w7) := chain HB6.out hb7
  have HH7 : Hid (HlAt w7 w.heap.size a p g ∧ w.heap.size < w7.heap.size) := ⟨HH6.out.1.below hb7 HH6.out.2, Nat.lt_of_lt_of_le HH6.out.2 hb7.size⟩
  have HP7 : Hid (ReadsPt w7.heap.size w7 (some ⟨q5, 0, none⟩) rs) := (HP6.out.below hb7).mono hb7.size
  have HO7 : Hid (Reads w7.heap.size w7 (some ⟨w6.heap.size, 0, none⟩) os) := .inr ⟨_, _, rfl, hz7, hp7⟩
  obtain ⟨c0, c1', c2'⟩ := HH7.out.1
  clear hb7 HH6 HB6 hz7 hp7 HP6
  generalize w6.heap.size = q6 at *
  go_wp2_with fail
  (first | go_at_call 17 | skip)
  refine (HH.out _).mono ?_
  rintro e w8 ⟨rfl, hb8⟩
  have HB8 : Hid (Below w.heap.size w w8) := chain HB7.out hb8
  have HP8 : Hid (ReadsPt w8.heap.size w8 (some ⟨q5, 0, none⟩) rs) := (HP7.out.below hb8).mono hb8.size
  have HO8 : Hid (Reads w8.heap.size w8 (some ⟨q6, 0, none⟩) os) := (HO7.out.below hb8).mono hb8.size
  clear hb8 HH7 HB7 c0 c1' c2' HP7 HO7
  have HC8 := HIq.out (some ⟨q5, 0, none⟩) (some ⟨q6, 0, none⟩) w8 HP8.out HO8.out
  go_wp2_with fail
  (first | go_at_call 11 | skip)
  refine HC8.mono ?_
  rintro e w9 ⟨rfl, hb9⟩
  have HB9 : Hid (Below w.heap.size w w9) := chain HB8.out hb9
  have HP9 : Hid (ReadsPt w9.heap.size w9 (some ⟨q5, 0, none⟩) rs) := (HP8.out.below hb9).mono hb9.size
  have HO9 : Hid (Reads w9.heap.size w9 (some ⟨q6, 0, none⟩) os) := (HO8.out.below hb9).mono hb9.size
  clear hb9 HB8 HP8 HO8 HC8
  go_wp2_with fail
  (first | go_at_call 21 | skip)
  refine (HTq.out _ HB9.out).mono ?_
  rintro e wa ⟨rfl, hba, hza, hpa, _⟩
  have HBa : Hid (Below w.heap.size w wa) := chain HB9.out hba
  have HOa : Hid (Reads wa.heap.size wa (some ⟨q6, 0, none⟩) os) := (HO9.out.below hba).mono hba.size
  have HCa := HEq.out (some ⟨q5, 0, none⟩) (some ⟨w9.heap.size, 0, none⟩) wa ((HP9.out.below hba).mono hba.size) (.inr ⟨_, _, rfl, hza, hpa⟩)
  clear hba HB9 HP9 HO9 hza hpa
  go_wp2_with fail
  (first | go_at_call 23 | skip)
  refine HCa.mono ?_
  rintro e wb ⟨rfl, hbb⟩
  have HBb : Hid (Below w.heap.size w wb) := chain HBa.out hbb
  have HOb : Hid (Reads wb.heap.size wb (some ⟨q6, 0, none⟩) os) := (HOa.out.below hbb).mono hbb.size
  clear hbb HBa HOa HCa
  go_wp2_with fail
  (first | go_at_call 22 | skip)
  refine (HTi.out _ HBb.out).mono ?_
  rintro e wc ⟨rfl, hbc, hzc, hpc, _⟩
  have HBc : Hid (Below w.heap.size w wc) := chain HBb.out hbc
  have HCc := HEi.out (some ⟨q6, 0, none⟩) (some ⟨wb.heap.size, 0, none⟩) wc ((HOb.out.below hbc).mono hbc.size) (.inr ⟨_, _, rfl, hzc, hpc⟩)
  clear hbc HBb HOb hzc hpc
  go_wp2_with fail
  (first | go_at_call 24 | skip)
  refine HCc.mono ?_
  rintro e wd ⟨rfl, hbd⟩
  go_wp2
  go_ret
  exact ⟨rfl, chain HBc.out hbd⟩
theorem walk (a : Int) (_ : (Lit.int .i64 a).wf = true) (p : Int) (_ : (Lit.int .i64 p).wf = true) (g : Int) (_ : (Lit.int .i64 g).wf = true) (a1 : Option Addr) (l1 c1 : Nat) (rs : List RPt) (a2 : Option Addr) (l2 c2 : Nat) (zs : List Int) (w : World) (h1 : IsPts w a1 l1 c1 rs) (h2 : IsRow .i64 w a2 l2 c2 zs) :
    Calls Try.prog 6 #[.agg #[.int .i64 a, .int .i64 p, .int .i64 g], .slice a1 l1 c1, .slice a2 l2 c2] w fun e w' => e = .returned (.bool true) ∧ Below w.heap.size w w' := by
  obtain ⟨rfl, k2, k3, _, k4⟩ := h1
  obtain ⟨r1, r2, r3, r4⟩ := reads_of_row h2
  by_cases g2 : (1048576 : Int) < (l2 : Int)
  · clear h2 r4 r1 k4
    go_enter Try.func6, Try.ntmps6
    go_wp2
    go_ret
    exact ⟨rfl, below_alloc _ _⟩
  · have := walk' a p g a1 c1 rs a2 c2 (zs.take l2) (by omega) (by omega) w k4 r4
    rwa [r1] at this

theorem own : ownKnob Try.prog.godebug = none := by kernel_rfl
theorem laidOut : laidOutB Try.prog = true := by kernel_rfl

set_option maxRecDepth 100000 in
theorem lifted (os : Os) (started : os.Started) (H : Type) (enc : TypeId × Value → H) :
    ReturnsInHanded {} Try.checked os 6 .any (Rows.fnExactPathLengthSpec.pre6 enc Try.prog Try.f6 Rows.fnExactPathLengthRow.domain false) (Rows.fnExactPathLengthSpec.post enc Try.prog Try.f6 false true false false) := by
  refine returnsInHanded_of_change (C := Try.checked) own started (by kernel_rfl) Try.func6
    (ChangeSpec.witness6 (enc := enc) (C := Try.checked) false ⟨#[], #[.agg #[.int .i64 0, .int .i64 0, .int .i64 0], .slice none 0 0, .slice none 0 0], []⟩ 8 (by kernel_rfl) (by kernel_rfl) (by kernel_rfl) (by kernel_rfl)) ?_
  intro W base args ds gs before hval0 hW hcnd _
  have hval : ∀ (j : Nat) t v, Try.f6.params[j]? = some t → args[j]? = some v → Value.okWide Try.prog W .any base t v := hval0
  have hW' := hW
  obtain ⟨p, q, hA0, hV, rfl, hfz, hnd⟩ := hW
  have hA : DataW.TrodAll enc Try.prog W 0 (fun _ => true) true Try.f6.params.toList args.toList ds p := hA0
  rw [Try.params6] at hA hval
  obtain ⟨v0, vs0, d0, ds0, p0, q0, hargs, rfl, rfl, h0, r0⟩ := trodAll_cons hA
  obtain ⟨v1, vs1, d1, ds1, p1, q1, rfl, rfl, rfl, h1, r1⟩ := trodAll_cons r0
  obtain ⟨v2, vs2, d2, ds2, p2, q2, rfl, rfl, rfl, h2, r2⟩ := trodAll_cons r1
  obtain ⟨rfl, rfl, rfl⟩ := trodAll_nil r2
  obtain rfl : args = #[v0, v1, v2] := by cases args; simp_all
  obtain ⟨rfl, rfl⟩ := trodVars_none hV
  have k0 := h0
  have lt0 : ∀ x ∈ p0, x.block < W.heap.size := by obtain ⟨m, hm⟩ := k0; exact DataW.trod_lt m _ _ _ hm
  have k1 := h1
  have lt1 : ∀ x ∈ p1, x.block < W.heap.size := by obtain ⟨m, hm⟩ := k1; exact DataW.trod_lt m _ _ _ hm
  have k2 := h2
  have lt2 : ∀ x ∈ p2, x.block < W.heap.size := by obtain ⟨m, hm⟩ := k2; exact DataW.trod_lt m _ _ _ hm
  obtain ⟨c0_0, c0_1, c0_2, y0_0, y0_1, y0_2, m0, rfl, rfl, rfl, hy0_0, hy0_1, hy0_2⟩ := open_agg3 Try.underlying46 (by kernel_rfl) (by kernel_rfl) (hval 0 46 v0 rfl rfl) h0
  obtain ⟨a0_0, ea0_0, rfl, wa0_0⟩ := DataW.trod_int Try.underlying3 hy0_0
  simp at ea0_0
  subst ea0_0
  obtain ⟨a0_1, ea0_1, rfl, wa0_1⟩ := DataW.trod_int Try.underlying3 hy0_1
  simp at ea0_1
  subst ea0_1
  obtain ⟨a0_2, ea0_2, rfl, wa0_2⟩ := DataW.trod_int Try.underlying3 hy0_2
  simp at ea0_2
  subst ea0_2
  obtain ⟨a1, len1, cap1, rfl⟩ := okWide_slice Try.underlying51 (hval 1 51 v1 rfl rfl)
  obtain ⟨z1, w1⟩ : ∃ zs, IsPts W a1 len1 cap1 zs := by
    obtain ⟨fuel, hf⟩ := h1
    exact openPts (by simpa [Value.cells] using hf)
  obtain ⟨a2, len2, cap2, rfl⟩ := okWide_slice Try.underlying26 (hval 2 26 v2 rfl rfl)
  obtain ⟨z2, w2⟩ : ∃ zs, IsRow .i64 W a2 len2 cap2 zs := by
    obtain ⟨fuel, hf⟩ := h2
    rcases open_ints Try.underlying26 Try.underlying3 (by kernel_rfl) hf with ⟨hcs, _⟩ | ⟨x, l, c, zs, hcs, _, hl, hm, hz, _, hcell, hwz⟩
    · simp [Value.cells] at hcs
      obtain ⟨rfl, rfl, rfl⟩ := hcs
      exact ⟨[], .inl ⟨rfl, rfl, rfl, rfl⟩⟩
    · simp [Value.cells] at hcs
      obtain ⟨rfl, rfl, rfl⟩ := hcs
      exact ⟨zs, .inr ⟨_, rfl, hl, hm, by simpa using hz, hcell, hwz⟩⟩
  clear hA0 hval0
  refine (walk a0_0 wa0_0 a0_1 wa0_1 a0_2 wa0_2 a1 len1 cap1 z1 a2 len2 cap2 z2 W w1 w2).mono fun e W' ⟨he, bel⟩ => ?_
  subst he
  exact ⟨_, rfl, _, _, _, [], _, [], hW', trodAll_mk1 (shut_bool Try.underlying4 _), (trodAll_cons_mk (Below.trod laidOut (by kernel_rfl) (of_decide_eq_true (by kernel_rfl)) k0 bel lt0) (trodAll_cons_mk (Below.trod laidOut (by kernel_rfl) (of_decide_eq_true (by kernel_rfl)) k1 bel lt1) (trodAll_cons_mk (Below.trod laidOut (by kernel_rfl) (of_decide_eq_true (by kernel_rfl)) k2 bel lt2) trodAll_mk0))), rfl, bel.frame _, fun h => by cases h⟩

theorem over : Rows.fnExactPathLengthRow.holds Try.pinned (OpenSpec.ofChange Rows.fnExactPathLengthSpec) :=
  OpenClaim.holds_of_wide 6 Try.f6 rfl rfl rfl rfl rfl rfl rfl ⟨rfl, rfl, rfl, rfl, rfl⟩ rfl rfl rfl rfl rfl (by kernel_rfl) Try.func6 (by kernel_rfl)
    (of_decide_eq_true (by kernel_rfl)) (by unfold Func.isWrapper; first | (rw [if_pos (by decide +kernel)]; kernel_rfl) | (rw [if_neg (by decide +kernel)]; exact ⟨rfl, rfl⟩))
    (fun os started H enc _ => lifted os started H enc)
end PathLengthLaw

theorem fnExactPathLength_holds : Rows.FnExactPathLengthSaid := PathLengthLaw.over
end Go.Proofs.Ytghbabflcahhnaa
