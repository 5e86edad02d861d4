/-
  Contract of the program's Hidden.
-/
import Derived.Test.YthkmgccmeoigpaaRhD
namespace Go.Proofs.Ythkmgccmeoigpaa
open Go.ChangeShapes Go.WideShapes Go.ChangeAt Go.RowKit Go.Deep
set_option linter.unusedVariables false

set_option maxHeartbeats 16000000 in
set_option maxRecDepth 8000 in
theorem implHidden_any (a : Option Addr) (cap : Nat) (rs : List CCl) (hl : rs.length ≤ 1048576) (hp : ∀ r ∈ rs, ClOK r) (w : World) (hr : ReadsCl w.heap.size w a rs) :
    Calls Try.prog 11 #[.slice a rs.length cap] w fun e w' => ∃ g cp, e = .returned (.tuple #[.slice g (hidL rs).length cp, .int .i64 (fltC rs)]) ∧ Own2 w.heap.size w' g (hidL rs) ∧ Below w.heap.size w w' := by
  have HR : Hid (ReadsCl w.heap.size w a rs) := hr
  have hC := clausesFault_any a cap rs (by omega) hp w hr
  have HOK : Hid (fltC rs = 0 → ∀ r ∈ rs, r.ts.all tmB = true ∧ r.ts.length ≤ 100000000) := fun h r hr => by
    rcases fltC_ways rs with ⟨_, e⟩ | ⟨_, _, e⟩ | ⟨_, e, _⟩
    · omega
    · omega
    · exact ⟨clOne_terms (clAll_mem e r hr), by have := (hp r hr).2; omega⟩
  clear hr hp
  obtain ⟨i0, hi, hzz⟩ := Option.map_eq_some_iff.1 intInfo1
  simp only [Prod.mk.injEq] at hzz
  obtain ⟨hi0, hi1, hi2⟩ := hzz
  obtain ⟨j0, hj, hzy⟩ := Option.map_eq_some_iff.1 rmInfo12
  simp only [Prod.mk.injEq] at hzy
  obtain ⟨hj0, hj1, hj2⟩ := hzy
  by_cases hf : fltC rs = 0
  · have hL : hidL rs = hidN rs rs.length := if_pos hf
    rw [hf] at hC ⊢
    rw [hL]
    have HOK2 : Hid _ := HOK.out hf
    clear HOK hL
    go_enter Try.func11, Try.ntmps11
    go_wp2_with (go_at_call 33; refine hC.mono ?_; rintro e w1 ⟨rfl, hb1⟩; have HB1 : Hid (Below w.heap.size w w1) := hb1; clear hb1)
    go_loopw [5, 6, 7, 8, 9, 17] (fun hv av _ _ _ c wr => ∃ k : Nat, k ≤ rs.length ∧ c = .int .i64 (k : Int) ∧ Two w hv (hidN rs k) av (aheadL rs k) wr) (fun _ _ _ _ _ c _ => rs.length - (intOf c).toNat)
    case atStart => exact ⟨0, Nat.zero_le _, rfl, Two.start w w1 HB1.out⟩
    case round =>
      obtain ⟨k, hk, rfl, hT⟩ := hrel
      have HT : Hid _ := hT
      have HB : Hid (Below w.heap.size w wr) := hT.below
      clear hT HB1
      by_cases hlt : k < rs.length
      · have hlt' : (k : Int) < (rs.length : Int) := by omega
        rcases HR.out with h | ⟨b0, o0, ha, hB0, ia⟩
        · rw [h] at hlt; simp at hlt
        obtain ⟨h, cp, ⟨c0, c1, c2, c3⟩, hcp, hS⟩ := (ia.below HB.out hB0 (Nat.le_refl _)) k hlt
        have hq := getCl HOK2.out hlt
        have HRo : Hid (∀ W, Below wr.heap.size wr W → Calls Try.prog 29 #[.slice h (rs.getD k zCl).ts.length cp] W fun e w' => e = .returned (.agg (rowI (rm (rs.getD k zCl).ts))) ∧ Below W.heap.size W w') := fun W hW => roomOf_any h cp _ hq.1 hq.2 W ((hS.mono HB.out.size).later hW)
        have HEm : Hid (∀ W, Calls Try.prog 30 #[.agg (rowI (rm (rs.getD k zCl).ts))] W fun e w' => e = .returned (.bool (emptyL (rm (rs.getD k zCl).ts))) ∧ Below W.heap.size W w') := fun W => roomEmpty_any _ rfl W
        have HCo : Hid (∀ (W : World) (fb : Nat) (ga : Option Addr) (ca : Nat), RoomAt W fb (rm (rs.getD k zCl).ts) → ReadsRm W.heap.size W ga (aheadL rs k) → Calls Try.prog 40 #[.slice ga (aheadL rs k).length ca, .func (.func 41) #[] #[.pointer (some ⟨fb, 0, none⟩)]] W fun e w' => e = .returned (.bool (covAny (aheadL rs k) (rm (rs.getD k zCl).ts))) ∧ Below W.heap.size W w') := fun W fb ga ca h1 h2 => rmContains_any ga ca _ (aheadL_12 rs k) (by rw [aheadL_len rs k hk]; omega) _ rfl fb W h2 h1
        have HHB : Hid (hidB rs k = (emptyL (rm (rs.getD k zCl).ts) || covAny (aheadL rs k) (rm (rs.getD k zCl).ts))) := rfl
        have HNx : Hid (aheadL rs k ++ [rm (rs.getD k zCl).ts] = aheadL rs (k + 1)) := aheadL_next rs k hlt
        have HAl : Hid ((aheadL rs k).length = k) := aheadL_len rs k hk
        have HHl : Hid ((hidN rs k).length ≤ k) := hidN_len rs k
        have HA12 : Hid (∀ L ∈ aheadL rs k, L.length = 12) := aheadL_12 rs k
        obtain ⟨gh, ch, rfl⟩ := row_value HT.out.1.1
        obtain ⟨ga, ca, rfl⟩ := row_value HT.out.2.1.1
        rw [ha]
        clear ia hS hcp hq
        generalize emptyL (rm (rs.getD k zCl).ts) = eb at *
        generalize covAny (aheadL rs k) (rm (rs.getD k zCl).ts) = cb at *
        obtain ⟨a0, a1, a2, a3, a4, a5, a6, a7, a8, a9, a10, a11, hM⟩ := list12 (rm (rs.getD k zCl).ts) rfl
        rw [hM] at HRo HEm HCo HNx
        rw [rowI12] at HRo HEm
        clear hM
        generalize rs.getD k zCl = q at *
        obtain ⟨nm, ts, ac, nu⟩ := q
        dsimp only at c0 c1 c2 c3 HRo
        generalize ts.length = n at *
        generalize hhl : hidN rs k = Lh at *
        have HLh : Hid (hidN rs k = Lh) := hhl
        clear hhl
        generalize aheadL rs k = La at *
        go_wp2_with fail
        (first | go_at_call 29 | skip)
        refine (HRo.out _ (below_alloc _ _)).mono ?_
        rintro e w2 ⟨rfl, hb2⟩
        have hb2 := chain (below_alloc _ _) hb2
        have HNe : Hid (∀ q, (Value.slice gh Lh.length ch).ownBlock = some q → q < w2.heap.size) := fun q hq => Nat.lt_of_lt_of_le (HT.out.1.1.lt q hq).2 hb2.size
        have HTw2 : Hid (Two w (.slice gh Lh.length ch) Lh (.slice ga La.length ca) La w2) := Two.later HT.out hb2
        clear hb2 HT HRo c0 c1 c2 c3
        cases eb
        · cases cb
          · go_wp2_with fail
            (first | go_at_call 30 | skip)
            refine (HEm.out _).mono ?_
            rintro e w3 ⟨rfl, hb3⟩
            have HRw3 : Hid (RoomAt w3 w2.heap.size [a0, a1, a2, a3, a4, a5, a6, a7, a8, a9, a10, a11]) := RoomAt.later (RoomAt.new w2 [a0, a1, a2, a3, a4, a5, a6, a7, a8, a9, a10, a11]) hb3
            have HTw3 : Hid (Two w (.slice gh Lh.length ch) Lh (.slice ga La.length ca) La w3) := HTw2.out.later (chain (below_alloc _ _) hb3)
            clear hb3 HTw2
            obtain ⟨d0, d1, d2, d3, d4, d5, d6, d7, d8, d9, d10, d11⟩ := room_cells HRw3.out
            go_wp2_with fail
            (first | go_at_call 40 | skip)
            refine (HCo.out w3 w2.heap.size ga ca HRw3.out (HTw3.out.2.1.reads rfl HA12.out)).mono ?_
            rintro e w4 ⟨rfl, hb4⟩
            have HRw4 : Hid (RoomAt w4 w2.heap.size [a0, a1, a2, a3, a4, a5, a6, a7, a8, a9, a10, a11]) := HRw3.out.later hb4
            have HTw4 : Hid (Two w (.slice gh Lh.length ch) Lh (.slice ga La.length ca) La w4) := HTw3.out.later hb4
            clear hb4 d0 d1 d2 d3 d4 d5 d6 d7 d8 d9 d10 d11
            obtain ⟨d0, d1, d2, d3, d4, d5, d6, d7, d8, d9, d10, d11⟩ := room_cells HRw4.out
            go_wp2_with (first | (at_builtin; have _t := HTw4; refine wpList_append_lies _ rfl _ _ 75 rfl w.heap.size 64 j0 (.agg (rowI zr)) 12 96 Try.underlying75 hj hj0 hj1 hj2 rfl (by decide) _ _ _ rfl (HTw4.out.later (below_alloc _ _)).2.1.1 ⟨w4.heap.size, 0, none⟩ 1 1 [.int .i64 a0, .int .i64 a1, .int .i64 a2, .int .i64 a3, .int .i64 a4, .int .i64 a5, .int .i64 a6, .int .i64 a7, .int .i64 a8, .int .i64 a9, .int .i64 a10, .int .i64 a11] rfl rfl (World.news_of_block (heapNew w4 _)) (by simp [Value.oneCell']) (by omega) (by unfold maxLen; have := HAl.out; omega) (by have := HAl.out; omega) (HTw4.out.later (below_alloc _ _)).2.1.2.1 _ rfl ?_; intro g2 cp2 w6 hown2 hgrow2 hat2 hglt2; have HT6 := (HTw4.out.later (below_alloc _ _)).pushA (M := [a0, a1, a2, a3, a4, a5, a6, a7, a8, a9, a10, a11]) hown2 hgrow2 hat2; have HTw6 : Hid _ := HT6; clear hown2 hgrow2 hat2 hglt2 d0 d1 d2 d3 d4 d5 d6 d7 d8 d9 d10 d11 HT6))
            exact ⟨⟨k + 1, by omega, by go_num, by rw [hidN_no (k := k) (by rw [HHB.out]; rfl), HLh.out, ← HNx.out]; exact HTw6.out⟩, by simp [intOf]; omega⟩
          · go_wp2_with fail
            (first | go_at_call 30 | skip)
            refine (HEm.out _).mono ?_
            rintro e w3 ⟨rfl, hb3⟩
            have HRw3 : Hid (RoomAt w3 w2.heap.size [a0, a1, a2, a3, a4, a5, a6, a7, a8, a9, a10, a11]) := RoomAt.later (RoomAt.new w2 [a0, a1, a2, a3, a4, a5, a6, a7, a8, a9, a10, a11]) hb3
            have HTw3 : Hid (Two w (.slice gh Lh.length ch) Lh (.slice ga La.length ca) La w3) := HTw2.out.later (chain (below_alloc _ _) hb3)
            clear hb3 HTw2
            obtain ⟨d0, d1, d2, d3, d4, d5, d6, d7, d8, d9, d10, d11⟩ := room_cells HRw3.out
            go_wp2_with fail
            (first | go_at_call 40 | skip)
            refine (HCo.out w3 w2.heap.size ga ca HRw3.out (HTw3.out.2.1.reads rfl HA12.out)).mono ?_
            rintro e w4 ⟨rfl, hb4⟩
            have HRw4 : Hid (RoomAt w4 w2.heap.size [a0, a1, a2, a3, a4, a5, a6, a7, a8, a9, a10, a11]) := HRw3.out.later hb4
            have HTw4 : Hid (Two w (.slice gh Lh.length ch) Lh (.slice ga La.length ca) La w4) := HTw3.out.later hb4
            clear hb4 d0 d1 d2 d3 d4 d5 d6 d7 d8 d9 d10 d11
            obtain ⟨d0, d1, d2, d3, d4, d5, d6, d7, d8, d9, d10, d11⟩ := room_cells HRw4.out
            go_wp2_with (first | (at_builtin; have _t := HTw5; refine wpList_append_lies _ rfl _ _ 75 rfl w.heap.size 64 j0 (.agg (rowI zr)) 12 96 Try.underlying75 hj hj0 hj1 hj2 rfl (by decide) _ _ _ rfl (HTw5.out.later (below_alloc _ _)).2.1.1 ⟨w5.heap.size, 0, none⟩ 1 1 [.int .i64 a0, .int .i64 a1, .int .i64 a2, .int .i64 a3, .int .i64 a4, .int .i64 a5, .int .i64 a6, .int .i64 a7, .int .i64 a8, .int .i64 a9, .int .i64 a10, .int .i64 a11] rfl rfl (World.news_of_block (heapNew w5 _)) (by simp [Value.oneCell']) (by omega) (by unfold maxLen; have := HAl.out; omega) (by have := HAl.out; omega) (HTw5.out.later (below_alloc _ _)).2.1.2.1 _ rfl ?_; intro g2 cp2 w6 hown2 hgrow2 hat2 hglt2; have HT6 := (HTw5.out.later (below_alloc _ _)).pushA (M := [a0, a1, a2, a3, a4, a5, a6, a7, a8, a9, a10, a11]) hown2 hgrow2 hat2; have HTw6 : Hid _ := HT6; clear hown2 hgrow2 hat2 hglt2 d0 d1 d2 d3 d4 d5 d6 d7 d8 d9 d10 d11 HT6) | (at_builtin; refine wpList_append_lies _ rfl _ _ 29 rfl w.heap.size 3 i0 (.int .i64 0) 1 8 Try.underlying29 hi hi0 hi1 hi2 rfl (by decide) _ _ _ rfl (HTw4.out.later (below_alloc _ _)).1.1 ⟨w4.heap.size, 0, none⟩ 1 1 [.int .i64 (k : Int)] rfl rfl (newsOne w4 _ _) (by intro u hu; simp at hu; subst hu; rfl) (by omega) (by unfold maxLen; have := HHl.out; omega) (by have := HHl.out; omega) (HTw4.out.later (below_alloc _ _)).1.2.1 _ rfl ?_; intro g1 cp1 w5 hown1 hgrow1 hat1 hglt1; have HTw5 : Hid (Two w (.slice (some ⟨g1, 0, none⟩) (Lh.length + 1) cp1) (Lh ++ [(k : Int)]) (.slice ga La.length ca) La w5) := (HTw4.out.later (below_alloc _ _)).pushH hown1 hgrow1 hat1; have HRw5 : Hid (RoomAt w5 w2.heap.size [a0, a1, a2, a3, a4, a5, a6, a7, a8, a9, a10, a11]) := (hgrow1.block w2.heap.size (HRw4.out.later (below_alloc _ _)).lt (fun e => by have := HNe.out _ e.symm; omega)).trans (HRw4.out.later (below_alloc _ _)); clear hown1 hgrow1 hat1 hglt1 d0 d1 d2 d3 d4 d5 d6 d7 d8 d9 d10 d11; obtain ⟨d0, d1, d2, d3, d4, d5, d6, d7, d8, d9, d10, d11⟩ := room_cells HRw5.out))
            exact ⟨⟨k + 1, by omega, by go_num, by rw [hidN_yes (k := k) (by rw [HHB.out]; rfl), HLh.out, ← HNx.out]; exact HTw6.out⟩, by simp [intOf]; omega⟩
        · go_wp2_with fail
          (first | go_at_call 30 | skip)
          refine (HEm.out _).mono ?_
          rintro e w3 ⟨rfl, hb3⟩
          have HRw3 : Hid (RoomAt w3 w2.heap.size [a0, a1, a2, a3, a4, a5, a6, a7, a8, a9, a10, a11]) := RoomAt.later (RoomAt.new w2 [a0, a1, a2, a3, a4, a5, a6, a7, a8, a9, a10, a11]) hb3
          have HTw3 : Hid (Two w (.slice gh Lh.length ch) Lh (.slice ga La.length ca) La w3) := HTw2.out.later (chain (below_alloc _ _) hb3)
          clear hb3 HTw2
          obtain ⟨d0, d1, d2, d3, d4, d5, d6, d7, d8, d9, d10, d11⟩ := room_cells HRw3.out
          go_wp2_with (first | (at_builtin; have _t := HTw5; refine wpList_append_lies _ rfl _ _ 75 rfl w.heap.size 64 j0 (.agg (rowI zr)) 12 96 Try.underlying75 hj hj0 hj1 hj2 rfl (by decide) _ _ _ rfl (HTw5.out.later (below_alloc _ _)).2.1.1 ⟨w5.heap.size, 0, none⟩ 1 1 [.int .i64 a0, .int .i64 a1, .int .i64 a2, .int .i64 a3, .int .i64 a4, .int .i64 a5, .int .i64 a6, .int .i64 a7, .int .i64 a8, .int .i64 a9, .int .i64 a10, .int .i64 a11] rfl rfl (World.news_of_block (heapNew w5 _)) (by simp [Value.oneCell']) (by omega) (by unfold maxLen; have := HAl.out; omega) (by have := HAl.out; omega) (HTw5.out.later (below_alloc _ _)).2.1.2.1 _ rfl ?_; intro g2 cp2 w6 hown2 hgrow2 hat2 hglt2; have HT6 := (HTw5.out.later (below_alloc _ _)).pushA (M := [a0, a1, a2, a3, a4, a5, a6, a7, a8, a9, a10, a11]) hown2 hgrow2 hat2; have HTw6 : Hid _ := HT6; clear hown2 hgrow2 hat2 hglt2 d0 d1 d2 d3 d4 d5 d6 d7 d8 d9 d10 d11 HT6) | (at_builtin; refine wpList_append_lies _ rfl _ _ 29 rfl w.heap.size 3 i0 (.int .i64 0) 1 8 Try.underlying29 hi hi0 hi1 hi2 rfl (by decide) _ _ _ rfl (HTw3.out.later (below_alloc _ _)).1.1 ⟨w3.heap.size, 0, none⟩ 1 1 [.int .i64 (k : Int)] rfl rfl (newsOne w3 _ _) (by intro u hu; simp at hu; subst hu; rfl) (by omega) (by unfold maxLen; have := HHl.out; omega) (by have := HHl.out; omega) (HTw3.out.later (below_alloc _ _)).1.2.1 _ rfl ?_; intro g1 cp1 w5 hown1 hgrow1 hat1 hglt1; have HTw5 : Hid (Two w (.slice (some ⟨g1, 0, none⟩) (Lh.length + 1) cp1) (Lh ++ [(k : Int)]) (.slice ga La.length ca) La w5) := (HTw3.out.later (below_alloc _ _)).pushH hown1 hgrow1 hat1; have HRw5 : Hid (RoomAt w5 w2.heap.size [a0, a1, a2, a3, a4, a5, a6, a7, a8, a9, a10, a11]) := (hgrow1.block w2.heap.size (HRw3.out.later (below_alloc _ _)).lt (fun e => by have := HNe.out _ e.symm; omega)).trans (HRw3.out.later (below_alloc _ _)); clear hown1 hgrow1 hat1 hglt1 d0 d1 d2 d3 d4 d5 d6 d7 d8 d9 d10 d11; obtain ⟨d0, d1, d2, d3, d4, d5, d6, d7, d8, d9, d10, d11⟩ := room_cells HRw5.out))
          exact ⟨⟨k + 1, by omega, by go_num, by rw [hidN_yes (k := k) (by rw [HHB.out]; rfl), HLh.out, ← HNx.out]; exact HTw6.out⟩, by simp [intOf]; omega⟩
      · have hle : (rs.length : Int) ≤ (k : Int) := by omega
        obtain rfl : k = rs.length := by omega
        obtain ⟨gh, ch, rfl⟩ := row_value HT.out.1.1
        go_wp2
        go_ret2
        exact ⟨gh, ch, rfl, HT.out.1.own2 rfl, HB.out⟩
  · have hL : hidL rs = [] := if_neg hf
    rw [hL]
    rcases fltC_ways rs with ⟨_, e⟩ | ⟨_, _, e⟩ | ⟨_, _, e⟩
    · rw [e] at hC ⊢
      go_enter Try.func11, Try.ntmps11
      go_wp2_with (go_at_call 33; refine hC.mono ?_; rintro e w1 ⟨rfl, hb1⟩)
      go_ret2
      exact ⟨none, 0, rfl, .inl rfl, hb1⟩
    · rw [e] at hC ⊢
      go_enter Try.func11, Try.ntmps11
      go_wp2_with (go_at_call 33; refine hC.mono ?_; rintro e w1 ⟨rfl, hb1⟩)
      go_ret2
      exact ⟨none, 0, rfl, .inl rfl, hb1⟩
    · exact absurd e hf
end Go.Proofs.Ythkmgccmeoigpaa
