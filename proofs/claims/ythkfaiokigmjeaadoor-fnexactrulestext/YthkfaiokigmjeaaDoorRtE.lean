/-
  Contracts of RulesText, the specification's and the program's.
-/
import Derived.Test.YthkfaiokigmjeaaDoorRtD
namespace Go.Proofs.YthkfaiokigmjeaaDoor
open Go.ChangeShapes Go.WideShapes Go.ChangeAt Go.RowKit Go.Deep
set_option linter.unusedVariables false

theorem ba_eq {a : ByteArray} {l : List UInt8} (h : bl a = l) : Value.string a = .string ⟨l.toArray⟩ := by rw [ba_of h]
set_option maxHeartbeats 8000000 in
set_option maxRecDepth 4000 in
theorem specRules_any (a : Option Addr) (cap : Nat) (rs : List CCl) (hcap : rs.length ≤ cap) (hl : rs.length ≤ 1048576) (hp : ∀ r ∈ rs, ClOK r) (w : World) (hr : ReadsCl w.heap.size w a rs) :
    Calls Tryd.prog 5 #[.slice a rs.length cap] w fun e w' => e = .returned (.tuple #[.string ⟨(rtS rs).toArray⟩, .int .i64 (fltC rs)]) ∧ Below w.heap.size w w' := by
  have HR : Hid (ReadsCl w.heap.size w a rs) := hr
  have hC := specClauses_any a cap rs hcap (by omega) hp w hr
  clear hr hp
  rcases fltC_ways rs with ⟨g1, e⟩ | ⟨g1, g2, e⟩ | ⟨g1, g2, e⟩
  · have hb : clAll rs = false := by unfold clAll; rw [if_pos (by omega)]
    rw [rtS_bad hb, e]
    go_enter Tryd.func5, Tryd.ntmps5
    go_wp2
    go_ret2
    exact ⟨rfl, Below.refl _ _⟩
  · rw [rtS_bad g2, e]
    rw [g2] at hC
    go_enter Tryd.func5, Tryd.ntmps5
    go_wp2_with (go_at_call 10; refine hC.mono ?_; rintro e w1 ⟨rfl, hb1⟩)
    go_ret2
    exact ⟨rfl, hb1⟩
  · rw [rtS_ok g2, e]
    have HOne : Hid (∀ r ∈ rs, clOne r = true) := clAll_mem g2
    have hn40 : rs.length ≤ 40 := by
      unfold clAll at g2
      split at g2
      · cases g2
      · omega
    have HLen : Hid (∀ k, k ≤ rs.length → (textL rs k).length ≤ 1100000000 * k) := text_len HOne.out
    rw [g2] at hC
    clear g2
    go_enter Tryd.func5, Tryd.ntmps5
    go_wp2_with (go_at_call 10; refine hC.mono ?_; rintro e w1 ⟨rfl, hb1⟩; have HB1 : Hid (Below w.heap.size w w1) := hb1; clear hb1)
    go_loopw [4, 5] (fun v i wr => ∃ (k : Nat) (s : ByteArray), k ≤ rs.length ∧ i = .int .i64 (k : Int) ∧ v = .string s ∧ bl s = textL rs k ∧ Below w.heap.size w wr) (fun _ i _ => rs.length - (intOf i).toNat)
    case atStart => exact ⟨0, _, Nat.zero_le _, rfl, rfl, rfl, HB1.out⟩
    case round =>
      clear HB1
      obtain ⟨k, s, hk, rfl, rfl, hs, hb⟩ := hrel
      have HS : Hid (bl s = textL rs k) := hs
      have HB : Hid (Below w.heap.size w wr) := hb
      have hsz : s.size ≤ 1100000000 * k := by rw [← bl_size, hs]; exact HLen.out k hk
      have hsz2 : s.size ≤ 44000000000 := by omega
      clear hs hb hsz
      by_cases hlt : k < rs.length
      · have hlt' : (k : Int) < (rs.length : Int) := by omega
        rcases HR.out with h0 | ⟨b0, o0, ha, hB0, ia⟩
        · rw [h0] at hlt; simp at hlt
        obtain ⟨h, cp, ⟨c0, c1, c2, c3⟩, hcp, hS⟩ := (ia.below HB.out hB0 (Nat.le_refl _)) k hlt
        have h1 := getCl HOne.out hlt
        have hT := specText_any (rs.getD k zCl) h cp h1 wr (hS.mono HB.out.size)
        have HN : Hid (∀ t, bl t = lineL (rs.getD k zCl) → bl (s ++ t) = textL rs (k + 1)) := fun t q => by
          rw [bl_append, HS.out, q]
          rfl
        have HLl : Hid ((lineL (rs.getD k zCl)).length ≤ 1100000000) := line_len h1
        rw [ha]
        clear ia hS hcp h1
        generalize rs.getD k zCl = q at *
        obtain ⟨nm, ts, ac, nu⟩ := q
        dsimp only at c0 c1 c2 c3 hT
        go_wp2_with fail
        (first | go_at_call 11 | skip)
        refine hT.mono ?_
        rintro e w2 ⟨⟨t, rfl, ht⟩, hb2⟩
        have H1 : Hid _ := HN.out t ht
        have htz : t.size ≤ 1100000000 := by rw [← bl_size, ht]; exact HLl.out
        have b1 : s.size + t.size ≤ 9223372036854775807 := by omega
        clear ht hT
        go_wp2
        exact ⟨⟨k + 1, _, by omega, by go_num, rfl, H1.out, chain HB.out hb2⟩, by simp [intOf]; omega⟩
      · have hle : (rs.length : Int) ≤ (k : Int) := by omega
        obtain rfl : k = rs.length := by omega
        go_wp2
        go_ret2
        exact ⟨congrArg (fun t => Ending.returned (.tuple #[.string t, .int .i64 0])) (ba_of HS.out), HB.out⟩
theorem words_len (c : CCl) (h : c.ts.length ≤ 8) : 2 ≤ (toB (rlW c)).length ∧ (toB (rlW c)).length ≤ 40 := by
  rw [toB_len]
  unfold rlW endL
  rw [List.length_cons, List.length_cons, List.length_append, tsL_len]
  split <;> simp <;> omega
set_option maxHeartbeats 8000000 in
set_option maxRecDepth 4000 in
theorem implRules_any (a : Option Addr) (cap : Nat) (rs : List CCl) (hl : rs.length ≤ 1048576) (hp : ∀ r ∈ rs, ClOK r) (w : World) (hT : Tab w) (hr : ReadsCl w.heap.size w a rs) :
    Calls Tryd.prog 7 #[.slice a rs.length cap] w fun e w' => e = .returned (.tuple #[.string ⟨(rtS rs).toArray⟩, .int .i64 (fltC rs)]) ∧ Below w.heap.size w w' := by
  have HR : Hid (ReadsCl w.heap.size w a rs) := hr
  have HT0 : Hid (Tab w) := hT
  have hC := clausesFault_any a cap rs (by omega) hp w hr
  clear hr hp hT
  rcases fltC_ways rs with ⟨g1, e⟩ | ⟨g1, g2, e⟩ | ⟨g1, g2, e⟩
  · have hb : clAll rs = false := by unfold clAll; rw [if_pos (by omega)]
    rw [rtS_bad hb]
    rw [e] at hC ⊢
    go_enter Tryd.func7, Tryd.ntmps7
    go_wp2_with (go_at_call 13; refine hC.mono ?_; rintro e w1 ⟨rfl, hb1⟩)
    go_ret2
    exact ⟨rfl, hb1⟩
  · rw [rtS_bad g2]
    rw [e] at hC ⊢
    go_enter Tryd.func7, Tryd.ntmps7
    go_wp2_with (go_at_call 13; refine hC.mono ?_; rintro e w1 ⟨rfl, hb1⟩)
    go_ret2
    exact ⟨rfl, hb1⟩
  · rw [rtS_ok g2]
    rw [e] at hC ⊢
    have HOne : Hid (∀ r ∈ rs, clOne r = true) := clAll_mem g2
    have hn40 : rs.length ≤ 40 := by
      unfold clAll at g2
      split at g2
      · cases g2
      · omega
    have HLen : Hid (∀ k, k ≤ rs.length → (textL rs k).length ≤ 1100000000 * k) := text_len HOne.out
    clear g2 e
    go_enter Tryd.func7, Tryd.ntmps7
    go_wp2_with (go_at_call 13; refine hC.mono ?_; rintro e w1 ⟨rfl, hb1⟩; have HB1 : Hid (Below w.heap.size w w1) := hb1; clear hb1)
    have HBu : Hid (Lib.IsBuilder 44 5 w1.heap.size w1.heap.size (Lib.byteCells []) (w1.alloc (Obj.cells #[.pointer none, .slice none 0 0] 44))) := .inl ⟨Nat.le_refl _, .slice none 0 0, heapNew _ _, World.ownsRow_nil _ _ _ _, by simp [Value.ownBlock]⟩
    go_loopw [7, 15] (fun _ i wr => ∃ k : Nat, k ≤ rs.length ∧ i = .int .i64 (k : Int) ∧ Lib.IsBuilder 44 5 w1.heap.size w1.heap.size (Lib.byteCells (textL rs k)) wr ∧ Below w1.heap.size w1 wr) (fun _ i _ => rs.length - (intOf i).toNat)
    case atStart => exact ⟨0, Nat.zero_le _, rfl, HBu.out, below_alloc _ _⟩
    case round =>
      clear HBu
      obtain ⟨k, hk, rfl, hu, hb⟩ := hrel
      have HU : Hid (Lib.IsBuilder 44 5 w1.heap.size w1.heap.size (Lib.byteCells (textL rs k)) wr) := hu
      have HB : Hid (Below w1.heap.size w1 wr) := hb
      have HBw : Hid (Below w.heap.size w wr) := chain HB1.out hb
      have hsz : (textL rs k).length ≤ 1100000000 * k := HLen.out k hk
      clear hu hb
      by_cases hlt : k < rs.length
      · have hlt' : (k : Int) < (rs.length : Int) := by omega
        rcases HR.out with h0 | ⟨b0, o0, ha, hB0, ia⟩
        · rw [h0] at hlt; simp at hlt
        obtain ⟨h, cp, ⟨c0, c1, c2, c3⟩, hcp, hS⟩ := (ia.below HBw.out hB0 (Nat.le_refl _)) k hlt
        have h1 := getCl HOne.out hlt
        have HW : Hid (∀ W, Below wr.heap.size wr W → Calls Tryd.prog 16 #[.agg #[.string (rs.getD k zCl).nm, .slice h (rs.getD k zCl).ts.length cp, .int .i64 (rs.getD k zCl).ac, .int .i64 (rs.getD k zCl).nu]] W fun e w' => ∃ g cp', e = .returned (.slice g (toB (rlW (rs.getD k zCl))).length cp') ∧ OneS W W.heap.size (.slice g (toB (rlW (rs.getD k zCl))).length cp') (toB (rlW (rs.getD k zCl))) w') := fun W hW => implWords_any _ h cp h1 W (HT0.out.below (chain HBw.out hW)) ((hS.mono HBw.out.size).later hW)
        have hWl := words_len (rs.getD k zCl) (clOne_all h1).1
        have HLJ : Hid (Lib.join ((toB (rlW (rs.getD k zCl))).map (·.data.toList)) [32] ++ [10] = lineL (rs.getD k zCl)) := line_join _
        have HN : Hid (textL rs k ++ lineL (rs.getD k zCl) = textL rs (k + 1)) := rfl
        have HLl : Hid ((lineL (rs.getD k zCl)).length ≤ 1100000000) := line_len h1
        rw [ha]
        clear ia hS hcp h1
        generalize toB (rlW (rs.getD k zCl)) = X at *
        generalize lineL (rs.getD k zCl) = LL at *
        generalize rs.getD k zCl = q at *
        obtain ⟨nm, ts, ac, nu⟩ := q
        dsimp only at c0 c1 c2 c3 HW
        go_wp2_with fail
        (first | go_at_call 16 | skip)
        refine (HW.out _ (below_alloc _ _)).mono ?_
        rintro e w2 ⟨g, cg, rfl, hx⟩
        rcases hx.reads rfl with hz | ⟨bx, ox, rfl, hbx, hxi⟩
        · rw [hz] at hWl; simp at hWl
        obtain rfl : ox = 0 := by
          rcases hx.1.2 with ⟨q, _⟩ | ⟨g', cap', cur, q, _⟩
          · simp at q
          · simp at q; exact q.1.2
        have hXc := hx.cap
        have hj0 : (Lib.join (X.map (·.data.toList)) [32]).length + 1 = LL.length := by rw [← HLJ.out]; simp
        have hJ := Tryd.strings_Join bx 0 cg X ⟨#[32]⟩ w2 (fun j y hy => by
          obtain ⟨hjl, hje⟩ := List.getElem?_eq_some_iff.1 hy
          have := hxi j hjl
          rw [this]
          simp [List.getD_eq_getElem?_getD, hy]) hbx (by omega) hXc (by have := HLl.out; show (Lib.join (X.map (·.data.toList)) [32]).length ≤ _; omega)
        have HB2 : Hid (Below wr.heap.size wr w2) := chain (below_alloc _ _) hx.2.2
        have hJ2 : Calls Tryd.prog 15 #[.slice (some ⟨bx, 0, none⟩) X.length cg, .string ⟨#[32]⟩] w2 fun e w' => e = .returned (.string ⟨(Lib.join (X.map (·.data.toList)) [32]).toArray⟩) ∧ Below w2.heap.size w2 w' := hJ
        clear hx hxi hJ hbx
        generalize hjn : Lib.join (X.map (·.data.toList)) [32] = JJ at *
        clear hjn
        go_wp2_with fail
        (first | go_at_call 15 | skip)
        refine hJ2.mono ?_
        rintro e w3 ⟨rfl, hb3⟩
        have HB3 : Hid (Below wr.heap.size wr w3) := chain HB2.out hb3
        have hjs : (⟨JJ.toArray⟩ : ByteArray).size = JJ.length := ba_size JJ
        have hW := write_any w1.heap.size w1.heap.size (textL rs k) (⟨JJ.toArray⟩ ++ ⟨#[10]⟩) w3 (builder_later HU.out HB3.out) (by
          have e1 : (⟨JJ.toArray⟩ ++ ⟨#[10]⟩ : ByteArray).size = JJ.length + 1 := by rw [← bl_size, bl_append]; rw [List.length_append]; rfl
          rw [e1]
          have := HLl.out
          omega) (Nat.le_trans HB.out.size HB3.out.size)
        rw [bl_append, show bl ⟨JJ.toArray⟩ ++ bl ⟨#[10]⟩ = LL from HLJ.out, HN.out] at hW
        have b1 : (⟨JJ.toArray⟩ : ByteArray).size ≤ 9223372036854775806 := by have := HLl.out; omega
        clear hJ2 hb3 hjs hj0
        generalize (⟨JJ.toArray⟩ : ByteArray) = JS at *
        go_wp2_with fail
        (first | go_at_call 14 | skip)
        refine hW.mono ?_
        rintro e w4 ⟨⟨v4, rfl⟩, hu4, hb4⟩
        have HU4 : Hid _ := hu4
        have HB4 : Hid (Below w1.heap.size w1 w4) := (HB.out.trans (HB3.out.mono HB.out.size)).trans hb4
        clear hW hu4 hb4
        go_wp2
        exact ⟨⟨k + 1, by omega, by go_num, HU4.out, HB4.out⟩, by simp [intOf]; omega⟩
      · have hle : (rs.length : Int) ≤ (k : Int) := by omega
        obtain rfl : k = rs.length := by omega
        have hSt := Tryd.Builder_String_any w1.heap.size w1.heap.size (textL rs rs.length) wr HU.out HB.out.size
        go_wp2_with (go_at_call 17; refine hSt.mono ?_; rintro e w2 ⟨rfl, hb2⟩)
        go_ret2
        exact ⟨rfl, chain HB1.out (HB.out.trans hb2)⟩
end Go.Proofs.YthkfaiokigmjeaaDoor
