/-
  Contracts of the library's Concat at three lists of lines, of Sort and Compact at texts, of the program's articlesOf.
-/
import Derived.Test.YtfiajiodehhmhaaTwC
import Derived.LoopN
namespace Go.Proofs.Ytfiajiodehhmhaa
open Go.ChangeShapes Go.WideShapes Go.ChangeAt Go.RowKit Go.Joins Go.Deep Go.Sort Go.Shelf
set_option linter.unusedVariables false

/-- Three lists of lines, and a list of the three in block gb. -/
structure Tri (W : World) (B gb b1 o1 c1 b2 o2 c2 b3 o3 c3 : Nat) (r1 r2 r3 : List RDc) : Prop where
  gbB : gb < B
  k1 : b1 < B
  k2 : b2 < B
  k3 : b3 < B
  s0 : W.cell? ⟨gb, 0, none⟩ = some (.slice (some ⟨b1, o1, none⟩) r1.length c1)
  s1 : W.cell? ⟨gb, 1, none⟩ = some (.slice (some ⟨b2, o2, none⟩) r2.length c2)
  s2 : W.cell? ⟨gb, 2, none⟩ = some (.slice (some ⟨b3, o3, none⟩) r3.length c3)
  a1 : DcsAt W b1 o1 r1
  a2 : DcsAt W b2 o2 r2
  a3 : DcsAt W b3 o3 r3
theorem Tri.below {W W' : World} {B gb b1 o1 c1 b2 o2 c2 b3 o3 c3 : Nat} {r1 r2 r3 : List RDc} (h : Tri W B gb b1 o1 c1 b2 o2 c2 b3 o3 c3 r1 r2 r3) (hb : Below B W W') : Tri W' B gb b1 o1 c1 b2 o2 c2 b3 o3 c3 r1 r2 r3 :=
  ⟨h.gbB, h.k1, h.k2, h.k3, (hb.cell (p := ⟨gb, 0, none⟩) h.gbB).trans h.s0, (hb.cell (p := ⟨gb, 1, none⟩) h.gbB).trans h.s1, (hb.cell (p := ⟨gb, 2, none⟩) h.gbB).trans h.s2, h.a1.below hb h.k1, h.a2.below hb h.k2, h.a3.below hb h.k3⟩
set_option maxHeartbeats 8000000 in
set_option maxRecDepth 100000 in
theorem concat_any (w : World) (gb b1 o1 c1 b2 o2 c2 b3 o3 c3 : Nat) (r1 r2 r3 : List RDc) (h1 : r1.length ≤ 60) (h2 : r2.length ≤ 60) (h3 : r3.length ≤ 60) (hT : Tri w w.heap.size gb b1 o1 c1 b2 o2 c2 b3 o3 c3 r1 r2 r3) :
    Calls Try.prog 91 #[.slice (some ⟨gb, 0, none⟩) 3 3] w fun e w' => ∃ v, e = .returned v ∧ OneD w w.heap.size v (r1 ++ r2 ++ r3) w' := by
  have HT : Hid (Tri w w.heap.size gb b1 o1 c1 b2 o2 c2 b3 o3 c3 r1 r2 r3) := hT
  obtain ⟨z0, z1, z2⟩ : w.cell? ⟨gb, 0, none⟩ = some (.slice (some ⟨b1, o1, none⟩) r1.length c1) ∧ w.cell? ⟨gb, 1, none⟩ = some (.slice (some ⟨b2, o2, none⟩) r2.length c2) ∧ w.cell? ⟨gb, 2, none⟩ = some (.slice (some ⟨b3, o3, none⟩) r3.length c3) := ⟨hT.s0, hT.s1, hT.s2⟩
  clear hT
  have HG : Hid (∀ W, Calls Try.prog 126 #[.slice none 0 0, .int .i64 ((r1.length : Int) + (r2.length : Int) + (r3.length : Int))] W fun e w' => ∃ v, e = .returned v ∧ OneD W W.heap.size v [] w') := fun W => by
    have := growNil_any (r1.length + r2.length + r3.length) (by omega) W
    rwa [show ((r1.length + r2.length + r3.length : Nat) : Int) = (r1.length : Int) + (r2.length : Int) + (r3.length : Int) by omega] at this
  have HP : Hid (∀ v W, OneD w w.heap.size v [] W → Tri W w.heap.size gb b1 o1 c1 b2 o2 c2 b3 o3 c3 r1 r2 r3) := fun v W h => HT.out.below h.2.2
  have HL : Hid (r1.length ≤ 60 ∧ r2.length ≤ 60 ∧ r3.length ≤ 60) := ⟨h1, h2, h3⟩
  have w1 : IntKind.i64.wrap (r1.length : Int) = (r1.length : Int) := wrap_id _ (by omega) (by omega)
  have w2 : IntKind.i64.wrap ((r1.length : Int) + (r2.length : Int)) = (r1.length : Int) + (r2.length : Int) := wrap_id _ (by omega) (by omega)
  have w3 : IntKind.i64.wrap ((r1.length : Int) + (r2.length : Int) + (r3.length : Int)) = (r1.length : Int) + (r2.length : Int) + (r3.length : Int) := wrap_id _ (by omega) (by omega)
  have l1 : ¬ (r1.length : Int) < 0 := by omega
  have l2 : ¬ (r1.length : Int) + (r2.length : Int) < 0 := by omega
  have l3 : ¬ (r1.length : Int) + (r2.length : Int) + (r3.length : Int) < 0 := by omega
  go_enter Try.func91, Try.ntmps91
  go_wp2
  refine wp_loop_rounds 4 ?_
  rw [rounds_succ]
  go_wp2
  rw [rounds_succ]
  go_wp2
  rw [rounds_succ]
  go_wp2
  rw [rounds_succ]
  go_wp2_with fail
  (first | go_at_call 126 | skip)
  refine (HG.out _).mono ?_
  rintro e w4 ⟨v4, rfl, h4⟩
  have HO4 : Hid (OneD w w.heap.size v4 [] w4) := h4
  clear h4 z0 z1 z2
  go_wp2_with fail
  refine wp_loop_rounds 4 ?_
  rw [rounds_succ]
  have y0 := (HT.out.below HO4.out.2.2).s0
  have q0 := (HT.out.below HO4.out.2.2).a1
  have Q0 : Hid (DcsAt w4 b1 o1 r1) := q0
  clear q0
  go_wp2_with (at_builtin; refine wpList_pushD (by rfl) _ _ (by rfl) w w.heap.size _ [] _ b1 o1 c1 r1 HO4.out Q0.out (by have := HL.out; simp; omega) (by rfl) (by rfl) ?_; intro v5 w5 h5; have HO5 : Hid (OneD w w.heap.size v5 ([] ++ r1) w5) := h5; clear h5)
  rw [rounds_succ]
  have y1 := (HT.out.below HO5.out.2.2).s1
  have Q1 : Hid (DcsAt w5 b2 o2 r2) := (HT.out.below HO5.out.2.2).a2
  clear y0 Q0 HO4
  go_wp2_with (at_builtin; refine wpList_pushD (by rfl) _ _ (by rfl) w w.heap.size _ ([] ++ r1) _ b2 o2 c2 r2 HO5.out Q1.out (by have := HL.out; simp; omega) (by rfl) (by rfl) ?_; intro v6 w6 h6; have HO6 : Hid (OneD w w.heap.size v6 ([] ++ r1 ++ r2) w6) := h6; clear h6)
  rw [rounds_succ]
  have y2 := (HT.out.below HO6.out.2.2).s2
  have Q2 : Hid (DcsAt w6 b3 o3 r3) := (HT.out.below HO6.out.2.2).a3
  clear y1 Q1 HO5
  go_wp2_with (at_builtin; refine wpList_pushD (by rfl) _ _ (by rfl) w w.heap.size _ ([] ++ r1 ++ r2) _ b3 o3 c3 r3 HO6.out Q2.out (by have := HL.out; simp; omega) (by rfl) (by rfl) ?_; intro v7 w7 h7; have HO7 : Hid (OneD w w.heap.size v7 ([] ++ r1 ++ r2 ++ r3) w7) := h7; clear h7)
  rw [rounds_succ]
  clear y2 Q2 HO6
  go_wp2_with fail
  go_ret
  exact ⟨v7, rfl, by simpa using HO7.out⟩
def leS (x y : List UInt8) : Bool := decide (x ≤ y)
def tlB (s : ByteArray) : List UInt8 := s.data.toList
def ofB (l : List UInt8) : ByteArray := ⟨l.toArray⟩
theorem ofB_tlB (s : ByteArray) : ofB (tlB s) = s := by cases s; simp [ofB, tlB]
theorem tlB_ofB (l : List UInt8) : tlB (ofB l) = l := by simp [ofB, tlB]
/-- Names in the order of texts, each once. -/
def artL (L : List ByteArray) : List ByteArray := (Lib.compact ((L.map tlB).mergeSort leS)).map ofB
theorem encs (L : List ByteArray) : L.map Value.string = (L.map tlB).map encStr := by
  rw [List.map_map]
  exact List.map_congr_left (fun s _ => by show Value.string s = Value.string (ofB (tlB s)); rw [ofB_tlB])
theorem sortS_any (w : World) (B g cap : Nat) (L : List ByteArray) (hl : L.length ≤ 1000000) (W : World) (h : OneS w B (.slice (some ⟨g, 0, none⟩) L.length cap) L W) :
    Calls Try.prog 93 #[.slice (some ⟨g, 0, none⟩) L.length cap] W fun e w' => e = .returned (.tuple #[]) ∧ Holds encStr w' g 0 ((L.map tlB).mergeSort leS).toArray ∧ (B ≤ g ∧ g < w'.heap.size) ∧ L.length ≤ cap ∧ Below B w w' := by
  have hrow := h.1
  rw [encs] at hrow
  obtain ⟨g', cap', he, hB, hlt, hcp, _, hn, hH⟩ := Go.Lib.holds_of_ownsRow (enc := encStr) hrow (by simp)
  simp at he
  obtain ⟨rfl, rfl⟩ := he
  have cS := AnyM.slices_Sort_string Try.sortS g 0 cap (L.map tlB) W hH hlt (by rw [List.length_map]; omega)
  change Calls Try.prog 93 _ _ _ at cS
  rw [List.length_map] at cS
  refine cS.mono ?_
  rintro e w' ⟨rfl, q, os, rfl⟩
  have hH0 : Holds encStr (Sort.ahead W q) g 0 (L.map tlB).toArray := hH
  have h1 : Holds encStr (grow (putRow encStr (Sort.ahead W q) g 0 ((L.map tlB).mergeSort leS).toArray) os) g 0 ((L.map tlB).mergeSort leS).toArray :=
    holds_grow _ _ _ _ _ _ (by simpa using hlt) (holds_putRow _ _ _ _ _ _ hH0 (by simp))
  have hb := Go.Lib.below_putRow (enc := encStr) (q := q) (d := ((L.map tlB).mergeSort leS).toArray) h.2.2 hB
  have hgl : g < (grow (putRow encStr (Sort.ahead W q) g 0 ((L.map tlB).mergeSort leS).toArray) os).heap.size := by
    rw [size_grow, size_putRow]; exact Nat.lt_of_lt_of_le hlt (Nat.le_add_right _ _)
  refine ⟨rfl, h1, ⟨hB, hgl⟩, hcp, ⟨hb.os, hb.tape, hb.output, ?_, fun k hk => ?_⟩⟩
  · show w.heap.size ≤ (grow (putRow encStr (Sort.ahead W q) g 0 ((L.map tlB).mergeSort leS).toArray) os).heap.size
    rw [size_grow]; exact Nat.le_trans hb.size (Nat.le_add_right _ _)
  · exact (heap_grow_old _ _ (by rw [size_putRow]; exact Nat.lt_trans (Nat.lt_of_lt_of_le hk hB) hlt)).trans (hb.block k hk)
theorem compS_any (w : World) (B g cap : Nat) (zs : List (List UInt8)) (hl : zs.length ≤ 1000000) (hcap : zs.length ≤ cap) (W : World) (hH : Holds encStr W g 0 zs.toArray) (hB : B ≤ g ∧ g < W.heap.size) (hw : Below B w W) :
    Calls Try.prog 94 #[.slice (some ⟨g, 0, none⟩) zs.length cap] W fun e w' => e = .returned (.slice (some ⟨g, 0, none⟩) (Lib.compact zs).length cap) ∧ ReadsS w'.heap.size w' (some ⟨g, 0, none⟩) ((Lib.compact zs).map ofB) ∧ Below B w w' := by
  have cS := AnyG.slices_Compact_string Try.compS g 0 cap zs W hH (by omega) hcap
  change Calls Try.prog 94 _ _ _ at cS
  refine cS.mono ?_
  rintro e w' ⟨rfl, q, rfl⟩
  have hle := Lib.compact_length_le zs
  have hH0 : Holds encStr (Sort.ahead W q) g 0 zs.toArray := hH
  have h1 : Holds encStr (putRow encStr (Sort.ahead W q) g 0 (Lib.compact zs ++ List.replicate (zs.length - (Lib.compact zs).length) []).toArray) g 0 (Lib.compact zs ++ List.replicate (zs.length - (Lib.compact zs).length) []).toArray :=
    holds_putRow _ _ _ _ _ _ hH0 (by simp; omega)
  have hb := Go.Lib.below_putRow (enc := encStr) (q := q) (d := (Lib.compact zs ++ List.replicate (zs.length - (Lib.compact zs).length) []).toArray) hw hB.1
  refine ⟨rfl, .inr ⟨g, 0, rfl, by rw [size_putRow]; exact hB.2, fun i hi => ?_⟩, hb⟩
  have hi' : i < (Lib.compact zs).length := by simpa using hi
  have := (h1 i (by simp; omega)).1
  rw [this]
  simp [List.getD_eq_getElem?_getD, hi', ofB]
  rw [List.getElem?_append_left hi', List.getElem?_eq_getElem hi']; rfl
set_option maxHeartbeats 4000000 in
theorem articles_any (w : World) (gb b1 o1 c1 b2 o2 c2 b3 o3 c3 : Nat) (r1 r2 r3 : List RDc) (h1 : r1.length ≤ 60) (h2 : r2.length ≤ 60) (h3 : r3.length ≤ 60) (hT : Tri w w.heap.size gb b1 o1 c1 b2 o2 c2 b3 o3 c3 r1 r2 r3) :
    Calls Try.prog 47 #[.slice (some ⟨gb, 0, none⟩) 3 3] w fun e w' => ∃ g cp, e = .returned (.slice (some ⟨g, 0, none⟩) (artL ((r1 ++ r2 ++ r3).map (·.ar))).length cp) ∧ ReadsS w'.heap.size w' (some ⟨g, 0, none⟩) (artL ((r1 ++ r2 ++ r3).map (·.ar))) ∧ Below w.heap.size w w' := by
  have HC := concat_any w gb b1 o1 c1 b2 o2 c2 b3 o3 c3 r1 r2 r3 h1 h2 h3 hT
  have hlen : (r1 ++ r2 ++ r3).length ≤ 180 := by simp; omega
  clear hT
  generalize r1 ++ r2 ++ r3 = rs at *
  have HN : Hid (∀ v W, OneD w w.heap.size v rs W → ∃ a cp, v = .slice a rs.length cp ∧ ReadsDc W.heap.size W a rs) := fun v W h => by
    rcases h.1.2 with ⟨e1, e2⟩ | ⟨g, cap, cur, rfl, hB, hg, _⟩
    · have : rs.length = 0 := by have := dcC_len rs; rw [e2] at this; simp at this; omega
      have hrs : rs = [] := List.eq_nil_of_length_eq_zero this
      subst hrs
      exact ⟨none, 0, e1, .inl rfl⟩
    · refine ⟨_, _, rfl, ?_⟩
      by_cases h0 : rs.length = 0
      · exact .inl (List.eq_nil_of_length_eq_zero h0)
      · refine .inr ⟨g, 0, rfl, (Array.getElem?_eq_some_iff.1 hg).1, fun i hi => ?_⟩
        have key : ∀ j, j < 3 → W.cell? ⟨g, 0 + i * 3 + j, none⟩ = (dcC rs)[i * 3 + j]? := fun j hj => by
          have hlt2 : i * 3 + j < (dcC rs).length := by rw [dcC_len]; omega
          have := h.1.cells (g := g) rfl (i * 3 + j) _ (List.getElem?_eq_getElem hlt2)
          rw [Go.WideShapes.add_plain] at this
          rw [Nat.zero_add, List.getElem?_eq_getElem hlt2]
          simpa using this
        have val : ∀ (L : List RDc) (i : Nat), i < L.length → (dcC L)[i * 3]? = some (.string (L.getD i zDc).ar) ∧ (dcC L)[i * 3 + 1]? = some (.int .i64 (L.getD i zDc).un) ∧ (dcC L)[i * 3 + 2]? = some (.int .i64 (L.getD i zDc).am) := fun L => by
          induction L with
          | nil => intro i hi; simp at hi
          | cons r L ih =>
            intro i hi
            have e : dcC (r :: L) = Value.string r.ar :: .int .i64 r.un :: .int .i64 r.am :: dcC L := by unfold dcC; simp
            rw [e]
            cases i with
            | zero => exact ⟨rfl, rfl, rfl⟩
            | succ i =>
              obtain ⟨q1, q2, q3⟩ := ih i (by simpa using hi)
              rw [show (i + 1) * 3 = i * 3 + 3 by omega]
              exact ⟨by simpa using q1, by simpa using q2, by simpa using q3⟩
        obtain ⟨q1, q2, q3⟩ := val rs i hi
        exact ⟨(key 0 (by omega)).trans q1, (key 1 (by omega)).trans q2, (key 2 (by omega)).trans q3⟩
  have HNm : Hid (∀ a cp W, ReadsDc W.heap.size W a rs → Calls Try.prog 85 #[.slice a rs.length cp, .func (.func 92) #[] #[]] W fun e w' => ∃ g cp, e = .returned (.slice (some ⟨g, 0, none⟩) rs.length cp) ∧ OneS W W.heap.size (.slice (some ⟨g, 0, none⟩) rs.length cp) (rs.map (·.ar)) w') := fun a cp W h => dcNames2_any a cp rs (by omega) W h
  have HS : Hid (∀ g cap W W', OneS W W.heap.size (.slice (some ⟨g, 0, none⟩) rs.length cap) (rs.map (·.ar)) W' → Calls Try.prog 93 #[.slice (some ⟨g, 0, none⟩) rs.length cap] W' fun e w' => e = .returned (.tuple #[]) ∧ Holds encStr w' g 0 (((rs.map (·.ar)).map tlB).mergeSort leS).toArray ∧ (W.heap.size ≤ g ∧ g < w'.heap.size) ∧ rs.length ≤ cap ∧ Below W.heap.size W w') := fun g cap W W' h => by
    have hm : (rs.map (·.ar)).length = rs.length := List.length_map _
    have := sortS_any W W.heap.size g cap (rs.map (·.ar)) (by rw [hm]; omega) W' (by rw [hm]; exact h)
    rwa [hm] at this
  have HZ : Hid (∀ g cap W W', rs.length ≤ cap → Holds encStr W' g 0 (((rs.map (·.ar)).map tlB).mergeSort leS).toArray → (W.heap.size ≤ g ∧ g < W'.heap.size) → Below W.heap.size W W' → Calls Try.prog 94 #[.slice (some ⟨g, 0, none⟩) rs.length cap] W' fun e w' => e = .returned (.slice (some ⟨g, 0, none⟩) (artL (rs.map (·.ar))).length cap) ∧ ReadsS w'.heap.size w' (some ⟨g, 0, none⟩) (artL (rs.map (·.ar))) ∧ Below W.heap.size W w') := fun g cap W W' hc hH hB hw => by
    have hm : (((rs.map (·.ar)).map tlB).mergeSort leS).length = rs.length := by rw [List.length_mergeSort, List.length_map, List.length_map]
    have := compS_any W W.heap.size g cap (((rs.map (·.ar)).map tlB).mergeSort leS) (by rw [hm]; omega) (by rw [hm]; exact hc) W' hH hB hw
    rw [hm] at this
    unfold artL
    rwa [List.length_map]
  generalize artL (rs.map (·.ar)) = AL at *
  go_enter Try.func47, Try.ntmps47
  go_wp2_with fail
  (first | go_at_call 91 | skip)
  refine HC.mono ?_
  rintro e w1 ⟨v1, rfl, h1⟩
  have B1 : Hid (Below w.heap.size w w1) := h1.2.2
  obtain ⟨a1, cp1, rfl, hr1⟩ := HN.out v1 w1 h1
  have R1 : Hid (ReadsDc w1.heap.size w1 a1 rs) := hr1
  clear h1 hr1 HC HN
  go_wp2_with fail
  (first | go_at_call 85 | skip)
  refine (HNm.out _ _ _ R1.out).mono ?_
  rintro e w2 ⟨g2, cp2, rfl, h2⟩
  have O2 : Hid (OneS w1 w1.heap.size (.slice (some ⟨g2, 0, none⟩) rs.length cp2) (rs.map (·.ar)) w2) := h2
  clear h2
  go_wp2_with fail
  (first | go_at_call 93 | skip)
  refine (HS.out _ _ _ _ O2.out).mono ?_
  rintro e w3 ⟨rfl, hh3, hg3, hc3, hb3⟩
  have H3 : Hid (Holds encStr w3 g2 0 (((rs.map (·.ar)).map tlB).mergeSort leS).toArray ∧ (w1.heap.size ≤ g2 ∧ g2 < w3.heap.size) ∧ rs.length ≤ cp2 ∧ Below w1.heap.size w1 w3) := ⟨hh3, hg3, hc3, hb3⟩
  clear hh3 hg3 hc3 hb3
  go_wp2_with fail
  (first | go_at_call 94 | skip)
  refine (HZ.out _ _ w1 _ H3.out.2.2.1 H3.out.1 H3.out.2.1 H3.out.2.2.2).mono ?_
  rintro e w4 ⟨rfl, hr4, hb4⟩
  have R4 : Hid (ReadsS w4.heap.size w4 (some ⟨g2, 0, none⟩) AL ∧ Below w.heap.size w w4) := ⟨hr4, chain B1.out hb4⟩
  clear hr4 hb4
  go_wp2_with fail
  go_ret
  exact ⟨g2, cp2, rfl, R4.out.1, R4.out.2⟩
end Go.Proofs.Ytfiajiodehhmhaa
