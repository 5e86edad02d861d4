/-
  The program's ThreeWay: for each article of three right lists what is to be said of it.
-/
import Derived.Test.YtfiajiodehhmhaaTwE
import Derived.Deep.RegionHeld
import Derived.Deep.AppendLies
namespace Go.Proofs.Ytfiajiodehhmhaa
open Go.ChangeShapes Go.WideShapes Go.ChangeAt Go.RowKit Go.Joins Go.Deep
set_option linter.unusedVariables false

theorem artLen (L : List ByteArray) : (artL L).length ≤ L.length := by
  unfold artL
  rw [List.length_map]
  have := Lib.compact_length_le ((L.map tlB).mergeSort leS)
  rw [List.length_mergeSort, List.length_map] at this
  exact this
theorem compact_mem {zs : List (List UInt8)} {x : List UInt8} (h : x ∈ Lib.compact zs) : x ∈ zs := by
  unfold Lib.compact Lib.compactUpTo at h
  obtain ⟨j, hj, rfl⟩ := List.mem_map.mp h
  have hj' : j < zs.length := by have := (List.mem_filter.mp hj).1; simpa using this
  have : zs.toArray[j]! = zs[j] := by simp [hj']
  rw [this]; exact List.getElem_mem _
theorem artSz {L : List ByteArray} (h : ∀ s ∈ L, s.size ≤ 2000000) : ∀ t ∈ artL L, t.size ≤ 2000000 := by
  intro t ht
  unfold artL at ht
  obtain ⟨l, hl, rfl⟩ := List.mem_map.mp ht
  have h1 := compact_mem hl
  rw [List.mem_mergeSort] at h1
  obtain ⟨s, hs, rfl⟩ := List.mem_map.mp h1
  rw [ofB_tlB]; exact h s hs
set_option maxHeartbeats 8000000 in
set_option maxRecDepth 8000 in
theorem implThree_any (b1 o1 c1 b2 o2 c2 b3 o3 c3 : Nat) (r1 r2 r3 : List RDc) (hl1 : r1.length ≤ 100000000) (hl2 : r2.length ≤ 100000000) (hl3 : r3.length ≤ 100000000) (hp1 : ∀ r ∈ r1, DcOK r) (hp2 : ∀ r ∈ r2, DcOK r) (hp3 : ∀ r ∈ r3, DcOK r) (w : World) (k1 : b1 < w.heap.size) (k2 : b2 < w.heap.size) (k3 : b3 < w.heap.size) (a1 : DcsAt w b1 o1 r1) (a2 : DcsAt w b2 o2 r2) (a3 : DcsAt w b3 o3 r3) :
    Calls Try.prog 15 #[.slice (some ⟨b1, o1, none⟩) r1.length c1, .slice (some ⟨b2, o2, none⟩) r2.length c2, .slice (some ⟨b3, o3, none⟩) r3.length c3] w (AnsW3 w (twA r1 r2 r3) (twC r1 r2 r3)) := by
  have HA : Hid (DcsAt w b1 o1 r1 ∧ DcsAt w b2 o2 r2 ∧ DcsAt w b3 o3 r3) := ⟨a1, a2, a3⟩
  have hR : ∀ (b off c : Nat) (rs : List RDc) (hl : rs.length ≤ 100000000) (hp : ∀ r ∈ rs, DcOK r), b < w.heap.size → DcsAt w b off rs → ∀ W, Below w.heap.size w W → Calls Try.prog 46 #[.slice (some ⟨b, off, none⟩) rs.length c] W fun e w' => e = .returned (.bool (dcsB rs)) ∧ Below W.heap.size W w' := fun b off c rs hl hp hb ha W hW => linesOK_any _ c rs hl hp W (.inr ⟨b, off, rfl, Nat.lt_of_lt_of_le hb hW.size, ha.below hW hb⟩)
  have K1 : Hid (∀ W, Below w.heap.size w W → Calls Try.prog 46 #[.slice (some ⟨b1, o1, none⟩) r1.length c1] W fun e w' => e = .returned (.bool (dcsB r1)) ∧ Below W.heap.size W w') := hR b1 o1 c1 r1 hl1 hp1 k1 a1
  have K2 : Hid (∀ W, Below w.heap.size w W → Calls Try.prog 46 #[.slice (some ⟨b2, o2, none⟩) r2.length c2] W fun e w' => e = .returned (.bool (dcsB r2)) ∧ Below W.heap.size W w') := hR b2 o2 c2 r2 hl2 hp2 k2 a2
  have K3 : Hid (∀ W, Below w.heap.size w W → Calls Try.prog 46 #[.slice (some ⟨b3, o3, none⟩) r3.length c3] W fun e w' => e = .returned (.bool (dcsB r3)) ∧ Below W.heap.size W w') := hR b3 o3 c3 r3 hl3 hp3 k3 a3
  clear hR a1 a2 a3
  rcases tw_ways r1 r2 r3 with ⟨h, e1, e2⟩ | ⟨⟨g1, g2, g3⟩, h, e1, e2⟩ | ⟨⟨g1, g2, g3⟩, ⟨q1, q2, q3⟩, e1, e2⟩ <;> rw [e1, e2] <;> clear e1 e2
  · obtain ⟨mx, hmx⟩ : ∃ mx : Int, mx = (let a := if (r1.length : Int) < (r2.length : Int) then (r2.length : Int) else (r1.length : Int); if a < (r3.length : Int) then (r3.length : Int) else a) := ⟨_, rfl⟩
    clear K1 K2 K3 hp1 hp2 hp3
    by_cases x1 : (r1.length : Int) < (r2.length : Int)
    · by_cases x2 : (r2.length : Int) < (r3.length : Int)
      · have l1 : (4096 : Int) < (r3.length : Int) := by omega
        clear h hmx
        go_enter Try.func15, Try.ntmps15
        go_wp2
        go_ret2
        exact AnsW3.of (Below.refl _ _) (OneV.nil _ _ rfl) _
      · have l1 : (4096 : Int) < (r2.length : Int) := by omega
        clear h hmx
        go_enter Try.func15, Try.ntmps15
        go_wp2
        go_ret2
        exact AnsW3.of (Below.refl _ _) (OneV.nil _ _ rfl) _
    · by_cases x2 : (r1.length : Int) < (r3.length : Int)
      · have l1 : (4096 : Int) < (r3.length : Int) := by omega
        clear h hmx
        go_enter Try.func15, Try.ntmps15
        go_wp2
        go_ret2
        exact AnsW3.of (Below.refl _ _) (OneV.nil _ _ rfl) _
      · have l1 : (4096 : Int) < (r1.length : Int) := by omega
        clear h hmx
        go_enter Try.func15, Try.ntmps15
        go_wp2
        go_ret2
        exact AnsW3.of (Below.refl _ _) (OneV.nil _ _ rfl) _
  · skip
    obtain ⟨m12, hma, hmb, hmc⟩ : ∃ m12 : Int, (if r1.length < r2.length then (r2.length : Int) else (r1.length : Int)) = m12 ∧ (if (r1.length : Int) < (r2.length : Int) then (r2.length : Int) else (r1.length : Int)) = m12 ∧ m12 ≤ 4096 := ⟨_, rfl, by by_cases x : r1.length < r2.length <;> simp [x], by split <;> omega⟩
    obtain ⟨mx, hm1, hm2⟩ : ∃ mx : Int, (if m12 < (r3.length : Int) then (r3.length : Int) else m12) = mx ∧ mx ≤ 4096 := ⟨_, rfl, by split <;> omega⟩
    have l1 : ¬ (4096 : Int) < mx := by omega
    clear hm2 hmc
    clear g1 g2 g3 hp1 hp2 hp3
    generalize dcsB r1 = d1 at *
    generalize dcsB r2 = d2 at *
    generalize dcsB r3 = d3 at *
    cases d1
    · go_enter Try.func15, Try.ntmps15
      go_wp2_with fail
      (first | go_at_call 46 | skip)
      refine (K1.out _ (Below.refl _ _)).mono ?_
      rintro e w2 ⟨rfl, hb2⟩
      have B2 : Hid (Below w.heap.size w w2) := hb2
      clear hb2
      go_wp2_with fail
      go_ret2
      exact AnsW3.of B2.out (OneV.nil w2 _ rfl) _
    go_enter Try.func15, Try.ntmps15
    go_wp2_with fail
    (first | go_at_call 46 | skip)
    refine (K1.out _ (Below.refl _ _)).mono ?_
    rintro e w2 ⟨rfl, hb2⟩
    have B2 : Hid (Below w.heap.size w w2) := hb2
    clear hb2
    cases d2
    · go_wp2_with fail
      (first | go_at_call 46 | skip)
      refine (K2.out _ B2.out).mono ?_
      rintro e w3 ⟨rfl, hb3⟩
      have B3 : Hid (Below w.heap.size w w3) := chain B2.out hb3
      clear hb3
      go_wp2_with fail
      go_ret2
      exact AnsW3.of B3.out (OneV.nil w3 _ rfl) _
    go_wp2_with fail
    (first | go_at_call 46 | skip)
    refine (K2.out _ B2.out).mono ?_
    rintro e w3 ⟨rfl, hb3⟩
    have B3 : Hid (Below w.heap.size w w3) := chain B2.out hb3
    clear hb3
    cases d3
    · go_wp2_with fail
      (first | go_at_call 46 | skip)
      refine (K3.out _ B3.out).mono ?_
      rintro e w4 ⟨rfl, hb4⟩
      have B4 : Hid (Below w.heap.size w w4) := chain B3.out hb4
      clear hb4
      go_wp2_with fail
      go_ret2
      exact AnsW3.of B4.out (OneV.nil w4 _ rfl) _
    simp at h
  · skip
    obtain ⟨m12, hma, hmb, hmc⟩ : ∃ m12 : Int, (if r1.length < r2.length then (r2.length : Int) else (r1.length : Int)) = m12 ∧ (if (r1.length : Int) < (r2.length : Int) then (r2.length : Int) else (r1.length : Int)) = m12 ∧ m12 ≤ 4096 := ⟨_, rfl, by by_cases x : r1.length < r2.length <;> simp [x], by split <;> omega⟩
    obtain ⟨mx, hm1, hm2⟩ : ∃ mx : Int, (if m12 < (r3.length : Int) then (r3.length : Int) else m12) = mx ∧ mx ≤ 4096 := ⟨_, rfl, by split <;> omega⟩
    have l1 : ¬ (4096 : Int) < mx := by omega
    clear hm2 hmc
    rw [q1] at K1
    rw [q2] at K2
    rw [q3] at K3
    have HZ : Hid (∀ t, dcZ (lnO r1 t) ∧ dcZ (lnO r3 t)) := fun t => ⟨dcs_z q1 t, dcs_z q3 t⟩
    have HAr : Hid (∀ gb W, gb < W.heap.size → Below w.heap.size w W → W.cell? ⟨gb, 0, none⟩ = some (.slice (some ⟨b1, o1, none⟩) r1.length c1) → W.cell? ⟨gb, 1, none⟩ = some (.slice (some ⟨b2, o2, none⟩) r2.length c2) → W.cell? ⟨gb, 2, none⟩ = some (.slice (some ⟨b3, o3, none⟩) r3.length c3) → Calls Try.prog 47 #[.slice (some ⟨gb, 0, none⟩) 3 3] W fun e w' => ∃ g cp, e = .returned (.slice (some ⟨g, 0, none⟩) (artL ((r1 ++ r2 ++ r3).map (·.ar))).length cp) ∧ ReadsS w'.heap.size w' (some ⟨g, 0, none⟩) (artL ((r1 ++ r2 ++ r3).map (·.ar))) ∧ Below W.heap.size W w') := fun gb W hg hW s0 s1 s2 => articles_any W gb b1 o1 c1 b2 o2 c2 b3 o3 c3 r1 r2 r3 g1 g2 g3 ⟨hg, Nat.lt_of_lt_of_le k1 hW.size, Nat.lt_of_lt_of_le k2 hW.size, Nat.lt_of_lt_of_le k3 hW.size, s0, s1, s2, HA.out.1.below hW k1, HA.out.2.1.below hW k2, HA.out.2.2.below hW k3⟩
    have HLn : Hid (∀ t W, Below w.heap.size w W → (Calls Try.prog 48 #[.slice (some ⟨b1, o1, none⟩) r1.length c1, .string t] W fun e w' => e = .returned (.agg #[.string (lnO r1 t).ar, .int .i64 (lnO r1 t).un, .int .i64 (lnO r1 t).am]) ∧ Below W.heap.size W w') ∧ (Calls Try.prog 48 #[.slice (some ⟨b2, o2, none⟩) r2.length c2, .string t] W fun e w' => e = .returned (.agg #[.string (lnO r2 t).ar, .int .i64 (lnO r2 t).un, .int .i64 (lnO r2 t).am]) ∧ Below W.heap.size W w') ∧ (Calls Try.prog 48 #[.slice (some ⟨b3, o3, none⟩) r3.length c3, .string t] W fun e w' => e = .returned (.agg #[.string (lnO r3 t).ar, .int .i64 (lnO r3 t).un, .int .i64 (lnO r3 t).am]) ∧ Below W.heap.size W w')) := fun t W hW => ⟨lineOf_any _ c1 r1 t (by omega) W (.inr ⟨b1, o1, rfl, Nat.lt_of_lt_of_le k1 hW.size, HA.out.1.below hW k1⟩), lineOf_any _ c2 r2 t (by omega) W (.inr ⟨b2, o2, rfl, Nat.lt_of_lt_of_le k2 hW.size, HA.out.2.1.below hW k2⟩), lineOf_any _ c3 r3 t (by omega) W (.inr ⟨b3, o3, rfl, Nat.lt_of_lt_of_le k3 hW.size, HA.out.2.2.below hW k3⟩)⟩
    have HTw : Hid (twL r1 r2 r3 = (artL ((r1 ++ r2 ++ r3).map (·.ar))).map (twV r1 r2 r3)) := rfl
    have HSz : Hid (∀ t ∈ artL ((r1 ++ r2 ++ r3).map (·.ar)), t.size ≤ 2000000) := fun t ht => artSz (fun s hs => by
      obtain ⟨r, hr, rfl⟩ := List.mem_map.mp hs
      rcases List.mem_append.mp hr with hr | hr
      · rcases List.mem_append.mp hr with hr | hr
        · exact hp1 r hr
        · exact hp2 r hr
      · exact hp3 r hr) t ht
    have HLe : Hid ((artL ((r1 ++ r2 ++ r3).map (·.ar))).length ≤ 180) := by
      have := artLen ((r1 ++ r2 ++ r3).map (·.ar))
      show _ ≤ _
      simp at this ⊢; omega
    generalize artL ((r1 ++ r2 ++ r3).map (·.ar)) = AL at *
    generalize twL r1 r2 r3 = TL at *
    clear HA hp1 hp2 hp3 g1 g2 g3 q1 q2 q3
    obtain ⟨i0, hi, hzz⟩ := Option.map_eq_some_iff.1 vdInfo
    simp only [Prod.mk.injEq] at hzz
    obtain ⟨hi0, hi1, hi2⟩ := hzz
    go_enter Try.func15, Try.ntmps15
    go_wp2_with fail
    (first | go_at_call 46 | skip)
    refine (K1.out _ (Below.refl _ _)).mono ?_
    rintro e w2 ⟨rfl, hb2⟩
    have B2 : Hid (Below w.heap.size w w2) := hb2
    clear hb2
    go_wp2_with fail
    (first | go_at_call 46 | skip)
    refine (K2.out _ B2.out).mono ?_
    rintro e w3 ⟨rfl, hb3⟩
    have B3 : Hid (Below w.heap.size w w3) := chain B2.out hb3
    clear hb3
    go_wp2_with fail
    (first | go_at_call 46 | skip)
    refine (K3.out _ B3.out).mono ?_
    rintro e w4 ⟨rfl, hb4⟩
    have B4 : Hid (Below w.heap.size w w4) := chain B3.out hb4
    clear hb4
    go_wp2_with fail
    (first | go_at_call 47 | skip)
    refine (HAr.out w4.heap.size _ (by simp) (chain B4.out (below_alloc _ _)) (by simp) (by simp) (by simp)).mono ?_
    rintro e w5 ⟨ga, ca, rfl, hr5, hb5⟩
    have B5 : Hid (Below w.heap.size w w5) := chain (chain B4.out (below_alloc _ _)) hb5
    have R5 : Hid (ReadsS w5.heap.size w5 (some ⟨ga, 0, none⟩) AL) := hr5
    have H0 : Hid (OneV w5 w5.heap.size (.slice none 0 0) [] w5) := OneV.nil w5 _ rfl
    clear hr5 hb5 HAr K1 K2 K3
    go_wp2_with fail
    go_loopw [8, 10, 11, 39] (fun v _ _ c wr => ∃ k : Nat, k ≤ AL.length ∧ c = .int .i64 (k : Int) ∧ OneV w5 w5.heap.size v ((AL.take k).map (twV r1 r2 r3)) wr) (fun _ _ _ c _ => AL.length - (intOf c).toNat)
    case atStart => exact ⟨0, Nat.zero_le _, rfl, by simpa using H0.out⟩
    case round =>
      clear H0
      obtain ⟨k, hk, rfl, hO⟩ := hrel
      have HO : Hid (OneV w5 w5.heap.size u8 ((AL.take k).map (twV r1 r2 r3)) wr) := hO
      have hle180 := HLe.out
      clear hO
      by_cases hlt : k < AL.length
      · have hlt' : (k : Int) < (AL.length : Int) := by omega
        rcases R5.out with h | ⟨b0, o0, ha, hB0, ia⟩
        · rw [h] at hlt; simp at hlt
        have c0 := (ia.below HO.out.2.2 hB0) k hlt
        have hsz := getS HSz.out hlt
        have HN : Hid ((AL.take k).map (twV r1 r2 r3) ++ [⟨AL.getD k ByteArray.empty, cdV (lnO r1 (AL.getD k ByteArray.empty)) (lnO r2 (AL.getD k ByteArray.empty)) (lnO r3 (AL.getD k ByteArray.empty))⟩] = (AL.take (k + 1)).map (twV r1 r2 r3)) := by
          have e : AL.getD k ByteArray.empty = AL[k] := by simp [List.getD_eq_getElem?_getD, hlt]
          show _ = _
          rw [List.take_succ_eq_append_getElem hlt, List.map_append, e]; rfl
        have hlen : ((AL.take k).map (twV r1 r2 r3)).length = k := by rw [List.length_map, List.length_take]; omega
        have hln := HLn.out (AL.getD k ByteArray.empty)
        have HLn2 : Hid (∀ W, Below w.heap.size w W → (Calls Try.prog 48 #[.slice (some ⟨b1, o1, none⟩) r1.length c1, .string (AL.getD k ByteArray.empty)] W fun e w' => e = .returned (.agg #[.string (lnO r1 (AL.getD k ByteArray.empty)).ar, .int .i64 (lnO r1 (AL.getD k ByteArray.empty)).un, .int .i64 (lnO r1 (AL.getD k ByteArray.empty)).am]) ∧ Below W.heap.size W w') ∧ (Calls Try.prog 48 #[.slice (some ⟨b2, o2, none⟩) r2.length c2, .string (AL.getD k ByteArray.empty)] W fun e w' => e = .returned (.agg #[.string (lnO r2 (AL.getD k ByteArray.empty)).ar, .int .i64 (lnO r2 (AL.getD k ByteArray.empty)).un, .int .i64 (lnO r2 (AL.getD k ByteArray.empty)).am]) ∧ Below W.heap.size W w') ∧ (Calls Try.prog 48 #[.slice (some ⟨b3, o3, none⟩) r3.length c3, .string (AL.getD k ByteArray.empty)] W fun e w' => e = .returned (.agg #[.string (lnO r3 (AL.getD k ByteArray.empty)).ar, .int .i64 (lnO r3 (AL.getD k ByteArray.empty)).un, .int .i64 (lnO r3 (AL.getD k ByteArray.empty)).am]) ∧ Below W.heap.size W w')) := hln
        have HCd : Hid (∀ W, Calls Try.prog 50 #[.agg #[.string (lnO r1 (AL.getD k ByteArray.empty)).ar, .int .i64 (lnO r1 (AL.getD k ByteArray.empty)).un, .int .i64 (lnO r1 (AL.getD k ByteArray.empty)).am, .string (lnO r2 (AL.getD k ByteArray.empty)).ar, .int .i64 (lnO r2 (AL.getD k ByteArray.empty)).un, .int .i64 (lnO r2 (AL.getD k ByteArray.empty)).am, .string (lnO r3 (AL.getD k ByteArray.empty)).ar, .int .i64 (lnO r3 (AL.getD k ByteArray.empty)).un, .int .i64 (lnO r3 (AL.getD k ByteArray.empty)).am]] W fun e' w' => e' = .returned (.int .i64 (cdV (lnO r1 (AL.getD k ByteArray.empty)) (lnO r2 (AL.getD k ByteArray.empty)) (lnO r3 (AL.getD k ByteArray.empty)))) ∧ Below W.heap.size W w') := fun W => code_any _ _ _ (HZ.out _).1 (HZ.out _).2 W
        have HCl : Hid (∀ W, Calls Try.prog 49 #[.string (AL.getD k ByteArray.empty)] W fun e w' => e = .returned (.string (AL.getD k ByteArray.empty)) ∧ Below W.heap.size W w') := fun W => twClone_any _ hsz W
        rw [Option.some.injEq, Addr.mk.injEq] at ha
        obtain ⟨rfl, rfl, _⟩ := ha
        rw [Nat.zero_add] at c0
        clear ia hln hsz
        generalize cdV (lnO r1 (AL.getD k ByteArray.empty)) (lnO r2 (AL.getD k ByteArray.empty)) (lnO r3 (AL.getD k ByteArray.empty)) = cv at *
        generalize lnO r1 (AL.getD k ByteArray.empty) = l1 at *
        generalize lnO r2 (AL.getD k ByteArray.empty) = l2 at *
        generalize lnO r3 (AL.getD k ByteArray.empty) = l3 at *
        generalize AL.getD k ByteArray.empty = t at *
        generalize (AL.take k).map (twV r1 r2 r3) = M at *
        obtain rfl : M.length = k := hlen
        obtain ⟨va, vc, hv, _⟩ := HO.out.form
        subst hv
        have HBw : Hid (Below w.heap.size w wr) := chain B5.out HO.out.2.2
        go_wp2_with fail
        (first | go_at_call 48 | skip)
        refine (HLn2.out _ HBw.out).1.mono ?_
        rintro e w6 ⟨rfl, hb6⟩
        have B6 : Hid (Below wr.heap.size wr w6) := hb6
        clear hb6
        go_wp2_with fail
        (first | go_at_call 48 | skip)
        refine (HLn2.out _ (chain HBw.out B6.out)).2.1.mono ?_
        rintro e w7 ⟨rfl, hb7⟩
        have B7 : Hid (Below wr.heap.size wr w7) := chain B6.out hb7
        clear hb7
        go_wp2_with fail
        (first | go_at_call 48 | skip)
        refine (HLn2.out _ (chain HBw.out B7.out)).2.2.mono ?_
        rintro e w8 ⟨rfl, hb8⟩
        have B8 : Hid (Below wr.heap.size wr w8) := chain B7.out hb8
        clear hb8 HLn2
        go_upto_region 10 with fail
        obtain ⟨bx, hbx⟩ : ∃ bx, bx = w8.heap.size := ⟨_, rfl⟩
        obtain ⟨W1, hW1⟩ : ∃ W1, W1 = w8.alloc (Obj.cells #[.string l1.ar, .int .i64 l1.un, .int .i64 l1.am, .string l2.ar, .int .i64 l2.un, .int .i64 l2.am, .string l3.ar, .int .i64 l3.un, .int .i64 l3.am] 85) := ⟨_, rfl⟩
        have HX1 : Hid (W1.cell? ⟨bx, 0, none⟩ = some (.string l1.ar) ∧ W1.cell? ⟨bx, 1, none⟩ = some (.int .i64 l1.un) ∧ W1.cell? ⟨bx, 2, none⟩ = some (.int .i64 l1.am) ∧ W1.cell? ⟨bx, 3, none⟩ = some (.string l2.ar) ∧ W1.cell? ⟨bx, 4, none⟩ = some (.int .i64 l2.un) ∧ W1.cell? ⟨bx, 5, none⟩ = some (.int .i64 l2.am) ∧ W1.cell? ⟨bx, 6, none⟩ = some (.string l3.ar) ∧ W1.cell? ⟨bx, 7, none⟩ = some (.int .i64 l3.un) ∧ W1.cell? ⟨bx, 8, none⟩ = some (.int .i64 l3.am)) := by
          rw [hW1, hbx]
          exact ⟨cellNew _ _ _ _ rfl rfl, cellNew _ _ _ _ rfl rfl, cellNew _ _ _ _ rfl rfl, cellNew _ _ _ _ rfl rfl, cellNew _ _ _ _ rfl rfl, cellNew _ _ _ _ rfl rfl, cellNew _ _ _ _ rfl rfl, cellNew _ _ _ _ rfl rfl, cellNew _ _ _ _ rfl rfl⟩
        have HO8 : Hid (OneV w5 w5.heap.size (.slice va M.length vc) M w8) := HO.out.later B8.out
        have HO1 : Hid (OneV w5 w5.heap.size (.slice va M.length vc) M W1) := by show OneV _ _ _ _ _; rw [hW1]; exact HO8.out.alloc _
        have hbz : bx < W1.heap.size := by rw [hW1, hbx]; simp
        have HNe : Hid (∀ q, Value.ownBlock (.slice va M.length vc) = some q → q < bx) := fun q hq => by rw [hbx]; exact (HO8.out.1.lt q hq).2
        rw [← hW1, ← hbx]
        clear hW1 hbx HO8
        refine wp_region_held_drew (S := fun W' => W'.cell? ⟨bx, 0, none⟩ = some (.string l1.ar) ∧ W'.cell? ⟨bx, 1, none⟩ = some (.int .i64 l1.un) ∧ W'.cell? ⟨bx, 2, none⟩ = some (.int .i64 l1.am) ∧ W'.cell? ⟨bx, 3, none⟩ = some (.string l2.ar) ∧ W'.cell? ⟨bx, 4, none⟩ = some (.int .i64 l2.un) ∧ W'.cell? ⟨bx, 5, none⟩ = some (.int .i64 l2.am) ∧ W'.cell? ⟨bx, 6, none⟩ = some (.string l3.ar) ∧ W'.cell? ⟨bx, 7, none⟩ = some (.int .i64 l3.un) ∧ W'.cell? ⟨bx, 8, none⟩ = some (.int .i64 l3.am)) (by kernel_rfl) HX1.out (fun hH => ?_)
        refine wpAnyH_take (i := 0) (v := .slice va M.length vc) rfl (by kernel_rfl) (by kernel_rfl) (by kernel_rfl) (fun _ _ _ h => h) (Or.inl ⟨by rfl, fun w hSw => by clear hSw; go_simp⟩) hH ?_
        refine wpAnyH_take (i := 1) (v := .string t) rfl (by kernel_rfl) (by kernel_rfl) (by kernel_rfl) (fun _ _ _ h => h) (Or.inl ⟨by rfl, fun w hSw => by clear hSw; go_simp⟩) hH ?_
        try simp only [Act.put, List.setIfInBounds_toArray, List.set_cons_zero, List.set_cons_succ, List.getElem_toArray, List.getElem_cons_succ, List.getElem_cons_zero]
        refine wpAnyH_take (i := 3) (v := .agg #[.string l1.ar, .int .i64 l1.un, .int .i64 l1.am, .string l2.ar, .int .i64 l2.un, .int .i64 l2.am, .string l3.ar, .int .i64 l3.un, .int .i64 l3.am]) rfl (by kernel_rfl) (by kernel_rfl) (by kernel_rfl) (fun _ _ _ h => h) (Or.inl ⟨by rfl, fun w hSw => by obtain ⟨f0, f1, f2, f3, f4, f5, f6, f7, f8⟩ := hSw; go_simp⟩) hH ?_
        try simp only [Act.put, List.setIfInBounds_toArray, List.set_cons_zero, List.set_cons_succ, List.getElem_toArray, List.getElem_cons_succ, List.getElem_cons_zero]
        refine wpAnyH_ready (rs := [2]) (by kernel_rfl) (by simp) ?_
        refine AllReadyH.cons rfl (fun K hK => ?_) AllReadyH.nil
        go_simp
        go_at_call 49
        refine (HCl.out _).mono ?_
        rintro e w9 ⟨rfl, hb9⟩
        have B9 : Hid (Below W1.heap.size W1 w9) := chain (below_drew _) hb9
        clear hb9
        have hS9 : w9.cell? ⟨bx, 0, none⟩ = some (.string l1.ar) ∧ w9.cell? ⟨bx, 1, none⟩ = some (.int .i64 l1.un) ∧ w9.cell? ⟨bx, 2, none⟩ = some (.int .i64 l1.am) ∧ w9.cell? ⟨bx, 3, none⟩ = some (.string l2.ar) ∧ w9.cell? ⟨bx, 4, none⟩ = some (.int .i64 l2.un) ∧ w9.cell? ⟨bx, 5, none⟩ = some (.int .i64 l2.am) ∧ w9.cell? ⟨bx, 6, none⟩ = some (.string l3.ar) ∧ w9.cell? ⟨bx, 7, none⟩ = some (.int .i64 l3.un) ∧ w9.cell? ⟨bx, 8, none⟩ = some (.int .i64 l3.am) := by
          obtain ⟨f0, f1, f2, f3, f4, f5, f6, f7, f8⟩ := HX1.out
          exact ⟨(B9.out.cell (p := ⟨bx, 0, none⟩) hbz).trans f0, (B9.out.cell (p := ⟨bx, 1, none⟩) hbz).trans f1, (B9.out.cell (p := ⟨bx, 2, none⟩) hbz).trans f2, (B9.out.cell (p := ⟨bx, 3, none⟩) hbz).trans f3, (B9.out.cell (p := ⟨bx, 4, none⟩) hbz).trans f4, (B9.out.cell (p := ⟨bx, 5, none⟩) hbz).trans f5, (B9.out.cell (p := ⟨bx, 6, none⟩) hbz).trans f6, (B9.out.cell (p := ⟨bx, 7, none⟩) hbz).trans f7, (B9.out.cell (p := ⟨bx, 8, none⟩) hbz).trans f8⟩
        refine hK.out _ _ hS9 (fun _ => ?_)
        clear hK K
        try simp only [Act.put, List.setIfInBounds_toArray, List.set_cons_zero, List.set_cons_succ, List.getElem_toArray, List.getElem_cons_succ, List.getElem_cons_zero]
        refine wpAnyH_ready (rs := [4]) (by kernel_rfl) (by simp) ?_
        refine AllReadyH.cons rfl (fun K hK => ?_) AllReadyH.nil
        go_simp
        go_at_call 50
        refine (HCd.out _).mono ?_
        rintro e w10 ⟨rfl, hb10⟩
        have B10 : Hid (Below W1.heap.size W1 w10) := chain B9.out hb10
        clear hb10
        have hS10 : w10.cell? ⟨bx, 0, none⟩ = some (.string l1.ar) ∧ w10.cell? ⟨bx, 1, none⟩ = some (.int .i64 l1.un) ∧ w10.cell? ⟨bx, 2, none⟩ = some (.int .i64 l1.am) ∧ w10.cell? ⟨bx, 3, none⟩ = some (.string l2.ar) ∧ w10.cell? ⟨bx, 4, none⟩ = some (.int .i64 l2.un) ∧ w10.cell? ⟨bx, 5, none⟩ = some (.int .i64 l2.am) ∧ w10.cell? ⟨bx, 6, none⟩ = some (.string l3.ar) ∧ w10.cell? ⟨bx, 7, none⟩ = some (.int .i64 l3.un) ∧ w10.cell? ⟨bx, 8, none⟩ = some (.int .i64 l3.am) := by
          obtain ⟨f0, f1, f2, f3, f4, f5, f6, f7, f8⟩ := HX1.out
          exact ⟨(B10.out.cell (p := ⟨bx, 0, none⟩) hbz).trans f0, (B10.out.cell (p := ⟨bx, 1, none⟩) hbz).trans f1, (B10.out.cell (p := ⟨bx, 2, none⟩) hbz).trans f2, (B10.out.cell (p := ⟨bx, 3, none⟩) hbz).trans f3, (B10.out.cell (p := ⟨bx, 4, none⟩) hbz).trans f4, (B10.out.cell (p := ⟨bx, 5, none⟩) hbz).trans f5, (B10.out.cell (p := ⟨bx, 6, none⟩) hbz).trans f6, (B10.out.cell (p := ⟨bx, 7, none⟩) hbz).trans f7, (B10.out.cell (p := ⟨bx, 8, none⟩) hbz).trans f8⟩
        refine hK.out _ _ hS10 (fun _ => ?_)
        clear hK K
        try simp only [Act.put, List.setIfInBounds_toArray, List.set_cons_zero, List.set_cons_succ, List.getElem_toArray, List.getElem_cons_succ, List.getElem_cons_zero]
        refine wpAnyH_take (i := 5) (v := .agg #[.string t, .int .i64 cv]) rfl (by kernel_rfl) (by kernel_rfl) (by kernel_rfl) (fun _ _ _ h => h) (Or.inl ⟨by rfl, fun w hSw => by clear hSw; go_simp⟩) hS10 ?_
        try simp only [Act.put, List.setIfInBounds_toArray, List.set_cons_zero, List.set_cons_succ, List.getElem_toArray, List.getElem_cons_succ, List.getElem_cons_zero]
        refine wpAnyH_ready (rs := [6]) (by kernel_rfl) (by simp) ?_
        refine AllReadyH.cons rfl (fun K hK => ?_) AllReadyH.nil
        go_simp
        have hb11 : Below W1.heap.size W1 (w10.alloc (Obj.cells #[.string t, .int .i64 cv] 39)) := chain B10.out (below_alloc _ _)
        have hn11 : (w10.alloc (Obj.cells #[.string t, .int .i64 cv] 39)).heap[w10.heap.size]? = some (.cells #[.string t, .int .i64 cv] 39 (0, 0)) := heapNew _ _
        have hS11 : (w10.alloc (Obj.cells #[.string t, .int .i64 cv] 39)).cell? ⟨bx, 0, none⟩ = some (.string l1.ar) ∧ (w10.alloc (Obj.cells #[.string t, .int .i64 cv] 39)).cell? ⟨bx, 1, none⟩ = some (.int .i64 l1.un) ∧ (w10.alloc (Obj.cells #[.string t, .int .i64 cv] 39)).cell? ⟨bx, 2, none⟩ = some (.int .i64 l1.am) ∧ (w10.alloc (Obj.cells #[.string t, .int .i64 cv] 39)).cell? ⟨bx, 3, none⟩ = some (.string l2.ar) ∧ (w10.alloc (Obj.cells #[.string t, .int .i64 cv] 39)).cell? ⟨bx, 4, none⟩ = some (.int .i64 l2.un) ∧ (w10.alloc (Obj.cells #[.string t, .int .i64 cv] 39)).cell? ⟨bx, 5, none⟩ = some (.int .i64 l2.am) ∧ (w10.alloc (Obj.cells #[.string t, .int .i64 cv] 39)).cell? ⟨bx, 6, none⟩ = some (.string l3.ar) ∧ (w10.alloc (Obj.cells #[.string t, .int .i64 cv] 39)).cell? ⟨bx, 7, none⟩ = some (.int .i64 l3.un) ∧ (w10.alloc (Obj.cells #[.string t, .int .i64 cv] 39)).cell? ⟨bx, 8, none⟩ = some (.int .i64 l3.am) := by
          obtain ⟨f0, f1, f2, f3, f4, f5, f6, f7, f8⟩ := HX1.out
          exact ⟨(hb11.cell (p := ⟨bx, 0, none⟩) hbz).trans f0, (hb11.cell (p := ⟨bx, 1, none⟩) hbz).trans f1, (hb11.cell (p := ⟨bx, 2, none⟩) hbz).trans f2, (hb11.cell (p := ⟨bx, 3, none⟩) hbz).trans f3, (hb11.cell (p := ⟨bx, 4, none⟩) hbz).trans f4, (hb11.cell (p := ⟨bx, 5, none⟩) hbz).trans f5, (hb11.cell (p := ⟨bx, 6, none⟩) hbz).trans f6, (hb11.cell (p := ⟨bx, 7, none⟩) hbz).trans f7, (hb11.cell (p := ⟨bx, 8, none⟩) hbz).trans f8⟩
        refine hK.out _ _ hS11 (fun _ => ?_)
        clear hK K
        try simp only [Act.put, List.setIfInBounds_toArray, List.set_cons_zero, List.set_cons_succ, List.getElem_toArray, List.getElem_cons_succ, List.getElem_cons_zero]
        generalize w10.alloc (Obj.cells #[.string t, .int .i64 cv] 39) = W4 at *
        have HO4 : Hid (OneV w5 w5.heap.size (.slice va M.length vc) M W4) := HO1.out.later hb11
        refine wpAnyH_ready (rs := [7]) (by kernel_rfl) (by simp) ?_
        refine AllReadyH.cons rfl (fun K hK => ?_) AllReadyH.nil
        refine step_append_lies _ rfl (.tmp 53) (.tmp 59) 34 rfl w5.heap.size 39 i0 (.agg #[.string ⟨#[]⟩, .int .i64 0]) 2 24 Try.underlying34 hi hi0 hi1 hi2 rfl (by decide) (.slice va M.length vc) _ _ (by simp [Act.eval]) HO4.out.1 ⟨w10.heap.size, 0, none⟩ 1 1 [.string t, .int .i64 cv] (by simp [Act.eval]) rfl (World.news_of_block hn11) (by simp [Value.oneCell']) (by omega) (by unfold maxLen; omega) (by omega) HO4.out.2.1 _ rfl (fun g1 cp1 w12 hown hgrow hat hglt => ?_)
        have HO7 : Hid (OneV w5 w5.heap.size (.slice (some ⟨g1, 0, none⟩) (M.length + 1) cp1) ((AL.take (M.length + 1)).map (twV r1 r2 r3)) w12) := by
          have := HO4.out.push hown hgrow
          show OneV _ _ _ _ _
          rw [← HN.out]; exact this
        have hS12 : w12.cell? ⟨bx, 0, none⟩ = some (.string l1.ar) ∧ w12.cell? ⟨bx, 1, none⟩ = some (.int .i64 l1.un) ∧ w12.cell? ⟨bx, 2, none⟩ = some (.int .i64 l1.am) ∧ w12.cell? ⟨bx, 3, none⟩ = some (.string l2.ar) ∧ w12.cell? ⟨bx, 4, none⟩ = some (.int .i64 l2.un) ∧ w12.cell? ⟨bx, 5, none⟩ = some (.int .i64 l2.am) ∧ w12.cell? ⟨bx, 6, none⟩ = some (.string l3.ar) ∧ w12.cell? ⟨bx, 7, none⟩ = some (.int .i64 l3.un) ∧ w12.cell? ⟨bx, 8, none⟩ = some (.int .i64 l3.am) := by
          have hne : some bx ≠ Value.ownBlock (.slice va M.length vc) := fun e => absurd (HNe.out bx e.symm) (Nat.lt_irrefl _)
          obtain ⟨f0, f1, f2, f3, f4, f5, f6, f7, f8⟩ := hS11
          exact ⟨hgrow.cell f0 hne, hgrow.cell f1 hne, hgrow.cell f2 hne, hgrow.cell f3 hne, hgrow.cell f4 hne, hgrow.cell f5 hne, hgrow.cell f6 hne, hgrow.cell f7 hne, hgrow.cell f8 hne⟩
        clear hown hgrow hat hglt hn11 hb11
        refine hK.out _ _ hS12 (fun _ => ?_)
        clear hK K
        try simp only [Act.put, List.setIfInBounds_toArray, List.set_cons_zero, List.set_cons_succ, List.getElem_toArray, List.getElem_cons_succ, List.getElem_cons_zero]
        refine wpAnyH_take (i := 8) (v := .slice (some ⟨g1, 0, none⟩) (M.length + 1) cp1) rfl (by kernel_rfl) (by kernel_rfl) (by kernel_rfl) (fun _ _ _ h => h) (Or.inl ⟨by rfl, fun w hSw => by clear hSw; go_simp⟩) hS12 ?_
        try simp only [Act.put, List.setIfInBounds_toArray, List.set_cons_zero, List.set_cons_succ, List.getElem_toArray, List.getElem_cons_succ, List.getElem_cons_zero]
        refine wpAnyH_done (by kernel_rfl) ?_ _
        clear hH hS9 hS10 hS11 hS12
        go_wp2
        go_roundw
        case rel => exact ⟨M.length + 1, by omega, by go_num, HO7.out⟩
        case measure => simp [intOf]; omega
      · have hle : ¬ (k : Int) < (AL.length : Int) := by omega
        obtain rfl : k = AL.length := by omega
        have HE : Hid (OneV w5 w5.heap.size u8 TL wr) := by show OneV _ _ _ _ _; rw [HTw.out]; have := HO.out; rwa [List.take_length] at this
        go_wp2_with fail
        go_ret2
        exact AnsW3.of B5.out HE.out _
end Go.Proofs.Ytfiajiodehhmhaa
