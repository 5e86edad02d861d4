/-
  Contract of the specification's ThreeWay, for three lists of lines.
-/
import Derived.Test.YtfiajiodehhmhaaTwJ
import Derived.Test.YtfiajiodehhmhaaTwH
import Derived.Test.YtfiajiodehhmhaaTwF
namespace Go.Proofs.Ytfiajiodehhmhaa
open Go.ChangeShapes Go.WideShapes Go.ChangeAt Go.RowKit Go.Joins Go.Deep Go.Sort Go.Shelf
set_option linter.unusedVariables false

theorem cellNewT (w : World) (v : Value) (t : TypeId) : (w.alloc (Obj.cells #[v] t)).cell? ⟨w.heap.size, 0, none⟩ = some v := cellNew _ _ _ _ rfl rfl
theorem wpList_pushT {ops : Array Oper} {rest : List Oper} {o : Oper} {a : Act} {Q : Exit → Act → World → Prop} (hgd : o.guard = none) (s x : Operand)
    (ho : o.op = .call { callee := .builtin .append, args := #[s, x], argTypes := #[67, 67] }) (w0 : World) (B : Nat) (v : Value) (L : List ByteArray) (wr : World) (b : Nat) (t : ByteArray) (h : OneS w0 B v L wr) (hr : wr.cell? ⟨b, 0, none⟩ = some (.string t)) (hL : L.length ≤ 1000000) (hs : a.eval s = v) (hx : a.eval x = .slice (some ⟨b, 0, none⟩) 1 1)
    (K : ∀ v' w', OneS w0 B v' (L ++ [t]) w' → wpList Try.prog ops Q rest (a.put o.dst v') w') : wpList Try.prog ops Q (o :: rest) a wr := by
  obtain ⟨i0, hi, hzz⟩ := Option.map_eq_some_iff.1 strInfS
  simp only [Prod.mk.injEq] at hzz
  obtain ⟨hi0, hi1, hi2⟩ := hzz
  refine wpList_append_own_at _ hgd s x 67 ho B 9 i0 _ 1 16 Try.underlying67 hi hi0 hi1 hi2 rfl (by decide) v L.length _ hs h.1 ⟨b, 0, none⟩ 1 1 [.string t] hx rfl (fun j u hj => ?_) (by intro u hu; simp at hu; subst hu; rfl) (by unfold maxLen; omega) (by omega) h.2.1 ?_
  · match j, hj with
    | 0, hj => simp at hj; subst hj; simpa [Addr.add] using hr
  intro v' w' h1 h2 _ _
  refine K v' w' ⟨?_, Nat.le_trans h.2.1 h2.size, h.2.2.grown h2 h.2.1 (fun q hq => (h.1.lt q hq).1)⟩
  rw [List.length_append, List.map_append]; exact h1
set_option maxHeartbeats 16000000 in
set_option maxRecDepth 8000 in
theorem specThree_any (b1 o1 c1 b2 o2 c2 b3 o3 c3 : Nat) (r1 r2 r3 : List RDc) (hl1 : r1.length ≤ 100000000) (hl2 : r2.length ≤ 100000000) (hl3 : r3.length ≤ 100000000) (hc1 : r1.length ≤ c1 ∧ c1 ≤ 100000000) (hc2 : r2.length ≤ c2 ∧ c2 ≤ 100000000) (hc3 : r3.length ≤ c3 ∧ c3 ≤ 100000000) (hp1 : ∀ r ∈ r1, DcOK r) (hp2 : ∀ r ∈ r2, DcOK r) (hp3 : ∀ r ∈ r3, DcOK r) (w : World) (k1 : b1 < w.heap.size) (k2 : b2 < w.heap.size) (k3 : b3 < w.heap.size) (a1 : DcsAt w b1 o1 r1) (a2 : DcsAt w b2 o2 r2) (a3 : DcsAt w b3 o3 r3) :
    Calls Try.prog 24 #[.slice (some ⟨b1, o1, none⟩) r1.length c1, .slice (some ⟨b2, o2, none⟩) r2.length c2, .slice (some ⟨b3, o3, none⟩) r3.length c3] w (AnsW3 w (twA r1 r2 r3) (twC r1 r2 r3)) := by
  have hR : ∀ (b off c : Nat) (rs : List RDc) (hl : rs.length ≤ 100000000) (hc : rs.length ≤ c ∧ c ≤ 100000000) (hp : ∀ r ∈ rs, DcOK r), b < w.heap.size → DcsAt w b off rs → ∀ W, Below w.heap.size w W → Calls Try.prog 58 #[.slice (some ⟨b, off, none⟩) rs.length c] W fun e w' => e = .returned (.bool (dcsB rs)) ∧ Below W.heap.size W w' := fun b off c rs hl hc hp hb ha W hW => specDoc_any _ c rs hl hc.1 hc.2 hp W (.inr ⟨b, off, rfl, Nat.lt_of_lt_of_le hb hW.size, ha.below hW hb⟩)
  have K1 : Hid (∀ W, Below w.heap.size w W → Calls Try.prog 58 #[.slice (some ⟨b1, o1, none⟩) r1.length c1] W fun e w' => e = .returned (.bool (dcsB r1)) ∧ Below W.heap.size W w') := hR b1 o1 c1 r1 hl1 hc1 hp1 k1 a1
  have K2 : Hid (∀ W, Below w.heap.size w W → Calls Try.prog 58 #[.slice (some ⟨b2, o2, none⟩) r2.length c2] W fun e w' => e = .returned (.bool (dcsB r2)) ∧ Below W.heap.size W w') := hR b2 o2 c2 r2 hl2 hc2 hp2 k2 a2
  have K3 : Hid (∀ W, Below w.heap.size w W → Calls Try.prog 58 #[.slice (some ⟨b3, o3, none⟩) r3.length c3] W fun e w' => e = .returned (.bool (dcsB r3)) ∧ Below W.heap.size W w') := hR b3 o3 c3 r3 hl3 hc3 hp3 k3 a3
  have HA : Hid (DcsAt w b1 o1 r1 ∧ DcsAt w b2 o2 r2 ∧ DcsAt w b3 o3 r3) := ⟨a1, a2, a3⟩
  clear hR a1 a2 a3 hc1 hc2 hc3
  rcases tw_ways r1 r2 r3 with ⟨h, e1, e2⟩ | ⟨⟨g1, g2, g3⟩, h, e1, e2⟩ | ⟨⟨g1, g2, g3⟩, ⟨q1, q2, q3⟩, e1, e2⟩ <;> rw [e1, e2] <;> clear e1 e2
  · clear K1 K2 K3 hp1 hp2 hp3 HA
    by_cases x1 : (4096 : Int) < (r1.length : Int)
    · clear h
      go_enter Try.func24, Try.ntmps24
      go_wp2
      go_ret2
      exact AnsW3.of (Below.refl _ _) (OneV.start _ _ rfl) _
    by_cases x2 : (4096 : Int) < (r2.length : Int)
    · clear h
      go_enter Try.func24, Try.ntmps24
      go_wp2
      go_ret2
      exact AnsW3.of (Below.refl _ _) (OneV.start _ _ rfl) _
    have x3 : (4096 : Int) < (r3.length : Int) := by omega
    clear h
    go_enter Try.func24, Try.ntmps24
    go_wp2
    go_ret2
    exact AnsW3.of (Below.refl _ _) (OneV.start _ _ rfl) _
  · have x1 : ¬ (4096 : Int) < (r1.length : Int) := by omega
    have x2 : ¬ (4096 : Int) < (r2.length : Int) := by omega
    have x3 : ¬ (4096 : Int) < (r3.length : Int) := by omega
    clear g1 g2 g3 hp1 hp2 hp3 HA
    generalize dcsB r1 = d1 at *
    generalize dcsB r2 = d2 at *
    generalize dcsB r3 = d3 at *
    go_enter Try.func24, Try.ntmps24
    go_wp2_with fail
    (first | go_at_call 58 | skip)
    refine (K1.out _ (Below.refl _ _)).mono ?_
    rintro e w2 ⟨rfl, hb2⟩
    have B2 : Hid (Below w.heap.size w w2) := hb2
    clear hb2
    cases d1
    · go_wp2_with fail
      go_ret2
      exact AnsW3.of B2.out (OneV.start w2 _ rfl) _
    go_wp2_with fail
    (first | go_at_call 58 | skip)
    refine (K2.out _ B2.out).mono ?_
    rintro e w3 ⟨rfl, hb3⟩
    have B3 : Hid (Below w.heap.size w w3) := chain B2.out hb3
    clear hb3
    cases d2
    · go_wp2_with fail
      go_ret2
      exact AnsW3.of B3.out (OneV.start w3 _ rfl) _
    go_wp2_with fail
    (first | go_at_call 58 | skip)
    refine (K3.out _ B3.out).mono ?_
    rintro e w4 ⟨rfl, hb4⟩
    have B4 : Hid (Below w.heap.size w w4) := chain B3.out hb4
    clear hb4
    cases d3
    · go_wp2_with fail
      go_ret2
      exact AnsW3.of B4.out (OneV.start w4 _ rfl) _
    simp at h
  · have x1 : ¬ (4096 : Int) < (r1.length : Int) := by omega
    have x2 : ¬ (4096 : Int) < (r2.length : Int) := by omega
    have x3 : ¬ (4096 : Int) < (r3.length : Int) := by omega
    rw [q1] at K1
    rw [q2] at K2
    rw [q3] at K3
    have hal : ∀ rs, dcsB rs = true → rs.all dcB = true := fun rs h => by unfold dcsB at h; simp only [Bool.and_eq_true, decide_eq_true_eq] at h; exact h.2.2
    have HVd : Hid (∀ t W, Below w.heap.size w W → Calls Try.prog 60 #[.slice (some ⟨b1, o1, none⟩) r1.length c1, .slice (some ⟨b2, o2, none⟩) r2.length c2, .slice (some ⟨b3, o3, none⟩) r3.length c3, .string t] W fun e w' => e = .returned (.int .i64 (cdV (lnO r1 t) (lnO r2 t) (lnO r3 t))) ∧ Below W.heap.size W w') := fun t W hW => specVerdict_any b1 o1 c1 b2 o2 c2 b3 o3 c3 r1 r2 r3 t g1 g2 g3 (hal _ q1) (hal _ q2) (hal _ q3) W (Nat.lt_of_lt_of_le k1 hW.size) (Nat.lt_of_lt_of_le k2 hW.size) (Nat.lt_of_lt_of_le k3 hW.size) (HA.out.1.below hW k1) (HA.out.2.1.below hW k2) (HA.out.2.2.below hW k3)
    have HTw : Hid (twL r1 r2 r3 = (artL ((r1 ++ r2 ++ r3).map (·.ar))).map (twV r1 r2 r3)) := rfl
    have HLe : Hid ((artL ((r1 ++ r2 ++ r3).map (·.ar))).length ≤ 180) := by
      have := artLen ((r1 ++ r2 ++ r3).map (·.ar))
      show _ ≤ _
      simp at this ⊢; omega
    generalize twL r1 r2 r3 = TL at *
    clear hp1 hp2 hp3 q1 q2 q3 hal
    obtain ⟨i0, hi, hzz⟩ := Option.map_eq_some_iff.1 vdInfo
    simp only [Prod.mk.injEq] at hzz
    obtain ⟨hi0, hi1, hi2⟩ := hzz
    go_enter Try.func24, Try.ntmps24
    go_wp2_with fail
    (first | go_at_call 58 | skip)
    refine (K1.out _ (Below.refl _ _)).mono ?_
    rintro e w2 ⟨rfl, hb2⟩
    have B2 : Hid (Below w.heap.size w w2) := hb2
    clear hb2
    go_wp2_with fail
    (first | go_at_call 58 | skip)
    refine (K2.out _ B2.out).mono ?_
    rintro e w3 ⟨rfl, hb3⟩
    have B3 : Hid (Below w.heap.size w w3) := chain B2.out hb3
    clear hb3
    go_wp2_with fail
    (first | go_at_call 58 | skip)
    refine (K3.out _ B3.out).mono ?_
    rintro e w4 ⟨rfl, hb4⟩
    have B4 : Hid (Below w.heap.size w w4) := chain B3.out hb4
    clear hb4
    have HC1 : Hid (∀ W, Below w4.heap.size w4 W → DcsAt W b1 o1 r1) := fun W hW => HA.out.1.below (chain B4.out hW) k1
    have HC2 : Hid (∀ W, Below w4.heap.size w4 W → DcsAt W b2 o2 r2) := fun W hW => HA.out.2.1.below (chain B4.out hW) k2
    have HC3 : Hid (∀ W, Below w4.heap.size w4 W → DcsAt W b3 o3 r3) := fun W hW => HA.out.2.2.below (chain B4.out hW) k3
    have HS0 : Hid (OneS w4 w4.heap.size (.slice (some ⟨w4.heap.size, 0, none⟩) 0 0) [] (w4.alloc (Obj.cells #[] 9))) := ⟨row_emptyS w4 _ (Nat.le_refl _), by simp, below_alloc _ _⟩
    clear K1 K2 K3 HA
    go_wp2_with fail
    go_loopw [8, 9] (fun v c wr => ∃ k : Nat, k ≤ r1.length ∧ c = .int .i64 (k : Int) ∧ OneS w4 w4.heap.size v (([] : List ByteArray) ++ (r1.take k).map (·.ar)) wr) (fun _ c _ => r1.length - (intOf c).toNat)
    case atStart => exact ⟨0, Nat.zero_le _, rfl, by simpa using HS0.out⟩
    case round =>
      clear HS0
      obtain ⟨k, hk, rfl, hO⟩ := hrel
      have HO : Hid (OneS w4 w4.heap.size u8 (([] : List ByteArray) ++ (r1.take k).map (·.ar)) wr) := hO
      clear hO
      by_cases hlt : k < r1.length
      · have hlt' : (k : Int) < (r1.length : Int) := by omega
        obtain ⟨c0, _, _⟩ := HC1.out wr HO.out.2.2 k hlt
        have HN : Hid ((([] : List ByteArray) ++ (r1.take k).map (·.ar)) ++ [(r1.getD k zDc).ar] = ([] : List ByteArray) ++ (r1.take (k + 1)).map (·.ar)) := by
          have e : r1.getD k zDc = r1[k] := by simp [List.getD_eq_getElem?_getD, hlt]
          show _ = _
          rw [List.take_succ_eq_append_getElem hlt, List.map_append, e, List.append_assoc]; rfl
        have hlen : (([] : List ByteArray) ++ (r1.take k).map (·.ar)).length ≤ 1000 := by simp only [List.length_append, List.length_map, List.length_take, List.length_nil]; omega
        generalize (r1.getD k zDc).ar = t at *
        generalize ([] : List ByteArray) ++ (r1.take k).map (·.ar) = M at *
        go_wp2_with (at_builtin; refine wpList_pushT (by rfl) _ _ (by rfl) w4 w4.heap.size _ M _ wr.heap.size t (HO.out.alloc _) (cellNewT _ _ _) (by omega) (by rfl) (by rfl) ?_; intro v5 w5 h5; have HO5 : Hid (OneS w4 w4.heap.size v5 (M ++ [t]) w5) := h5; clear h5)
        exact ⟨⟨k + 1, by omega, by go_num, by rw [← HN.out]; exact HO5.out⟩, by simp [intOf]; omega⟩
      · have hle : ¬ (k : Int) < (r1.length : Int) := by omega
        have HS0 : Hid (OneS w4 w4.heap.size u8 (([] : List ByteArray) ++ r1.map (·.ar)) wr) := by have := HO.out; rwa [List.take_of_length_le (by omega)] at this
        clear HO hk hlt
        go_wp2
        clear hle
        obtain ⟨wo1, rfl⟩ : ∃ wo1, wo1 = wr := ⟨_, rfl⟩
        obtain ⟨uq1, rfl⟩ : ∃ uq1, uq1 = u8 := ⟨_, rfl⟩
        have HS0' : Hid (OneS w4 w4.heap.size uq1 (r1.map (·.ar)) wo1) := by have := HS0.out; rwa [List.nil_append] at this
        clear HS0
        have HS0 := HS0'
        clear HS0'
        go_loopw [8, 10] (fun v c wr => ∃ k : Nat, k ≤ r2.length ∧ c = .int .i64 (k : Int) ∧ OneS w4 w4.heap.size v (r1.map (·.ar) ++ (r2.take k).map (·.ar)) wr) (fun _ c _ => r2.length - (intOf c).toNat)
        case atStart => exact ⟨0, Nat.zero_le _, rfl, by simpa using HS0.out⟩
        case round =>
          clear HS0
          obtain ⟨k, hk, rfl, hO⟩ := hrel
          have HO : Hid (OneS w4 w4.heap.size u8 (r1.map (·.ar) ++ (r2.take k).map (·.ar)) wr) := hO
          clear hO
          by_cases hlt : k < r2.length
          · have hlt' : (k : Int) < (r2.length : Int) := by omega
            obtain ⟨c0, _, _⟩ := HC2.out wr HO.out.2.2 k hlt
            have HN : Hid ((r1.map (·.ar) ++ (r2.take k).map (·.ar)) ++ [(r2.getD k zDc).ar] = r1.map (·.ar) ++ (r2.take (k + 1)).map (·.ar)) := by
              have e : r2.getD k zDc = r2[k] := by simp [List.getD_eq_getElem?_getD, hlt]
              show _ = _
              rw [List.take_succ_eq_append_getElem hlt, List.map_append, e, List.append_assoc]; rfl
            have hlen : (r1.map (·.ar) ++ (r2.take k).map (·.ar)).length ≤ 1000 := by simp only [List.length_append, List.length_map, List.length_take]; omega
            generalize (r2.getD k zDc).ar = t at *
            generalize r1.map (·.ar) ++ (r2.take k).map (·.ar) = M at *
            go_wp2_with (at_builtin; refine wpList_pushT (by rfl) _ _ (by rfl) w4 w4.heap.size _ M _ wr.heap.size t (HO.out.alloc _) (cellNewT _ _ _) (by omega) (by rfl) (by rfl) ?_; intro v5 w5 h5; have HO5 : Hid (OneS w4 w4.heap.size v5 (M ++ [t]) w5) := h5; clear h5)
            exact ⟨⟨k + 1, by omega, by go_num, by rw [← HN.out]; exact HO5.out⟩, by simp [intOf]; omega⟩
          · have hle : ¬ (k : Int) < (r2.length : Int) := by omega
            have HS0 : Hid (OneS w4 w4.heap.size u8 (r1.map (·.ar) ++ r2.map (·.ar)) wr) := by have := HO.out; rwa [List.take_of_length_le (by omega)] at this
            clear HO hk hlt
            go_wp2
            clear hle
            obtain ⟨wo2, rfl⟩ : ∃ wo2, wo2 = wr := ⟨_, rfl⟩
            obtain ⟨uq2, rfl⟩ : ∃ uq2, uq2 = u8 := ⟨_, rfl⟩
            go_loopw [8, 11] (fun v c wr => ∃ k : Nat, k ≤ r3.length ∧ c = .int .i64 (k : Int) ∧ OneS w4 w4.heap.size v ((r1.map (·.ar) ++ r2.map (·.ar)) ++ (r3.take k).map (·.ar)) wr) (fun _ c _ => r3.length - (intOf c).toNat)
            case atStart => exact ⟨0, Nat.zero_le _, rfl, by simpa using HS0.out⟩
            case round =>
              clear HS0
              obtain ⟨k, hk, rfl, hO⟩ := hrel
              have HO : Hid (OneS w4 w4.heap.size u8 ((r1.map (·.ar) ++ r2.map (·.ar)) ++ (r3.take k).map (·.ar)) wr) := hO
              clear hO
              by_cases hlt : k < r3.length
              · have hlt' : (k : Int) < (r3.length : Int) := by omega
                obtain ⟨c0, _, _⟩ := HC3.out wr HO.out.2.2 k hlt
                have HN : Hid (((r1.map (·.ar) ++ r2.map (·.ar)) ++ (r3.take k).map (·.ar)) ++ [(r3.getD k zDc).ar] = (r1.map (·.ar) ++ r2.map (·.ar)) ++ (r3.take (k + 1)).map (·.ar)) := by
                  have e : r3.getD k zDc = r3[k] := by simp [List.getD_eq_getElem?_getD, hlt]
                  show _ = _
                  rw [List.take_succ_eq_append_getElem hlt, List.map_append, e, List.append_assoc]; rfl
                have hlen : ((r1.map (·.ar) ++ r2.map (·.ar)) ++ (r3.take k).map (·.ar)).length ≤ 1000 := by simp only [List.length_append, List.length_map, List.length_take]; omega
                generalize (r3.getD k zDc).ar = t at *
                generalize (r1.map (·.ar) ++ r2.map (·.ar)) ++ (r3.take k).map (·.ar) = M at *
                go_wp2_with (at_builtin; refine wpList_pushT (by rfl) _ _ (by rfl) w4 w4.heap.size _ M _ wr.heap.size t (HO.out.alloc _) (cellNewT _ _ _) (by omega) (by rfl) (by rfl) ?_; intro v5 w5 h5; have HO5 : Hid (OneS w4 w4.heap.size v5 (M ++ [t]) w5) := h5; clear h5)
                exact ⟨⟨k + 1, by omega, by go_num, by rw [← HN.out]; exact HO5.out⟩, by simp [intOf]; omega⟩
              · have hle : ¬ (k : Int) < (r3.length : Int) := by omega
                have HS0 : Hid (OneS w4 w4.heap.size u8 ((r1.map (·.ar) ++ r2.map (·.ar)) ++ r3.map (·.ar)) wr) := by have := HO.out; rwa [List.take_of_length_le (by omega)] at this
                clear HO hk hlt
                go_wp2_with fail
                clear hle
                obtain ⟨wo3, rfl⟩ : ∃ wo3, wo3 = wr := ⟨_, rfl⟩
                obtain ⟨uq3, rfl⟩ : ∃ uq3, uq3 = u8 := ⟨_, rfl⟩
                have HS3 : Hid (OneS w4 w4.heap.size uq3 ((r1 ++ r2 ++ r3).map (·.ar)) wo3) := by have := HS0.out; rwa [← List.map_append, ← List.map_append] at this
                clear HS0
                obtain ⟨va, vc, hv⟩ := row_slice HS3.out.1
                subst hv
                have HSt := sortL_any va vc ((r1 ++ r2 ++ r3).map (·.ar)) (by simp only [List.length_map, List.length_append]; omega) wo3 (HS3.out.reads rfl)
                (first | go_at_call 59 | skip)
                refine HSt.mono ?_
                rintro e w5 ⟨ga, ca, rfl, hO5⟩
                have B5 : Hid (Below w.heap.size w w5) := chain (chain B4.out HS3.out.2.2) hO5.2.2
                have HGa : Hid (ga < w5.heap.size) := hO5.glt.2
                have R5 : Hid (∀ W, Below w5.heap.size w5 W → ∀ j, j < (artL ((r1 ++ r2 ++ r3).map (·.ar))).length → W.cell? ⟨ga, j, none⟩ = some (.string ((artL ((r1 ++ r2 ++ r3).map (·.ar))).getD j ByteArray.empty))) := fun W hW j hj => (hO5.laterS hW).at hj
                clear HSt hO5 HS3 HC1 HC2 HC3
                generalize artL ((r1 ++ r2 ++ r3).map (·.ar)) = AL at *
                have H0 : Hid (OneV w5 w5.heap.size (.slice (some ⟨w5.heap.size, 0, none⟩) 0 0) [] (w5.alloc (Obj.cells #[] 39))) := OneV.start w5 _ rfl
                go_wp2_with fail
                go_loopw [12, 13] (fun v c wr => ∃ k : Nat, k ≤ AL.length ∧ c = .int .i64 (k : Int) ∧ OneV w5 w5.heap.size v ((AL.take k).map (twV r1 r2 r3)) wr) (fun _ c _ => AL.length - (intOf c).toNat)
                case atStart => exact ⟨0, Nat.zero_le _, rfl, by simpa using H0.out⟩
                case round =>
                  clear H0
                  obtain ⟨k, hk, rfl, hO⟩ := hrel
                  have HO : Hid (OneV w5 w5.heap.size u12 ((AL.take k).map (twV r1 r2 r3)) wr) := hO
                  have hle180 := HLe.out
                  clear hO
                  by_cases hlt : k < AL.length
                  · have hlt' : (k : Int) < (AL.length : Int) := by omega
                    have HN : Hid ((AL.take k).map (twV r1 r2 r3) ++ [⟨AL.getD k ByteArray.empty, cdV (lnO r1 (AL.getD k ByteArray.empty)) (lnO r2 (AL.getD k ByteArray.empty)) (lnO r3 (AL.getD k ByteArray.empty))⟩] = (AL.take (k + 1)).map (twV r1 r2 r3)) := by
                      have e : AL.getD k ByteArray.empty = AL[k] := by simp [List.getD_eq_getElem?_getD, hlt]
                      show _ = _
                      rw [List.take_succ_eq_append_getElem hlt, List.map_append, e]; rfl
                    have hlen : ((AL.take k).map (twV r1 r2 r3)).length = k := by rw [List.length_map, List.length_take]; omega
                    have hv2 := HVd.out (AL.getD k ByteArray.empty)
                    have HV2 : Hid (∀ W, Below w.heap.size w W → Calls Try.prog 60 #[.slice (some ⟨b1, o1, none⟩) r1.length c1, .slice (some ⟨b2, o2, none⟩) r2.length c2, .slice (some ⟨b3, o3, none⟩) r3.length c3, .string (AL.getD k ByteArray.empty)] W fun e w' => e = .returned (.int .i64 (cdV (lnO r1 (AL.getD k ByteArray.empty)) (lnO r2 (AL.getD k ByteArray.empty)) (lnO r3 (AL.getD k ByteArray.empty)))) ∧ Below W.heap.size W w') := hv2
                    have HX : Hid (∀ W, Below wr.heap.size wr W → W.cell? ⟨ga, k, none⟩ = some (.string (AL.getD k ByteArray.empty))) := fun W hW => R5.out W (chain HO.out.2.2 hW) k hlt
                    clear hv2
                    generalize cdV (lnO r1 (AL.getD k ByteArray.empty)) (lnO r2 (AL.getD k ByteArray.empty)) (lnO r3 (AL.getD k ByteArray.empty)) = cv at *
                    generalize AL.getD k ByteArray.empty = t at *
                    generalize (AL.take k).map (twV r1 r2 r3) = M at *
                    obtain rfl : M.length = k := hlen
                    obtain ⟨va, vc, hv, _⟩ := HO.out.form
                    subst hv
                    have HBw : Hid (Below w.heap.size w wr) := chain B5.out HO.out.2.2
                    go_upto_region 23 with fail
                    have HNe : Hid (Value.ownBlock (.slice va M.length vc) ≠ some ga) := fun e => by
                      have h1 := (HO.out.1.lt ga e).1
                      have := HGa.out
                      omega
                    refine wp_region_held_drew (S := fun W' => W'.cell? ⟨ga, M.length, none⟩ = some (.string t)) (by kernel_rfl) (HX.out _ (below_drew _)) (fun hH => ?_)
                    refine wpAnyH_take (i := 0) (v := .slice va M.length vc) rfl (by kernel_rfl) (by kernel_rfl) (by kernel_rfl) (fun _ _ _ h => h) (Or.inl ⟨by rfl, fun w hSw => by clear hSw; go_simp⟩) hH ?_
                    refine wpAnyH_take (i := 1) (v := .slice (some ⟨ga, 0, none⟩) AL.length ca) rfl (by kernel_rfl) (by kernel_rfl) (by kernel_rfl) (fun _ _ _ h => h) (Or.inl ⟨by rfl, fun w hSw => by clear hSw; go_simp⟩) hH ?_
                    try simp only [Act.put, List.setIfInBounds_toArray, List.set_cons_zero, List.set_cons_succ, List.getElem_toArray, List.getElem_cons_succ, List.getElem_cons_zero]
                    refine wpAnyH_take (i := 2) (v := .int .i64 (M.length : Int)) rfl (by kernel_rfl) (by kernel_rfl) (by kernel_rfl) (fun _ _ _ h => h) (Or.inl ⟨by rfl, fun w hSw => by clear hSw; go_simp⟩) hH ?_
                    try simp only [Act.put, List.setIfInBounds_toArray, List.set_cons_zero, List.set_cons_succ, List.getElem_toArray, List.getElem_cons_succ, List.getElem_cons_zero]
                    refine wpAnyH_take (i := 3) (v := .pointer (some ⟨ga, M.length, none⟩)) rfl (by kernel_rfl) (by kernel_rfl) (by kernel_rfl) (fun _ _ _ h => h) (Or.inl ⟨by rfl, fun w hSw => by clear hSw; go_simp⟩) hH ?_
                    try simp only [Act.put, List.setIfInBounds_toArray, List.set_cons_zero, List.set_cons_succ, List.getElem_toArray, List.getElem_cons_succ, List.getElem_cons_zero]
                    refine wpAnyH_take (i := 4) (v := .string t) rfl (by kernel_rfl) (by kernel_rfl) (by kernel_rfl) (fun _ _ _ h => h) (Or.inl ⟨by rfl, fun w hSw => by go_simp⟩) hH ?_
                    try simp only [Act.put, List.setIfInBounds_toArray, List.set_cons_zero, List.set_cons_succ, List.getElem_toArray, List.getElem_cons_succ, List.getElem_cons_zero]
                    refine wpAnyH_take (i := 5) (v := .slice (some ⟨b1, o1, none⟩) r1.length c1) rfl (by kernel_rfl) (by kernel_rfl) (by kernel_rfl) (fun _ _ _ h => h) (Or.inl ⟨by rfl, fun w hSw => by clear hSw; go_simp⟩) hH ?_
                    try simp only [Act.put, List.setIfInBounds_toArray, List.set_cons_zero, List.set_cons_succ, List.getElem_toArray, List.getElem_cons_succ, List.getElem_cons_zero]
                    refine wpAnyH_take (i := 6) (v := .slice (some ⟨b2, o2, none⟩) r2.length c2) rfl (by kernel_rfl) (by kernel_rfl) (by kernel_rfl) (fun _ _ _ h => h) (Or.inl ⟨by rfl, fun w hSw => by clear hSw; go_simp⟩) hH ?_
                    try simp only [Act.put, List.setIfInBounds_toArray, List.set_cons_zero, List.set_cons_succ, List.getElem_toArray, List.getElem_cons_succ, List.getElem_cons_zero]
                    refine wpAnyH_take (i := 7) (v := .slice (some ⟨b3, o3, none⟩) r3.length c3) rfl (by kernel_rfl) (by kernel_rfl) (by kernel_rfl) (fun _ _ _ h => h) (Or.inl ⟨by rfl, fun w hSw => by clear hSw; go_simp⟩) hH ?_
                    try simp only [Act.put, List.setIfInBounds_toArray, List.set_cons_zero, List.set_cons_succ, List.getElem_toArray, List.getElem_cons_succ, List.getElem_cons_zero]
                    refine wpAnyH_take (i := 8) (v := .slice (some ⟨ga, 0, none⟩) AL.length ca) rfl (by kernel_rfl) (by kernel_rfl) (by kernel_rfl) (fun _ _ _ h => h) (Or.inl ⟨by rfl, fun w hSw => by clear hSw; go_simp⟩) hH ?_
                    try simp only [Act.put, List.setIfInBounds_toArray, List.set_cons_zero, List.set_cons_succ, List.getElem_toArray, List.getElem_cons_succ, List.getElem_cons_zero]
                    refine wpAnyH_take (i := 9) (v := .int .i64 (M.length : Int)) rfl (by kernel_rfl) (by kernel_rfl) (by kernel_rfl) (fun _ _ _ h => h) (Or.inl ⟨by rfl, fun w hSw => by clear hSw; go_simp⟩) hH ?_
                    try simp only [Act.put, List.setIfInBounds_toArray, List.set_cons_zero, List.set_cons_succ, List.getElem_toArray, List.getElem_cons_succ, List.getElem_cons_zero]
                    refine wpAnyH_take (i := 10) (v := .pointer (some ⟨ga, M.length, none⟩)) rfl (by kernel_rfl) (by kernel_rfl) (by kernel_rfl) (fun _ _ _ h => h) (Or.inl ⟨by rfl, fun w hSw => by clear hSw; go_simp⟩) hH ?_
                    try simp only [Act.put, List.setIfInBounds_toArray, List.set_cons_zero, List.set_cons_succ, List.getElem_toArray, List.getElem_cons_succ, List.getElem_cons_zero]
                    refine wpAnyH_take (i := 11) (v := .string t) rfl (by kernel_rfl) (by kernel_rfl) (by kernel_rfl) (fun _ _ _ h => h) (Or.inl ⟨by rfl, fun w hSw => by go_simp⟩) hH ?_
                    try simp only [Act.put, List.setIfInBounds_toArray, List.set_cons_zero, List.set_cons_succ, List.getElem_toArray, List.getElem_cons_succ, List.getElem_cons_zero]
                    refine wpAnyH_ready (rs := [12]) (by kernel_rfl) (by simp) ?_
                    refine AllReadyH.cons rfl (fun K hK => ?_) AllReadyH.nil
                    go_simp
                    go_at_call 60
                    refine (HV2.out _ (chain HBw.out (below_drew _))).mono ?_
                    rintro e w9 ⟨rfl, hb9⟩
                    have B9 : Hid (Below wr.heap.size wr w9) := chain (below_drew _) hb9
                    clear hb9
                    have hS9 := HX.out w9 B9.out
                    refine hK.out _ _ hS9 (fun _ => ?_)
                    clear hK K
                    try simp only [Act.put, List.setIfInBounds_toArray, List.set_cons_zero, List.set_cons_succ, List.getElem_toArray, List.getElem_cons_succ, List.getElem_cons_zero]
                    refine wpAnyH_take (i := 13) (v := .agg #[.string t, .int .i64 cv]) rfl (by kernel_rfl) (by kernel_rfl) (by kernel_rfl) (fun _ _ _ h => h) (Or.inl ⟨by rfl, fun w hSw => by clear hSw; go_simp⟩) hS9 ?_
                    try simp only [Act.put, List.setIfInBounds_toArray, List.set_cons_zero, List.set_cons_succ, List.getElem_toArray, List.getElem_cons_succ, List.getElem_cons_zero]
                    refine wpAnyH_ready (rs := [14]) (by kernel_rfl) (by simp) ?_
                    refine AllReadyH.cons rfl (fun K hK => ?_) AllReadyH.nil
                    go_simp
                    have hb11 : Below wr.heap.size wr (w9.alloc (Obj.cells #[.string t, .int .i64 cv] 39)) := chain B9.out (below_alloc _ _)
                    have hn11 : (w9.alloc (Obj.cells #[.string t, .int .i64 cv] 39)).heap[w9.heap.size]? = some (.cells #[.string t, .int .i64 cv] 39 (0, 0)) := heapNew _ _
                    have hS11 := HX.out _ hb11
                    refine hK.out _ _ hS11 (fun _ => ?_)
                    clear hK K
                    try simp only [Act.put, List.setIfInBounds_toArray, List.set_cons_zero, List.set_cons_succ, List.getElem_toArray, List.getElem_cons_succ, List.getElem_cons_zero]
                    generalize w9.alloc (Obj.cells #[.string t, .int .i64 cv] 39) = W4 at *
                    have HO4 : Hid (OneV w5 w5.heap.size (.slice va M.length vc) M W4) := HO.out.later hb11
                    refine wpAnyH_ready (rs := [15]) (by kernel_rfl) (by simp) ?_
                    refine AllReadyH.cons rfl (fun K hK => ?_) AllReadyH.nil
                    refine step_append_lies _ rfl (.tmp 94) (.tmp 108) 34 rfl w5.heap.size 39 i0 (.agg #[.string ⟨#[]⟩, .int .i64 0]) 2 24 Try.underlying34 hi hi0 hi1 hi2 rfl (by decide) (.slice va M.length vc) _ _ (by simp [Act.eval]) HO4.out.1 ⟨w9.heap.size, 0, none⟩ 1 1 [.string t, .int .i64 cv] (by simp [Act.eval]) rfl (World.news_of_block hn11) (by simp [Value.oneCell']) (by omega) (by unfold maxLen; omega) (by omega) HO4.out.2.1 _ rfl (fun g1 cp1 w12 hown hgrow hat hglt => ?_)
                    have HO7 : Hid (OneV w5 w5.heap.size (.slice (some ⟨g1, 0, none⟩) (M.length + 1) cp1) ((AL.take (M.length + 1)).map (twV r1 r2 r3)) w12) := by
                      have := HO4.out.push hown hgrow
                      show OneV _ _ _ _ _
                      rw [← HN.out]; exact this
                    have hS12 : w12.cell? ⟨ga, M.length, none⟩ = some (.string t) := hgrow.cell hS11 (fun e => HNe.out e.symm)
                    clear hown hgrow hat hglt hn11 hb11
                    refine hK.out _ _ hS12 (fun _ => ?_)
                    clear hK K
                    try simp only [Act.put, List.setIfInBounds_toArray, List.set_cons_zero, List.set_cons_succ, List.getElem_toArray, List.getElem_cons_succ, List.getElem_cons_zero]
                    refine wpAnyH_take (i := 16) (v := .slice (some ⟨g1, 0, none⟩) (M.length + 1) cp1) rfl (by kernel_rfl) (by kernel_rfl) (by kernel_rfl) (fun _ _ _ h => h) (Or.inl ⟨by rfl, fun w hSw => by clear hSw; go_simp⟩) hS12 ?_
                    try simp only [Act.put, List.setIfInBounds_toArray, List.set_cons_zero, List.set_cons_succ, List.getElem_toArray, List.getElem_cons_succ, List.getElem_cons_zero]
                    refine wpAnyH_done (by kernel_rfl) ?_ _
                    clear hH hS9 hS11 hS12
                    go_wp2
                    go_roundw
                    case rel => exact ⟨M.length + 1, by omega, by go_num, HO7.out⟩
                    case measure => simp [intOf]; omega
                  · have hle : ¬ (k : Int) < (AL.length : Int) := by omega
                    obtain rfl : k = AL.length := by omega
                    have HE : Hid (OneV w5 w5.heap.size u12 TL wr) := by show OneV _ _ _ _ _; rw [HTw.out]; have := HO.out; rwa [List.take_length] at this
                    go_wp2_with fail
                    go_ret2
                    exact AnsW3.of B5.out HE.out _
end Go.Proofs.Ytfiajiodehhmhaa
