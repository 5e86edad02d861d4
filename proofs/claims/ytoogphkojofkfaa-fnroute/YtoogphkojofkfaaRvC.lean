/-
  LeastEnd: the mathematics; contracts of the program's routeFault, leastEnd, LeastEnd and of the specification's l20Begin, LeastEnd, for all arguments.
-/
import Derived.Test.YtoogphkojofkfaaRvV
import Derived.Test.YtoogphkojofkfaaRate
import Derived.Laws.Tables
namespace Go.Proofs.Ytoogphkojofkfaa
open Go.ChangeShapes Go.WideShapes Go.ChangeAt Go.RowKit Go.Joins Go.Deep
set_option linter.unusedVariables false

/-- Which fault a list of stops and a begin have. -/
def rfC (rs : List RHp) (b : Int) : Int := if 4096 < rs.length then 2 else if stB rs = true then (if inB b 0 100000 = true then 0 else 5) else 1
theorem rf_ways (rs : List RHp) (b : Int) : (4096 < rs.length ∧ rfC rs b = 2) ∨ (¬ 4096 < rs.length ∧ stB rs = false ∧ rfC rs b = 1) ∨ (¬ 4096 < rs.length ∧ stB rs = true ∧ inB b 0 100000 = false ∧ rfC rs b = 5) ∨ (¬ 4096 < rs.length ∧ stB rs = true ∧ inB b 0 100000 = true ∧ rfC rs b = 0) := by
  by_cases h : 4096 < rs.length
  · exact .inl ⟨h, by unfold rfC; rw [if_pos h]⟩
  cases h2 : stB rs
  · exact .inr (.inl ⟨h, rfl, by unfold rfC; rw [if_neg h, h2]; rfl⟩)
  cases h3 : inB b 0 100000
  · exact .inr (.inr (.inl ⟨h, rfl, rfl, by unfold rfC; rw [if_neg h, h2, h3]; rfl⟩))
  · exact .inr (.inr (.inr ⟨h, rfl, rfl, by unfold rfC; rw [if_neg h, h2, h3]; rfl⟩))
theorem in_facts {n lo hi : Int} (h : inB n lo hi = true) : lo ≤ n ∧ n ≤ hi := by
  unfold inB at h
  exact of_decide_eq_true h
set_option maxHeartbeats 2000000 in
theorem impFault_any (ad : Option Addr) (cap : Nat) (rs : List RHp) (b : Int) (hl : rs.length ≤ 100000000) (w : World) (hr : ReadsHp w.heap.size w ad rs) :
    Calls Try.prog 23 #[.slice ad rs.length cap, .int .i64 b] w fun e w' => e = .returned (.int .i64 (rfC rs b)) ∧ Below w.heap.size w w' := by
  have H1 : Hid (Calls Try.prog 8 #[.slice ad rs.length cap] w fun e w' => e = .returned (.bool (stB rs)) ∧ Below w.heap.size w w') := impStops_any ad cap rs hl w hr
  have H2 : Hid (∀ W, Calls Try.prog 42 #[.agg #[.int .i64 0, .int .i64 100000], .int .i64 b] W fun e w' => e = .returned (.bool (inB b 0 100000)) ∧ Below W.heap.size W w') := fun W => qSpan_any 0 100000 b W
  clear hr
  rcases rf_ways rs b with ⟨h1, e0⟩ | ⟨h1, h2, e0⟩ | ⟨h1, h2, h3, e0⟩ | ⟨h1, h2, h3, e0⟩
  · rw [e0]
    have h1' : (4096 : Int) < (rs.length : Int) := by omega
    clear e0 h1 H1 H2
    go_enter Try.func23, Try.ntmps23
    go_wp2
    go_ret
    exact ⟨rfl, Below.refl _ _⟩
  · rw [e0]
    rw [h2] at H1
    have h1' : ¬ (4096 : Int) < (rs.length : Int) := by omega
    clear e0 h1 h2 H2
    go_enter Try.func23, Try.ntmps23
    go_wp2_with fail
    (first | go_at_call 8 | skip)
    refine H1.out.mono ?_
    rintro e w2 ⟨rfl, hb2⟩
    go_wp2
    go_ret
    exact ⟨rfl, hb2⟩
  · rw [e0]
    rw [h2] at H1
    rw [h3] at H2
    have h1' : ¬ (4096 : Int) < (rs.length : Int) := by omega
    clear e0 h1 h2 h3
    go_enter Try.func23, Try.ntmps23
    go_wp2_with fail
    (first | go_at_call 8 | skip)
    refine H1.out.mono ?_
    rintro e w2 ⟨rfl, hb2⟩
    go_wp2_with fail
    (first | go_at_call 42 | skip)
    refine (H2.out _).mono ?_
    rintro e w3 ⟨rfl, hb3⟩
    go_wp2
    go_ret
    exact ⟨rfl, chain (chain hb2 (below_alloc _ _)) hb3⟩
  · rw [e0]
    rw [h2] at H1
    rw [h3] at H2
    have h1' : ¬ (4096 : Int) < (rs.length : Int) := by omega
    clear e0 h1 h2 h3
    go_enter Try.func23, Try.ntmps23
    go_wp2_with fail
    (first | go_at_call 8 | skip)
    refine H1.out.mono ?_
    rintro e w2 ⟨rfl, hb2⟩
    go_wp2_with fail
    (first | go_at_call 42 | skip)
    refine (H2.out _).mono ?_
    rintro e w3 ⟨rfl, hb3⟩
    go_wp2
    go_ret
    exact ⟨rfl, chain (chain hb2 (below_alloc _ _)) hb3⟩
set_option maxHeartbeats 2000000 in
theorem specBegin_any (ad : Option Addr) (cap : Nat) (rs : List RHp) (b : Int) (hl : rs.length ≤ 100000000) (w : World) (hr : ReadsHp w.heap.size w ad rs) :
    Calls Try.prog 34 #[.slice ad rs.length cap, .int .i64 b] w fun e w' => e = .returned (.int .i64 (rfC rs b)) ∧ Below w.heap.size w w' := by
  have H1 : Hid (Calls Try.prog 55 #[.slice ad rs.length cap] w fun e w' => e = .returned (.bool (stB rs)) ∧ Below w.heap.size w w') := specStops_any ad cap rs hl w hr
  have H2 : Hid (∀ W, Calls Try.prog 56 #[.int .i64 b, .int .i64 0, .int .i64 100000] W fun e w' => e = .returned (.bool (inB b 0 100000)) ∧ W = w') := fun W => (in_any _ _ _ W).mono (fun e' w' h => ⟨h.1, h.2.symm⟩)
  clear hr
  rcases rf_ways rs b with ⟨h1, e0⟩ | ⟨h1, h2, e0⟩ | ⟨h1, h2, h3, e0⟩ | ⟨h1, h2, h3, e0⟩
  · rw [e0]
    have h1' : (4096 : Int) < (rs.length : Int) := by omega
    clear e0 h1 H1 H2
    go_enter Try.func34, Try.ntmps34
    go_wp2
    go_ret
    exact ⟨rfl, Below.refl _ _⟩
  · rw [e0]
    rw [h2] at H1
    have h1' : ¬ (4096 : Int) < (rs.length : Int) := by omega
    clear e0 h1 h2 H2
    go_enter Try.func34, Try.ntmps34
    go_wp2_with fail
    (first | go_at_call 55 | skip)
    refine H1.out.mono ?_
    rintro e w2 ⟨rfl, hb2⟩
    go_wp2
    go_ret
    exact ⟨rfl, hb2⟩
  · rw [e0]
    rw [h2] at H1
    rw [h3] at H2
    have h1' : ¬ (4096 : Int) < (rs.length : Int) := by omega
    clear e0 h1 h2 h3
    go_enter Try.func34, Try.ntmps34
    go_wp2_with fail
    (first | go_at_call 55 | skip)
    refine H1.out.mono ?_
    rintro e w2 ⟨rfl, hb2⟩
    go_wp2_with fail
    (first | go_at_call 56 | skip)
    refine (H2.out _).mono ?_
    rintro e w3 ⟨rfl, rfl⟩
    go_wp2
    go_ret
    exact ⟨rfl, hb2⟩
  · rw [e0]
    rw [h2] at H1
    rw [h3] at H2
    have h1' : ¬ (4096 : Int) < (rs.length : Int) := by omega
    clear e0 h1 h2 h3
    go_enter Try.func34, Try.ntmps34
    go_wp2_with fail
    (first | go_at_call 55 | skip)
    refine H1.out.mono ?_
    rintro e w2 ⟨rfl, hb2⟩
    go_wp2_with fail
    (first | go_at_call 56 | skip)
    refine (H2.out _).mono ?_
    rintro e w3 ⟨rfl, rfl⟩
    go_wp2
    go_ret
    exact ⟨rfl, hb2⟩
/-! ### The least end -/
theorem farH_comm (a b : RHp) : farH a b = farH b a := by unfold farH apN; omega
/-- When a route of one stop alone is back. -/
def leT (b : Int) (s : RHp) : Int := lvN b zHp s + farH s zHp
def leA (b : Int) (rs : List RHp) : Int := rs.foldl (fun m s => max m (leT b s)) b
def syN (rs : List RHp) : Int := rs.foldl (fun m s => m + s.sy) 0
def faN (rs : List RHp) : Int := rs.foldl (fun m s => max m (farH s zHp)) 0
def leN (b : Int) (rs : List RHp) : Int := max (leA b rs) (b + syN rs + 2 * faN rs)
def leC (rs : List RHp) (b : Int) : Int := rfC rs b
def leV (rs : List RHp) (b : Int) : Int := if rfC rs b = 0 then leN b rs else 0
theorem take_getD {rs : List RHp} {k : Nat} (h : k < rs.length) : rs.take (k + 1) = rs.take k ++ [rs.getD k zHp] := by
  have e : rs.getD k zHp = rs[k] := by simp [List.getD_eq_getElem?_getD, h]
  rw [List.take_succ_eq_append_getElem h, e]
theorem leA_take (b : Int) {rs : List RHp} {k : Nat} (h : k < rs.length) : leA b (rs.take (k + 1)) = max (leA b (rs.take k)) (leT b (rs.getD k zHp)) := by
  unfold leA; rw [take_getD h, List.foldl_append]; rfl
theorem syN_take {rs : List RHp} {k : Nat} (h : k < rs.length) : syN (rs.take (k + 1)) = syN (rs.take k) + (rs.getD k zHp).sy := by
  unfold syN; rw [take_getD h, List.foldl_append]; rfl
theorem faN_take {rs : List RHp} {k : Nat} (h : k < rs.length) : faN (rs.take (k + 1)) = max (faN (rs.take k)) (farH (rs.getD k zHp) zHp) := by
  unfold faN; rw [take_getD h, List.foldl_append]; rfl
theorem leT_bd {b : Int} {s : RHp} (hb : 0 ≤ b ∧ b ≤ 100000) (hs : hpB s = true) : 0 ≤ leT b s ∧ leT b s ≤ 200000 := by
  have h1 := hp_facts hs
  have h2 := farH_bd hp_in_z (hp_in hs)
  have h3 := farH_bd (hp_in hs) hp_in_z
  unfold leT lvN stN arN
  omega
theorem le_bd {b : Int} {rs : List RHp} (hb : 0 ≤ b ∧ b ≤ 100000) (hs : hpsB rs = true) : ∀ k, k ≤ rs.length → (0 ≤ leA b (rs.take k) ∧ leA b (rs.take k) ≤ 200000) ∧ (0 ≤ syN (rs.take k) ∧ syN (rs.take k) ≤ 1000 * (k : Int)) ∧ 0 ≤ faN (rs.take k) ∧ faN (rs.take k) ≤ 4000
  | 0, _ => by simp [leA, syN, faN]; omega
  | k + 1, hk => by
    obtain ⟨h1, h2, h3⟩ := le_bd hb hs k (by omega)
    have hq := hps_getD hs (k := k) (by omega)
    have h4 := leT_bd hb hq
    have h5 := farH_bd (hp_in hq) hp_in_z
    have h6 := hp_facts hq
    rw [leA_take b (by omega), syN_take (by omega), faN_take (by omega)]
    omega
theorem trip_size : (Try.prog.info? 57).map (·.size) = some 9 := by kernel_rfl
/-- A step of a trip that has been nowhere. -/
theorem alone_any (b : Int) (s : RHp) (p : Int) (hb : 0 ≤ b ∧ b ≤ 100000) (hs : hpB s = true) (W : World) :
    Calls Try.prog 29 #[.agg #[.slice none 0 0, .slice none 0 0, .int .i64 0, .int .i64 b, .int .i64 0, .int .i64 0, .int .i64 0, .int .i64 0, .int .i64 0], .int .i64 p, .agg #[.int .i64 s.x, .int .i64 s.y, .int .i64 s.fr, .int .i64 s.to, .int .i64 s.sy]] W fun e w' => ∃ g1 c1 g2 c2 ok, e = .returned (.tuple #[.agg #[.slice (some ⟨g1, 0, none⟩) 1 c1, .slice (some ⟨g2, 0, none⟩) 1 c2, .int .i64 (wtN 0 b zHp s), .int .i64 (lvN b zHp s), .int .i64 s.x, .int .i64 s.y, .int .i64 s.fr, .int .i64 s.to, .int .i64 s.sy], .bool ok]) ∧ Below W.heap.size W w' := by
  refine (visit_any W.heap.size none 0 [] none 0 [] 0 b zHp s p hp_in_z hs (by simp) (by simp) (by omega) (by omega) W (Nat.le_refl _) (World.ownsRow_nil _ _ _ _) (World.ownsRow_nil _ _ _ _) (fun x hx => by simp [Value.ownBlock] at hx)).mono ?_
  rintro e w' ⟨g1, c1, g2, c2, rfl, _, _, _, _, _, _, _, hf⟩
  exact ⟨g1, c1, g2, c2, _, rfl, hf.below (Below.refl _ _) (Nat.le_refl _) (fun k hk => by rcases hk with h | h <;> simp [Value.ownBlock] at h)⟩
set_option maxHeartbeats 8000000 in
theorem impLeastEnd_any (ad : Option Addr) (cap : Nat) (rs : List RHp) (b : Int) (h7 : rs.length ≤ 7) (hs : hpsB rs = true) (hb : 0 ≤ b ∧ b ≤ 100000) (w : World) (hr : ReadsHp w.heap.size w ad rs) :
    Calls Try.prog 24 #[.slice ad rs.length cap, .int .i64 b] w fun e w' => e = .returned (.int .i64 (leN b rs)) ∧ Below w.heap.size w w' := by
  have HR : Hid (ReadsHp w.heap.size w ad rs) := hr
  have HBd : Hid (∀ k, k ≤ rs.length → (0 ≤ leA b (rs.take k) ∧ leA b (rs.take k) ≤ 200000) ∧ (0 ≤ syN (rs.take k) ∧ syN (rs.take k) ≤ 1000 * (k : Int)) ∧ 0 ≤ faN (rs.take k) ∧ faN (rs.take k) ≤ 4000) := le_bd hb hs
  have HA : Hid (∀ k, k < rs.length → ∀ W, Calls Try.prog 29 #[.agg #[.slice none 0 0, .slice none 0 0, .int .i64 0, .int .i64 b, .int .i64 0, .int .i64 0, .int .i64 0, .int .i64 0, .int .i64 0], .int .i64 (k : Int), .agg #[.int .i64 (rs.getD k zHp).x, .int .i64 (rs.getD k zHp).y, .int .i64 (rs.getD k zHp).fr, .int .i64 (rs.getD k zHp).to, .int .i64 (rs.getD k zHp).sy]] W fun e w' => ∃ g1 c1 g2 c2 ok, e = .returned (.tuple #[.agg #[.slice (some ⟨g1, 0, none⟩) 1 c1, .slice (some ⟨g2, 0, none⟩) 1 c2, .int .i64 (wtN 0 b zHp (rs.getD k zHp)), .int .i64 (lvN b zHp (rs.getD k zHp)), .int .i64 (rs.getD k zHp).x, .int .i64 (rs.getD k zHp).y, .int .i64 (rs.getD k zHp).fr, .int .i64 (rs.getD k zHp).to, .int .i64 (rs.getD k zHp).sy], .bool ok]) ∧ Below W.heap.size W w') := fun k hk W => alone_any b (rs.getD k zHp) k hb (hps_getD hs hk) W
  have HT : Hid (∀ k, k < rs.length → ∀ ov av wt W, Calls Try.prog 43 #[.agg #[ov, av, .int .i64 wt, .int .i64 (lvN b zHp (rs.getD k zHp)), .int .i64 (rs.getD k zHp).x, .int .i64 (rs.getD k zHp).y, .int .i64 (rs.getD k zHp).fr, .int .i64 (rs.getD k zHp).to, .int .i64 (rs.getD k zHp).sy]] W fun e w' => e = .returned (.int .i64 (leT b (rs.getD k zHp))) ∧ Below W.heap.size W w') := fun k hk ov av wt W => by
    have hq := hps_getD hs hk
    have h1 := hp_facts hq
    have h2 := farH_bd hp_in_z (hp_in hq)
    exact impBackT_any ov av wt _ _ (hp_in hq) (by unfold lvN stN arN; omega) W
  have HS : Hid (∀ k, k < rs.length → ∀ W, Calls Try.prog 44 #[.agg #[.int .i64 (rs.getD k zHp).x, .int .i64 (rs.getD k zHp).y, .int .i64 (rs.getD k zHp).fr, .int .i64 (rs.getD k zHp).to, .int .i64 (rs.getD k zHp).sy]] W fun e w' => e = .returned (.int .i64 (farH (rs.getD k zHp) zHp)) ∧ Below W.heap.size W w') := fun k hk W => impBackS_any _ (hp_in (hps_getD hs hk)) W
  have HSy : Hid (∀ k, k < rs.length → 0 ≤ (rs.getD k zHp).sy ∧ (rs.getD k zHp).sy ≤ 1000) := fun k hk => (hp_facts (hps_getD hs hk)).2.2.2.2.2
  have HN : Hid (∀ k, k < rs.length → leA b (rs.take (k + 1)) = max (leA b (rs.take k)) (leT b (rs.getD k zHp)) ∧ syN (rs.take (k + 1)) = syN (rs.take k) + (rs.getD k zHp).sy ∧ faN (rs.take (k + 1)) = max (faN (rs.take k)) (farH (rs.getD k zHp) zHp)) := fun k hk => ⟨leA_take b hk, syN_take hk, faN_take hk⟩
  have HZ : Hid (leA b (rs.take 0) = b ∧ syN (rs.take 0) = 0 ∧ faN (rs.take 0) = 0) := ⟨rfl, rfl, rfl⟩
  have HE : Hid (leN b rs = max (leA b (rs.take rs.length)) (b + syN (rs.take rs.length) + 2 * faN (rs.take rs.length))) := by
    show _ = _
    rw [List.take_length]; rfl
  generalize leN b rs = res at *
  clear hr hs
  go_enter Try.func24, Try.ntmps24
  go_wp2
  go_loopw [5, 6, 7, 8, 9, 10, 11, 15] (fun l s f _ _ _ _ c wr => ∃ k : Nat, k ≤ rs.length ∧ c = .int .i64 (k : Int) ∧ l = .int .i64 (leA b (rs.take k)) ∧ s = .int .i64 (syN (rs.take k)) ∧ f = .int .i64 (faN (rs.take k)) ∧ Below w.heap.size w wr) (fun _ _ _ _ _ _ _ c _ => rs.length - (intOf c).toNat)
  case atStart => exact ⟨0, Nat.zero_le _, rfl, by rw [HZ.out.1], by rw [HZ.out.2.1], by rw [HZ.out.2.2], Below.refl _ _⟩
  case round =>
    obtain ⟨k, hk, rfl, rfl, rfl, rfl, hbl⟩ := hrel
    have HB : Hid (Below w.heap.size w wr) := hbl
    have hbd := HBd.out k hk
    clear hbl HZ
    by_cases hlt : k < rs.length
    · have hlt' : (k : Int) < (rs.length : Int) := by omega
      rcases HR.out with h | ⟨b0, o0, ha, hB0, ia⟩
      · rw [h] at hlt; simp at hlt
      obtain ⟨c0, c1, c2, c3, c4⟩ := (ia.below HB.out hB0) k hlt
      have hA := HA.out k hlt
      have hT := HT.out k hlt
      have hS := HS.out k hlt
      obtain ⟨n1, n2, n3⟩ := HN.out k hlt
      have hsy := HSy.out k hlt
      have hbd2 := HBd.out (k + 1) (by omega)
      rw [n1, n2, n3] at hbd2
      have HNx : Hid (leA b (rs.take (k + 1)) = max (leA b (rs.take k)) (leT b (rs.getD k zHp)) ∧ syN (rs.take (k + 1)) = syN (rs.take k) + (rs.getD k zHp).sy ∧ faN (rs.take (k + 1)) = max (faN (rs.take k)) (farH (rs.getD k zHp) zHp)) := ⟨n1, n2, n3⟩
      rw [ha]
      clear ia HA HT HS HN HBd HSy n1 n2 n3
      generalize rs.getD k zHp = q at *
      obtain ⟨q0, q1, q2, q3, q4⟩ := q
      dsimp only at *
      generalize lvN b zHp ⟨q0, q1, q2, q3, q4⟩ = ln at *
      generalize wtN 0 b zHp ⟨q0, q1, q2, q3, q4⟩ = wn at *
      generalize leT b ⟨q0, q1, q2, q3, q4⟩ = lt at *
      generalize farH ⟨q0, q1, q2, q3, q4⟩ zHp = fa at *
      have HNy : Hid (leA b (rs.take (k + 1)) = max (leA b (rs.take k)) lt ∧ syN (rs.take (k + 1)) = syN (rs.take k) + q4 ∧ faN (rs.take (k + 1)) = max (faN (rs.take k)) fa) := HNx.out
      clear HNx
      generalize leA b (rs.take k) = la at *
      generalize syN (rs.take k) = ls at *
      generalize faN (rs.take k) = lf at *
      have hw1 : IntKind.i64.wrap (ls + q4) = ls + q4 := wrap_id _ (by omega) (by omega)
      have HA2 : Hid (∀ W, Calls Try.prog 29 #[.agg #[.slice none 0 0, .slice none 0 0, .int .i64 0, .int .i64 b, .int .i64 0, .int .i64 0, .int .i64 0, .int .i64 0, .int .i64 0], .int .i64 (k : Int), .agg #[.int .i64 q0, .int .i64 q1, .int .i64 q2, .int .i64 q3, .int .i64 q4]] W fun e w' => ∃ g1 c1 g2 c2 ok, e = .returned (.tuple #[.agg #[.slice (some ⟨g1, 0, none⟩) 1 c1, .slice (some ⟨g2, 0, none⟩) 1 c2, .int .i64 wn, .int .i64 ln, .int .i64 q0, .int .i64 q1, .int .i64 q2, .int .i64 q3, .int .i64 q4], .bool ok]) ∧ Below W.heap.size W w') := hA
      have HT2 : Hid (∀ ov av wt W, Calls Try.prog 43 #[.agg #[ov, av, .int .i64 wt, .int .i64 ln, .int .i64 q0, .int .i64 q1, .int .i64 q2, .int .i64 q3, .int .i64 q4]] W fun e w' => e = .returned (.int .i64 lt) ∧ Below W.heap.size W w') := hT
      have HS2 : Hid (∀ W, Calls Try.prog 44 #[.agg #[.int .i64 q0, .int .i64 q1, .int .i64 q2, .int .i64 q3, .int .i64 q4]] W fun e w' => e = .returned (.int .i64 fa) ∧ Below W.heap.size W w') := hS
      clear hA hT hS
      go_wp2_with fail
      (first | go_at_call 29 | skip)
      obtain ⟨W1, hW1⟩ : ∃ W1, W1 = wr.alloc (Obj.cells #[.int .i64 q0, .int .i64 q1, .int .i64 q2, .int .i64 q3, .int .i64 q4] 37) := ⟨_, rfl⟩
      obtain ⟨sb, hsb⟩ : ∃ sb, sb = wr.heap.size := ⟨_, rfl⟩
      rw [← hW1, ← hsb]
      have HW1 : Hid (W1.heap[sb]? = some (.cells #[.int .i64 q0, .int .i64 q1, .int .i64 q2, .int .i64 q3, .int .i64 q4] 37 (0, 0)) ∧ Below w.heap.size w W1) := ⟨by rw [hW1, hsb]; exact heapNew _ _, by rw [hW1]; exact chain HB.out (below_alloc _ _)⟩
      clear hW1 hsb c0 c1 c2 c3 c4
      refine (HA2.out _).mono ?_
      rintro e w2 ⟨g1, v1, g2, v2, ok, rfl, hb2⟩
      have H2 : Hid (w2.heap[sb]? = some (.cells #[.int .i64 q0, .int .i64 q1, .int .i64 q2, .int .i64 q3, .int .i64 q4] 37 (0, 0)) ∧ Below w.heap.size w w2) := ⟨(hb2.block _ (blkLt HW1.out.1)).trans HW1.out.1, chain HW1.out.2 hb2⟩
      clear hb2 HW1 HA2
      go_wp2_with fail
      (first | go_at_call 43 | skip)
      refine (HT2.out _ _ _ _).mono ?_
      rintro e w3 ⟨rfl, hb3⟩
      have h3' := chain (below_alloc _ _) hb3
      have H3 : Hid (w3.heap[sb]? = some (.cells #[.int .i64 q0, .int .i64 q1, .int .i64 q2, .int .i64 q3, .int .i64 q4] 37 (0, 0)) ∧ Below w.heap.size w w3) := ⟨(h3'.block _ (blkLt H2.out.1)).trans H2.out.1, chain H2.out.2 h3'⟩
      clear hb3 h3' H2 HT2
      have s0 := blkCell H3.out.1 0 _ rfl
      have s1 := blkCell H3.out.1 1 _ rfl
      have s2 := blkCell H3.out.1 2 _ rfl
      have s3 := blkCell H3.out.1 3 _ rfl
      have s4 := blkCell H3.out.1 4 _ rfl
      simp only [List.getElem_toArray, List.getElem_cons_zero, List.getElem_cons_succ] at s0 s1 s2 s3 s4
      go_wp2_with fail
      (first | go_at_call 44 | skip)
      refine (HS2.out _).mono ?_
      rintro e w4 ⟨rfl, hb4⟩
      clear s0 s1 s2 s3 s4
      go_wp2
      exact ⟨⟨k + 1, by omega, by go_num, by rw [HNy.out.1], by rw [HNy.out.2.1], by rw [HNy.out.2.2], chain H3.out.2 hb4⟩, by simp [intOf]; omega⟩
    · have hle : (rs.length : Int) ≤ (k : Int) := by omega
      obtain rfl : k = rs.length := by omega
      have HE2 : Hid (res = max (leA b (rs.take rs.length)) (b + syN (rs.take rs.length) + 2 * faN (rs.take rs.length))) := HE.out
      clear HA HT HS HN HBd HE HSy
      generalize leA b (rs.take rs.length) = la at *
      generalize syN (rs.take rs.length) = ls at *
      generalize faN (rs.take rs.length) = lf at *
      have hw1 : IntKind.i64.wrap (b + ls) = b + ls := wrap_id _ (by omega) (by omega)
      have hw2 : IntKind.i64.wrap (2 * lf) = 2 * lf := wrap_id _ (by omega) (by omega)
      have hw3 : IntKind.i64.wrap (b + ls + 2 * lf) = b + ls + 2 * lf := wrap_id _ (by omega) (by omega)
      go_wp2
      go_ret
      exact ⟨ret_int HE2.out.symm, HB.out⟩
theorem implLeast_any (ad : Option Addr) (cap : Nat) (rs : List RHp) (b : Int) (hl : rs.length ≤ 100000000) (w : World) (hr : ReadsHp w.heap.size w ad rs) :
    Calls Try.prog 10 #[.slice ad rs.length cap, .int .i64 b] w fun e w' => e = .returned (.tuple #[.int .i64 (leV rs b), .int .i64 (leC rs b)]) ∧ Below w.heap.size w w' := by
  have HF : Hid (Calls Try.prog 23 #[.slice ad rs.length cap, .int .i64 b] w fun e w' => e = .returned (.int .i64 (rfC rs b)) ∧ Below w.heap.size w w') := impFault_any ad cap rs b hl w hr
  by_cases h0 : rfC rs b = 0
  · have e1 : leV rs b = leN b rs := by unfold leV; rw [if_pos h0]
    have e2 : leC rs b = 0 := h0
    obtain ⟨h1, h2, h3⟩ : ¬ 4096 < rs.length ∧ stB rs = true ∧ inB b 0 100000 = true := by
      rcases rf_ways rs b with ⟨_, e⟩ | ⟨_, _, e⟩ | ⟨_, _, _, e⟩ | ⟨a1, a2, a3, e⟩
      · omega
      · omega
      · omega
      · exact ⟨a1, a2, a3⟩
    have HLe : Hid (∀ W, Below w.heap.size w W → Calls Try.prog 24 #[.slice ad rs.length cap, .int .i64 b] W fun e w' => e = .returned (.int .i64 (leN b rs)) ∧ Below W.heap.size W w') := fun W hW => impLeastEnd_any ad cap rs b (st_facts h2).1 (st_facts h2).2 (in_facts h3) W ((hr.below hW).mono hW.size)
    rw [e1, e2]
    rw [h0] at HF
    clear e1 e2 h0 h1 h2 h3 hr
    generalize leN b rs = res at *
    go_enter Try.func10, Try.ntmps10
    go_wp2_with fail
    (first | go_at_call 23 | skip)
    refine HF.out.mono ?_
    rintro e w2 ⟨rfl, hb2⟩
    go_wp2_with fail
    (first | go_at_call 24 | skip)
    refine (HLe.out _ hb2).mono ?_
    rintro e w3 ⟨rfl, hb3⟩
    go_wp2
    go_ret2
    exact ⟨rfl, chain hb2 hb3⟩
  · have e1 : leV rs b = 0 := by unfold leV; rw [if_neg h0]
    have e2 : leC rs b = rfC rs b := rfl
    rw [e1, e2]
    have hne : (rfC rs b != 0) = true := by simp [h0]
    clear e1 e2 hr h0
    generalize rfC rs b = c at *
    have hne2 : ¬ c = 0 := by simpa using hne
    go_enter Try.func10, Try.ntmps10
    go_wp2_with fail
    (first | go_at_call 23 | skip)
    refine HF.out.mono ?_
    rintro e w2 ⟨rfl, hb2⟩
    go_wp2
    go_ret2
    exact ⟨rfl, hb2⟩
end Go.Proofs.Ytoogphkojofkfaa
