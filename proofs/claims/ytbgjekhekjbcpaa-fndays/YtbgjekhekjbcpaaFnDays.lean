/-
  For every two lists of bytes the law FnDays answers true: the program's next day is the first of its days from there on, and days of two stretches are those of both; with no condition.
-/
import Derived.Test.YtbgjekhekjbcpaaDyD
import Derived.Test.YtbgjekhekjbcpaaDyF
import Derived.Test.YtbgjekhekjbcpaaAppAny
import Derived.Test.YtbgjekhekjbcpaaLwSame
namespace Go.Proofs.Ytbgjekhekjbcpaa
open Go.ChangeShapes Go.WideShapes Go.ChangeAt Go.RowKit Go.Joins Go.Deep
set_option linter.unusedVariables false

theorem wpList_append_want {P : Program} {w : World} {ops : Array Oper} {rest : List Oper} {o : Oper} {a : Act} {Q : Exit → Act → World → Prop} (hw : Region.wanted o (yielded ops a.tmps) = true) (s x : Operand) (t : TypeId)
    (ho : o.op = .call { callee := .builtin .append, args := #[s, x], argTypes := #[t, t] })
    (base : Nat) (e : TypeId) (i : TypeInfo) (z : Value) (size bytes : Nat) (ht : P.underlying t = some (.slice e)) (hi : P.info? e = some i) (hz : i.zero = some z)
    (hsize : i.size = size) (hby : i.bytes = bytes) (hzs : z.cells.size = size) (hsz : 0 < size)
    (v : Value) (n : Nat) (xs : List Value) (hs : a.eval s = v) (hown : w.ownsRow base e size v n xs)
    (xa : Option Addr) (m c : Nat) (news : List Value) (hx : a.eval x = .slice xa m c) (hl : news.length = m * size) (hnews : 0 < m → ∃ ad, xa = some ad ∧ ∀ j u, news[j]? = some u → w.cell? (ad.add j) = some u) (h1 : ∀ u ∈ news, u.oneCell' = true)
    (h63 : n + m ≤ maxLen) (hbytes : (n + m) * bytes ≤ 140737488355328) (hbase : base ≤ w.heap.size) (N : Nat) (hN : n + m = N) (M : List Value) (hM : xs ++ news = M)
    (h : ∀ va vc w', w'.ownsRow base e size (.slice va N vc) N M → w.grownBy w' v.ownBlock → wpList P ops Q rest (a.put o.dst (.slice va N vc)) w') : wpList P ops Q (o :: rest) a w := by
  subst hN hM
  exact wpList_step fun K hK => by
    rw [if_pos hw]
    exact wp_append_any s x t ho base e i z size bytes ht hi hz hsize hby hzs hsz v n xs hs hown xa m c news hx hl hnews h1 h63 hbytes hbase fun va vc w' h2 h3 _ => hK _ _ (h va vc w' h2 h3)
theorem own2_atD {B : Nat} {w : World} {g : Option Addr} {L : List Int} {k : Nat} (h : Own2 B w g L) (hk : k < L.length) : ∃ b, g = some ⟨b, 0, none⟩ ∧ B ≤ b ∧ b < w.heap.size ∧ w.cell? ⟨b, k, none⟩ = some (.int .i64 (L.getD k 0)) ∧ w.frozen? ⟨b, k, none⟩ = false := by
  rcases h with h | ⟨b, hg, hB, hlt, hi, hf⟩
  · rw [h] at hk; simp at hk
  · have h1 := hi k hk
    have h2 := hf k hk
    rw [Nat.zero_add] at h1 h2
    exact ⟨b, hg, hB, hlt, h1, h2⟩
theorem own2_news {B : Nat} {w : World} {g : Option Addr} {L : List Int} (h : Own2 B w g L) (h0 : 0 < L.length) : ∃ ad, g = some ad ∧ ∀ j u, (L.map (Value.int .i64))[j]? = some u → w.cell? (ad.add j) = some u := by
  rcases h with h | ⟨b, hg, _, _, hi, _⟩
  · rw [h] at h0; simp at h0
  · refine ⟨⟨b, 0, none⟩, hg, fun j u hu => ?_⟩
    rw [List.getElem?_map] at hu
    obtain ⟨x, hx, rfl⟩ := Option.map_eq_some_iff.1 hu
    obtain ⟨hj, hx2⟩ := List.getElem?_eq_some_iff.1 hx
    have := hi j hj
    rw [Go.WideShapes.add_plain]
    rw [this]
    simp [List.getD_eq_getElem?_getD, hj, hx2]
theorem one_map (L : List Int) : ∀ u ∈ L.map (Value.int .i64), u.oneCell' = true := fun u hu => by
  obtain ⟨x, _, rfl⟩ := List.mem_map.1 hu
  rfl
namespace FnDays
set_option maxHeartbeats 16000000 in
set_option maxRecDepth 8000 in
theorem walk' (a0 : Option Addr) (len0 cap0 : Nat) (a1 : Option Addr) (len1 cap1 : Nat) (w : World) (h0 : (len0 : Int) ≤ 1048576) (h1 : (len1 : Int) ≤ 1048576)
    (hN : Calls Try.prog 16 #[.slice a0 len0 cap0] w (PostWk w))
    (hA : ∀ (W : World), Below w.heap.size w W → Calls Try.prog 19 #[.slice a1 len1 cap1, .int .i64 0, .int .i64 400] W fun e w' => ∃ x : Int, e = .returned (.int .i64 x) ∧ Drawn x 400 ∧ Below W.heap.size W w') :
    Calls Try.prog 5 #[.slice a0 len0 cap0, .slice a1 len1 cap1] w fun e w' => e = .returned (.bool true) ∧ Below w.heap.size w w' := by
  go_enter Try.func5, Try.ntmps5
  go_wp2_with fail
  (first | go_at_call 16 | skip)
  refine hN.mono ?_
  rintro e w1 ⟨wk, hs, day, gw, cw, gh, ch, rfl, ⟨h7, h8, hal, hrs, hd0, hd1⟩, hrw, hrh, hb1⟩
  clear hN
  have HB1 : Hid (Below w.heap.size w w1) := hb1
  have HAt : Hid (∀ W, Below w1.heap.size w1 W → Calls Try.prog 19 #[.slice a1 len1 cap1, .int .i64 0, .int .i64 400] W fun e w' => ∃ x : Int, e = .returned (.int .i64 x) ∧ Drawn x 400 ∧ Below W.heap.size W w') := fun W hW => hA W (chain hb1 hW)
  have hcb : cyB wk hs = true := by unfold cyB; rw [decide_eq_true h7, decide_eq_true (show hs.length ≤ 60 by omega), hal, hrs]; rfl
  have hcy : cyC wk hs = 0 := by
    rcases cy_ways wk hs with ⟨q, _⟩ | ⟨_, q, _⟩ | ⟨_, _, q, _⟩ | ⟨_, _, _, q⟩
    · omega
    · omega
    · rw [hcb] at q; cases q
    · exact q
  have HDD : Hid (∀ (f t : Int) W, 0 ≤ f → f ≤ t → t ≤ 100000 → t - f ≤ 400 → Below w1.heap.size w1 W → Calls Try.prog 17 #[.slice (some ⟨gw, 0, none⟩) wk.length cw, .slice (some ⟨gh, 0, none⟩) hs.length ch, .int .i64 f, .int .i64 t] W (AnsL W (dl (opB wk hs) f (t - f).toNat) 0)) := fun f t W q1 q2 q3 q4 hW => by
    have h9 := implDays_any (some ⟨gw, 0, none⟩) (some ⟨gh, 0, none⟩) cw ch wk hs f t (by omega) (by omega) W (hrw.later hW) (readsL hrh hW)
    have hst : stB f t = true := by unfold stB; rw [decide_eq_true q1, decide_eq_true q2, decide_eq_true q3, decide_eq_true q4]; rfl
    rcases dd_ways wk hs f t with ⟨q, _⟩ | ⟨_, q, _⟩ | ⟨_, _, e1, e2⟩
    · exact absurd hcy q
    · rw [hst] at q; cases q
    · rwa [e1, e2] at h9
  have hND := fun W (hW : Below w1.heap.size w1 W) => implNext_any (some ⟨gw, 0, none⟩) (some ⟨gh, 0, none⟩) cw ch wk hs day (by omega) (by omega) W (hrw.later hW) (readsL hrh hW)
  have hin : inB day 0 100000 = true := decide_eq_true (by omega)
  have hnx := dl_nx (opB wk hs) 400 day
  have hways : (nx (opB wk hs) day 400 = day + 400 ∧ ndD wk hs day = 0 ∧ ndC wk hs day = 8) ∨ (nx (opB wk hs) day 400 ≠ day + 400 ∧ ndD wk hs day = nx (opB wk hs) day 400 ∧ ndC wk hs day = 0) := by
    rcases nd_ways wk hs day with ⟨q, _⟩ | ⟨_, q, _⟩ | ⟨_, _, q⟩ | ⟨_, _, q⟩
    · exact absurd hcy q
    · rw [hin] at q; cases q
    · exact .inl q
    · exact .inr q
  have hrg := nx_range (opB wk hs) 400 day
  have HFc : Hid (∀ i, i < (dl (opB wk hs) day 400).length → (day ≤ (dl (opB wk hs) day 400).getD i 0 ∧ (dl (opB wk hs) day 400).getD i 0 < day + 400 ∧ wk.getD ((dl (opB wk hs) day 400).getD i 0 % 7).toNat false = true ∧ ∀ k, k < hs.length → hs.getD k 0 ≠ (dl (opB wk hs) day 400).getD i 0)) := fun i hi => by
    obtain ⟨q1, q2, q3⟩ := dl_getD hi
    have q4 : (wk.getD ((dl (opB wk hs) day 400).getD i 0 % 7).toNat false && !hasI hs ((dl (opB wk hs) day 400).getD i 0)) = true := q3
    rw [Bool.and_eq_true] at q4
    refine ⟨q1, q2, q4.1, fun k hk hc => ?_⟩
    have q5 := contains_at hk hc
    have q6 := q4.2
    rw [q5] at q6
    cases q6
  have HUp0 : Hid (∀ i, 0 < i → i < (dl (opB wk hs) day 400).length → (dl (opB wk hs) day 400).getD (i - 1) 0 < (dl (opB wk hs) day 400).getD i 0) := fun i h0 hi => dl_up h0 hi
  have HCwk : Hid (∀ V m, Below w1.heap.size w1 V → m < 7 → V.cell? ⟨gw, m, none⟩ = some (.bool (wk.getD m false))) := fun V m hV hm => by
    rcases hrw with q | ⟨b', o', hg', hlt', ib⟩
    · rw [q] at h7; simp at h7
    · cases hg'
      have h9 := (hV.cell (p := ⟨gw, 0 + m, none⟩) hlt').trans (ib m (by omega))
      rwa [Nat.zero_add] at h9
  have HChs : Hid (∀ V k, Below w1.heap.size w1 V → k < hs.length → V.cell? ⟨gh, k, none⟩ = some (.int .i64 (hs.getD k 0))) := fun V k hV hk => by
    rcases hrh with q | ⟨b', o', hg', hlt', ib⟩
    · rw [q] at hk; simp at hk
    · cases hg'
      have h9 := (hV.cell (p := ⟨gh, 0 + k, none⟩) hlt').trans (ib k hk)
      rwa [Nat.zero_add] at h9
  have hAl := dl_len (opB wk hs) 400 day
  obtain ⟨i0, hi, hzz⟩ := Option.map_eq_some_iff.1 intInfo1
  simp only [Prod.mk.injEq] at hzz
  obtain ⟨hi0, hi1, hi2⟩ := hzz
  have HWl : Hid (wk.length = 7) := h7
  clear hA hb1 hrw hrh hal hrs hcb hcy hin h7
  generalize opB wk hs = p at *
  generalize ndD wk hs day = nd at *
  generalize ndC wk hs day = nc at *
  generalize wk.length = wl at *
  generalize hs.length = hl at *
  obtain ⟨y, hy⟩ : ∃ y, day + 400 = y := ⟨_, rfl⟩
  have HY : Hid (day + 400 = y) := hy
  have wy : IntKind.i64.wrap (day + 400) = y := by rw [← hy]; exact wrap_id _ (by omega) (by omega)
  have HA2 : Hid (∀ W, Below w1.heap.size w1 W → Calls Try.prog 17 #[.slice (some ⟨gw, 0, none⟩) wl cw, .slice (some ⟨gh, 0, none⟩) hl ch, .int .i64 day, .int .i64 y] W (AnsL W (dl p day 400) 0)) := fun W hW => by
    have h9 := HDD.out day y W hd0 (by omega) (by omega) (by omega) hW
    rw [show (y - day).toNat = 400 by omega] at h9
    exact h9
  have HAl : Hid (dl p day 400 = dl p day 400) := rfl
  have HEq : Hid ((dl p day 400 = [] ∧ nd = 0 ∧ nc = 8) ∨ (∃ r, dl p day 400 = nd :: r ∧ nc = 0)) := by
    rcases hways with ⟨q1, q2, q3⟩ | ⟨q1, q2, q3⟩
    · rw [if_neg (by omega)] at hnx; exact .inl ⟨hnx, q2, q3⟩
    · rw [if_pos (by omega)] at hnx; exact .inr ⟨_, by rw [q2]; exact hnx, q3⟩
  have HND : Hid (∀ W, Below w1.heap.size w1 W → Calls Try.prog 18 #[.slice (some ⟨gw, 0, none⟩) wl cw, .slice (some ⟨gh, 0, none⟩) hl ch, .int .i64 day] W (AnsN W nd nc)) := hND
  unfold AnsL at HA2
  unfold AnsN at HND
  clear hways hnx hrg hy hND
  generalize hAA : dl p day 400 = All at HFc HUp0 hAl HA2 HEq
  have HAl2 : Hid (dl p day 400 = All) := hAA
  clear hAA HAl
  have HAl := HAl2
  clear HAl2
  go_wp2_with fail
  (first | go_at_call 17 | skip)
  refine (HA2.out w1 (Below.refl _ _)).mono ?_
  rintro e w2 ⟨g1, c1, rfl, o2, hb2⟩
  have HB2 : Hid (Below w1.heap.size w1 w2) := hb2
  have HO2 : Hid (Own2 w1.heap.size w2 g1 All) := o2
  clear hb2 o2 HA2
  go_wp2_with fail
  (first | go_at_call 18 | skip)
  refine (HND.out w2 HB2.out).mono ?_
  rintro e w3 ⟨rfl, hb3⟩
  have HB3 : Hid (Below w1.heap.size w1 w3) := chain HB2.out hb3
  have HO3 : Hid (Own2 w1.heap.size w3 g1 All) := HO2.out.below hb3 (Nat.le_refl _)
  clear hb3 HND HB2 HO2
  rcases HEq.out with ⟨q1, q2, q3⟩ | ⟨r, q1, q3⟩
  · have hl0 : All.length = 0 := by rw [q1]; rfl
    have l1 : ((All.length : Int) == 0) = true := by simp [hl0]
    have l2 : ¬ (0 : Int) < (All.length : Int) := by omega
    have HFa : Hid (∀ i, i < All.length → _) := HFc.out
    have HUp : Hid (∀ i, 0 < i → i < All.length → All.getD (i - 1) 0 < All.getD i 0) := HUp0.out
    subst q2 q3
    clear HEq q1 HFc HUp0 hl0
    go_wp2_with fail
    (first | go_at_call 19 | skip)
    refine (HAt.out w3 HB3.out).mono ?_
    rintro e w4 ⟨x, rfl, hx, hb4⟩
    have HB4 : Hid (Below w1.heap.size w1 w4) := chain HB3.out hb4
    have HO4 : Hid (Own2 w1.heap.size w4 g1 All) := HO3.out.below hb4 (Nat.le_refl _)
    obtain ⟨n, hn⟩ : ∃ n : Nat, x = (n : Int) := ⟨x.toNat, by have := hx.1; omega⟩
    have hn4 : n ≤ 400 := by obtain ⟨u1, u2⟩ := hx; omega
    obtain ⟨kk, hkk⟩ : ∃ kk, day + x = kk := ⟨_, rfl⟩
    have wk1 : IntKind.i64.wrap (day + x) = kk := by rw [← hkk]; exact wrap_id _ (by omega) (by omega)
    have HA5 : Hid (∀ W, Below w1.heap.size w1 W → Calls Try.prog 17 #[.slice (some ⟨gw, 0, none⟩) wl cw, .slice (some ⟨gh, 0, none⟩) hl ch, .int .i64 day, .int .i64 kk] W (AnsL W (dl p day n) 0)) := fun W hW => by
      have h9 := HDD.out day kk W hd0 (by omega) (by omega) (by omega) hW
      rw [show (kk - day).toNat = n by omega] at h9
      exact h9
    have HA6 : Hid (∀ W, Below w1.heap.size w1 W → Calls Try.prog 17 #[.slice (some ⟨gw, 0, none⟩) wl cw, .slice (some ⟨gh, 0, none⟩) hl ch, .int .i64 kk, .int .i64 y] W (AnsL W (dl p (day + (n : Int)) (400 - n)) 0)) := fun W hW => by
      have h9 := HDD.out kk y W (by omega) (by have := HY.out; omega) (by have := HY.out; omega) (by have := HY.out; omega) hW
      rw [show (y - kk).toNat = 400 - n by have := HY.out; omega, show kk = day + (n : Int) by omega] at h9
      rw [show kk = day + (n : Int) by omega]
      exact h9
    have HAll : Hid (dl p day n ++ dl p (day + (n : Int)) (400 - n) = All) := by
      have h9 := dl_add p (400 - n) n day
      rw [show n + (400 - n) = 400 by omega] at h9
      show _ = _
      rw [← h9]; exact HAl.out
    have hLa := dl_len p n day
    have hLb := dl_len p (400 - n) (day + (n : Int))
    unfold AnsL at HA5 HA6
    generalize dl p day n = La at *
    generalize dl p (day + (n : Int)) (400 - n) = Lb at *
    clear hx hb4 HO3 HB3 hkk hn HDD HAt
    go_wp2_with fail
    (first | go_at_call 17 | skip)
    refine (HA5.out w4 HB4.out).mono ?_
    rintro e w5 ⟨g2, c2, rfl, o5, hb5⟩
    have HB5 : Hid (Below w1.heap.size w1 w5) := chain HB4.out hb5
    have HO5 : Hid (Own2 w1.heap.size w5 g1 All) := HO4.out.below hb5 (Nat.le_refl _)
    have HP5 : Hid (Own2 w4.heap.size w5 g2 La) := o5
    clear hb5 o5 HB4 HO4 HA5
    go_wp2_with fail
    (first | go_at_call 17 | skip)
    refine (HA6.out w5 HB5.out).mono ?_
    rintro e w6 ⟨g3, c3, rfl, o6, hb6⟩
    have HB6 : Hid (Below w1.heap.size w1 w6) := chain HB5.out hb6
    have HO6 : Hid (Own2 w1.heap.size w6 g1 All) := HO5.out.below hb6 (Nat.le_refl _)
    have HP6 : Hid (Own2 w4.heap.size w6 g2 La) := HP5.out.below hb6 (Nat.le_refl _)
    have HQ6 : Hid (Own2 w5.heap.size w6 g3 Lb) := o6
    clear hb6 o6 HB5 HO5 HP5 HA6
    have HE0 : Hid ((w6.alloc (Obj.cells #[] 3)).ownsRow w6.heap.size 3 1 (.slice (some ⟨w6.heap.size, 0, none⟩) 0 0) 0 []) := (One.start w6 _ rfl).1
    have HEb : Hid (Below w6.heap.size w6 (w6.alloc (Obj.cells #[] 3))) := below_alloc _ _
    have HNa : Hid (∀ W, Below w6.heap.size w6 W → (0 < La.length → ∃ ad, g2 = some ad ∧ ∀ j u, (La.map (Value.int .i64))[j]? = some u → W.cell? (ad.add j) = some u)) := fun W hW h => own2_news (HP6.out.below hW (Nat.le_refl _)) h
    have HNb : Hid (∀ W, Below w6.heap.size w6 W → (0 < Lb.length → ∃ ad, g3 = some ad ∧ ∀ j u, (Lb.map (Value.int .i64))[j]? = some u → W.cell? (ad.add j) = some u)) := fun W hW h => own2_news (HQ6.out.below hW (Nat.le_refl _)) h
    have hlen : La.length + Lb.length = All.length := by rw [← HAll.out, List.length_append]
    have hmap : La.map (Value.int .i64) ++ Lb.map (Value.int .i64) = All.map (Value.int .i64) := by rw [← HAll.out, List.map_append]
    have HLen : Hid (La.length + Lb.length = All.length) := hlen
    have HMap : Hid (La.map (Value.int .i64) ++ Lb.map (Value.int .i64) = All.map (Value.int .i64)) := hmap
    have hl1 : La.length ≤ 400 := by omega
    have hl2 : Lb.length ≤ 400 := by omega
    clear hlen hmap hLa hLb
    generalize hNN : All.length = N at *
    have HN : Hid (All.length = N) := hNN
    clear hNN
    generalize hna : La.length = na at *
    have HLna : Hid (La.length = na) := hna
    clear hna
    generalize hnb : Lb.length = nb at *
    have HLnb : Hid (Lb.length = nb) := hnb
    clear hnb
    have HLa : Hid ((La.map (Value.int .i64)).length = na * 1 ∧ (Lb.map (Value.int .i64)).length = nb * 1) := by rw [List.length_map, List.length_map]; exact ⟨by rw [Nat.mul_one]; exact HLna.out, by rw [Nat.mul_one]; exact HLnb.out⟩
    go_wp2_with (at_builtin; first
      | (refine wpList_append_want (by rfl) _ _ 33 rfl w6.heap.size 3 i0 (.int .i64 0) 1 8 Try.underlying33 hi hi0 hi1 hi2 rfl (by decide) _ 0 [] rfl HE0.out g2 na c2 (La.map (Value.int .i64)) rfl HLa.out.1 (HNa.out _ HEb.out) (one_map _) (by unfold maxLen; omega) (by omega) HEb.out.size na (Nat.zero_add _) (La.map (Value.int .i64)) (List.nil_append _) ?_; intro va1 vc1 w7 hown1 hgrow1; have HR7 : Hid (w7.ownsRow w6.heap.size 3 1 (.slice va1 na vc1) na (La.map (Value.int .i64))) := hown1; have HG7 : Hid (Below w6.heap.size w6 w7) := HEb.out.grown hgrow1 HEb.out.size (fun q hq => (HE0.out.lt q hq).1); clear hown1 hgrow1)
      | (refine wpList_append_want (by rfl) _ _ 33 rfl w6.heap.size 3 i0 (.int .i64 0) 1 8 Try.underlying33 hi hi0 hi1 hi2 rfl (by decide) _ na (La.map (Value.int .i64)) rfl HR7.out g3 nb c3 (Lb.map (Value.int .i64)) rfl HLa.out.2 (HNb.out _ HG7.out) (one_map _) (by unfold maxLen; omega) (by omega) HG7.out.size N HLen.out (All.map (Value.int .i64)) HMap.out ?_; intro va2 vc2 w8 hown2 hgrow2; have HR8 : Hid (w8.ownsRow w6.heap.size 3 1 (.slice va2 N vc2) N (All.map (Value.int .i64))) := hown2; have HG8 : Hid (Below w6.heap.size w6 w8) := HG7.out.grown hgrow2 HG7.out.size (fun q hq => (HR7.out.lt q hq).1); clear hown2 hgrow2))
    have HSm : Hid (Calls Try.prog 20 #[.slice va2 N vc2, .slice g1 N c1] w8 fun e w' => e = .returned (.bool true) ∧ Below w8.heap.size w8 w') := by
      have h1 : One w6 w6.heap.size (.slice va2 N vc2) All w8 := ⟨by rw [HN.out]; exact HR8.out, HG8.out.size, HG8.out⟩
      have h2 := sameInts_any va2 g1 vc2 c1 All (by rw [HN.out]; omega) w8 ((h1.own2 HN.out.symm).reads) ((HO6.out.below HG8.out (Nat.le_refl _)).reads)
      rw [HN.out] at h2
      exact h2
    (first | go_at_call 20 | skip)
    refine HSm.out.mono ?_
    rintro e w9 ⟨rfl, hb9⟩
    have HB9 : Hid (Below w6.heap.size w6 w9) := chain HG8.out hb9
    clear hb9 HSm HR8 HG8 HR7 HG7 HE0 HEb HNa HNb HLa HLen HMap HP6 HQ6 HAll
    go_wp2_with fail
    go_loopw [17, 18] (fun iv _ wr => ∃ i : Nat, i ≤ N ∧ iv = .int .i64 (i : Int) ∧ Below w6.heap.size w6 wr) (fun iv _ _ => N - (intOf iv).toNat)
    case atStart => exact ⟨0, Nat.zero_le _, rfl, HB9.out⟩
    case round =>
      clear HB9
      obtain ⟨i, hi9, rfl, hb⟩ := hrel
      have HB : Hid (Below w6.heap.size w6 wr) := hb
      clear hb
      by_cases hlt : i < N
      · have hlt' : (i : Int) < (N : Int) := by omega
        have hiA : i < All.length := by rw [HN.out]; exact hlt
        obtain ⟨ga, hga, _, hgl, _, _⟩ := own2_atD HO6.out hiA
        have HCe : Hid (∀ V k, Below wr.heap.size wr V → k < N → V.cell? ⟨ga, k, none⟩ = some (.int .i64 (All.getD k 0))) := fun V k hV hk => by
          obtain ⟨gb, hgb, _, hl9, hc9, _⟩ := own2_atD HO6.out (show k < All.length by rw [HN.out]; exact hk)
          rw [hga] at hgb
          cases hgb
          exact ((chain HB.out hV).cell (p := ⟨ga, k, none⟩) hl9).trans hc9
        have hfa := HFa.out i hlt
        obtain ⟨hf1, hf2, hf3, hf4⟩ := hfa
        have hup := fun h => HUp.out i h hlt
        obtain ⟨m, hm⟩ : ∃ m : Nat, All.getD i 0 % 7 = (m : Int) := ⟨(All.getD i 0 % 7).toNat, by omega⟩
        have hm7 : m < 7 := by omega
        rw [hm, Int.toNat_natCast] at hf3
        have hmw : (m : Int) < (wl : Int) := by have := HWl.out; omega
        have HCw : Hid (∀ V, Below wr.heap.size wr V → V.cell? ⟨gw, m, none⟩ = some (.bool true)) := fun V hV => by
          have h9 := HCwk.out V m (chain (chain HB6.out HB.out) hV) hm7
          rw [hf3] at h9
          exact h9
        have HCh : Hid (∀ V k, Below wr.heap.size wr V → k < hl → V.cell? ⟨gh, k, none⟩ = some (.int .i64 (hs.getD k 0))) := fun V k hV hk => HChs.out V k (chain (chain HB6.out HB.out) hV) hk
        have HNe : Hid (∀ k, k < hl → hs.getD k 0 ≠ All.getD i 0) := fun k hk => hf4 k hk
        obtain ⟨aj, haj⟩ : ∃ aj, All.getD (i - 1) 0 = aj := ⟨_, rfl⟩
        have hc1 := fun V hV (h : 0 < i) => HCe.out V (i - 1) hV (by omega)
        rw [haj] at hc1
        rw [haj] at hup
        have hc0 := fun V hV => HCe.out V i hV hlt
        have tm : Int.tmod (All.getD i 0) 7 = (m : Int) := by rw [Int.tmod_eq_emod_of_nonneg (by omega)]; exact hm
        generalize All.getD i 0 = ai at *
        have wm : IntKind.i64.wrap (m : Int) = (m : Int) := wrap_id _ (by omega) (by omega)
        rw [hga]
        have HEnd : Hid (Below w6.heap.size w6 wr.drew) := HB.out.drew
        have HCi : Hid (∀ V, Below wr.heap.size wr V → V.cell? ⟨ga, i, none⟩ = some (.int .i64 ai)) := hc0
        clear hm hf3 hf4 haj hc0 HCe
        obtain ⟨j, hj⟩ : ∃ j, i - 1 = j := ⟨_, rfl⟩
        by_cases h0 : i = 0
        · have HK0 : Hid (i = 0) := h0
          have HQ : Hid (∀ V, Below wr.heap.size wr V → V.cell? ⟨ga, i, none⟩ = some (.int .i64 ai) ∧ V.cell? ⟨gw, m, none⟩ = some (.bool true) ∧ True) := fun V hV => ⟨HCi.out V hV, HCw.out V hV, trivial⟩
          have l3 : decide ((0 : Int) < (i : Int)) = false := decide_eq_false (by omega)
          clear h0 hup hc1 hj
          go_upto_region 16 with fail
          refine wp_region_held_drew (S := fun W' => Below wr.heap.size wr W') (by kernel_rfl) (below_drew _) (fun hH => ?_)
          refine wpAnyH_take (i := 0) (v := .slice (some ⟨gw, 0, none⟩) wl cw) rfl (by kernel_rfl) (by kernel_rfl) (by kernel_rfl) (fun _ _ _ h => h) (Or.inl ⟨by rfl, fun w hSw => by clear hSw; go_simp⟩) hH ?_
          refine wpAnyH_take (i := 1) (v := .slice (some ⟨ga, 0, none⟩) N c1) rfl (by kernel_rfl) (by kernel_rfl) (by kernel_rfl) (fun _ _ _ h => h) (Or.inl ⟨by rfl, fun w hSw => by clear hSw; go_simp⟩) hH ?_
          try simp only [Act.put, List.setIfInBounds_toArray, List.set_cons_zero, List.set_cons_succ, List.getElem_toArray, List.getElem_cons_succ, List.getElem_cons_zero]
          refine wpAnyH_take (i := 2) (v := .int .i64 ((i : Int))) rfl (by kernel_rfl) (by kernel_rfl) (by kernel_rfl) (fun _ _ _ h => h) (Or.inl ⟨by rfl, fun w hSw => by clear hSw; go_simp⟩) hH ?_
          try simp only [Act.put, List.setIfInBounds_toArray, List.set_cons_zero, List.set_cons_succ, List.getElem_toArray, List.getElem_cons_succ, List.getElem_cons_zero]
          refine wpAnyH_take (i := 3) (v := .pointer (some ⟨ga, i, none⟩)) rfl (by kernel_rfl) (by kernel_rfl) (by kernel_rfl) (fun _ _ _ h => h) (Or.inl ⟨by rfl, fun w hSw => by clear hSw; go_simp⟩) hH ?_
          try simp only [Act.put, List.setIfInBounds_toArray, List.set_cons_zero, List.set_cons_succ, List.getElem_toArray, List.getElem_cons_succ, List.getElem_cons_zero]
          refine wpAnyH_take (i := 4) (v := .int .i64 ai) rfl (by kernel_rfl) (by kernel_rfl) (by kernel_rfl) (fun _ _ _ h => h) (Or.inl ⟨by rfl, fun w hSw => by have f0 := (HQ.out w hSw).1; clear hSw; go_simp⟩) hH ?_
          try simp only [Act.put, List.setIfInBounds_toArray, List.set_cons_zero, List.set_cons_succ, List.getElem_toArray, List.getElem_cons_succ, List.getElem_cons_zero]
          refine wpAnyH_take (i := 5) (v := .int .i64 ((m : Int))) rfl (by kernel_rfl) (by kernel_rfl) (by kernel_rfl) (fun _ _ _ h => h) (Or.inl ⟨by rfl, fun w hSw => by clear hSw; go_simp⟩) hH ?_
          try simp only [Act.put, List.setIfInBounds_toArray, List.set_cons_zero, List.set_cons_succ, List.getElem_toArray, List.getElem_cons_succ, List.getElem_cons_zero]
          refine wpAnyH_take (i := 6) (v := .pointer (some ⟨gw, m, none⟩)) rfl (by kernel_rfl) (by kernel_rfl) (by kernel_rfl) (fun _ _ _ h => h) (Or.inl ⟨by rfl, fun w hSw => by clear hSw; go_simp⟩) hH ?_
          try simp only [Act.put, List.setIfInBounds_toArray, List.set_cons_zero, List.set_cons_succ, List.getElem_toArray, List.getElem_cons_succ, List.getElem_cons_zero]
          refine wpAnyH_take (i := 7) (v := .bool true) rfl (by kernel_rfl) (by kernel_rfl) (by kernel_rfl) (fun _ _ _ h => h) (Or.inl ⟨by rfl, fun w hSw => by have f0 := (HQ.out w hSw).2.1; clear hSw; go_simp⟩) hH ?_
          try simp only [Act.put, List.setIfInBounds_toArray, List.set_cons_zero, List.set_cons_succ, List.getElem_toArray, List.getElem_cons_succ, List.getElem_cons_zero]
          refine wpAnyH_take (i := 8) (v := .bool false) rfl (by kernel_rfl) (by kernel_rfl) (by kernel_rfl) (fun _ _ _ h => h) (Or.inl ⟨by rfl, fun w hSw => by clear hSw; go_simp⟩) hH ?_
          try simp only [Act.put, List.setIfInBounds_toArray, List.set_cons_zero, List.set_cons_succ, List.getElem_toArray, List.getElem_cons_succ, List.getElem_cons_zero]
          refine wpAnyH_take (i := 9) (v := .bool false) rfl (by kernel_rfl) (by kernel_rfl) (by kernel_rfl) (fun _ _ _ h => h) (Or.inl ⟨by rfl, fun w hSw => by clear hSw; go_simp⟩) hH ?_
          try simp only [Act.put, List.setIfInBounds_toArray, List.set_cons_zero, List.set_cons_succ, List.getElem_toArray, List.getElem_cons_succ, List.getElem_cons_zero]
          refine wpAnyH_take (i := 10) (v := .int .i64 ((i : Int))) rfl (by kernel_rfl) (by kernel_rfl) (by kernel_rfl) (fun _ _ _ h => h) (Or.inl ⟨by rfl, fun w hSw => by clear hSw; go_simp⟩) hH ?_
          try simp only [Act.put, List.setIfInBounds_toArray, List.set_cons_zero, List.set_cons_succ, List.getElem_toArray, List.getElem_cons_succ, List.getElem_cons_zero]
          refine wpAnyH_take (i := 11) (v := .bool false) rfl (by kernel_rfl) (by kernel_rfl) (by kernel_rfl) (fun _ _ _ h => h) (Or.inl ⟨by rfl, fun w hSw => by have hk0 := HK0.out; clear hSw; go_simp⟩) hH ?_
          try simp only [Act.put, List.setIfInBounds_toArray, List.set_cons_zero, List.set_cons_succ, List.getElem_toArray, List.getElem_cons_succ, List.getElem_cons_zero]
          refine wpAnyH_take (i := 12) (v := .bool false) rfl (by kernel_rfl) (by kernel_rfl) (by kernel_rfl) (fun _ _ _ h => h) (Or.inl ⟨by rfl, fun w hSw => by clear hSw; go_simp⟩) hH ?_
          try simp only [Act.put, List.setIfInBounds_toArray, List.set_cons_zero, List.set_cons_succ, List.getElem_toArray, List.getElem_cons_succ, List.getElem_cons_zero]
          refine wpAnyH_take (i := 13) (v := undef) rfl (by kernel_rfl) (by kernel_rfl) (by kernel_rfl) (fun _ _ _ h => h) (Or.inr ⟨by rfl, rfl⟩) hH ?_
          try simp only [Act.put, List.setIfInBounds_toArray, List.set_cons_zero, List.set_cons_succ, List.getElem_toArray, List.getElem_cons_succ, List.getElem_cons_zero]
          refine wpAnyH_take (i := 14) (v := undef) rfl (by kernel_rfl) (by kernel_rfl) (by kernel_rfl) (fun _ _ _ h => h) (Or.inr ⟨by rfl, rfl⟩) hH ?_
          try simp only [Act.put, List.setIfInBounds_toArray, List.set_cons_zero, List.set_cons_succ, List.getElem_toArray, List.getElem_cons_succ, List.getElem_cons_zero]
          refine wpAnyH_take (i := 15) (v := undef) rfl (by kernel_rfl) (by kernel_rfl) (by kernel_rfl) (fun _ _ _ h => h) (Or.inr ⟨by rfl, rfl⟩) hH ?_
          try simp only [Act.put, List.setIfInBounds_toArray, List.set_cons_zero, List.set_cons_succ, List.getElem_toArray, List.getElem_cons_succ, List.getElem_cons_zero]
          refine wpAnyH_take (i := 16) (v := undef) rfl (by kernel_rfl) (by kernel_rfl) (by kernel_rfl) (fun _ _ _ h => h) (Or.inr ⟨by rfl, rfl⟩) hH ?_
          try simp only [Act.put, List.setIfInBounds_toArray, List.set_cons_zero, List.set_cons_succ, List.getElem_toArray, List.getElem_cons_succ, List.getElem_cons_zero]
          refine wpAnyH_take (i := 17) (v := undef) rfl (by kernel_rfl) (by kernel_rfl) (by kernel_rfl) (fun _ _ _ h => h) (Or.inr ⟨by rfl, rfl⟩) hH ?_
          try simp only [Act.put, List.setIfInBounds_toArray, List.set_cons_zero, List.set_cons_succ, List.getElem_toArray, List.getElem_cons_succ, List.getElem_cons_zero]
          refine wpAnyH_take (i := 18) (v := undef) rfl (by kernel_rfl) (by kernel_rfl) (by kernel_rfl) (fun _ _ _ h => h) (Or.inr ⟨by rfl, rfl⟩) hH ?_
          try simp only [Act.put, List.setIfInBounds_toArray, List.set_cons_zero, List.set_cons_succ, List.getElem_toArray, List.getElem_cons_succ, List.getElem_cons_zero]
          refine wpAnyH_take (i := 19) (v := undef) rfl (by kernel_rfl) (by kernel_rfl) (by kernel_rfl) (fun _ _ _ h => h) (Or.inr ⟨by rfl, rfl⟩) hH ?_
          try simp only [Act.put, List.setIfInBounds_toArray, List.set_cons_zero, List.set_cons_succ, List.getElem_toArray, List.getElem_cons_succ, List.getElem_cons_zero]
          refine wpAnyH_take (i := 20) (v := undef) rfl (by kernel_rfl) (by kernel_rfl) (by kernel_rfl) (fun _ _ _ h => h) (Or.inr ⟨by rfl, rfl⟩) hH ?_
          try simp only [Act.put, List.setIfInBounds_toArray, List.set_cons_zero, List.set_cons_succ, List.getElem_toArray, List.getElem_cons_succ, List.getElem_cons_zero]
          refine wpAnyH_take (i := 21) (v := undef) rfl (by kernel_rfl) (by kernel_rfl) (by kernel_rfl) (fun _ _ _ h => h) (Or.inr ⟨by rfl, rfl⟩) hH ?_
          try simp only [Act.put, List.setIfInBounds_toArray, List.set_cons_zero, List.set_cons_succ, List.getElem_toArray, List.getElem_cons_succ, List.getElem_cons_zero]
          refine wpAnyH_take (i := 22) (v := undef) rfl (by kernel_rfl) (by kernel_rfl) (by kernel_rfl) (fun _ _ _ h => h) (Or.inr ⟨by rfl, rfl⟩) hH ?_
          try simp only [Act.put, List.setIfInBounds_toArray, List.set_cons_zero, List.set_cons_succ, List.getElem_toArray, List.getElem_cons_succ, List.getElem_cons_zero]
          refine wpAnyH_take (i := 23) (v := .bool false) rfl (by kernel_rfl) (by kernel_rfl) (by kernel_rfl) (fun _ _ _ h => h) (Or.inl ⟨by rfl, fun w hSw => by clear hSw; go_simp⟩) hH ?_
          try simp only [Act.put, List.setIfInBounds_toArray, List.set_cons_zero, List.set_cons_succ, List.getElem_toArray, List.getElem_cons_succ, List.getElem_cons_zero]
          refine wpAnyH_take (i := 24) (v := .bool false) rfl (by kernel_rfl) (by kernel_rfl) (by kernel_rfl) (fun _ _ _ h => h) (Or.inl ⟨by rfl, fun w hSw => by clear hSw; go_simp⟩) hH ?_
          try simp only [Act.put, List.setIfInBounds_toArray, List.set_cons_zero, List.set_cons_succ, List.getElem_toArray, List.getElem_cons_succ, List.getElem_cons_zero]
          refine wpAnyH_done (by kernel_rfl) ?_ _
          clear hH
          clear HQ HCw
          obtain ⟨wt, hwt⟩ : ∃ wt, wt = wr.drew := ⟨_, rfl⟩
          have HT1 : Hid (Below wr.heap.size wr wt) := by rw [hwt]; exact below_drew _
          rw [← hwt] at HEnd ⊢
          clear hwt
          have HCi2 : Hid (∀ V, Below wt.heap.size wt V → V.cell? ⟨ga, i, none⟩ = some (.int .i64 ai)) := fun V hV => HCi.out V (chain HT1.out hV)
          have HCh2 : Hid (∀ V k, Below wt.heap.size wt V → k < hl → V.cell? ⟨gh, k, none⟩ = some (.int .i64 (hs.getD k 0))) := fun V k hV hk => HCh.out V k (chain HT1.out hV) hk
          have HEt : Hid (∀ V, Below wt.heap.size wt V → Below w6.heap.size w6 V) := fun V hV => chain HEnd.out hV
          clear HCi HCh HEnd HT1 HB
          go_wp2
          go_loopw [18] (fun kv wr => ∃ k : Nat, k ≤ hl ∧ kv = .int .i64 (k : Int) ∧ Below wt.heap.size wt wr) (fun kv _ => hl - (intOf kv).toNat)
          case atStart => exact ⟨0, Nat.zero_le _, rfl, Below.refl _ _⟩
          case round =>
            obtain ⟨k, hk, rfl, hb⟩ := hrel
            have HB : Hid (Below wt.heap.size wt wr) := hb
            clear hb
            by_cases hkt : k < hl
            · have hkt' : (k : Int) < (hl : Int) := by omega
              obtain ⟨hk9, hhk⟩ : ∃ q, hs.getD k 0 = q := ⟨_, rfl⟩
              have hne := HNe.out k hkt
              have HQ : Hid (∀ V, Below wr.heap.size wr V → V.cell? ⟨ga, i, none⟩ = some (.int .i64 ai) ∧ V.cell? ⟨gh, k, none⟩ = some (.int .i64 hk9)) := fun V hV => ⟨HCi2.out V (chain HB.out hV), by rw [← hhk]; exact HCh2.out V k (chain HB.out hV) hkt⟩
              rw [hhk] at hne
              have l9 : (hk9 == ai) = false := by simp [hne]
              have l10 : ¬ hk9 = ai := hne
              have HE2 : Hid (Below wt.heap.size wt wr.drew) := HB.out.drew
              clear hhk hne
              go_upto_region 21 with fail
              refine wp_region_held_drew (S := fun W' => Below wr.heap.size wr W') (by kernel_rfl) (below_drew _) (fun hH => ?_)
              refine wpAnyH_take (i := 0) (v := .slice (some ⟨gh, 0, none⟩) hl ch) rfl (by kernel_rfl) (by kernel_rfl) (by kernel_rfl) (fun _ _ _ h => h) (Or.inl ⟨by rfl, fun w hSw => by clear hSw; go_simp⟩) hH ?_
              refine wpAnyH_take (i := 1) (v := .int .i64 ((k : Int))) rfl (by kernel_rfl) (by kernel_rfl) (by kernel_rfl) (fun _ _ _ h => h) (Or.inl ⟨by rfl, fun w hSw => by clear hSw; go_simp⟩) hH ?_
              try simp only [Act.put, List.setIfInBounds_toArray, List.set_cons_zero, List.set_cons_succ, List.getElem_toArray, List.getElem_cons_succ, List.getElem_cons_zero]
              refine wpAnyH_take (i := 2) (v := .pointer (some ⟨gh, k, none⟩)) rfl (by kernel_rfl) (by kernel_rfl) (by kernel_rfl) (fun _ _ _ h => h) (Or.inl ⟨by rfl, fun w hSw => by clear hSw; go_simp⟩) hH ?_
              try simp only [Act.put, List.setIfInBounds_toArray, List.set_cons_zero, List.set_cons_succ, List.getElem_toArray, List.getElem_cons_succ, List.getElem_cons_zero]
              refine wpAnyH_take (i := 3) (v := .int .i64 hk9) rfl (by kernel_rfl) (by kernel_rfl) (by kernel_rfl) (fun _ _ _ h => h) (Or.inl ⟨by rfl, fun w hSw => by have f0 := (HQ.out w hSw).2; clear hSw; go_simp⟩) hH ?_
              try simp only [Act.put, List.setIfInBounds_toArray, List.set_cons_zero, List.set_cons_succ, List.getElem_toArray, List.getElem_cons_succ, List.getElem_cons_zero]
              refine wpAnyH_take (i := 4) (v := .slice (some ⟨ga, 0, none⟩) N c1) rfl (by kernel_rfl) (by kernel_rfl) (by kernel_rfl) (fun _ _ _ h => h) (Or.inl ⟨by rfl, fun w hSw => by clear hSw; go_simp⟩) hH ?_
              try simp only [Act.put, List.setIfInBounds_toArray, List.set_cons_zero, List.set_cons_succ, List.getElem_toArray, List.getElem_cons_succ, List.getElem_cons_zero]
              refine wpAnyH_take (i := 5) (v := .int .i64 ((i : Int))) rfl (by kernel_rfl) (by kernel_rfl) (by kernel_rfl) (fun _ _ _ h => h) (Or.inl ⟨by rfl, fun w hSw => by clear hSw; go_simp⟩) hH ?_
              try simp only [Act.put, List.setIfInBounds_toArray, List.set_cons_zero, List.set_cons_succ, List.getElem_toArray, List.getElem_cons_succ, List.getElem_cons_zero]
              refine wpAnyH_take (i := 6) (v := .pointer (some ⟨ga, i, none⟩)) rfl (by kernel_rfl) (by kernel_rfl) (by kernel_rfl) (fun _ _ _ h => h) (Or.inl ⟨by rfl, fun w hSw => by clear hSw; go_simp⟩) hH ?_
              try simp only [Act.put, List.setIfInBounds_toArray, List.set_cons_zero, List.set_cons_succ, List.getElem_toArray, List.getElem_cons_succ, List.getElem_cons_zero]
              refine wpAnyH_take (i := 7) (v := .int .i64 ai) rfl (by kernel_rfl) (by kernel_rfl) (by kernel_rfl) (fun _ _ _ h => h) (Or.inl ⟨by rfl, fun w hSw => by have f0 := (HQ.out w hSw).1; clear hSw; go_simp⟩) hH ?_
              try simp only [Act.put, List.setIfInBounds_toArray, List.set_cons_zero, List.set_cons_succ, List.getElem_toArray, List.getElem_cons_succ, List.getElem_cons_zero]
              refine wpAnyH_take (i := 8) (v := .bool false) rfl (by kernel_rfl) (by kernel_rfl) (by kernel_rfl) (fun _ _ _ h => h) (Or.inl ⟨by rfl, fun w hSw => by clear hSw; go_simp⟩) hH ?_
              try simp only [Act.put, List.setIfInBounds_toArray, List.set_cons_zero, List.set_cons_succ, List.getElem_toArray, List.getElem_cons_succ, List.getElem_cons_zero]
              refine wpAnyH_done (by kernel_rfl) ?_ _
              clear hH
              go_wp2
              exact ⟨⟨k + 1, by omega, by go_num, HE2.out⟩, by simp [intOf]; omega⟩
            · have hke : ¬ (k : Int) < (hl : Int) := by omega
              go_wp2
              exact ⟨⟨i + 1, by omega, by go_num, HEt.out _ HB.out⟩, by simp [intOf]; omega⟩
        · have HK0 : Hid (0 < i) := by show 0 < i; omega
          have hup2 := hup HK0.out
          have wj : IntKind.i64.wrap ((i : Int) - 1) = (j : Int) := by rw [show (i : Int) - 1 = (j : Int) by omega]; exact wrap_id _ (by omega) (by omega)
          have hjn : (j : Int) < (N : Int) := by omega
          have HQ : Hid (∀ V, Below wr.heap.size wr V → V.cell? ⟨ga, i, none⟩ = some (.int .i64 ai) ∧ V.cell? ⟨gw, m, none⟩ = some (.bool true) ∧ V.cell? ⟨ga, j, none⟩ = some (.int .i64 aj)) := fun V hV => ⟨HCi.out V hV, HCw.out V hV, by rw [← hj]; exact hc1 V hV HK0.out⟩
          have l3 : decide ((0 : Int) < (i : Int)) = true := decide_eq_true (by omega)
          have l4 : decide (ai ≤ aj) = false := decide_eq_false (by omega)
          have l5 : ¬ ai ≤ aj := by omega
          clear h0 hup hc1 hj hup2
          go_upto_region 16 with fail
          refine wp_region_held_drew (S := fun W' => Below wr.heap.size wr W') (by kernel_rfl) (below_drew _) (fun hH => ?_)
          refine wpAnyH_take (i := 0) (v := .slice (some ⟨gw, 0, none⟩) wl cw) rfl (by kernel_rfl) (by kernel_rfl) (by kernel_rfl) (fun _ _ _ h => h) (Or.inl ⟨by rfl, fun w hSw => by clear hSw; go_simp⟩) hH ?_
          refine wpAnyH_take (i := 1) (v := .slice (some ⟨ga, 0, none⟩) N c1) rfl (by kernel_rfl) (by kernel_rfl) (by kernel_rfl) (fun _ _ _ h => h) (Or.inl ⟨by rfl, fun w hSw => by clear hSw; go_simp⟩) hH ?_
          try simp only [Act.put, List.setIfInBounds_toArray, List.set_cons_zero, List.set_cons_succ, List.getElem_toArray, List.getElem_cons_succ, List.getElem_cons_zero]
          refine wpAnyH_take (i := 2) (v := .int .i64 ((i : Int))) rfl (by kernel_rfl) (by kernel_rfl) (by kernel_rfl) (fun _ _ _ h => h) (Or.inl ⟨by rfl, fun w hSw => by clear hSw; go_simp⟩) hH ?_
          try simp only [Act.put, List.setIfInBounds_toArray, List.set_cons_zero, List.set_cons_succ, List.getElem_toArray, List.getElem_cons_succ, List.getElem_cons_zero]
          refine wpAnyH_take (i := 3) (v := .pointer (some ⟨ga, i, none⟩)) rfl (by kernel_rfl) (by kernel_rfl) (by kernel_rfl) (fun _ _ _ h => h) (Or.inl ⟨by rfl, fun w hSw => by clear hSw; go_simp⟩) hH ?_
          try simp only [Act.put, List.setIfInBounds_toArray, List.set_cons_zero, List.set_cons_succ, List.getElem_toArray, List.getElem_cons_succ, List.getElem_cons_zero]
          refine wpAnyH_take (i := 4) (v := .int .i64 ai) rfl (by kernel_rfl) (by kernel_rfl) (by kernel_rfl) (fun _ _ _ h => h) (Or.inl ⟨by rfl, fun w hSw => by have f0 := (HQ.out w hSw).1; clear hSw; go_simp⟩) hH ?_
          try simp only [Act.put, List.setIfInBounds_toArray, List.set_cons_zero, List.set_cons_succ, List.getElem_toArray, List.getElem_cons_succ, List.getElem_cons_zero]
          refine wpAnyH_take (i := 5) (v := .int .i64 ((m : Int))) rfl (by kernel_rfl) (by kernel_rfl) (by kernel_rfl) (fun _ _ _ h => h) (Or.inl ⟨by rfl, fun w hSw => by clear hSw; go_simp⟩) hH ?_
          try simp only [Act.put, List.setIfInBounds_toArray, List.set_cons_zero, List.set_cons_succ, List.getElem_toArray, List.getElem_cons_succ, List.getElem_cons_zero]
          refine wpAnyH_take (i := 6) (v := .pointer (some ⟨gw, m, none⟩)) rfl (by kernel_rfl) (by kernel_rfl) (by kernel_rfl) (fun _ _ _ h => h) (Or.inl ⟨by rfl, fun w hSw => by clear hSw; go_simp⟩) hH ?_
          try simp only [Act.put, List.setIfInBounds_toArray, List.set_cons_zero, List.set_cons_succ, List.getElem_toArray, List.getElem_cons_succ, List.getElem_cons_zero]
          refine wpAnyH_take (i := 7) (v := .bool true) rfl (by kernel_rfl) (by kernel_rfl) (by kernel_rfl) (fun _ _ _ h => h) (Or.inl ⟨by rfl, fun w hSw => by have f0 := (HQ.out w hSw).2.1; clear hSw; go_simp⟩) hH ?_
          try simp only [Act.put, List.setIfInBounds_toArray, List.set_cons_zero, List.set_cons_succ, List.getElem_toArray, List.getElem_cons_succ, List.getElem_cons_zero]
          refine wpAnyH_take (i := 8) (v := .bool false) rfl (by kernel_rfl) (by kernel_rfl) (by kernel_rfl) (fun _ _ _ h => h) (Or.inl ⟨by rfl, fun w hSw => by clear hSw; go_simp⟩) hH ?_
          try simp only [Act.put, List.setIfInBounds_toArray, List.set_cons_zero, List.set_cons_succ, List.getElem_toArray, List.getElem_cons_succ, List.getElem_cons_zero]
          refine wpAnyH_take (i := 9) (v := .bool false) rfl (by kernel_rfl) (by kernel_rfl) (by kernel_rfl) (fun _ _ _ h => h) (Or.inl ⟨by rfl, fun w hSw => by clear hSw; go_simp⟩) hH ?_
          try simp only [Act.put, List.setIfInBounds_toArray, List.set_cons_zero, List.set_cons_succ, List.getElem_toArray, List.getElem_cons_succ, List.getElem_cons_zero]
          refine wpAnyH_take (i := 10) (v := .int .i64 ((i : Int))) rfl (by kernel_rfl) (by kernel_rfl) (by kernel_rfl) (fun _ _ _ h => h) (Or.inl ⟨by rfl, fun w hSw => by clear hSw; go_simp⟩) hH ?_
          try simp only [Act.put, List.setIfInBounds_toArray, List.set_cons_zero, List.set_cons_succ, List.getElem_toArray, List.getElem_cons_succ, List.getElem_cons_zero]
          refine wpAnyH_take (i := 11) (v := .bool true) rfl (by kernel_rfl) (by kernel_rfl) (by kernel_rfl) (fun _ _ _ h => h) (Or.inl ⟨by rfl, fun w hSw => by have hk0 := HK0.out; clear hSw; go_simp⟩) hH ?_
          try simp only [Act.put, List.setIfInBounds_toArray, List.set_cons_zero, List.set_cons_succ, List.getElem_toArray, List.getElem_cons_succ, List.getElem_cons_zero]
          refine wpAnyH_take (i := 12) (v := .bool true) rfl (by kernel_rfl) (by kernel_rfl) (by kernel_rfl) (fun _ _ _ h => h) (Or.inl ⟨by rfl, fun w hSw => by clear hSw; go_simp⟩) hH ?_
          try simp only [Act.put, List.setIfInBounds_toArray, List.set_cons_zero, List.set_cons_succ, List.getElem_toArray, List.getElem_cons_succ, List.getElem_cons_zero]
          refine wpAnyH_take (i := 13) (v := .slice (some ⟨ga, 0, none⟩) N c1) rfl (by kernel_rfl) (by kernel_rfl) (by kernel_rfl) (fun _ _ _ h => h) (Or.inl ⟨by rfl, fun w hSw => by clear hSw; go_simp⟩) hH ?_
          try simp only [Act.put, List.setIfInBounds_toArray, List.set_cons_zero, List.set_cons_succ, List.getElem_toArray, List.getElem_cons_succ, List.getElem_cons_zero]
          refine wpAnyH_take (i := 14) (v := .int .i64 ((i : Int))) rfl (by kernel_rfl) (by kernel_rfl) (by kernel_rfl) (fun _ _ _ h => h) (Or.inl ⟨by rfl, fun w hSw => by clear hSw; go_simp⟩) hH ?_
          try simp only [Act.put, List.setIfInBounds_toArray, List.set_cons_zero, List.set_cons_succ, List.getElem_toArray, List.getElem_cons_succ, List.getElem_cons_zero]
          refine wpAnyH_take (i := 15) (v := .int .i64 ((j : Int))) rfl (by kernel_rfl) (by kernel_rfl) (by kernel_rfl) (fun _ _ _ h => h) (Or.inl ⟨by rfl, fun w hSw => by clear hSw; go_simp⟩) hH ?_
          try simp only [Act.put, List.setIfInBounds_toArray, List.set_cons_zero, List.set_cons_succ, List.getElem_toArray, List.getElem_cons_succ, List.getElem_cons_zero]
          refine wpAnyH_take (i := 16) (v := .pointer (some ⟨ga, j, none⟩)) rfl (by kernel_rfl) (by kernel_rfl) (by kernel_rfl) (fun _ _ _ h => h) (Or.inl ⟨by rfl, fun w hSw => by clear hSw; go_simp⟩) hH ?_
          try simp only [Act.put, List.setIfInBounds_toArray, List.set_cons_zero, List.set_cons_succ, List.getElem_toArray, List.getElem_cons_succ, List.getElem_cons_zero]
          refine wpAnyH_take (i := 17) (v := .int .i64 aj) rfl (by kernel_rfl) (by kernel_rfl) (by kernel_rfl) (fun _ _ _ h => h) (Or.inl ⟨by rfl, fun w hSw => by have f0 := (HQ.out w hSw).2.2; clear hSw; go_simp⟩) hH ?_
          try simp only [Act.put, List.setIfInBounds_toArray, List.set_cons_zero, List.set_cons_succ, List.getElem_toArray, List.getElem_cons_succ, List.getElem_cons_zero]
          refine wpAnyH_take (i := 18) (v := .slice (some ⟨ga, 0, none⟩) N c1) rfl (by kernel_rfl) (by kernel_rfl) (by kernel_rfl) (fun _ _ _ h => h) (Or.inl ⟨by rfl, fun w hSw => by clear hSw; go_simp⟩) hH ?_
          try simp only [Act.put, List.setIfInBounds_toArray, List.set_cons_zero, List.set_cons_succ, List.getElem_toArray, List.getElem_cons_succ, List.getElem_cons_zero]
          refine wpAnyH_take (i := 19) (v := .int .i64 ((i : Int))) rfl (by kernel_rfl) (by kernel_rfl) (by kernel_rfl) (fun _ _ _ h => h) (Or.inl ⟨by rfl, fun w hSw => by clear hSw; go_simp⟩) hH ?_
          try simp only [Act.put, List.setIfInBounds_toArray, List.set_cons_zero, List.set_cons_succ, List.getElem_toArray, List.getElem_cons_succ, List.getElem_cons_zero]
          refine wpAnyH_take (i := 20) (v := .pointer (some ⟨ga, i, none⟩)) rfl (by kernel_rfl) (by kernel_rfl) (by kernel_rfl) (fun _ _ _ h => h) (Or.inl ⟨by rfl, fun w hSw => by clear hSw; go_simp⟩) hH ?_
          try simp only [Act.put, List.setIfInBounds_toArray, List.set_cons_zero, List.set_cons_succ, List.getElem_toArray, List.getElem_cons_succ, List.getElem_cons_zero]
          refine wpAnyH_take (i := 21) (v := .int .i64 ai) rfl (by kernel_rfl) (by kernel_rfl) (by kernel_rfl) (fun _ _ _ h => h) (Or.inl ⟨by rfl, fun w hSw => by have f0 := (HQ.out w hSw).1; clear hSw; go_simp⟩) hH ?_
          try simp only [Act.put, List.setIfInBounds_toArray, List.set_cons_zero, List.set_cons_succ, List.getElem_toArray, List.getElem_cons_succ, List.getElem_cons_zero]
          refine wpAnyH_take (i := 22) (v := .bool false) rfl (by kernel_rfl) (by kernel_rfl) (by kernel_rfl) (fun _ _ _ h => h) (Or.inl ⟨by rfl, fun w hSw => by clear hSw; go_simp⟩) hH ?_
          try simp only [Act.put, List.setIfInBounds_toArray, List.set_cons_zero, List.set_cons_succ, List.getElem_toArray, List.getElem_cons_succ, List.getElem_cons_zero]
          refine wpAnyH_take (i := 23) (v := .bool false) rfl (by kernel_rfl) (by kernel_rfl) (by kernel_rfl) (fun _ _ _ h => h) (Or.inl ⟨by rfl, fun w hSw => by clear hSw; go_simp⟩) hH ?_
          try simp only [Act.put, List.setIfInBounds_toArray, List.set_cons_zero, List.set_cons_succ, List.getElem_toArray, List.getElem_cons_succ, List.getElem_cons_zero]
          refine wpAnyH_take (i := 24) (v := .bool false) rfl (by kernel_rfl) (by kernel_rfl) (by kernel_rfl) (fun _ _ _ h => h) (Or.inl ⟨by rfl, fun w hSw => by clear hSw; go_simp⟩) hH ?_
          try simp only [Act.put, List.setIfInBounds_toArray, List.set_cons_zero, List.set_cons_succ, List.getElem_toArray, List.getElem_cons_succ, List.getElem_cons_zero]
          refine wpAnyH_done (by kernel_rfl) ?_ _
          clear hH
          clear HQ HCw
          obtain ⟨wt, hwt⟩ : ∃ wt, wt = wr.drew := ⟨_, rfl⟩
          have HT1 : Hid (Below wr.heap.size wr wt) := by rw [hwt]; exact below_drew _
          rw [← hwt] at HEnd ⊢
          clear hwt
          have HCi2 : Hid (∀ V, Below wt.heap.size wt V → V.cell? ⟨ga, i, none⟩ = some (.int .i64 ai)) := fun V hV => HCi.out V (chain HT1.out hV)
          have HCh2 : Hid (∀ V k, Below wt.heap.size wt V → k < hl → V.cell? ⟨gh, k, none⟩ = some (.int .i64 (hs.getD k 0))) := fun V k hV hk => HCh.out V k (chain HT1.out hV) hk
          have HEt : Hid (∀ V, Below wt.heap.size wt V → Below w6.heap.size w6 V) := fun V hV => chain HEnd.out hV
          clear HCi HCh HEnd HT1 HB
          go_wp2
          go_loopw [18] (fun kv wr => ∃ k : Nat, k ≤ hl ∧ kv = .int .i64 (k : Int) ∧ Below wt.heap.size wt wr) (fun kv _ => hl - (intOf kv).toNat)
          case atStart => exact ⟨0, Nat.zero_le _, rfl, Below.refl _ _⟩
          case round =>
            obtain ⟨k, hk, rfl, hb⟩ := hrel
            have HB : Hid (Below wt.heap.size wt wr) := hb
            clear hb
            by_cases hkt : k < hl
            · have hkt' : (k : Int) < (hl : Int) := by omega
              obtain ⟨hk9, hhk⟩ : ∃ q, hs.getD k 0 = q := ⟨_, rfl⟩
              have hne := HNe.out k hkt
              have HQ : Hid (∀ V, Below wr.heap.size wr V → V.cell? ⟨ga, i, none⟩ = some (.int .i64 ai) ∧ V.cell? ⟨gh, k, none⟩ = some (.int .i64 hk9)) := fun V hV => ⟨HCi2.out V (chain HB.out hV), by rw [← hhk]; exact HCh2.out V k (chain HB.out hV) hkt⟩
              rw [hhk] at hne
              have l9 : (hk9 == ai) = false := by simp [hne]
              have l10 : ¬ hk9 = ai := hne
              have HE2 : Hid (Below wt.heap.size wt wr.drew) := HB.out.drew
              clear hhk hne
              go_upto_region 21 with fail
              refine wp_region_held_drew (S := fun W' => Below wr.heap.size wr W') (by kernel_rfl) (below_drew _) (fun hH => ?_)
              refine wpAnyH_take (i := 0) (v := .slice (some ⟨gh, 0, none⟩) hl ch) rfl (by kernel_rfl) (by kernel_rfl) (by kernel_rfl) (fun _ _ _ h => h) (Or.inl ⟨by rfl, fun w hSw => by clear hSw; go_simp⟩) hH ?_
              refine wpAnyH_take (i := 1) (v := .int .i64 ((k : Int))) rfl (by kernel_rfl) (by kernel_rfl) (by kernel_rfl) (fun _ _ _ h => h) (Or.inl ⟨by rfl, fun w hSw => by clear hSw; go_simp⟩) hH ?_
              try simp only [Act.put, List.setIfInBounds_toArray, List.set_cons_zero, List.set_cons_succ, List.getElem_toArray, List.getElem_cons_succ, List.getElem_cons_zero]
              refine wpAnyH_take (i := 2) (v := .pointer (some ⟨gh, k, none⟩)) rfl (by kernel_rfl) (by kernel_rfl) (by kernel_rfl) (fun _ _ _ h => h) (Or.inl ⟨by rfl, fun w hSw => by clear hSw; go_simp⟩) hH ?_
              try simp only [Act.put, List.setIfInBounds_toArray, List.set_cons_zero, List.set_cons_succ, List.getElem_toArray, List.getElem_cons_succ, List.getElem_cons_zero]
              refine wpAnyH_take (i := 3) (v := .int .i64 hk9) rfl (by kernel_rfl) (by kernel_rfl) (by kernel_rfl) (fun _ _ _ h => h) (Or.inl ⟨by rfl, fun w hSw => by have f0 := (HQ.out w hSw).2; clear hSw; go_simp⟩) hH ?_
              try simp only [Act.put, List.setIfInBounds_toArray, List.set_cons_zero, List.set_cons_succ, List.getElem_toArray, List.getElem_cons_succ, List.getElem_cons_zero]
              refine wpAnyH_take (i := 4) (v := .slice (some ⟨ga, 0, none⟩) N c1) rfl (by kernel_rfl) (by kernel_rfl) (by kernel_rfl) (fun _ _ _ h => h) (Or.inl ⟨by rfl, fun w hSw => by clear hSw; go_simp⟩) hH ?_
              try simp only [Act.put, List.setIfInBounds_toArray, List.set_cons_zero, List.set_cons_succ, List.getElem_toArray, List.getElem_cons_succ, List.getElem_cons_zero]
              refine wpAnyH_take (i := 5) (v := .int .i64 ((i : Int))) rfl (by kernel_rfl) (by kernel_rfl) (by kernel_rfl) (fun _ _ _ h => h) (Or.inl ⟨by rfl, fun w hSw => by clear hSw; go_simp⟩) hH ?_
              try simp only [Act.put, List.setIfInBounds_toArray, List.set_cons_zero, List.set_cons_succ, List.getElem_toArray, List.getElem_cons_succ, List.getElem_cons_zero]
              refine wpAnyH_take (i := 6) (v := .pointer (some ⟨ga, i, none⟩)) rfl (by kernel_rfl) (by kernel_rfl) (by kernel_rfl) (fun _ _ _ h => h) (Or.inl ⟨by rfl, fun w hSw => by clear hSw; go_simp⟩) hH ?_
              try simp only [Act.put, List.setIfInBounds_toArray, List.set_cons_zero, List.set_cons_succ, List.getElem_toArray, List.getElem_cons_succ, List.getElem_cons_zero]
              refine wpAnyH_take (i := 7) (v := .int .i64 ai) rfl (by kernel_rfl) (by kernel_rfl) (by kernel_rfl) (fun _ _ _ h => h) (Or.inl ⟨by rfl, fun w hSw => by have f0 := (HQ.out w hSw).1; clear hSw; go_simp⟩) hH ?_
              try simp only [Act.put, List.setIfInBounds_toArray, List.set_cons_zero, List.set_cons_succ, List.getElem_toArray, List.getElem_cons_succ, List.getElem_cons_zero]
              refine wpAnyH_take (i := 8) (v := .bool false) rfl (by kernel_rfl) (by kernel_rfl) (by kernel_rfl) (fun _ _ _ h => h) (Or.inl ⟨by rfl, fun w hSw => by clear hSw; go_simp⟩) hH ?_
              try simp only [Act.put, List.setIfInBounds_toArray, List.set_cons_zero, List.set_cons_succ, List.getElem_toArray, List.getElem_cons_succ, List.getElem_cons_zero]
              refine wpAnyH_done (by kernel_rfl) ?_ _
              clear hH
              go_wp2
              exact ⟨⟨k + 1, by omega, by go_num, HE2.out⟩, by simp [intOf]; omega⟩
            · have hke : ¬ (k : Int) < (hl : Int) := by omega
              go_wp2
              exact ⟨⟨i + 1, by omega, by go_num, HEt.out _ HB.out⟩, by simp [intOf]; omega⟩
      · have hle : ¬ (i : Int) < (N : Int) := by omega
        go_wp2
        go_ret
        exact ⟨rfl, chain HB1.out (chain HB6.out HB.out)⟩
  · have hl0 : 0 < All.length := by rw [q1]; simp
    have l1 : ((All.length : Int) == 0) = false := by rw [beq_eq_false_iff_ne]; omega
    have l1' : ¬ (All.length : Int) = 0 := by omega
    have l2 : (0 : Int) < (All.length : Int) := by omega
    obtain ⟨ga0, hga0, _, hgl0, hc0, _⟩ := own2_atD HO3.out hl0
    have hnd : All.getD 0 0 = nd := by rw [q1]; rfl
    rw [hnd] at hc0
    have l3 : (nd != nd) = false := by simp
    have HFa : Hid (∀ i, i < All.length → _) := HFc.out
    have HUp : Hid (∀ i, 0 < i → i < All.length → All.getD (i - 1) 0 < All.getD i 0) := HUp0.out
    subst q3
    clear HEq q1 HFc HUp0 hnd hl0
    rw [hga0] at HO3 ⊢
    obtain ⟨g1', hg1'⟩ : ∃ q : Option Addr, q = some ⟨ga0, 0, none⟩ := ⟨_, rfl⟩
    go_wp2_with fail
    (first | go_at_call 19 | skip)
    refine (HAt.out w3 HB3.out).mono ?_
    rintro e w4 ⟨x, rfl, hx, hb4⟩
    have HB4 : Hid (Below w1.heap.size w1 w4) := chain HB3.out hb4
    have HO4 : Hid (Own2 w1.heap.size w4 (some ⟨ga0, 0, none⟩) All) := HO3.out.below hb4 (Nat.le_refl _)
    obtain ⟨n, hn⟩ : ∃ n : Nat, x = (n : Int) := ⟨x.toNat, by have := hx.1; omega⟩
    have hn4 : n ≤ 400 := by obtain ⟨u1, u2⟩ := hx; omega
    obtain ⟨kk, hkk⟩ : ∃ kk, day + x = kk := ⟨_, rfl⟩
    have wk1 : IntKind.i64.wrap (day + x) = kk := by rw [← hkk]; exact wrap_id _ (by omega) (by omega)
    have HA5 : Hid (∀ W, Below w1.heap.size w1 W → Calls Try.prog 17 #[.slice (some ⟨gw, 0, none⟩) wl cw, .slice (some ⟨gh, 0, none⟩) hl ch, .int .i64 day, .int .i64 kk] W (AnsL W (dl p day n) 0)) := fun W hW => by
      have h9 := HDD.out day kk W hd0 (by omega) (by omega) (by omega) hW
      rw [show (kk - day).toNat = n by omega] at h9
      exact h9
    have HA6 : Hid (∀ W, Below w1.heap.size w1 W → Calls Try.prog 17 #[.slice (some ⟨gw, 0, none⟩) wl cw, .slice (some ⟨gh, 0, none⟩) hl ch, .int .i64 kk, .int .i64 y] W (AnsL W (dl p (day + (n : Int)) (400 - n)) 0)) := fun W hW => by
      have h9 := HDD.out kk y W (by omega) (by have := HY.out; omega) (by have := HY.out; omega) (by have := HY.out; omega) hW
      rw [show (y - kk).toNat = 400 - n by have := HY.out; omega, show kk = day + (n : Int) by omega] at h9
      rw [show kk = day + (n : Int) by omega]
      exact h9
    have HAll : Hid (dl p day n ++ dl p (day + (n : Int)) (400 - n) = All) := by
      have h9 := dl_add p (400 - n) n day
      rw [show n + (400 - n) = 400 by omega] at h9
      show _ = _
      rw [← h9]; exact HAl.out
    have hLa := dl_len p n day
    have hLb := dl_len p (400 - n) (day + (n : Int))
    unfold AnsL at HA5 HA6
    generalize dl p day n = La at *
    generalize dl p (day + (n : Int)) (400 - n) = Lb at *
    clear hx hb4 HO3 HB3 hkk hn HDD HAt
    go_wp2_with fail
    (first | go_at_call 17 | skip)
    refine (HA5.out w4 HB4.out).mono ?_
    rintro e w5 ⟨g2, c2, rfl, o5, hb5⟩
    have HB5 : Hid (Below w1.heap.size w1 w5) := chain HB4.out hb5
    have HO5 : Hid (Own2 w1.heap.size w5 (some ⟨ga0, 0, none⟩) All) := HO4.out.below hb5 (Nat.le_refl _)
    have HP5 : Hid (Own2 w4.heap.size w5 g2 La) := o5
    clear hb5 o5 HB4 HO4 HA5
    go_wp2_with fail
    (first | go_at_call 17 | skip)
    refine (HA6.out w5 HB5.out).mono ?_
    rintro e w6 ⟨g3, c3, rfl, o6, hb6⟩
    have HB6 : Hid (Below w1.heap.size w1 w6) := chain HB5.out hb6
    have HO6 : Hid (Own2 w1.heap.size w6 (some ⟨ga0, 0, none⟩) All) := HO5.out.below hb6 (Nat.le_refl _)
    have HP6 : Hid (Own2 w4.heap.size w6 g2 La) := HP5.out.below hb6 (Nat.le_refl _)
    have HQ6 : Hid (Own2 w5.heap.size w6 g3 Lb) := o6
    clear hb6 o6 HB5 HO5 HP5 HA6
    have HE0 : Hid ((w6.alloc (Obj.cells #[] 3)).ownsRow w6.heap.size 3 1 (.slice (some ⟨w6.heap.size, 0, none⟩) 0 0) 0 []) := (One.start w6 _ rfl).1
    have HEb : Hid (Below w6.heap.size w6 (w6.alloc (Obj.cells #[] 3))) := below_alloc _ _
    have HNa : Hid (∀ W, Below w6.heap.size w6 W → (0 < La.length → ∃ ad, g2 = some ad ∧ ∀ j u, (La.map (Value.int .i64))[j]? = some u → W.cell? (ad.add j) = some u)) := fun W hW h => own2_news (HP6.out.below hW (Nat.le_refl _)) h
    have HNb : Hid (∀ W, Below w6.heap.size w6 W → (0 < Lb.length → ∃ ad, g3 = some ad ∧ ∀ j u, (Lb.map (Value.int .i64))[j]? = some u → W.cell? (ad.add j) = some u)) := fun W hW h => own2_news (HQ6.out.below hW (Nat.le_refl _)) h
    have hlen : La.length + Lb.length = All.length := by rw [← HAll.out, List.length_append]
    have hmap : La.map (Value.int .i64) ++ Lb.map (Value.int .i64) = All.map (Value.int .i64) := by rw [← HAll.out, List.map_append]
    have HLen : Hid (La.length + Lb.length = All.length) := hlen
    have HMap : Hid (La.map (Value.int .i64) ++ Lb.map (Value.int .i64) = All.map (Value.int .i64)) := hmap
    have hl1 : La.length ≤ 400 := by omega
    have hl2 : Lb.length ≤ 400 := by omega
    clear hlen hmap hLa hLb
    generalize hNN : All.length = N at *
    have HN : Hid (All.length = N) := hNN
    clear hNN
    generalize hna : La.length = na at *
    have HLna : Hid (La.length = na) := hna
    clear hna
    generalize hnb : Lb.length = nb at *
    have HLnb : Hid (Lb.length = nb) := hnb
    clear hnb
    have HLa : Hid ((La.map (Value.int .i64)).length = na * 1 ∧ (Lb.map (Value.int .i64)).length = nb * 1) := by rw [List.length_map, List.length_map]; exact ⟨by rw [Nat.mul_one]; exact HLna.out, by rw [Nat.mul_one]; exact HLnb.out⟩
    go_wp2_with (at_builtin; first
      | (refine wpList_append_want (by rfl) _ _ 33 rfl w6.heap.size 3 i0 (.int .i64 0) 1 8 Try.underlying33 hi hi0 hi1 hi2 rfl (by decide) _ 0 [] rfl HE0.out g2 na c2 (La.map (Value.int .i64)) rfl HLa.out.1 (HNa.out _ HEb.out) (one_map _) (by unfold maxLen; omega) (by omega) HEb.out.size na (Nat.zero_add _) (La.map (Value.int .i64)) (List.nil_append _) ?_; intro va1 vc1 w7 hown1 hgrow1; have HR7 : Hid (w7.ownsRow w6.heap.size 3 1 (.slice va1 na vc1) na (La.map (Value.int .i64))) := hown1; have HG7 : Hid (Below w6.heap.size w6 w7) := HEb.out.grown hgrow1 HEb.out.size (fun q hq => (HE0.out.lt q hq).1); clear hown1 hgrow1)
      | (refine wpList_append_want (by rfl) _ _ 33 rfl w6.heap.size 3 i0 (.int .i64 0) 1 8 Try.underlying33 hi hi0 hi1 hi2 rfl (by decide) _ na (La.map (Value.int .i64)) rfl HR7.out g3 nb c3 (Lb.map (Value.int .i64)) rfl HLa.out.2 (HNb.out _ HG7.out) (one_map _) (by unfold maxLen; omega) (by omega) HG7.out.size N HLen.out (All.map (Value.int .i64)) HMap.out ?_; intro va2 vc2 w8 hown2 hgrow2; have HR8 : Hid (w8.ownsRow w6.heap.size 3 1 (.slice va2 N vc2) N (All.map (Value.int .i64))) := hown2; have HG8 : Hid (Below w6.heap.size w6 w8) := HG7.out.grown hgrow2 HG7.out.size (fun q hq => (HR7.out.lt q hq).1); clear hown2 hgrow2))
    have HSm : Hid (Calls Try.prog 20 #[.slice va2 N vc2, .slice (some ⟨ga0, 0, none⟩) N c1] w8 fun e w' => e = .returned (.bool true) ∧ Below w8.heap.size w8 w') := by
      have h1 : One w6 w6.heap.size (.slice va2 N vc2) All w8 := ⟨by rw [HN.out]; exact HR8.out, HG8.out.size, HG8.out⟩
      have h2 := sameInts_any va2 (some ⟨ga0, 0, none⟩) vc2 c1 All (by rw [HN.out]; omega) w8 ((h1.own2 HN.out.symm).reads) ((HO6.out.below HG8.out (Nat.le_refl _)).reads)
      rw [HN.out] at h2
      exact h2
    (first | go_at_call 20 | skip)
    refine HSm.out.mono ?_
    rintro e w9 ⟨rfl, hb9⟩
    have HB9 : Hid (Below w6.heap.size w6 w9) := chain HG8.out hb9
    clear hb9 HSm HR8 HG8 HR7 HG7 HE0 HEb HNa HNb HLa HLen HMap HP6 HQ6 HAll
    go_wp2_with fail
    go_loopw [17, 18] (fun iv _ wr => ∃ i : Nat, i ≤ N ∧ iv = .int .i64 (i : Int) ∧ Below w6.heap.size w6 wr) (fun iv _ _ => N - (intOf iv).toNat)
    case atStart => exact ⟨0, Nat.zero_le _, rfl, HB9.out⟩
    case round =>
      clear HB9
      obtain ⟨i, hi9, rfl, hb⟩ := hrel
      have HB : Hid (Below w6.heap.size w6 wr) := hb
      clear hb
      by_cases hlt : i < N
      · have hlt' : (i : Int) < (N : Int) := by omega
        have hiA : i < All.length := by rw [HN.out]; exact hlt
        obtain ⟨ga, hga, _, hgl, _, _⟩ := own2_atD HO6.out hiA
        have HCe : Hid (∀ V k, Below wr.heap.size wr V → k < N → V.cell? ⟨ga, k, none⟩ = some (.int .i64 (All.getD k 0))) := fun V k hV hk => by
          obtain ⟨gb, hgb, _, hl9, hc9, _⟩ := own2_atD HO6.out (show k < All.length by rw [HN.out]; exact hk)
          rw [hga] at hgb
          cases hgb
          exact ((chain HB.out hV).cell (p := ⟨ga, k, none⟩) hl9).trans hc9
        have hfa := HFa.out i hlt
        obtain ⟨hf1, hf2, hf3, hf4⟩ := hfa
        have hup := fun h => HUp.out i h hlt
        obtain ⟨m, hm⟩ : ∃ m : Nat, All.getD i 0 % 7 = (m : Int) := ⟨(All.getD i 0 % 7).toNat, by omega⟩
        have hm7 : m < 7 := by omega
        rw [hm, Int.toNat_natCast] at hf3
        have hmw : (m : Int) < (wl : Int) := by have := HWl.out; omega
        have HCw : Hid (∀ V, Below wr.heap.size wr V → V.cell? ⟨gw, m, none⟩ = some (.bool true)) := fun V hV => by
          have h9 := HCwk.out V m (chain (chain HB6.out HB.out) hV) hm7
          rw [hf3] at h9
          exact h9
        have HCh : Hid (∀ V k, Below wr.heap.size wr V → k < hl → V.cell? ⟨gh, k, none⟩ = some (.int .i64 (hs.getD k 0))) := fun V k hV hk => HChs.out V k (chain (chain HB6.out HB.out) hV) hk
        have HNe : Hid (∀ k, k < hl → hs.getD k 0 ≠ All.getD i 0) := fun k hk => hf4 k hk
        obtain ⟨aj, haj⟩ : ∃ aj, All.getD (i - 1) 0 = aj := ⟨_, rfl⟩
        have hc1 := fun V hV (h : 0 < i) => HCe.out V (i - 1) hV (by omega)
        rw [haj] at hc1
        rw [haj] at hup
        have hc0 := fun V hV => HCe.out V i hV hlt
        have tm : Int.tmod (All.getD i 0) 7 = (m : Int) := by rw [Int.tmod_eq_emod_of_nonneg (by omega)]; exact hm
        generalize All.getD i 0 = ai at *
        have wm : IntKind.i64.wrap (m : Int) = (m : Int) := wrap_id _ (by omega) (by omega)
        rw [hga]
        have HEnd : Hid (Below w6.heap.size w6 wr.drew) := HB.out.drew
        have HCi : Hid (∀ V, Below wr.heap.size wr V → V.cell? ⟨ga, i, none⟩ = some (.int .i64 ai)) := hc0
        clear hm hf3 hf4 haj hc0 HCe
        obtain ⟨j, hj⟩ : ∃ j, i - 1 = j := ⟨_, rfl⟩
        by_cases h0 : i = 0
        · have HK0 : Hid (i = 0) := h0
          have HQ : Hid (∀ V, Below wr.heap.size wr V → V.cell? ⟨ga, i, none⟩ = some (.int .i64 ai) ∧ V.cell? ⟨gw, m, none⟩ = some (.bool true) ∧ True) := fun V hV => ⟨HCi.out V hV, HCw.out V hV, trivial⟩
          have l3 : decide ((0 : Int) < (i : Int)) = false := decide_eq_false (by omega)
          clear h0 hup hc1 hj
          go_upto_region 16 with fail
          refine wp_region_held_drew (S := fun W' => Below wr.heap.size wr W') (by kernel_rfl) (below_drew _) (fun hH => ?_)
          refine wpAnyH_take (i := 0) (v := .slice (some ⟨gw, 0, none⟩) wl cw) rfl (by kernel_rfl) (by kernel_rfl) (by kernel_rfl) (fun _ _ _ h => h) (Or.inl ⟨by rfl, fun w hSw => by clear hSw; go_simp⟩) hH ?_
          refine wpAnyH_take (i := 1) (v := .slice (some ⟨ga, 0, none⟩) N c1) rfl (by kernel_rfl) (by kernel_rfl) (by kernel_rfl) (fun _ _ _ h => h) (Or.inl ⟨by rfl, fun w hSw => by clear hSw; go_simp⟩) hH ?_
          try simp only [Act.put, List.setIfInBounds_toArray, List.set_cons_zero, List.set_cons_succ, List.getElem_toArray, List.getElem_cons_succ, List.getElem_cons_zero]
          refine wpAnyH_take (i := 2) (v := .int .i64 ((i : Int))) rfl (by kernel_rfl) (by kernel_rfl) (by kernel_rfl) (fun _ _ _ h => h) (Or.inl ⟨by rfl, fun w hSw => by clear hSw; go_simp⟩) hH ?_
          try simp only [Act.put, List.setIfInBounds_toArray, List.set_cons_zero, List.set_cons_succ, List.getElem_toArray, List.getElem_cons_succ, List.getElem_cons_zero]
          refine wpAnyH_take (i := 3) (v := .pointer (some ⟨ga, i, none⟩)) rfl (by kernel_rfl) (by kernel_rfl) (by kernel_rfl) (fun _ _ _ h => h) (Or.inl ⟨by rfl, fun w hSw => by clear hSw; go_simp⟩) hH ?_
          try simp only [Act.put, List.setIfInBounds_toArray, List.set_cons_zero, List.set_cons_succ, List.getElem_toArray, List.getElem_cons_succ, List.getElem_cons_zero]
          refine wpAnyH_take (i := 4) (v := .int .i64 ai) rfl (by kernel_rfl) (by kernel_rfl) (by kernel_rfl) (fun _ _ _ h => h) (Or.inl ⟨by rfl, fun w hSw => by have f0 := (HQ.out w hSw).1; clear hSw; go_simp⟩) hH ?_
          try simp only [Act.put, List.setIfInBounds_toArray, List.set_cons_zero, List.set_cons_succ, List.getElem_toArray, List.getElem_cons_succ, List.getElem_cons_zero]
          refine wpAnyH_take (i := 5) (v := .int .i64 ((m : Int))) rfl (by kernel_rfl) (by kernel_rfl) (by kernel_rfl) (fun _ _ _ h => h) (Or.inl ⟨by rfl, fun w hSw => by clear hSw; go_simp⟩) hH ?_
          try simp only [Act.put, List.setIfInBounds_toArray, List.set_cons_zero, List.set_cons_succ, List.getElem_toArray, List.getElem_cons_succ, List.getElem_cons_zero]
          refine wpAnyH_take (i := 6) (v := .pointer (some ⟨gw, m, none⟩)) rfl (by kernel_rfl) (by kernel_rfl) (by kernel_rfl) (fun _ _ _ h => h) (Or.inl ⟨by rfl, fun w hSw => by clear hSw; go_simp⟩) hH ?_
          try simp only [Act.put, List.setIfInBounds_toArray, List.set_cons_zero, List.set_cons_succ, List.getElem_toArray, List.getElem_cons_succ, List.getElem_cons_zero]
          refine wpAnyH_take (i := 7) (v := .bool true) rfl (by kernel_rfl) (by kernel_rfl) (by kernel_rfl) (fun _ _ _ h => h) (Or.inl ⟨by rfl, fun w hSw => by have f0 := (HQ.out w hSw).2.1; clear hSw; go_simp⟩) hH ?_
          try simp only [Act.put, List.setIfInBounds_toArray, List.set_cons_zero, List.set_cons_succ, List.getElem_toArray, List.getElem_cons_succ, List.getElem_cons_zero]
          refine wpAnyH_take (i := 8) (v := .bool false) rfl (by kernel_rfl) (by kernel_rfl) (by kernel_rfl) (fun _ _ _ h => h) (Or.inl ⟨by rfl, fun w hSw => by clear hSw; go_simp⟩) hH ?_
          try simp only [Act.put, List.setIfInBounds_toArray, List.set_cons_zero, List.set_cons_succ, List.getElem_toArray, List.getElem_cons_succ, List.getElem_cons_zero]
          refine wpAnyH_take (i := 9) (v := .bool false) rfl (by kernel_rfl) (by kernel_rfl) (by kernel_rfl) (fun _ _ _ h => h) (Or.inl ⟨by rfl, fun w hSw => by clear hSw; go_simp⟩) hH ?_
          try simp only [Act.put, List.setIfInBounds_toArray, List.set_cons_zero, List.set_cons_succ, List.getElem_toArray, List.getElem_cons_succ, List.getElem_cons_zero]
          refine wpAnyH_take (i := 10) (v := .int .i64 ((i : Int))) rfl (by kernel_rfl) (by kernel_rfl) (by kernel_rfl) (fun _ _ _ h => h) (Or.inl ⟨by rfl, fun w hSw => by clear hSw; go_simp⟩) hH ?_
          try simp only [Act.put, List.setIfInBounds_toArray, List.set_cons_zero, List.set_cons_succ, List.getElem_toArray, List.getElem_cons_succ, List.getElem_cons_zero]
          refine wpAnyH_take (i := 11) (v := .bool false) rfl (by kernel_rfl) (by kernel_rfl) (by kernel_rfl) (fun _ _ _ h => h) (Or.inl ⟨by rfl, fun w hSw => by have hk0 := HK0.out; clear hSw; go_simp⟩) hH ?_
          try simp only [Act.put, List.setIfInBounds_toArray, List.set_cons_zero, List.set_cons_succ, List.getElem_toArray, List.getElem_cons_succ, List.getElem_cons_zero]
          refine wpAnyH_take (i := 12) (v := .bool false) rfl (by kernel_rfl) (by kernel_rfl) (by kernel_rfl) (fun _ _ _ h => h) (Or.inl ⟨by rfl, fun w hSw => by clear hSw; go_simp⟩) hH ?_
          try simp only [Act.put, List.setIfInBounds_toArray, List.set_cons_zero, List.set_cons_succ, List.getElem_toArray, List.getElem_cons_succ, List.getElem_cons_zero]
          refine wpAnyH_take (i := 13) (v := undef) rfl (by kernel_rfl) (by kernel_rfl) (by kernel_rfl) (fun _ _ _ h => h) (Or.inr ⟨by rfl, rfl⟩) hH ?_
          try simp only [Act.put, List.setIfInBounds_toArray, List.set_cons_zero, List.set_cons_succ, List.getElem_toArray, List.getElem_cons_succ, List.getElem_cons_zero]
          refine wpAnyH_take (i := 14) (v := undef) rfl (by kernel_rfl) (by kernel_rfl) (by kernel_rfl) (fun _ _ _ h => h) (Or.inr ⟨by rfl, rfl⟩) hH ?_
          try simp only [Act.put, List.setIfInBounds_toArray, List.set_cons_zero, List.set_cons_succ, List.getElem_toArray, List.getElem_cons_succ, List.getElem_cons_zero]
          refine wpAnyH_take (i := 15) (v := undef) rfl (by kernel_rfl) (by kernel_rfl) (by kernel_rfl) (fun _ _ _ h => h) (Or.inr ⟨by rfl, rfl⟩) hH ?_
          try simp only [Act.put, List.setIfInBounds_toArray, List.set_cons_zero, List.set_cons_succ, List.getElem_toArray, List.getElem_cons_succ, List.getElem_cons_zero]
          refine wpAnyH_take (i := 16) (v := undef) rfl (by kernel_rfl) (by kernel_rfl) (by kernel_rfl) (fun _ _ _ h => h) (Or.inr ⟨by rfl, rfl⟩) hH ?_
          try simp only [Act.put, List.setIfInBounds_toArray, List.set_cons_zero, List.set_cons_succ, List.getElem_toArray, List.getElem_cons_succ, List.getElem_cons_zero]
          refine wpAnyH_take (i := 17) (v := undef) rfl (by kernel_rfl) (by kernel_rfl) (by kernel_rfl) (fun _ _ _ h => h) (Or.inr ⟨by rfl, rfl⟩) hH ?_
          try simp only [Act.put, List.setIfInBounds_toArray, List.set_cons_zero, List.set_cons_succ, List.getElem_toArray, List.getElem_cons_succ, List.getElem_cons_zero]
          refine wpAnyH_take (i := 18) (v := undef) rfl (by kernel_rfl) (by kernel_rfl) (by kernel_rfl) (fun _ _ _ h => h) (Or.inr ⟨by rfl, rfl⟩) hH ?_
          try simp only [Act.put, List.setIfInBounds_toArray, List.set_cons_zero, List.set_cons_succ, List.getElem_toArray, List.getElem_cons_succ, List.getElem_cons_zero]
          refine wpAnyH_take (i := 19) (v := undef) rfl (by kernel_rfl) (by kernel_rfl) (by kernel_rfl) (fun _ _ _ h => h) (Or.inr ⟨by rfl, rfl⟩) hH ?_
          try simp only [Act.put, List.setIfInBounds_toArray, List.set_cons_zero, List.set_cons_succ, List.getElem_toArray, List.getElem_cons_succ, List.getElem_cons_zero]
          refine wpAnyH_take (i := 20) (v := undef) rfl (by kernel_rfl) (by kernel_rfl) (by kernel_rfl) (fun _ _ _ h => h) (Or.inr ⟨by rfl, rfl⟩) hH ?_
          try simp only [Act.put, List.setIfInBounds_toArray, List.set_cons_zero, List.set_cons_succ, List.getElem_toArray, List.getElem_cons_succ, List.getElem_cons_zero]
          refine wpAnyH_take (i := 21) (v := undef) rfl (by kernel_rfl) (by kernel_rfl) (by kernel_rfl) (fun _ _ _ h => h) (Or.inr ⟨by rfl, rfl⟩) hH ?_
          try simp only [Act.put, List.setIfInBounds_toArray, List.set_cons_zero, List.set_cons_succ, List.getElem_toArray, List.getElem_cons_succ, List.getElem_cons_zero]
          refine wpAnyH_take (i := 22) (v := undef) rfl (by kernel_rfl) (by kernel_rfl) (by kernel_rfl) (fun _ _ _ h => h) (Or.inr ⟨by rfl, rfl⟩) hH ?_
          try simp only [Act.put, List.setIfInBounds_toArray, List.set_cons_zero, List.set_cons_succ, List.getElem_toArray, List.getElem_cons_succ, List.getElem_cons_zero]
          refine wpAnyH_take (i := 23) (v := .bool false) rfl (by kernel_rfl) (by kernel_rfl) (by kernel_rfl) (fun _ _ _ h => h) (Or.inl ⟨by rfl, fun w hSw => by clear hSw; go_simp⟩) hH ?_
          try simp only [Act.put, List.setIfInBounds_toArray, List.set_cons_zero, List.set_cons_succ, List.getElem_toArray, List.getElem_cons_succ, List.getElem_cons_zero]
          refine wpAnyH_take (i := 24) (v := .bool false) rfl (by kernel_rfl) (by kernel_rfl) (by kernel_rfl) (fun _ _ _ h => h) (Or.inl ⟨by rfl, fun w hSw => by clear hSw; go_simp⟩) hH ?_
          try simp only [Act.put, List.setIfInBounds_toArray, List.set_cons_zero, List.set_cons_succ, List.getElem_toArray, List.getElem_cons_succ, List.getElem_cons_zero]
          refine wpAnyH_done (by kernel_rfl) ?_ _
          clear hH
          clear HQ HCw
          obtain ⟨wt, hwt⟩ : ∃ wt, wt = wr.drew := ⟨_, rfl⟩
          have HT1 : Hid (Below wr.heap.size wr wt) := by rw [hwt]; exact below_drew _
          rw [← hwt] at HEnd ⊢
          clear hwt
          have HCi2 : Hid (∀ V, Below wt.heap.size wt V → V.cell? ⟨ga, i, none⟩ = some (.int .i64 ai)) := fun V hV => HCi.out V (chain HT1.out hV)
          have HCh2 : Hid (∀ V k, Below wt.heap.size wt V → k < hl → V.cell? ⟨gh, k, none⟩ = some (.int .i64 (hs.getD k 0))) := fun V k hV hk => HCh.out V k (chain HT1.out hV) hk
          have HEt : Hid (∀ V, Below wt.heap.size wt V → Below w6.heap.size w6 V) := fun V hV => chain HEnd.out hV
          clear HCi HCh HEnd HT1 HB
          go_wp2
          go_loopw [18] (fun kv wr => ∃ k : Nat, k ≤ hl ∧ kv = .int .i64 (k : Int) ∧ Below wt.heap.size wt wr) (fun kv _ => hl - (intOf kv).toNat)
          case atStart => exact ⟨0, Nat.zero_le _, rfl, Below.refl _ _⟩
          case round =>
            obtain ⟨k, hk, rfl, hb⟩ := hrel
            have HB : Hid (Below wt.heap.size wt wr) := hb
            clear hb
            by_cases hkt : k < hl
            · have hkt' : (k : Int) < (hl : Int) := by omega
              obtain ⟨hk9, hhk⟩ : ∃ q, hs.getD k 0 = q := ⟨_, rfl⟩
              have hne := HNe.out k hkt
              have HQ : Hid (∀ V, Below wr.heap.size wr V → V.cell? ⟨ga, i, none⟩ = some (.int .i64 ai) ∧ V.cell? ⟨gh, k, none⟩ = some (.int .i64 hk9)) := fun V hV => ⟨HCi2.out V (chain HB.out hV), by rw [← hhk]; exact HCh2.out V k (chain HB.out hV) hkt⟩
              rw [hhk] at hne
              have l9 : (hk9 == ai) = false := by simp [hne]
              have l10 : ¬ hk9 = ai := hne
              have HE2 : Hid (Below wt.heap.size wt wr.drew) := HB.out.drew
              clear hhk hne
              go_upto_region 21 with fail
              refine wp_region_held_drew (S := fun W' => Below wr.heap.size wr W') (by kernel_rfl) (below_drew _) (fun hH => ?_)
              refine wpAnyH_take (i := 0) (v := .slice (some ⟨gh, 0, none⟩) hl ch) rfl (by kernel_rfl) (by kernel_rfl) (by kernel_rfl) (fun _ _ _ h => h) (Or.inl ⟨by rfl, fun w hSw => by clear hSw; go_simp⟩) hH ?_
              refine wpAnyH_take (i := 1) (v := .int .i64 ((k : Int))) rfl (by kernel_rfl) (by kernel_rfl) (by kernel_rfl) (fun _ _ _ h => h) (Or.inl ⟨by rfl, fun w hSw => by clear hSw; go_simp⟩) hH ?_
              try simp only [Act.put, List.setIfInBounds_toArray, List.set_cons_zero, List.set_cons_succ, List.getElem_toArray, List.getElem_cons_succ, List.getElem_cons_zero]
              refine wpAnyH_take (i := 2) (v := .pointer (some ⟨gh, k, none⟩)) rfl (by kernel_rfl) (by kernel_rfl) (by kernel_rfl) (fun _ _ _ h => h) (Or.inl ⟨by rfl, fun w hSw => by clear hSw; go_simp⟩) hH ?_
              try simp only [Act.put, List.setIfInBounds_toArray, List.set_cons_zero, List.set_cons_succ, List.getElem_toArray, List.getElem_cons_succ, List.getElem_cons_zero]
              refine wpAnyH_take (i := 3) (v := .int .i64 hk9) rfl (by kernel_rfl) (by kernel_rfl) (by kernel_rfl) (fun _ _ _ h => h) (Or.inl ⟨by rfl, fun w hSw => by have f0 := (HQ.out w hSw).2; clear hSw; go_simp⟩) hH ?_
              try simp only [Act.put, List.setIfInBounds_toArray, List.set_cons_zero, List.set_cons_succ, List.getElem_toArray, List.getElem_cons_succ, List.getElem_cons_zero]
              refine wpAnyH_take (i := 4) (v := .slice (some ⟨ga, 0, none⟩) N c1) rfl (by kernel_rfl) (by kernel_rfl) (by kernel_rfl) (fun _ _ _ h => h) (Or.inl ⟨by rfl, fun w hSw => by clear hSw; go_simp⟩) hH ?_
              try simp only [Act.put, List.setIfInBounds_toArray, List.set_cons_zero, List.set_cons_succ, List.getElem_toArray, List.getElem_cons_succ, List.getElem_cons_zero]
              refine wpAnyH_take (i := 5) (v := .int .i64 ((i : Int))) rfl (by kernel_rfl) (by kernel_rfl) (by kernel_rfl) (fun _ _ _ h => h) (Or.inl ⟨by rfl, fun w hSw => by clear hSw; go_simp⟩) hH ?_
              try simp only [Act.put, List.setIfInBounds_toArray, List.set_cons_zero, List.set_cons_succ, List.getElem_toArray, List.getElem_cons_succ, List.getElem_cons_zero]
              refine wpAnyH_take (i := 6) (v := .pointer (some ⟨ga, i, none⟩)) rfl (by kernel_rfl) (by kernel_rfl) (by kernel_rfl) (fun _ _ _ h => h) (Or.inl ⟨by rfl, fun w hSw => by clear hSw; go_simp⟩) hH ?_
              try simp only [Act.put, List.setIfInBounds_toArray, List.set_cons_zero, List.set_cons_succ, List.getElem_toArray, List.getElem_cons_succ, List.getElem_cons_zero]
              refine wpAnyH_take (i := 7) (v := .int .i64 ai) rfl (by kernel_rfl) (by kernel_rfl) (by kernel_rfl) (fun _ _ _ h => h) (Or.inl ⟨by rfl, fun w hSw => by have f0 := (HQ.out w hSw).1; clear hSw; go_simp⟩) hH ?_
              try simp only [Act.put, List.setIfInBounds_toArray, List.set_cons_zero, List.set_cons_succ, List.getElem_toArray, List.getElem_cons_succ, List.getElem_cons_zero]
              refine wpAnyH_take (i := 8) (v := .bool false) rfl (by kernel_rfl) (by kernel_rfl) (by kernel_rfl) (fun _ _ _ h => h) (Or.inl ⟨by rfl, fun w hSw => by clear hSw; go_simp⟩) hH ?_
              try simp only [Act.put, List.setIfInBounds_toArray, List.set_cons_zero, List.set_cons_succ, List.getElem_toArray, List.getElem_cons_succ, List.getElem_cons_zero]
              refine wpAnyH_done (by kernel_rfl) ?_ _
              clear hH
              go_wp2
              exact ⟨⟨k + 1, by omega, by go_num, HE2.out⟩, by simp [intOf]; omega⟩
            · have hke : ¬ (k : Int) < (hl : Int) := by omega
              go_wp2
              exact ⟨⟨i + 1, by omega, by go_num, HEt.out _ HB.out⟩, by simp [intOf]; omega⟩
        · have HK0 : Hid (0 < i) := by show 0 < i; omega
          have hup2 := hup HK0.out
          have wj : IntKind.i64.wrap ((i : Int) - 1) = (j : Int) := by rw [show (i : Int) - 1 = (j : Int) by omega]; exact wrap_id _ (by omega) (by omega)
          have hjn : (j : Int) < (N : Int) := by omega
          have HQ : Hid (∀ V, Below wr.heap.size wr V → V.cell? ⟨ga, i, none⟩ = some (.int .i64 ai) ∧ V.cell? ⟨gw, m, none⟩ = some (.bool true) ∧ V.cell? ⟨ga, j, none⟩ = some (.int .i64 aj)) := fun V hV => ⟨HCi.out V hV, HCw.out V hV, by rw [← hj]; exact hc1 V hV HK0.out⟩
          have l3 : decide ((0 : Int) < (i : Int)) = true := decide_eq_true (by omega)
          have l4 : decide (ai ≤ aj) = false := decide_eq_false (by omega)
          have l5 : ¬ ai ≤ aj := by omega
          clear h0 hup hc1 hj hup2
          go_upto_region 16 with fail
          refine wp_region_held_drew (S := fun W' => Below wr.heap.size wr W') (by kernel_rfl) (below_drew _) (fun hH => ?_)
          refine wpAnyH_take (i := 0) (v := .slice (some ⟨gw, 0, none⟩) wl cw) rfl (by kernel_rfl) (by kernel_rfl) (by kernel_rfl) (fun _ _ _ h => h) (Or.inl ⟨by rfl, fun w hSw => by clear hSw; go_simp⟩) hH ?_
          refine wpAnyH_take (i := 1) (v := .slice (some ⟨ga, 0, none⟩) N c1) rfl (by kernel_rfl) (by kernel_rfl) (by kernel_rfl) (fun _ _ _ h => h) (Or.inl ⟨by rfl, fun w hSw => by clear hSw; go_simp⟩) hH ?_
          try simp only [Act.put, List.setIfInBounds_toArray, List.set_cons_zero, List.set_cons_succ, List.getElem_toArray, List.getElem_cons_succ, List.getElem_cons_zero]
          refine wpAnyH_take (i := 2) (v := .int .i64 ((i : Int))) rfl (by kernel_rfl) (by kernel_rfl) (by kernel_rfl) (fun _ _ _ h => h) (Or.inl ⟨by rfl, fun w hSw => by clear hSw; go_simp⟩) hH ?_
          try simp only [Act.put, List.setIfInBounds_toArray, List.set_cons_zero, List.set_cons_succ, List.getElem_toArray, List.getElem_cons_succ, List.getElem_cons_zero]
          refine wpAnyH_take (i := 3) (v := .pointer (some ⟨ga, i, none⟩)) rfl (by kernel_rfl) (by kernel_rfl) (by kernel_rfl) (fun _ _ _ h => h) (Or.inl ⟨by rfl, fun w hSw => by clear hSw; go_simp⟩) hH ?_
          try simp only [Act.put, List.setIfInBounds_toArray, List.set_cons_zero, List.set_cons_succ, List.getElem_toArray, List.getElem_cons_succ, List.getElem_cons_zero]
          refine wpAnyH_take (i := 4) (v := .int .i64 ai) rfl (by kernel_rfl) (by kernel_rfl) (by kernel_rfl) (fun _ _ _ h => h) (Or.inl ⟨by rfl, fun w hSw => by have f0 := (HQ.out w hSw).1; clear hSw; go_simp⟩) hH ?_
          try simp only [Act.put, List.setIfInBounds_toArray, List.set_cons_zero, List.set_cons_succ, List.getElem_toArray, List.getElem_cons_succ, List.getElem_cons_zero]
          refine wpAnyH_take (i := 5) (v := .int .i64 ((m : Int))) rfl (by kernel_rfl) (by kernel_rfl) (by kernel_rfl) (fun _ _ _ h => h) (Or.inl ⟨by rfl, fun w hSw => by clear hSw; go_simp⟩) hH ?_
          try simp only [Act.put, List.setIfInBounds_toArray, List.set_cons_zero, List.set_cons_succ, List.getElem_toArray, List.getElem_cons_succ, List.getElem_cons_zero]
          refine wpAnyH_take (i := 6) (v := .pointer (some ⟨gw, m, none⟩)) rfl (by kernel_rfl) (by kernel_rfl) (by kernel_rfl) (fun _ _ _ h => h) (Or.inl ⟨by rfl, fun w hSw => by clear hSw; go_simp⟩) hH ?_
          try simp only [Act.put, List.setIfInBounds_toArray, List.set_cons_zero, List.set_cons_succ, List.getElem_toArray, List.getElem_cons_succ, List.getElem_cons_zero]
          refine wpAnyH_take (i := 7) (v := .bool true) rfl (by kernel_rfl) (by kernel_rfl) (by kernel_rfl) (fun _ _ _ h => h) (Or.inl ⟨by rfl, fun w hSw => by have f0 := (HQ.out w hSw).2.1; clear hSw; go_simp⟩) hH ?_
          try simp only [Act.put, List.setIfInBounds_toArray, List.set_cons_zero, List.set_cons_succ, List.getElem_toArray, List.getElem_cons_succ, List.getElem_cons_zero]
          refine wpAnyH_take (i := 8) (v := .bool false) rfl (by kernel_rfl) (by kernel_rfl) (by kernel_rfl) (fun _ _ _ h => h) (Or.inl ⟨by rfl, fun w hSw => by clear hSw; go_simp⟩) hH ?_
          try simp only [Act.put, List.setIfInBounds_toArray, List.set_cons_zero, List.set_cons_succ, List.getElem_toArray, List.getElem_cons_succ, List.getElem_cons_zero]
          refine wpAnyH_take (i := 9) (v := .bool false) rfl (by kernel_rfl) (by kernel_rfl) (by kernel_rfl) (fun _ _ _ h => h) (Or.inl ⟨by rfl, fun w hSw => by clear hSw; go_simp⟩) hH ?_
          try simp only [Act.put, List.setIfInBounds_toArray, List.set_cons_zero, List.set_cons_succ, List.getElem_toArray, List.getElem_cons_succ, List.getElem_cons_zero]
          refine wpAnyH_take (i := 10) (v := .int .i64 ((i : Int))) rfl (by kernel_rfl) (by kernel_rfl) (by kernel_rfl) (fun _ _ _ h => h) (Or.inl ⟨by rfl, fun w hSw => by clear hSw; go_simp⟩) hH ?_
          try simp only [Act.put, List.setIfInBounds_toArray, List.set_cons_zero, List.set_cons_succ, List.getElem_toArray, List.getElem_cons_succ, List.getElem_cons_zero]
          refine wpAnyH_take (i := 11) (v := .bool true) rfl (by kernel_rfl) (by kernel_rfl) (by kernel_rfl) (fun _ _ _ h => h) (Or.inl ⟨by rfl, fun w hSw => by have hk0 := HK0.out; clear hSw; go_simp⟩) hH ?_
          try simp only [Act.put, List.setIfInBounds_toArray, List.set_cons_zero, List.set_cons_succ, List.getElem_toArray, List.getElem_cons_succ, List.getElem_cons_zero]
          refine wpAnyH_take (i := 12) (v := .bool true) rfl (by kernel_rfl) (by kernel_rfl) (by kernel_rfl) (fun _ _ _ h => h) (Or.inl ⟨by rfl, fun w hSw => by clear hSw; go_simp⟩) hH ?_
          try simp only [Act.put, List.setIfInBounds_toArray, List.set_cons_zero, List.set_cons_succ, List.getElem_toArray, List.getElem_cons_succ, List.getElem_cons_zero]
          refine wpAnyH_take (i := 13) (v := .slice (some ⟨ga, 0, none⟩) N c1) rfl (by kernel_rfl) (by kernel_rfl) (by kernel_rfl) (fun _ _ _ h => h) (Or.inl ⟨by rfl, fun w hSw => by clear hSw; go_simp⟩) hH ?_
          try simp only [Act.put, List.setIfInBounds_toArray, List.set_cons_zero, List.set_cons_succ, List.getElem_toArray, List.getElem_cons_succ, List.getElem_cons_zero]
          refine wpAnyH_take (i := 14) (v := .int .i64 ((i : Int))) rfl (by kernel_rfl) (by kernel_rfl) (by kernel_rfl) (fun _ _ _ h => h) (Or.inl ⟨by rfl, fun w hSw => by clear hSw; go_simp⟩) hH ?_
          try simp only [Act.put, List.setIfInBounds_toArray, List.set_cons_zero, List.set_cons_succ, List.getElem_toArray, List.getElem_cons_succ, List.getElem_cons_zero]
          refine wpAnyH_take (i := 15) (v := .int .i64 ((j : Int))) rfl (by kernel_rfl) (by kernel_rfl) (by kernel_rfl) (fun _ _ _ h => h) (Or.inl ⟨by rfl, fun w hSw => by clear hSw; go_simp⟩) hH ?_
          try simp only [Act.put, List.setIfInBounds_toArray, List.set_cons_zero, List.set_cons_succ, List.getElem_toArray, List.getElem_cons_succ, List.getElem_cons_zero]
          refine wpAnyH_take (i := 16) (v := .pointer (some ⟨ga, j, none⟩)) rfl (by kernel_rfl) (by kernel_rfl) (by kernel_rfl) (fun _ _ _ h => h) (Or.inl ⟨by rfl, fun w hSw => by clear hSw; go_simp⟩) hH ?_
          try simp only [Act.put, List.setIfInBounds_toArray, List.set_cons_zero, List.set_cons_succ, List.getElem_toArray, List.getElem_cons_succ, List.getElem_cons_zero]
          refine wpAnyH_take (i := 17) (v := .int .i64 aj) rfl (by kernel_rfl) (by kernel_rfl) (by kernel_rfl) (fun _ _ _ h => h) (Or.inl ⟨by rfl, fun w hSw => by have f0 := (HQ.out w hSw).2.2; clear hSw; go_simp⟩) hH ?_
          try simp only [Act.put, List.setIfInBounds_toArray, List.set_cons_zero, List.set_cons_succ, List.getElem_toArray, List.getElem_cons_succ, List.getElem_cons_zero]
          refine wpAnyH_take (i := 18) (v := .slice (some ⟨ga, 0, none⟩) N c1) rfl (by kernel_rfl) (by kernel_rfl) (by kernel_rfl) (fun _ _ _ h => h) (Or.inl ⟨by rfl, fun w hSw => by clear hSw; go_simp⟩) hH ?_
          try simp only [Act.put, List.setIfInBounds_toArray, List.set_cons_zero, List.set_cons_succ, List.getElem_toArray, List.getElem_cons_succ, List.getElem_cons_zero]
          refine wpAnyH_take (i := 19) (v := .int .i64 ((i : Int))) rfl (by kernel_rfl) (by kernel_rfl) (by kernel_rfl) (fun _ _ _ h => h) (Or.inl ⟨by rfl, fun w hSw => by clear hSw; go_simp⟩) hH ?_
          try simp only [Act.put, List.setIfInBounds_toArray, List.set_cons_zero, List.set_cons_succ, List.getElem_toArray, List.getElem_cons_succ, List.getElem_cons_zero]
          refine wpAnyH_take (i := 20) (v := .pointer (some ⟨ga, i, none⟩)) rfl (by kernel_rfl) (by kernel_rfl) (by kernel_rfl) (fun _ _ _ h => h) (Or.inl ⟨by rfl, fun w hSw => by clear hSw; go_simp⟩) hH ?_
          try simp only [Act.put, List.setIfInBounds_toArray, List.set_cons_zero, List.set_cons_succ, List.getElem_toArray, List.getElem_cons_succ, List.getElem_cons_zero]
          refine wpAnyH_take (i := 21) (v := .int .i64 ai) rfl (by kernel_rfl) (by kernel_rfl) (by kernel_rfl) (fun _ _ _ h => h) (Or.inl ⟨by rfl, fun w hSw => by have f0 := (HQ.out w hSw).1; clear hSw; go_simp⟩) hH ?_
          try simp only [Act.put, List.setIfInBounds_toArray, List.set_cons_zero, List.set_cons_succ, List.getElem_toArray, List.getElem_cons_succ, List.getElem_cons_zero]
          refine wpAnyH_take (i := 22) (v := .bool false) rfl (by kernel_rfl) (by kernel_rfl) (by kernel_rfl) (fun _ _ _ h => h) (Or.inl ⟨by rfl, fun w hSw => by clear hSw; go_simp⟩) hH ?_
          try simp only [Act.put, List.setIfInBounds_toArray, List.set_cons_zero, List.set_cons_succ, List.getElem_toArray, List.getElem_cons_succ, List.getElem_cons_zero]
          refine wpAnyH_take (i := 23) (v := .bool false) rfl (by kernel_rfl) (by kernel_rfl) (by kernel_rfl) (fun _ _ _ h => h) (Or.inl ⟨by rfl, fun w hSw => by clear hSw; go_simp⟩) hH ?_
          try simp only [Act.put, List.setIfInBounds_toArray, List.set_cons_zero, List.set_cons_succ, List.getElem_toArray, List.getElem_cons_succ, List.getElem_cons_zero]
          refine wpAnyH_take (i := 24) (v := .bool false) rfl (by kernel_rfl) (by kernel_rfl) (by kernel_rfl) (fun _ _ _ h => h) (Or.inl ⟨by rfl, fun w hSw => by clear hSw; go_simp⟩) hH ?_
          try simp only [Act.put, List.setIfInBounds_toArray, List.set_cons_zero, List.set_cons_succ, List.getElem_toArray, List.getElem_cons_succ, List.getElem_cons_zero]
          refine wpAnyH_done (by kernel_rfl) ?_ _
          clear hH
          clear HQ HCw
          obtain ⟨wt, hwt⟩ : ∃ wt, wt = wr.drew := ⟨_, rfl⟩
          have HT1 : Hid (Below wr.heap.size wr wt) := by rw [hwt]; exact below_drew _
          rw [← hwt] at HEnd ⊢
          clear hwt
          have HCi2 : Hid (∀ V, Below wt.heap.size wt V → V.cell? ⟨ga, i, none⟩ = some (.int .i64 ai)) := fun V hV => HCi.out V (chain HT1.out hV)
          have HCh2 : Hid (∀ V k, Below wt.heap.size wt V → k < hl → V.cell? ⟨gh, k, none⟩ = some (.int .i64 (hs.getD k 0))) := fun V k hV hk => HCh.out V k (chain HT1.out hV) hk
          have HEt : Hid (∀ V, Below wt.heap.size wt V → Below w6.heap.size w6 V) := fun V hV => chain HEnd.out hV
          clear HCi HCh HEnd HT1 HB
          go_wp2
          go_loopw [18] (fun kv wr => ∃ k : Nat, k ≤ hl ∧ kv = .int .i64 (k : Int) ∧ Below wt.heap.size wt wr) (fun kv _ => hl - (intOf kv).toNat)
          case atStart => exact ⟨0, Nat.zero_le _, rfl, Below.refl _ _⟩
          case round =>
            obtain ⟨k, hk, rfl, hb⟩ := hrel
            have HB : Hid (Below wt.heap.size wt wr) := hb
            clear hb
            by_cases hkt : k < hl
            · have hkt' : (k : Int) < (hl : Int) := by omega
              obtain ⟨hk9, hhk⟩ : ∃ q, hs.getD k 0 = q := ⟨_, rfl⟩
              have hne := HNe.out k hkt
              have HQ : Hid (∀ V, Below wr.heap.size wr V → V.cell? ⟨ga, i, none⟩ = some (.int .i64 ai) ∧ V.cell? ⟨gh, k, none⟩ = some (.int .i64 hk9)) := fun V hV => ⟨HCi2.out V (chain HB.out hV), by rw [← hhk]; exact HCh2.out V k (chain HB.out hV) hkt⟩
              rw [hhk] at hne
              have l9 : (hk9 == ai) = false := by simp [hne]
              have l10 : ¬ hk9 = ai := hne
              have HE2 : Hid (Below wt.heap.size wt wr.drew) := HB.out.drew
              clear hhk hne
              go_upto_region 21 with fail
              refine wp_region_held_drew (S := fun W' => Below wr.heap.size wr W') (by kernel_rfl) (below_drew _) (fun hH => ?_)
              refine wpAnyH_take (i := 0) (v := .slice (some ⟨gh, 0, none⟩) hl ch) rfl (by kernel_rfl) (by kernel_rfl) (by kernel_rfl) (fun _ _ _ h => h) (Or.inl ⟨by rfl, fun w hSw => by clear hSw; go_simp⟩) hH ?_
              refine wpAnyH_take (i := 1) (v := .int .i64 ((k : Int))) rfl (by kernel_rfl) (by kernel_rfl) (by kernel_rfl) (fun _ _ _ h => h) (Or.inl ⟨by rfl, fun w hSw => by clear hSw; go_simp⟩) hH ?_
              try simp only [Act.put, List.setIfInBounds_toArray, List.set_cons_zero, List.set_cons_succ, List.getElem_toArray, List.getElem_cons_succ, List.getElem_cons_zero]
              refine wpAnyH_take (i := 2) (v := .pointer (some ⟨gh, k, none⟩)) rfl (by kernel_rfl) (by kernel_rfl) (by kernel_rfl) (fun _ _ _ h => h) (Or.inl ⟨by rfl, fun w hSw => by clear hSw; go_simp⟩) hH ?_
              try simp only [Act.put, List.setIfInBounds_toArray, List.set_cons_zero, List.set_cons_succ, List.getElem_toArray, List.getElem_cons_succ, List.getElem_cons_zero]
              refine wpAnyH_take (i := 3) (v := .int .i64 hk9) rfl (by kernel_rfl) (by kernel_rfl) (by kernel_rfl) (fun _ _ _ h => h) (Or.inl ⟨by rfl, fun w hSw => by have f0 := (HQ.out w hSw).2; clear hSw; go_simp⟩) hH ?_
              try simp only [Act.put, List.setIfInBounds_toArray, List.set_cons_zero, List.set_cons_succ, List.getElem_toArray, List.getElem_cons_succ, List.getElem_cons_zero]
              refine wpAnyH_take (i := 4) (v := .slice (some ⟨ga, 0, none⟩) N c1) rfl (by kernel_rfl) (by kernel_rfl) (by kernel_rfl) (fun _ _ _ h => h) (Or.inl ⟨by rfl, fun w hSw => by clear hSw; go_simp⟩) hH ?_
              try simp only [Act.put, List.setIfInBounds_toArray, List.set_cons_zero, List.set_cons_succ, List.getElem_toArray, List.getElem_cons_succ, List.getElem_cons_zero]
              refine wpAnyH_take (i := 5) (v := .int .i64 ((i : Int))) rfl (by kernel_rfl) (by kernel_rfl) (by kernel_rfl) (fun _ _ _ h => h) (Or.inl ⟨by rfl, fun w hSw => by clear hSw; go_simp⟩) hH ?_
              try simp only [Act.put, List.setIfInBounds_toArray, List.set_cons_zero, List.set_cons_succ, List.getElem_toArray, List.getElem_cons_succ, List.getElem_cons_zero]
              refine wpAnyH_take (i := 6) (v := .pointer (some ⟨ga, i, none⟩)) rfl (by kernel_rfl) (by kernel_rfl) (by kernel_rfl) (fun _ _ _ h => h) (Or.inl ⟨by rfl, fun w hSw => by clear hSw; go_simp⟩) hH ?_
              try simp only [Act.put, List.setIfInBounds_toArray, List.set_cons_zero, List.set_cons_succ, List.getElem_toArray, List.getElem_cons_succ, List.getElem_cons_zero]
              refine wpAnyH_take (i := 7) (v := .int .i64 ai) rfl (by kernel_rfl) (by kernel_rfl) (by kernel_rfl) (fun _ _ _ h => h) (Or.inl ⟨by rfl, fun w hSw => by have f0 := (HQ.out w hSw).1; clear hSw; go_simp⟩) hH ?_
              try simp only [Act.put, List.setIfInBounds_toArray, List.set_cons_zero, List.set_cons_succ, List.getElem_toArray, List.getElem_cons_succ, List.getElem_cons_zero]
              refine wpAnyH_take (i := 8) (v := .bool false) rfl (by kernel_rfl) (by kernel_rfl) (by kernel_rfl) (fun _ _ _ h => h) (Or.inl ⟨by rfl, fun w hSw => by clear hSw; go_simp⟩) hH ?_
              try simp only [Act.put, List.setIfInBounds_toArray, List.set_cons_zero, List.set_cons_succ, List.getElem_toArray, List.getElem_cons_succ, List.getElem_cons_zero]
              refine wpAnyH_done (by kernel_rfl) ?_ _
              clear hH
              go_wp2
              exact ⟨⟨k + 1, by omega, by go_num, HE2.out⟩, by simp [intOf]; omega⟩
            · have hke : ¬ (k : Int) < (hl : Int) := by omega
              go_wp2
              exact ⟨⟨i + 1, by omega, by go_num, HEt.out _ HB.out⟩, by simp [intOf]; omega⟩
      · have hle : ¬ (i : Int) < (N : Int) := by omega
        go_wp2
        go_ret
        exact ⟨rfl, chain HB1.out (chain HB6.out HB.out)⟩
set_option maxRecDepth 8000 in
theorem walk (a0 : Option Addr) (len0 cap0 : Nat) (z0 : List Int) (a1 : Option Addr) (len1 cap1 : Nat) (z1 : List Int) (w : World) (r0 : RowB w.heap.size w a0 len0 z0) (r1 : RowB w.heap.size w a1 len1 z1) :
    Calls Try.prog 5 #[.slice a0 len0 cap0, .slice a1 len1 cap1] w fun e w' => e = .returned (.bool true) ∧ Below w.heap.size w w' := by
  by_cases hbig : (1048576 : Int) < (len0 : Int)
  · clear r0 r1
    go_enter Try.func5, Try.ntmps5
    go_wp2
    go_ret
    exact ⟨rfl, Below.refl _ _⟩
  by_cases hbig1 : (1048576 : Int) < (len1 : Int)
  · clear r0 r1
    go_enter Try.func5, Try.ntmps5
    go_wp2
    go_ret
    exact ⟨rfl, Below.refl _ _⟩
  · exact walk' a0 len0 cap0 a1 len1 cap1 w (by omega) (by omega) (weekOf_any a0 len0 cap0 z0 w r0) (fun W hW => by
      have hr := r1.below hW
      exact at_any W.heap.size a1 len1 cap1 z1 0 400 W ⟨hr.1, hr.2.imp id (fun ⟨b0, off, e, hb, hc⟩ => ⟨b0, off, e, by have := hW.size; omega, hc⟩)⟩ (by omega) (by omega) (by omega))

theorem own : ownKnob Try.prog.godebug = none := by kernel_rfl
theorem laidOut : laidOutB Try.prog = true := by kernel_rfl

set_option maxRecDepth 100000 in
theorem lifted (os : Os) (started : os.Started) (H : Type) (enc : TypeId × Value → H) :
    ReturnsInHanded {} Try.checked os 5 .any (Rows.fnDaysSpec.pre6 enc Try.prog Try.f5 Rows.fnDaysRow.domain false) (Rows.fnDaysSpec.post enc Try.prog Try.f5 false true false false) := by
  refine returnsInHanded_of_change (C := Try.checked) own started (by kernel_rfl) Try.func5
    (ChangeSpec.witness6 (enc := enc) (C := Try.checked) false ⟨#[], #[.slice none 0 0, .slice none 0 0], []⟩ 8 (by kernel_rfl) (by kernel_rfl) (by kernel_rfl) (by kernel_rfl)) ?_
  intro W base args ds gs before hval0 hW hcnd _
  have hval : ∀ (j : Nat) t v, Try.f5.params[j]? = some t → args[j]? = some v → Value.okWide Try.prog W .any base t v := hval0
  have hW' := hW
  obtain ⟨p, q, hA0, hV, rfl, hfz, hnd⟩ := hW
  have hA : DataW.TrodAll enc Try.prog W 0 (fun _ => true) true Try.f5.params.toList args.toList ds p := hA0
  rw [Try.params5] at hA hval
  obtain ⟨v0, vs0, d0, ds0, p0, q0, hargs, rfl, rfl, h0, r0⟩ := trodAll_cons hA
  obtain ⟨v1, vs1, d1, ds1, p1, q1, rfl, rfl, rfl, h1, r1⟩ := trodAll_cons r0
  obtain ⟨rfl, rfl, rfl⟩ := trodAll_nil r1
  obtain rfl : args = #[v0, v1] := by cases args; simp_all
  obtain ⟨rfl, rfl⟩ := trodVars_none hV
  have k0 := h0
  have lt0 : ∀ x ∈ p0, x.block < W.heap.size := by obtain ⟨m, hm⟩ := k0; exact DataW.trod_lt m _ _ _ hm
  have k1 := h1
  have lt1 : ∀ x ∈ p1, x.block < W.heap.size := by obtain ⟨m, hm⟩ := k1; exact DataW.trod_lt m _ _ _ hm
  obtain ⟨a0, len0, cap0, rfl⟩ := okWide_slice Try.underlying22 (hval 0 22 v0 rfl rfl)
  obtain ⟨z0, w0⟩ : ∃ zs, IsRow .u8 W a0 len0 cap0 zs := by
    obtain ⟨fuel, hf⟩ := h0
    rcases open_ints Try.underlying22 Try.underlying5 (by kernel_rfl) hf with ⟨hcs, _⟩ | ⟨x, l, c, zs, hcs, _, hl, hm, hz, _, hcell, hwz⟩
    · simp [Value.cells] at hcs
      obtain ⟨rfl, rfl, rfl⟩ := hcs
      exact ⟨[], .inl ⟨rfl, rfl, rfl, rfl⟩⟩
    · simp [Value.cells] at hcs
      obtain ⟨rfl, rfl, rfl⟩ := hcs
      exact ⟨zs, .inr ⟨_, rfl, hl, hm, by simpa using hz, hcell, hwz⟩⟩
  obtain ⟨a1, len1, cap1, rfl⟩ := okWide_slice Try.underlying22 (hval 1 22 v1 rfl rfl)
  obtain ⟨z1, w1⟩ : ∃ zs, IsRow .u8 W a1 len1 cap1 zs := by
    obtain ⟨fuel, hf⟩ := h1
    rcases open_ints Try.underlying22 Try.underlying5 (by kernel_rfl) hf with ⟨hcs, _⟩ | ⟨x, l, c, zs, hcs, _, hl, hm, hz, _, hcell, hwz⟩
    · simp [Value.cells] at hcs
      obtain ⟨rfl, rfl, rfl⟩ := hcs
      exact ⟨[], .inl ⟨rfl, rfl, rfl, rfl⟩⟩
    · simp [Value.cells] at hcs
      obtain ⟨rfl, rfl, rfl⟩ := hcs
      exact ⟨zs, .inr ⟨_, rfl, hl, hm, by simpa using hz, hcell, hwz⟩⟩
  clear hA0 hval0
  refine (walk a0 len0 cap0 z0 a1 len1 cap1 z1 W (rowB_of _ _ _ _ _ w0) (rowB_of _ _ _ _ _ w1)).mono fun e W' ⟨he, bel⟩ => ?_
  subst he
  exact ⟨_, rfl, _, _, _, [], _, [], hW', trodAll_mk1 (shut_bool Try.underlying4 _), (trodAll_cons_mk (Below.trod laidOut (by kernel_rfl) (of_decide_eq_true (by kernel_rfl)) k0 bel lt0) (trodAll_cons_mk (Below.trod laidOut (by kernel_rfl) (of_decide_eq_true (by kernel_rfl)) k1 bel lt1) trodAll_mk0)), rfl, bel.frame _, fun h => by cases h⟩

theorem over : Rows.fnDaysRow.holds Try.pinned (OpenSpec.ofChange Rows.fnDaysSpec) :=
  OpenClaim.holds_of_wide 5 Try.f5 rfl rfl rfl rfl rfl rfl rfl ⟨rfl, rfl, rfl, rfl, rfl⟩ rfl rfl rfl rfl rfl (by kernel_rfl) Try.func5 (by kernel_rfl)
    (of_decide_eq_true (by kernel_rfl)) (by unfold Func.isWrapper; first | (rw [if_pos (by decide +kernel)]; kernel_rfl) | (rw [if_neg (by decide +kernel)]; exact ⟨rfl, rfl⟩))
    (fun os started H enc _ => lifted os started H enc)
end FnDays

theorem fnDays_holds : Rows.FnDaysSaid := FnDays.over
end Go.Proofs.Ytbgjekhekjbcpaa
