/-
  The specification's shopEvents: of every source it draws a short right list of events, in a row of its own.
-/
import Derived.Test.YtabghjlmmpckdaaShA
import Derived.Test.YtabghjlmmpckdaaSrcApt
import Derived.Test.YtabghjlmmpckdaaSrcSize
import Derived.Test.YtabghjlmmpckdaaDrawTax1
import Derived.Test.YtabghjlmmpckdaaAppAny
import Derived.Test.YtabghjlmmpckdaaRow1
import Derived.Laws.OwnMore
namespace Go.Proofs.Ytabghjlmmpckdaa
open Go.ChangeShapes Go.WideShapes Go.ChangeAt Go.RowKit Go.Deep
set_option linter.unusedVariables false

theorem src_sameE {w w' : World} {b : Nat} {a : Option Addr} {len cap : Nat} {x s : Int} (h : Src w b a len cap x s) (e : w'.heap[b]? = w.heap[b]?) (hz : w.heap.size ≤ w'.heap.size) : Src w' b a len cap x s := by
  obtain ⟨s0, s1, s2, f1, f2, sb, r⟩ := h
  exact ⟨(World.cell?_of_block (w := w) (a := ⟨b, 0, none⟩) e).trans s0, (World.cell?_of_block (w := w) (a := ⟨b, 1, none⟩) e).trans s1, (World.cell?_of_block (w := w) (a := ⟨b, 2, none⟩) e).trans s2, (World.frozen?_of_block (w := w) (a := ⟨b, 1, none⟩) e).trans f1, (World.frozen?_of_block (w := w) (a := ⟨b, 2, none⟩) e).trans f2, Nat.lt_of_lt_of_le sb hz, r⟩
/-- The source in block b, a list drawn so far in a row of its own. -/
structure EvSt (w : World) (b : Nat) (a : Option Addr) (len cap : Nat) (g cp : Nat) (L : List REv) (at' sd : Int) (wr : World) : Prop where
  row : wr.ownsRow (b + 1) 35 6 (.slice (some ⟨g, 0, none⟩) L.length cp) L.length (evCells L)
  src : Src wr b a len cap at' sd
  low : Below b w wr
theorem EvSt.blt {w : World} {b : Nat} {a : Option Addr} {len cap g cp : Nat} {L : List REv} {at' sd : Int} {wr : World} (h : EvSt w b a len cap g cp L at' sd wr) : b < wr.heap.size := h.src.2.2.2.2.2.1
theorem EvSt.glt {w : World} {b : Nat} {a : Option Addr} {len cap g cp : Nat} {L : List REv} {at' sd : Int} {wr : World} (h : EvSt w b a len cap g cp L at' sd wr) : b < g ∧ g < wr.heap.size := by have := row_lt h.row g rfl; omega
theorem EvSt.draw {w : World} {b : Nat} {a : Option Addr} {len cap g cp : Nat} {L : List REv} {at' sd at2 sd2 : Int} {wr w' : World} (h : EvSt w b a len cap g cp L at' sd wr) (ha : Apt b wr w') (hb : Below b wr w') (hs : Src w' b a len cap at2 sd2) : EvSt w b a len cap g cp L at2 sd2 w' :=
  ⟨row_of h.row (fun k hk => ha k (by have := (h.row.lt k hk).1; omega)), hs, h.low.trans hb⟩
theorem EvSt.later {w : World} {b : Nat} {a : Option Addr} {len cap g cp : Nat} {L : List REv} {at' sd : Int} {wr w' : World} (h : EvSt w b a len cap g cp L at' sd wr) (hb : Below wr.heap.size wr w') : EvSt w b a len cap g cp L at' sd w' :=
  ⟨row_of h.row (fun k hk => hb.block k (h.row.lt k hk).2), src_sameE h.src (hb.block b h.blt) hb.size, h.low.trans (hb.mono (Nat.le_of_lt h.blt))⟩
/-- Names of cards that are drawn. -/
def evN : List ByteArray := [⟨#[97]⟩, ⟨#[98]⟩, ⟨#[208, 180, 208, 190, 208, 188]⟩]
theorem evN_ok : ∀ j, j < 3 → nameB (evN.getD j ⟨#[]⟩) = true := fun j hj => by
  rcases (by omega : j = 0 ∨ j = 1 ∨ j = 2) with rfl | rfl | rfl <;> decide +kernel
theorem ev_right (s q tm kd am : Int) (cd : ByteArray) (hs : 1 ≤ s ∧ s ≤ 3) (hq : 1 ≤ q ∧ q ≤ 22) (ht : 0 ≤ tm ∧ tm ≤ 100) (hk : 1 ≤ kd ∧ kd ≤ 3) (hn : nameB cd = true) (ha : (kd = 3 ∧ am = 0) ∨ (¬ kd = 3 ∧ 1 ≤ am ∧ am ≤ 40)) : evOne ⟨s, q, tm, kd, cd, am⟩ = true := by
  have e0 : evOne ⟨s, q, tm, kd, cd, am⟩ = (inB s 1 9 && (inB q 1 120 && (inB tm 0 1000000000 && (nameB cd && evAmt kd am)))) := rfl
  rw [e0, hn]
  unfold inB evAmt
  rw [decide_eq_true (by omega), decide_eq_true (by omega), decide_eq_true (by omega)]
  rcases ha with ⟨h, h'⟩ | ⟨h, h1, h2⟩
  · rw [if_pos h, decide_eq_true h']; rfl
  · rw [if_neg h, decide_eq_true (by omega)]
    unfold inB
    rw [decide_eq_true (by omega)]; rfl
/-- What is known of the list while events of shop s are drawn. -/
structure ShI (s : Nat) (tm : Int) (L : List REv) : Prop where
  right : EvR L
  shop : ∀ r ∈ L, r.sh ≤ (s : Int)
  time : ∀ r ∈ L, r.sh = (s : Int) → r.tm ≤ tm
  sq : ∀ r ∈ L, r.sq ≤ (L.length : Int)
theorem ShI.put {s : Nat} {tm tm' : Int} {L : List REv} {q kd am : Int} {cd : ByteArray} {p : Nat} (h : ShI s tm L) (he : evOne ⟨(s : Int), q, tm, kd, cd, am⟩ = true) (hq : q ≤ (L.length : Int) + 1) (hqs : ∀ r ∈ L, r.sh = (s : Int) → r.sq < q) (ht : tm ≤ tm') (hp : p ≤ L.length)
    (hb : ∀ i, p ≤ i → i < L.length → evAh ⟨(s : Int), q, tm, kd, cd, am⟩ (L.getD i zEv) = true) (ha : 0 < p → evAh ⟨(s : Int), q, tm, kd, cd, am⟩ (L.getD (p - 1) zEv) = false) : ShI s tm' (putE L p ⟨(s : Int), q, tm, kd, cd, am⟩) := by
  have hlen := putE_len (L := L) (p := p) ⟨(s : Int), q, tm, kd, cd, am⟩ hp
  refine ⟨h.right.put he hp (fun r hr hsh => ⟨hqs r hr hsh, h.time r hr hsh⟩) hb ha, fun r hr => ?_, fun r hr hsh => ?_, fun r hr => ?_⟩
  · rcases putE_mem hr with h1 | h1
    · exact h.shop r h1
    · rw [h1]; exact Int.le_refl _
  · rcases putE_mem hr with h1 | h1
    · have := h.time r h1 hsh; omega
    · rw [h1]; exact ht
  · rw [hlen]
    rcases putE_mem hr with h1 | h1
    · have := h.sq r h1; omega
    · rw [h1]; show q ≤ _; omega
theorem evInf : (Try.prog.info? 35).map (fun i => (i.zero, i.size, i.bytes)) = some (some (.agg #[.int .i64 0, .int .i64 0, .int .i64 0, .int .i64 0, .string ⟨#[]⟩, .int .i64 0]), 6, 56) := by kernel_rfl
theorem evCells_one (L : List REv) : ∀ u ∈ evCells L, u.oneCell' = true := fun u hu => by
  unfold evCells at hu
  obtain ⟨r, _, hr⟩ := List.mem_flatMap.1 hu
  simp [evC] at hr
  rcases hr with rfl | rfl | rfl | rfl | rfl | rfl <;> rfl
theorem own_g {g p cp q : Nat} (h : Value.ownBlock (.slice (some ⟨g, 0, none⟩) p cp) = some q) : q = g := by
  have h : g = q := by simpa [Value.ownBlock] using h
  exact h.symm
theorem row_empty (w : World) (B : Nat) (hB : B ≤ w.heap.size) : (w.alloc (Obj.cells #[] 35)).ownsRow B 35 6 (.slice (some ⟨w.heap.size, 0, none⟩) 0 0) 0 [] :=
  ⟨rfl, .inr ⟨w.heap.size, 0, #[], rfl, hB, heapNew _ _, Nat.le_refl _, by unfold maxLen; omega, rfl, rfl⟩⟩
theorem list3 (w : World) : ∀ j, j < 3 → (w.alloc (Obj.cells #[.string ⟨#[97]⟩, .string ⟨#[98]⟩, .string ⟨#[208, 180, 208, 190, 208, 188]⟩] 9)).cell? ⟨w.heap.size, j, none⟩ = some (.string (evN.getD j ⟨#[]⟩)) := fun j hj => by
  have hn := heapNew w (Obj.cells #[.string ⟨#[97]⟩, .string ⟨#[98]⟩, .string ⟨#[208, 180, 208, 190, 208, 188]⟩] 9)
  rcases (by omega : j = 0 ∨ j = 1 ∨ j = 2) with rfl | rfl | rfl
  · exact blkCell hn 0 _ rfl
  · exact blkCell hn 1 _ rfl
  · exact blkCell hn 2 _ rfl
def ShP (w : World) (b : Nat) (a : Option Addr) (len cap : Nat) (at0 : Int) (e : Ending) (w' : World) : Prop := ∃ (g cp : Nat) (L : List REv) (at2 s' : Int), e = .returned (.slice (some ⟨g, 0, none⟩) L.length cp) ∧ EvR L ∧ L.length ≤ 21 ∧ at2 ≤ at0 + 600 ∧ EvSt w b a len cap g cp L at2 s' w'
set_option maxHeartbeats 16000000 in
set_option maxRecDepth 4000 in
theorem shopEvents_any (b : Nat) (a : Option Addr) (len cap : Nat) (zs : List Int) (at0 seed : Int) (w : World) (hs : Src w b a len cap at0 seed) (hr : RowB b w a len zs) (hrl : len ≤ maxLen) (a1 : at0 ≤ 1000) :
    Calls Try.prog 24 #[.pointer (some ⟨b, 0, none⟩)] w (ShP w b a len cap at0) := by
  have HNx : Hid (∀ W (n at' sd : Int), Below b w W → Src W b a len cap at' sd → at' ≤ 10000 → n ≤ 256 → Calls Try.prog 46 #[.pointer (some ⟨b, 0, none⟩), .int .i64 n] W fun e w' => ∃ x at2 s' : Int, e = .returned (.int .i64 x) ∧ Drawn x n ∧ at' ≤ at2 ∧ at2 ≤ at' + 3 ∧ Src w' b a len cap at2 s' ∧ Below b W w' ∧ Apt b W w') := fun W n at' sd hW h1 h2 h3 => next_anyA b b a len cap zs n at' sd W (Nat.le_refl _) h1 (hr.below hW) (by omega) h3
  have HPk : Hid (∀ W bl (at' sd : Int), Below b w W → Src W b a len cap at' sd → at' ≤ 10000 → bl ≠ b → (∀ j, j < 3 → W.cell? ⟨bl, j, none⟩ = some (.string (evN.getD j ⟨#[]⟩))) → Calls Try.prog 48 #[.pointer (some ⟨b, 0, none⟩), .slice (some ⟨bl, 0, none⟩) 3 3] W fun e w' => ∃ (j : Nat) (at2 s' : Int), j < 3 ∧ e = .returned (.string (evN.getD j ⟨#[]⟩)) ∧ at' ≤ at2 ∧ at2 ≤ at' + 3 ∧ Src w' b a len cap at2 s' ∧ Below b W w' ∧ Apt b W w') := fun W bl at' sd hW h1 h2 h3 h4 => pick_any b b bl a len cap zs at' sd evN W (Nat.le_refl _) h1 (hr.below hW) (by omega) (by decide) (by decide) h3 h4 3
  have HSz : Hid (∀ W (at' sd : Int), Src W b a len cap at' sd → Calls Try.prog 47 #[.pointer (some ⟨b, 0, none⟩), .int .i64 7] W fun e w' => (∃ x : Int, e = .returned (.int .i64 x) ∧ 1 ≤ x ∧ x ≤ 7) ∧ w' = W) := fun W at' sd h => size_src b a len cap 7 at' sd W h hrl (by omega) (by omega)
  obtain ⟨i0, hi, hzz⟩ := Option.map_eq_some_iff.1 evInf
  simp only [Prod.mk.injEq] at hzz
  obtain ⟨hi0', hi1, hi2⟩ := hzz
  obtain ⟨W1, hW1⟩ : ∃ W1, W1 = w.alloc (Obj.cells #[] 35) := ⟨_, rfl⟩
  have HW1 : Hid (EvSt w b a len cap w.heap.size 0 [] at0 seed W1) := by
    have hb := below_alloc w (Obj.cells #[] 35)
    have hl := hs.2.2.2.2.2.1
    rw [hW1]
    exact ⟨row_empty w _ (by omega), src_sameE hs (hb.block b hl) hb.size, hb.mono (by omega)⟩
  have HW1e : Hid (W1 = w.alloc (Obj.cells #[] 35)) := hW1
  clear hr hs hrl hW1
  go_enter Try.func24, Try.ntmps24
  go_wp2
  rw [← HW1e.out]
  clear HW1e
  generalize w.heap.size = g0 at HW1 ⊢
  go_loopw [3, 4, 5, 6, 7, 8, 9, 10, 11] (fun v c _ _ _ _ _ _ _ wr => ∃ (s : Nat) (L : List REv) (g cp : Nat) (at1 sd : Int), v = .slice (some ⟨g, 0, none⟩) L.length cp ∧ c = .int .i64 (s : Int) ∧ 1 ≤ s ∧ s ≤ 4 ∧ L.length ≤ 7 * (s - 1) ∧ at1 ≤ at0 + 200 * ((s : Int) - 1) ∧ ShI s (-1) L ∧ EvSt w b a len cap g cp L at1 sd wr) (fun _ c _ _ _ _ _ _ _ _ => 4 - (intOf c).toNat)
  case atStart => exact ⟨1, [], g0, 0, at0, seed, rfl, rfl, by omega, by omega, by simp, by omega, ⟨evR_nil, fun r hr => by simp at hr, fun r hr => by simp at hr, fun r hr => by simp at hr⟩, HW1.out⟩
  case round =>
    clear HW1
    obtain ⟨s, L, g, cp, at1, sd, rfl, rfl, hs1, hs4, hlen, hat, hI, hst⟩ := hrel
    have HI0 : Hid (ShI s (-1) L) := hI
    have HS0 : Hid (EvSt w b a len cap g cp L at1 sd wr) := hst
    clear hI hst
    by_cases hs3 : s ≤ 3
    · have hs3' : (s : Int) ≤ 3 := by omega
      go_wp2_with fail
      (first | go_at_call 46 | skip)
      refine (HNx.out wr 9 at1 sd HS0.out.low HS0.out.src (by omega) (by omega)).mono ?_
      rintro e w1 ⟨tm0, a2, s2, rfl, ⟨ht0, ht1⟩, ha2, hb2, hs2, hb2', hf2⟩
      have H1 : Hid (EvSt w b a len cap g cp L a2 s2 w1) := HS0.out.draw hf2 hb2' hs2
      clear hs2 hb2' hf2 HS0
      go_wp2_with fail
      (first | go_at_call 47 | skip)
      refine (HSz.out w1 a2 s2 H1.out.src).mono ?_
      rintro e w2' ⟨⟨z, rfl, hz1, hz2⟩, h⟩
      rw [h]
      clear h w2'
      have hwz : IntKind.i64.wrap (z + 1) = z + 1 := wrap_id _ (by omega) (by omega)
      go_wp2_with fail
      (first | go_at_call 46 | skip)
      refine (HNx.out w1 (z + 1) a2 s2 H1.out.low H1.out.src (by omega) (by omega)).mono ?_
      rintro e w3 ⟨n0, a3, s3, rfl, ⟨hn0, hn1⟩, ha3, hb3, hs3s, hb3', hf3⟩
      have H3 : Hid (EvSt w b a len cap g cp L a3 s3 w3) := H1.out.draw hf3 hb3' hs3s
      have hn7 : n0 ≤ 7 := by omega
      have ht8 : tm0 ≤ 8 := by omega
      have HI1 : Hid (ShI s tm0 L) := ⟨HI0.out.right, HI0.out.shop, fun r hr h => by have := HI0.out.time r hr h; omega, HI0.out.sq⟩
      clear hs3s hb3' hf3 H1 HI0
      go_wp2
      go_loopw [3, 5, 6, 7, 8, 9, 10, 11] (fun v t c _ _ _ _ _ wr => ∃ (L : List REv) (i tm : Int) (g cp : Nat) (at1 sd : Int), v = .slice (some ⟨g, 0, none⟩) L.length cp ∧ c = .int .i64 i ∧ t = .int .i64 tm ∧ 0 ≤ i ∧ (L.length : Int) + i ≤ 7 * (s : Int) ∧ 0 ≤ tm ∧ tm + 3 * i ≤ 8 + 21 ∧ at1 + 20 * i ≤ at0 + 200 * ((s : Int) - 1) + 6 + 140 ∧ ShI s tm L ∧ EvSt w b a len cap g cp L at1 sd wr) (fun _ _ c _ _ _ _ _ _ => (intOf c).toNat)
      case atStart => exact ⟨L, n0, tm0, g, cp, a3, s3, rfl, rfl, rfl, hn0, by omega, ht0, by omega, by omega, HI1.out, H3.out⟩
      case round =>
        clear H3 HI1
        obtain ⟨L, i, tm, g, cp, at1, sd, rfl, rfl, rfl, hi0, hlen, htm0, htm1, hat1, hI, hst⟩ := hrel
        have HI : Hid (ShI s tm L) := hI
        have HS : Hid (EvSt w b a len cap g cp L at1 sd wr) := hst
        clear hI hst
        by_cases hpos : 0 < i
        · have hl21 : L.length ≤ 20 := by omega
          have hl21' : (L.length : Int) ≤ 20 := by omega
          go_wp2
          go_loop [7, 8] (fun c d => ∃ (k : Nat) (q : Int), k ≤ L.length ∧ d = .int .i64 (k : Int) ∧ c = .int .i64 q ∧ 1 ≤ q ∧ q ≤ (L.length : Int) + 1 ∧ (∀ j, j < k → (L.getD j zEv).sh = (s : Int) → (L.getD j zEv).sq < q)) (fun _ d => L.length - (intOf d).toNat)
          case atStart => exact ⟨0, 1, Nat.zero_le _, rfl, rfl, by omega, by omega, fun j hj => by omega⟩
          case round =>
            obtain ⟨k, q, hk, rfl, rfl, hq1, hq2, hqs⟩ := hrel
            have HQ : Hid (∀ j, j < k → (L.getD j zEv).sh = (s : Int) → (L.getD j zEv).sq < q) := hqs
            clear hqs
            by_cases hlt : k < L.length
            · have hlt' : (k : Int) < (L.length : Int) := by omega
              obtain ⟨c0, c1, c2, c3, c4, c5⟩ := evs_row HS.out.row k hlt
              simp only [Nat.zero_add] at c0 c1 c2 c3 c4 c5
              have hsq := getEv HI.out.sq hlt
              have hone := getEv HI.out.right.one hlt
              obtain ⟨_, _, hq3, _⟩ := evOne_bd hone
              have HN : Hid (∀ q', q ≤ q' → ((L.getD k zEv).sh = (s : Int) → (L.getD k zEv).sq < q') → ∀ j, j < k + 1 → (L.getD j zEv).sh = (s : Int) → (L.getD j zEv).sq < q') := fun q' h1 h2 j hj hsh => by
                by_cases e : j = k
                · rw [e] at hsh ⊢; exact h2 hsh
                · have := HQ.out j (by omega) hsh; omega
              clear hone
              generalize L.getD k zEv = ev at c0 c1 c2 c3 c4 c5 HN hsq hq3
              obtain ⟨e0, e1, e2, e3, e4, e5⟩ := ev
              dsimp only at c0 c1 c2 c3 c4 c5 HN hsq hq3
              by_cases hsh : e0 = (s : Int)
              · have hwe : IntKind.i64.wrap (e1 + 1) = e1 + 1 := wrap_id _ (by omega) (by omega)
                have hbe : (e0 == (s : Int)) = true := by simpa using hsh
                by_cases hmx : q < e1 + 1
                · have H1 : Hid (∀ j, j < k + 1 → (L.getD j zEv).sh = (s : Int) → (L.getD j zEv).sq < e1 + 1) := HN.out (e1 + 1) (by omega) (fun _ => by omega)
                  clear HN HQ hsh
                  go_wp2
                  go_round
                  case rel => exact ⟨k + 1, e1 + 1, by omega, by go_num, by first | rfl | go_num, by omega, by omega, H1.out⟩
                  case measure => simp [intOf]; omega
                · have H1 : Hid (∀ j, j < k + 1 → (L.getD j zEv).sh = (s : Int) → (L.getD j zEv).sq < q) := HN.out q (by omega) (fun _ => by omega)
                  clear HN HQ hsh
                  go_wp2
                  go_round
                  case rel => exact ⟨k + 1, q, by omega, by go_num, by first | rfl | go_num, by omega, by omega, H1.out⟩
                  case measure => simp [intOf]; omega
              · have hbe : (e0 == (s : Int)) = false := by simpa using hsh
                have H1 : Hid (∀ j, j < k + 1 → (L.getD j zEv).sh = (s : Int) → (L.getD j zEv).sq < q) := HN.out q (by omega) (fun h => absurd h hsh)
                clear HN HQ hsh
                go_wp2
                go_round
                case rel => exact ⟨k + 1, q, by omega, by go_num, rfl, by omega, by omega, H1.out⟩
                case measure => simp [intOf]; omega
            · have hle : (L.length : Int) ≤ (k : Int) := by omega
              have HQs : Hid (∀ r ∈ L, r.sh = (s : Int) → r.sq < q) := fun r hr hsh => by
                obtain ⟨j, hj, rfl⟩ := List.mem_iff_getElem.1 hr
                have := HQ.out j (by omega)
                rw [getD_in hj] at this
                exact this hsh
              clear HQ
              go_wp2_with fail
              (first | go_at_call 46 | skip)
              refine (HNx.out wr 3 at1 sd HS.out.low HS.out.src (by omega) (by omega)).mono ?_
              rintro e w2 ⟨x2, a2, s2, rfl, ⟨hx20, hx21⟩, ha2, hb2, hs2, hb2', hf2⟩
              have H2 : Hid (EvSt w b a len cap g cp L a2 s2 w2) := HS.out.draw hf2 hb2' hs2
              obtain ⟨kd, hkd⟩ : ∃ kd, kd = 1 + x2 := ⟨_, rfl⟩
              have hk1 : 1 ≤ kd := by omega
              have hk3 : kd ≤ 3 := by omega
              have hwk : wrap64 (1 + x2) = kd := by unfold wrap64; omega
              have hwk' : IntKind.i64.wrap (1 + x2) = kd := by rw [hkd]; exact wrap_id _ (by omega) (by omega)
              clear hs2 hb2' hf2 HS hkd
              obtain ⟨W3, hW3⟩ : ∃ W3, W3 = w2.alloc (Obj.cells #[.string ⟨#[97]⟩, .string ⟨#[98]⟩, .string ⟨#[208, 180, 208, 190, 208, 188]⟩] 9) := ⟨_, rfl⟩
              have HW3 : Hid (W3 = w2.alloc (Obj.cells #[.string ⟨#[97]⟩, .string ⟨#[98]⟩, .string ⟨#[208, 180, 208, 190, 208, 188]⟩] 9)) := hW3
              have H3 : Hid (EvSt w b a len cap g cp L a2 s2 W3) := by rw [hW3]; exact H2.out.later (below_alloc _ _)
              have HC3 : Hid (∀ j, j < 3 → W3.cell? ⟨w2.heap.size, j, none⟩ = some (.string (evN.getD j ⟨#[]⟩))) := by rw [hW3]; exact list3 w2
              have hne3 : w2.heap.size ≠ b := by have := H2.out.blt; omega
              clear hW3 H2
              go_wp2_with fail
              (first | go_at_call 48 | skip)
              rw [← HW3.out]
              refine (HPk.out W3 w2.heap.size a2 s2 H3.out.low H3.out.src (by omega) hne3 HC3.out).mono ?_
              rintro e w4 ⟨j4, a4, s4, hj4, rfl, ha4, hb4, hs4, hb4', hf4⟩
              have H4 : Hid (EvSt w b a len cap g cp L a4 s4 w4) := H3.out.draw hf4 hb4' hs4
              have HNm : Hid (nameB (evN.getD j4 ⟨#[]⟩) = true) := evN_ok j4 hj4
              generalize evN.getD j4 ⟨#[]⟩ = cd at *
              clear hs4 hb4' hf4 H3 HW3 HC3 hne3
              go_wp2_with fail
              (first | go_at_call 46 | skip)
              refine (HNx.out w4 40 a4 s4 H4.out.low H4.out.src (by omega) (by omega)).mono ?_
              rintro e w5 ⟨x5, a5, s5, rfl, ⟨hx50, hx51⟩, ha5, hb5, hs5, hb5', hf5⟩
              have H5 : Hid (EvSt w b a len cap g cp L a5 s5 w5) := H4.out.draw hf5 hb5' hs5
              obtain ⟨am0, ham⟩ : ∃ am0, am0 = 1 + x5 := ⟨_, rfl⟩
              have hm1 : 1 ≤ am0 := by omega
              have hm40 : am0 ≤ 40 := by omega
              have hwa : wrap64 (1 + x5) = am0 := by unfold wrap64; omega
              have hwa' : IntKind.i64.wrap (1 + x5) = am0 := by rw [ham]; exact wrap_id _ (by omega) (by omega)
              clear hs5 hb5' hf5 H4 ham
              have hgl := H5.out.glt
              by_cases hk : kd = 3
              · have hkb : (kd == 3) = true := by simpa using hk
                obtain ⟨W6, hW6⟩ : ∃ W6, W6 = w5.alloc (Obj.cells #[.int .i64 (s : Int), .int .i64 q, .int .i64 tm, .int .i64 kd, .string cd, .int .i64 0] 35) := ⟨_, rfl⟩
                have HW6 : Hid (W6 = w5.alloc (Obj.cells #[.int .i64 (s : Int), .int .i64 q, .int .i64 tm, .int .i64 kd, .string cd, .int .i64 0] 35)) := hW6
                have H6 : Hid (EvSt w b a len cap g cp L a5 s5 W6) := by rw [hW6]; exact H5.out.later (below_alloc _ _)
                have HE6 : Hid (W6.heap[w5.heap.size]? = some (.cells #[.int .i64 (s : Int), .int .i64 q, .int .i64 tm, .int .i64 kd, .string cd, .int .i64 0] 35 (0, 0))) := by rw [hW6]; exact heapNew _ _
                have HOne : Hid (evOne ⟨(s : Int), q, tm, kd, cd, 0⟩ = true) := ev_right _ _ _ _ _ _ (by omega) (by omega) (by omega) (by omega) HNm.out (.inl ⟨hk, rfl⟩)
                clear hW6 H5 hk
                go_wp2_with fail
                (first | go_at_call 46 | skip)
                rw [← HW6.out]
                refine (HNx.out W6 4 a5 s5 H6.out.low H6.out.src (by omega) (by omega)).mono ?_
                rintro e w7 ⟨x7, a7, s7, rfl, ⟨hx70, hx71⟩, ha7, hb7, hs7, hb7', hf7⟩
                have H7 : Hid (EvSt w b a len cap g cp L a7 s7 w7) := H6.out.draw hf7 hb7' hs7
                have hneE : w5.heap.size ≠ b := by omega
                have HE7 : Hid (w7.heap[w5.heap.size]? = some (.cells #[.int .i64 (s : Int), .int .i64 q, .int .i64 tm, .int .i64 kd, .string cd, .int .i64 0] 35 (0, 0))) := (hf7 w5.heap.size hneE).trans HE6.out
                obtain ⟨tm2, htm2⟩ : ∃ tm2, tm2 = tm + x7 := ⟨_, rfl⟩
                have hwt : wrap64 (tm + x7) = tm2 := by unfold wrap64; omega
                have hwt' : IntKind.i64.wrap (tm + x7) = tm2 := by rw [htm2]; exact wrap_id _ (by omega) (by omega)
                have ht1 : tm ≤ tm2 := by omega
                have ht2 : tm2 ≤ tm + 3 := by omega
                have hgE : g ≠ w5.heap.size := by omega
                clear hs7 hb7' hf7 H6 HE6 HW6 htm2
                generalize w5.heap.size = eb at *
                go_wp2
                go_loopw [10] (fun c wq => ∃ (p : Nat), p ≤ L.length ∧ c = .int .i64 (p : Int) ∧ (∀ i, p ≤ i → i < L.length → evAh ⟨(s : Int), q, tm, kd, cd, 0⟩ (L.getD i zEv) = true) ∧ EvSt w b a len cap g cp L a7 s7 wq ∧ wq.heap[eb]? = some (.cells #[.int .i64 (s : Int), .int .i64 q, .int .i64 tm, .int .i64 kd, .string cd, .int .i64 0] 35 (0, 0))) (fun c _ => (intOf c).toNat)
                case atStart => exact ⟨L.length, Nat.le_refl _, rfl, fun i h1 h2 => by omega, H7.out, HE7.out⟩
                case round =>
                  clear H7 HE7
                  obtain ⟨p, hpl, rfl, haf, hst, hE⟩ := hrel
                  have HAf : Hid (∀ i, p ≤ i → i < L.length → evAh ⟨(s : Int), q, tm, kd, cd, 0⟩ (L.getD i zEv) = true) := haf
                  have HS : Hid (EvSt w b a len cap g cp L a7 s7 wr) := hst
                  have HE : Hid (wr.heap[eb]? = some (.cells #[.int .i64 (s : Int), .int .i64 q, .int .i64 tm, .int .i64 kd, .string cd, .int .i64 0] 35 (0, 0))) := hE
                  clear haf hst hE
                  go_wp2_with fail
                  by_cases hp0 : p = 0
                  · have HBe : Hid (0 < p → evAh ⟨(s : Int), q, tm, kd, cd, 0⟩ (L.getD (p - 1) zEv) = false) := fun h => by omega
                    have HK0 : Hid (p = 0) := hp0
                    clear hp0
                    refine wp_region_held_drew (S := fun W' => Below wr.heap.size wr W') (by kernel_rfl) (below_drew _) (fun hH => ?_)
                    refine wpAnyH_take (i := 0) (v := .int .i64 (p : Int)) rfl (by kernel_rfl) (by kernel_rfl) (by kernel_rfl) (fun _ _ _ h => h) (Or.inl ⟨by rfl, fun w hSw => by go_simp⟩) hH ?_
                    refine wpAnyH_take (i := 1) (v := .bool false) rfl (by kernel_rfl) (by kernel_rfl) (by kernel_rfl) (fun _ _ _ h => h) (Or.inl ⟨by rfl, fun w hSw => by have f := HK0.out; go_simp⟩) hH ?_
                    try simp only [Act.put, List.setIfInBounds_toArray, List.set_cons_zero, List.set_cons_succ, List.getElem_toArray, List.getElem_cons_succ, List.getElem_cons_zero]
                    refine wpAnyH_take (i := 2) (v := .bool false) rfl (by kernel_rfl) (by kernel_rfl) (by kernel_rfl) (fun _ _ _ h => h) (Or.inl ⟨by rfl, fun w hSw => by go_simp⟩) hH ?_
                    try simp only [Act.put, List.setIfInBounds_toArray, List.set_cons_zero, List.set_cons_succ, List.getElem_toArray, List.getElem_cons_succ, List.getElem_cons_zero]
                    refine wpAnyH_take (i := 3) (v := undef) rfl (by kernel_rfl) (by kernel_rfl) (by kernel_rfl) (fun _ _ _ h => h) (Or.inr ⟨by rfl, rfl⟩) hH ?_
                    try simp only [Act.put, List.setIfInBounds_toArray, List.set_cons_zero, List.set_cons_succ, List.getElem_toArray, List.getElem_cons_succ, List.getElem_cons_zero]
                    refine wpAnyH_take (i := 4) (v := undef) rfl (by kernel_rfl) (by kernel_rfl) (by kernel_rfl) (fun _ _ _ h => h) (Or.inr ⟨by rfl, rfl⟩) hH ?_
                    try simp only [Act.put, List.setIfInBounds_toArray, List.set_cons_zero, List.set_cons_succ, List.getElem_toArray, List.getElem_cons_succ, List.getElem_cons_zero]
                    refine wpAnyH_take (i := 5) (v := undef) rfl (by kernel_rfl) (by kernel_rfl) (by kernel_rfl) (fun _ _ _ h => h) (Or.inr ⟨by rfl, rfl⟩) hH ?_
                    try simp only [Act.put, List.setIfInBounds_toArray, List.set_cons_zero, List.set_cons_succ, List.getElem_toArray, List.getElem_cons_succ, List.getElem_cons_zero]
                    refine wpAnyH_take (i := 6) (v := undef) rfl (by kernel_rfl) (by kernel_rfl) (by kernel_rfl) (fun _ _ _ h => h) (Or.inr ⟨by rfl, rfl⟩) hH ?_
                    try simp only [Act.put, List.setIfInBounds_toArray, List.set_cons_zero, List.set_cons_succ, List.getElem_toArray, List.getElem_cons_succ, List.getElem_cons_zero]
                    refine wpAnyH_take (i := 7) (v := undef) rfl (by kernel_rfl) (by kernel_rfl) (by kernel_rfl) (fun _ _ _ h => h) (Or.inr ⟨by rfl, rfl⟩) hH ?_
                    try simp only [Act.put, List.setIfInBounds_toArray, List.set_cons_zero, List.set_cons_succ, List.getElem_toArray, List.getElem_cons_succ, List.getElem_cons_zero]
                    refine wpAnyH_take (i := 8) (v := undef) rfl (by kernel_rfl) (by kernel_rfl) (by kernel_rfl) (fun _ _ _ h => h) (Or.inr ⟨by rfl, rfl⟩) hH ?_
                    try simp only [Act.put, List.setIfInBounds_toArray, List.set_cons_zero, List.set_cons_succ, List.getElem_toArray, List.getElem_cons_succ, List.getElem_cons_zero]
                    refine wpAnyH_take (i := 9) (v := undef) rfl (by kernel_rfl) (by kernel_rfl) (by kernel_rfl) (fun _ _ _ h => h) (Or.inr ⟨by rfl, rfl⟩) hH ?_
                    try simp only [Act.put, List.setIfInBounds_toArray, List.set_cons_zero, List.set_cons_succ, List.getElem_toArray, List.getElem_cons_succ, List.getElem_cons_zero]
                    refine wpAnyH_take (i := 10) (v := .bool false) rfl (by kernel_rfl) (by kernel_rfl) (by kernel_rfl) (fun _ _ _ h => h) (Or.inl ⟨by rfl, fun w hSw => by go_simp⟩) hH ?_
                    try simp only [Act.put, List.setIfInBounds_toArray, List.set_cons_zero, List.set_cons_succ, List.getElem_toArray, List.getElem_cons_succ, List.getElem_cons_zero]
                    refine wpAnyH_done (by kernel_rfl) ?_ _
                    have HS2 : Hid (EvSt w b a len cap g cp L a7 s7 wr.drew) := HS.out.later (below_drew _)
                    have HE2 : Hid (wr.drew.heap[eb]? = some (.cells #[.int .i64 (s : Int), .int .i64 q, .int .i64 tm, .int .i64 kd, .string cd, .int .i64 0] 35 (0, 0))) := HE.out
                    clear HS HE hH
                    generalize wr.drew = wd at *
                    have HPut : Hid (ShI s tm2 (putE L p ⟨(s : Int), q, tm, kd, cd, 0⟩)) := HI.out.put HOne.out (by omega) HQs.out (by omega) hpl HAf.out HBe.out
                    have hput := putE_len (L := L) (p := p) ⟨(s : Int), q, tm, kd, cd, 0⟩ hpl
                    have hcp : L.length ≤ cp := row_cap HS2.out.row
                    clear HAf HBe HI HOne HQs
                    obtain ⟨o8, ho8⟩ : ∃ o8 : Nat, o8 = if cp = p then 0 else p * 6 := ⟨_, rfl⟩
                    have hof : (if cp = p then (some (⟨g, 0, none⟩ : Addr)) else some ⟨g, p * 6, none⟩) = some ⟨g, o8, none⟩ := by rw [ho8]; split <;> rfl
                    have hp1 : (p : Int) ≤ (L.length : Int) := by omega
                    have hp2 : (p : Int) ≤ (cp : Int) := by omega
                    obtain ⟨We, hWe⟩ : ∃ We, We = wd.alloc (Obj.cells #[] 35) := ⟨_, rfl⟩
                    have HWe : Hid (We = wd.alloc (Obj.cells #[] 35)) := hWe
                    have HRe : Hid (We.ownsRow wd.heap.size 35 6 (.slice (some ⟨wd.heap.size, 0, none⟩) 0 0) 0 []) := by rw [hWe]; exact row_empty wd _ (Nat.le_refl _)
                    have HSe : Hid (EvSt w b a len cap g cp L a7 s7 We) := by rw [hWe]; exact HS2.out.later (below_alloc _ _)
                    have HEe : Hid (We.heap[eb]? = some (.cells #[.int .i64 (s : Int), .int .i64 q, .int .i64 tm, .int .i64 kd, .string cd, .int .i64 0] 35 (0, 0))) := by rw [hWe]; exact ((below_alloc wd _).block eb (blkLt HE2.out)).trans HE2.out
                    have HNw : Hid (0 < L.length - p → ∃ ad, (some (⟨g, o8, none⟩ : Addr)) = some ad ∧ ∀ j u, (evCells (L.drop p))[j]? = some u → We.cell? (ad.add j) = some u) := fun h0 => ⟨_, rfl, by
                      have ho : o8 = p * 6 := by rw [ho8, if_neg (by omega)]
                      rw [ho]
                      refine row_part HSe.out.row (p * 6) _ (fun j u hj => ?_)
                      rw [← evCells_drop, List.getElem?_drop] at hj
                      exact hj⟩
                    have hgd : g < wd.heap.size ∧ eb < wd.heap.size := ⟨HS2.out.glt.2, blkLt HE2.out⟩
                    have hzW : wd.heap.size ≤ We.heap.size := by rw [hWe]; simp
                    clear hWe ho8 HS2 HE2
                    go_wp2_with (at_builtin; rw [← HWe.out]; refine wpList_append_any rfl _ _ 24 rfl wd.heap.size 35 i0 (.agg #[.int .i64 0, .int .i64 0, .int .i64 0, .int .i64 0, .string ⟨#[]⟩, .int .i64 0]) 6 56 Try.underlying24 hi hi0' hi1 hi2 rfl (by decide) _ _ _ rfl HRe.out (some ⟨g, o8, none⟩) (L.length - p) (cp - p) (evCells (L.drop p)) (by simp [Act.eval]) (by rw [evCells_len, List.length_drop]) HNw.out (evCells_one _) (by unfold maxLen; omega) (by omega) hzW ?_; intro va vc w5 hown hgr hat; have HR5 : Hid (w5.ownsRow wd.heap.size 35 6 (.slice va (0 + (L.length - p)) vc) (0 + (L.length - p)) ([] ++ evCells (L.drop p))) := hown; have HG5 : Hid (We.grownBy w5 (some wd.heap.size)) := hgr; clear hown hgr hat)
                    have hz5 : wd.heap.size < w5.heap.size := by
                      have h1 := HG5.out.size
                      have h2 : wd.heap.size < We.heap.size := blkLt (heapNew wd _ |> fun h => by rw [HWe.out]; exact h)
                      omega
                    have HS5 : Hid (EvSt w b a len cap g cp L a7 s7 w5) := by
                      have f := fr_grown HG5.out
                      refine ⟨row_of HSe.out.row (fun k hk => f.block k (row_lt HSe.out.row k hk).2 (fun e => ?_)), src_sameE HSe.out.src (f.block b HSe.out.blt (fun e => ?_)) f.size, HSe.out.low.grown HG5.out (Nat.le_of_lt HSe.out.blt) (fun q hq => ?_)⟩
                      · have h1 : g = k := by simpa [Value.ownBlock] using hk
                        have h2 : wd.heap.size = k := by simpa using e
                        omega
                      · have h2 : wd.heap.size = b := by simpa using e
                        have := HSe.out.glt
                        omega
                      · have h2 : wd.heap.size = q := by simpa using hq
                        have := HSe.out.glt
                        omega
                    have HE5 : Hid (w5.heap[eb]? = some (.cells #[.int .i64 (s : Int), .int .i64 q, .int .i64 tm, .int .i64 kd, .string cd, .int .i64 0] 35 (0, 0))) := ((fr_grown HG5.out).block eb (blkLt HEe.out) (fun e => by have h2 := Option.some.inj e; omega)).trans HEe.out
                    have HRs : Hid (w5.ownsRow wd.heap.size 35 6 (.slice va (L.length - p) vc) (L.length - p) (evCells (L.drop p))) := by have h := HR5.out; rw [Nat.zero_add, List.nil_append] at h; exact h
                    clear HRe HSe HEe HNw HR5 HG5 HWe hzW
                    have hvl : ∀ q, Value.ownBlock (.slice va (L.length - p) vc) = some q → wd.heap.size ≤ q ∧ q < w5.heap.size := fun q hq => row_lt HRs.out q hq
                    have HVl : Hid (∀ q, Value.ownBlock (.slice va (L.length - p) vc) = some q → wd.heap.size ≤ q ∧ q < w5.heap.size) := hvl
                    clear hvl
                    have HQ : Hid (∀ W, Fr (fun q => q = g) w5 W → W.heap[eb]? = some (.cells #[.int .i64 (s : Int), .int .i64 q, .int .i64 tm, .int .i64 kd, .string cd, .int .i64 0] 35 (0, 0))) := fun W hW => (hW.block eb (blkLt HE5.out) (fun e => hgE e.symm)).trans HE5.out
                    refine wp_region_held_drew (S := fun W' => Fr (fun q => q = g) w5 W') (by kernel_rfl) (Fr.of (below_drew _)) (fun hH => ?_)
                    refine wpAnyH_take (i := 0) (v := .slice (some ⟨g, 0, none⟩) L.length cp) rfl (by kernel_rfl) (by kernel_rfl) (by kernel_rfl) (fun _ _ _ h => h) (Or.inl ⟨by rfl, fun w hSw => by go_simp⟩) hH ?_
                    refine wpAnyH_take (i := 1) (v := .int .i64 (p : Int)) rfl (by kernel_rfl) (by kernel_rfl) (by kernel_rfl) (fun _ _ _ h => h) (Or.inl ⟨by rfl, fun w hSw => by go_simp⟩) hH ?_
                    try simp only [Act.put, List.setIfInBounds_toArray, List.set_cons_zero, List.set_cons_succ, List.getElem_toArray, List.getElem_cons_succ, List.getElem_cons_zero]
                    refine wpAnyH_take (i := 2) (v := .slice (some ⟨g, 0, none⟩) p cp) rfl (by kernel_rfl) (by kernel_rfl) (by kernel_rfl) (fun _ _ _ h => h) (Or.inl ⟨by rfl, fun w hSw => by go_simp⟩) hH ?_
                    try simp only [Act.put, List.setIfInBounds_toArray, List.set_cons_zero, List.set_cons_succ, List.getElem_toArray, List.getElem_cons_succ, List.getElem_cons_zero]
                    refine wpAnyH_take (i := 3) (v := .agg #[.int .i64 (s : Int), .int .i64 q, .int .i64 tm, .int .i64 kd, .string cd, .int .i64 0]) rfl (by kernel_rfl) (by kernel_rfl) (by kernel_rfl) (fun _ _ _ h => h) (Or.inl ⟨by rfl, fun w hSw => by have f := HQ.out w hSw; have f0 := blkCell f 0 _ rfl; have f1 := blkCell f 1 _ rfl; have f2 := blkCell f 2 _ rfl; have f3 := blkCell f 3 _ rfl; have f4 := blkCell f 4 _ rfl; have f5 := blkCell f 5 _ rfl; clear f; go_simp⟩) hH ?_
                    try simp only [Act.put, List.setIfInBounds_toArray, List.set_cons_zero, List.set_cons_succ, List.getElem_toArray, List.getElem_cons_succ, List.getElem_cons_zero]
                    refine wpAnyH_take (i := 6) (v := .slice va (L.length - p) vc) rfl (by kernel_rfl) (by kernel_rfl) (by kernel_rfl) (fun _ _ _ h => h) (Or.inl ⟨by rfl, fun w hSw => by go_simp⟩) hH ?_
                    try simp only [Act.put, List.setIfInBounds_toArray, List.set_cons_zero, List.set_cons_succ, List.getElem_toArray, List.getElem_cons_succ, List.getElem_cons_zero]
                    refine wpAnyH_ready (rs := [4]) (by kernel_rfl) (by simp) ?_
                    refine AllReadyH.cons rfl (fun K hK => ?_) AllReadyH.nil
                    go_simp
                    have h6 : Below w5.heap.size w5 (w5.alloc (Obj.cells #[.int .i64 (s : Int), .int .i64 q, .int .i64 tm, .int .i64 kd, .string cd, .int .i64 0] 35)).drew := chain (below_alloc _ _) (below_drew _)
                    have hb6 : (w5.alloc (Obj.cells #[.int .i64 (s : Int), .int .i64 q, .int .i64 tm, .int .i64 kd, .string cd, .int .i64 0] 35)).drew.heap[w5.heap.size]? = some (.cells #[.int .i64 (s : Int), .int .i64 q, .int .i64 tm, .int .i64 kd, .string cd, .int .i64 0] 35 (0, 0)) := heapNew w5 _
                    have hF6 : Fr (fun q => q = g) w5 (w5.alloc (Obj.cells #[.int .i64 (s : Int), .int .i64 q, .int .i64 tm, .int .i64 kd, .string cd, .int .i64 0] 35)).drew := Fr.of h6
                    refine hK.out _ _ hF6 (fun _ => ?_)
                    clear hK K
                    try simp only [Act.put, List.setIfInBounds_toArray, List.set_cons_zero, List.set_cons_succ, List.getElem_toArray, List.getElem_cons_succ, List.getElem_cons_zero]
                    generalize (w5.alloc (Obj.cells #[.int .i64 (s : Int), .int .i64 q, .int .i64 tm, .int .i64 kd, .string cd, .int .i64 0] 35)).drew = W6 at *
                    have HS6 : Hid (EvSt w b a len cap g cp L a7 s7 W6) := HS5.out.later h6
                    have HR6 : Hid (W6.ownsRow (b + 1) 35 6 (.slice (some ⟨g, 0, none⟩) p cp) p (evCells (L.take p))) := by rw [← evCells_take]; exact row_take HS6.out.row p hpl
                    have hB6 : b + 1 ≤ W6.heap.size := HS6.out.blt
                    refine wpAnyH_ready (rs := [5]) (by kernel_rfl) (by simp) ?_
                    refine AllReadyH.cons rfl (fun K hK => ?_) AllReadyH.nil
                    refine step_append_lies _ rfl (.tmp 92) (.tmp 94) 24 rfl (b + 1) 35 i0 (.agg #[.int .i64 0, .int .i64 0, .int .i64 0, .int .i64 0, .string ⟨#[]⟩, .int .i64 0]) 6 56 Try.underlying24 hi hi0' hi1 hi2 rfl (by decide) (.slice (some ⟨g, 0, none⟩) p cp) _ _ (by simp [Act.eval]) HR6.out ⟨w5.heap.size, 0, none⟩ 1 1 [.int .i64 (s : Int), .int .i64 q, .int .i64 tm, .int .i64 kd, .string cd, .int .i64 0] (by simp [Act.eval]) rfl (World.news_of_block hb6) (by simp [Value.oneCell']) (by omega) (by unfold maxLen; omega) (by omega) hB6 _ rfl (fun g1 cp1 w9 hown hgrow hat hglt => ?_)
                    have hS9 : Fr (fun q => q = g) w5 w9 := hF6.trans ((fr_grown hgrow).mono (fun q hq => own_g hq))
                    have HR9 : Hid (w9.ownsRow (b + 1) 35 6 (.slice (some ⟨g1, 0, none⟩) (p + 1) cp1) (p + 1) (evCells (L.take p) ++ [.int .i64 (s : Int), .int .i64 q, .int .i64 tm, .int .i64 kd, .string cd, .int .i64 0])) := hown
                    have HG1 : Hid (g1 = g ∨ w5.heap.size ≤ g1) := by
                      rcases hat with r | r
                      · exact .inl (own_g r)
                      · exact .inr (by have := h6.size; omega)
                    have HRs9 : Hid (w9.ownsRow wd.heap.size 35 6 (.slice va (L.length - p) vc) (L.length - p) (evCells (L.drop p))) := row_of HRs.out (fun q hq => hS9.block q (HVl.out q hq).2 (fun e => by have := (HVl.out q hq).1; omega))
                    have hB9 : b + 1 ≤ w9.heap.size := Nat.le_trans hB6 hgrow.size
                    clear hown hgrow hat hglt hb6 h6 HR6 HS6 hB6
                    refine hK.out _ _ hS9 (fun _ => ?_)
                    clear hK K
                    try simp only [Act.put, List.setIfInBounds_toArray, List.set_cons_zero, List.set_cons_succ, List.getElem_toArray, List.getElem_cons_succ, List.getElem_cons_zero]
                    refine wpAnyH_ready (rs := [7]) (by kernel_rfl) (by simp) ?_
                    refine AllReadyH.cons rfl (fun K hK => ?_) AllReadyH.nil
                    refine step_append_any rfl (.tmp 95) (.tmp 96) 24 rfl (b + 1) 35 i0 (.agg #[.int .i64 0, .int .i64 0, .int .i64 0, .int .i64 0, .string ⟨#[]⟩, .int .i64 0]) 6 56 Try.underlying24 hi hi0' hi1 hi2 rfl (by decide) (.slice (some ⟨g1, 0, none⟩) (p + 1) cp1) _ _ (by simp [Act.eval]) HR9.out va (L.length - p) vc (evCells (L.drop p)) (by simp [Act.eval]) (by rw [evCells_len, List.length_drop]) (row_news HRs9.out) (evCells_one _) (by unfold maxLen; omega) (by omega) hB9 (fun va2 vc2 w10 hown hgrow hat => ?_)
                    have hS10 : Fr (fun q => q = g) w5 w10 := by
                      refine Fr.drop (b := 0) (w := w5) (v := w5) (Below.refl _ _) ((hS9.mono (fun q hq => .inl hq)).trans ((fr_grown hgrow).mono (fun q hq => ?_)))
                      have h : g1 = q := by simpa [Value.ownBlock] using hq
                      rcases HG1.out with r | r
                      · exact .inl (by omega)
                      · exact .inr (by omega)
                    have HFin : Hid (∃ g2, (.slice va2 (p + 1 + (L.length - p)) vc2 : Value) = .slice (some ⟨g2, 0, none⟩) (putE L p ⟨(s : Int), q, tm, kd, cd, 0⟩).length vc2 ∧ EvSt w b a len cap g2 vc2 (putE L p ⟨(s : Int), q, tm, kd, cd, 0⟩) a7 s7 w10) := by
                      obtain ⟨g2, c2, hq2⟩ := row_some hown (by omega)
                      have hn : p + 1 + (L.length - p) = (putE L p ⟨(s : Int), q, tm, kd, cd, 0⟩).length := by rw [hput]; omega
                      have hc2 : c2 = vc2 := by simp only [Value.slice.injEq, true_and] at hq2; exact hq2.2.symm
                      subst hc2
                      have hcells : evCells (L.take p) ++ [.int .i64 (s : Int), .int .i64 q, .int .i64 tm, .int .i64 kd, .string cd, .int .i64 0] ++ evCells (L.drop p) = evCells (putE L p ⟨(s : Int), q, tm, kd, cd, 0⟩) := by
                        unfold putE
                        rw [evCells_append, evCells_cons, List.append_assoc]; rfl
                      refine ⟨g2, by rw [hq2, hn], ?_, src_sameE HS5.out.src (hS10.block b HS5.out.blt (fun e => by have := HS5.out.glt; omega)) hS10.size, Fr.below HS5.out.low hS10 (Nat.le_of_lt HS5.out.blt) (fun k hk => by have := HS5.out.glt; omega)⟩
                      rw [hcells, hq2, hn] at hown
                      exact hown
                    clear hown hgrow hat
                    refine hK.out _ _ hS10 (fun _ => ?_)
                    clear hK K
                    try simp only [Act.put, List.setIfInBounds_toArray, List.set_cons_zero, List.set_cons_succ, List.getElem_toArray, List.getElem_cons_succ, List.getElem_cons_zero]
                    refine wpAnyH_take (i := 8) (v := .slice va2 (p + 1 + (L.length - p)) vc2) rfl (by kernel_rfl) (by kernel_rfl) (by kernel_rfl) (fun _ _ _ h => h) (Or.inl ⟨by rfl, fun w hSw => by go_simp⟩) hS10 ?_
                    try simp only [Act.put, List.setIfInBounds_toArray, List.set_cons_zero, List.set_cons_succ, List.getElem_toArray, List.getElem_cons_succ, List.getElem_cons_zero]
                    refine wpAnyH_done (by kernel_rfl) ?_ _
                    clear hS10 hS9 hF6 hH HR9 HRs9 HRs HQ HVl HS5 HE5
                    have hwi : IntKind.i64.wrap (i - 1) = i - 1 := wrap_id _ (by omega) (by omega)
                    go_wp2
                    go_roundw
                    case rel =>
                      obtain ⟨g2, hv2, hst2⟩ := HFin.out
                      exact ⟨putE L p ⟨(s : Int), q, tm, kd, cd, 0⟩, i - 1, tm2, g2, vc2, a7, s7, hv2, by first | rfl | go_num, rfl, by omega, by rw [hput]; omega, by omega, by omega, by omega, HPut.out, hst2⟩
                    case measure => simp [intOf]; omega
                  · obtain ⟨q1, hq1e⟩ : ∃ q1, p = q1 + 1 := ⟨p - 1, by omega⟩
                    have HPv := evs_row HS.out.row q1 (by omega)
                    obtain ⟨pv, hpv⟩ : ∃ pv, L.getD q1 zEv = pv := ⟨_, rfl⟩
                    rw [hpv] at HPv
                    obtain ⟨p0, p1, p2, p3, p4, p5⟩ := pv
                    have HP : Hid (∀ W, Below wr.heap.size wr W → EvAt W g (0 + q1 * 6) ⟨p0, p1, p2, p3, p4, p5⟩) := fun W h => HPv.below h HS.out.glt.2
                    have HEE : Hid (∀ W, Below wr.heap.size wr W → W.heap[eb]? = some (.cells #[.int .i64 (s : Int), .int .i64 q, .int .i64 tm, .int .i64 kd, .string cd, .int .i64 0] 35 (0, 0))) := fun W h => (h.block eb (blkLt HE.out)).trans HE.out
                    have HAh : Hid (∀ W, Calls Try.prog 29 #[.agg #[.int .i64 (s : Int), .int .i64 q, .int .i64 tm, .int .i64 kd, .string cd, .int .i64 0], .agg #[.int .i64 p0, .int .i64 p1, .int .i64 p2, .int .i64 p3, .string p4, .int .i64 p5]] W fun e w' => e = .returned (.bool (evAh ⟨(s : Int), q, tm, kd, cd, 0⟩ ⟨p0, p1, p2, p3, p4, p5⟩)) ∧ Below W.heap.size W w') := fun W => evSAhead_any _ _ _ _ _ _ _ _ _ _ _ _ W
                    have HBe : Hid (evAh ⟨(s : Int), q, tm, kd, cd, 0⟩ ⟨p0, p1, p2, p3, p4, p5⟩ = false → 0 < p → evAh ⟨(s : Int), q, tm, kd, cd, 0⟩ (L.getD (p - 1) zEv) = false) := fun h _ => by rw [show p - 1 = q1 by omega, hpv]; exact h
                    have HAf2 : Hid (evAh ⟨(s : Int), q, tm, kd, cd, 0⟩ ⟨p0, p1, p2, p3, p4, p5⟩ = true → ∀ i, q1 ≤ i → i < L.length → evAh ⟨(s : Int), q, tm, kd, cd, 0⟩ (L.getD i zEv) = true) := fun h i h1 h2 => by
                      by_cases e : i = q1
                      · rw [e, hpv]; exact h
                      · exact HAf.out i (by omega) h2
                    have hkn : 0 < p := by omega
                    have hkq : IntKind.i64.wrap ((p : Int) - 1) = (q1 : Int) := by rw [show (p : Int) - 1 = (q1 : Int) by omega]; exact wrap_id _ (by omega) (by omega)
                    have hql : q1 < L.length := by omega
                    have hqp : q1 ≤ L.length := by omega
                    have HMs : Hid (q1 < p) := by show q1 < p; omega
                    clear hpv HPv hp0 hq1e
                    generalize evAh ⟨(s : Int), q, tm, kd, cd, 0⟩ ⟨p0, p1, p2, p3, p4, p5⟩ = ahb at *
                    cases ahb
                    all_goals
                      refine wp_region_held_drew (S := fun W' => Below wr.heap.size wr W') (by kernel_rfl) (below_drew _) (fun hH => ?_)
                      refine wpAnyH_take (i := 0) (v := .int .i64 (p : Int)) rfl (by kernel_rfl) (by kernel_rfl) (by kernel_rfl) (fun _ _ _ h => h) (Or.inl ⟨by rfl, fun w hSw => by go_simp⟩) hH ?_
                      refine wpAnyH_take (i := 1) (v := .bool true) rfl (by kernel_rfl) (by kernel_rfl) (by kernel_rfl) (fun _ _ _ h => h) (Or.inl ⟨by rfl, fun w hSw => by have f := hkn; go_simp⟩) hH ?_
                      try simp only [Act.put, List.setIfInBounds_toArray, List.set_cons_zero, List.set_cons_succ, List.getElem_toArray, List.getElem_cons_succ, List.getElem_cons_zero]
                      refine wpAnyH_take (i := 2) (v := .bool true) rfl (by kernel_rfl) (by kernel_rfl) (by kernel_rfl) (fun _ _ _ h => h) (Or.inl ⟨by rfl, fun w hSw => by go_simp⟩) hH ?_
                      try simp only [Act.put, List.setIfInBounds_toArray, List.set_cons_zero, List.set_cons_succ, List.getElem_toArray, List.getElem_cons_succ, List.getElem_cons_zero]
                      refine wpAnyH_take (i := 3) (v := .agg #[.int .i64 (s : Int), .int .i64 q, .int .i64 tm, .int .i64 kd, .string cd, .int .i64 0]) rfl (by kernel_rfl) (by kernel_rfl) (by kernel_rfl) (fun _ _ _ h => h) (Or.inl ⟨by rfl, fun w hSw => by have f := HEE.out w hSw; have f0 := blkCell f 0 _ rfl; have f1 := blkCell f 1 _ rfl; have f2 := blkCell f 2 _ rfl; have f3 := blkCell f 3 _ rfl; have f4 := blkCell f 4 _ rfl; have f5 := blkCell f 5 _ rfl; clear f; go_simp⟩) hH ?_
                      try simp only [Act.put, List.setIfInBounds_toArray, List.set_cons_zero, List.set_cons_succ, List.getElem_toArray, List.getElem_cons_succ, List.getElem_cons_zero]
                      refine wpAnyH_take (i := 4) (v := .slice (some ⟨g, 0, none⟩) L.length cp) rfl (by kernel_rfl) (by kernel_rfl) (by kernel_rfl) (fun _ _ _ h => h) (Or.inl ⟨by rfl, fun w hSw => by go_simp⟩) hH ?_
                      try simp only [Act.put, List.setIfInBounds_toArray, List.set_cons_zero, List.set_cons_succ, List.getElem_toArray, List.getElem_cons_succ, List.getElem_cons_zero]
                      refine wpAnyH_take (i := 5) (v := .int .i64 (p : Int)) rfl (by kernel_rfl) (by kernel_rfl) (by kernel_rfl) (fun _ _ _ h => h) (Or.inl ⟨by rfl, fun w hSw => by go_simp⟩) hH ?_
                      try simp only [Act.put, List.setIfInBounds_toArray, List.set_cons_zero, List.set_cons_succ, List.getElem_toArray, List.getElem_cons_succ, List.getElem_cons_zero]
                      refine wpAnyH_take (i := 6) (v := .int .i64 (q1 : Int)) rfl (by kernel_rfl) (by kernel_rfl) (by kernel_rfl) (fun _ _ _ h => h) (Or.inl ⟨by rfl, fun w hSw => by have f := hkq; go_simp⟩) hH ?_
                      try simp only [Act.put, List.setIfInBounds_toArray, List.set_cons_zero, List.set_cons_succ, List.getElem_toArray, List.getElem_cons_succ, List.getElem_cons_zero]
                      refine wpAnyH_take (i := 7) (v := .pointer (some ⟨g, q1 * 6, none⟩)) rfl (by kernel_rfl) (by kernel_rfl) (by kernel_rfl) (fun _ _ _ h => h) (Or.inl ⟨by rfl, fun w hSw => by have f := hql; go_simp⟩) hH ?_
                      try simp only [Act.put, List.setIfInBounds_toArray, List.set_cons_zero, List.set_cons_succ, List.getElem_toArray, List.getElem_cons_succ, List.getElem_cons_zero]
                      refine wpAnyH_take (i := 8) (v := .agg #[.int .i64 p0, .int .i64 p1, .int .i64 p2, .int .i64 p3, .string p4, .int .i64 p5]) rfl (by kernel_rfl) (by kernel_rfl) (by kernel_rfl) (fun _ _ _ h => h) (Or.inl ⟨by rfl, fun w hSw => by obtain ⟨f0, f1, f2, f3, f4, f5⟩ := HP.out w hSw; simp only [Nat.zero_add] at f0 f1 f2 f3 f4 f5; go_simp⟩) hH ?_
                      try simp only [Act.put, List.setIfInBounds_toArray, List.set_cons_zero, List.set_cons_succ, List.getElem_toArray, List.getElem_cons_succ, List.getElem_cons_zero]
                      refine wpAnyH_ready (rs := [9]) (by kernel_rfl) (by simp) ?_
                      refine AllReadyH.cons rfl (fun K hK => ?_) AllReadyH.nil
                      go_simp
                      go_at_call 29
                      refine (HAh.out _).mono ?_
                      rintro e w9 ⟨rfl, hb9⟩
                      have hw9 := chain hH hb9
                      clear hb9
                      refine hK.out _ _ hw9 (fun _ => ?_)
                      clear hK K
                      try simp only [Act.put, List.setIfInBounds_toArray, List.set_cons_zero, List.set_cons_succ, List.getElem_toArray, List.getElem_cons_succ, List.getElem_cons_zero]
                    · skip
                      refine wpAnyH_take (i := 10) (v := .bool false) rfl (by kernel_rfl) (by kernel_rfl) (by kernel_rfl) (fun _ _ _ h => h) (Or.inl ⟨by rfl, fun w hSw => by go_simp⟩) hw9 ?_
                      try simp only [Act.put, List.setIfInBounds_toArray, List.set_cons_zero, List.set_cons_succ, List.getElem_toArray, List.getElem_cons_succ, List.getElem_cons_zero]
                      refine wpAnyH_done (by kernel_rfl) ?_ _
                      have HS2 : Hid (EvSt w b a len cap g cp L a7 s7 w9) := HS.out.later hw9
                      have HE2 : Hid (w9.heap[eb]? = some (.cells #[.int .i64 (s : Int), .int .i64 q, .int .i64 tm, .int .i64 kd, .string cd, .int .i64 0] 35 (0, 0))) := HEE.out w9 hw9
                      have HBe2 : Hid (0 < p → evAh ⟨(s : Int), q, tm, kd, cd, 0⟩ (L.getD (p - 1) zEv) = false) := HBe.out rfl
                      clear HS HE hH hw9 HEE HP HAh HBe HAf2
                      have HBe := HBe2
                      clear HBe2
                      generalize w9 = wd at *
                      have HPut : Hid (ShI s tm2 (putE L p ⟨(s : Int), q, tm, kd, cd, 0⟩)) := HI.out.put HOne.out (by omega) HQs.out (by omega) hpl HAf.out HBe.out
                      have hput := putE_len (L := L) (p := p) ⟨(s : Int), q, tm, kd, cd, 0⟩ hpl
                      have hcp : L.length ≤ cp := row_cap HS2.out.row
                      clear HAf HBe HI HOne HQs
                      obtain ⟨o8, ho8⟩ : ∃ o8 : Nat, o8 = if cp = p then 0 else p * 6 := ⟨_, rfl⟩
                      have hof : (if cp = p then (some (⟨g, 0, none⟩ : Addr)) else some ⟨g, p * 6, none⟩) = some ⟨g, o8, none⟩ := by rw [ho8]; split <;> rfl
                      have hp1 : (p : Int) ≤ (L.length : Int) := by omega
                      have hp2 : (p : Int) ≤ (cp : Int) := by omega
                      obtain ⟨We, hWe⟩ : ∃ We, We = wd.alloc (Obj.cells #[] 35) := ⟨_, rfl⟩
                      have HWe : Hid (We = wd.alloc (Obj.cells #[] 35)) := hWe
                      have HRe : Hid (We.ownsRow wd.heap.size 35 6 (.slice (some ⟨wd.heap.size, 0, none⟩) 0 0) 0 []) := by rw [hWe]; exact row_empty wd _ (Nat.le_refl _)
                      have HSe : Hid (EvSt w b a len cap g cp L a7 s7 We) := by rw [hWe]; exact HS2.out.later (below_alloc _ _)
                      have HEe : Hid (We.heap[eb]? = some (.cells #[.int .i64 (s : Int), .int .i64 q, .int .i64 tm, .int .i64 kd, .string cd, .int .i64 0] 35 (0, 0))) := by rw [hWe]; exact ((below_alloc wd _).block eb (blkLt HE2.out)).trans HE2.out
                      have HNw : Hid (0 < L.length - p → ∃ ad, (some (⟨g, o8, none⟩ : Addr)) = some ad ∧ ∀ j u, (evCells (L.drop p))[j]? = some u → We.cell? (ad.add j) = some u) := fun h0 => ⟨_, rfl, by
                        have ho : o8 = p * 6 := by rw [ho8, if_neg (by omega)]
                        rw [ho]
                        refine row_part HSe.out.row (p * 6) _ (fun j u hj => ?_)
                        rw [← evCells_drop, List.getElem?_drop] at hj
                        exact hj⟩
                      have hgd : g < wd.heap.size ∧ eb < wd.heap.size := ⟨HS2.out.glt.2, blkLt HE2.out⟩
                      have hzW : wd.heap.size ≤ We.heap.size := by rw [hWe]; simp
                      clear hWe ho8 HS2 HE2
                      go_wp2_with (at_builtin; rw [← HWe.out]; refine wpList_append_any rfl _ _ 24 rfl wd.heap.size 35 i0 (.agg #[.int .i64 0, .int .i64 0, .int .i64 0, .int .i64 0, .string ⟨#[]⟩, .int .i64 0]) 6 56 Try.underlying24 hi hi0' hi1 hi2 rfl (by decide) _ _ _ rfl HRe.out (some ⟨g, o8, none⟩) (L.length - p) (cp - p) (evCells (L.drop p)) (by simp [Act.eval]) (by rw [evCells_len, List.length_drop]) HNw.out (evCells_one _) (by unfold maxLen; omega) (by omega) hzW ?_; intro va vc w5 hown hgr hat; have HR5 : Hid (w5.ownsRow wd.heap.size 35 6 (.slice va (0 + (L.length - p)) vc) (0 + (L.length - p)) ([] ++ evCells (L.drop p))) := hown; have HG5 : Hid (We.grownBy w5 (some wd.heap.size)) := hgr; clear hown hgr hat)
                      have hz5 : wd.heap.size < w5.heap.size := by
                        have h1 := HG5.out.size
                        have h2 : wd.heap.size < We.heap.size := blkLt (heapNew wd _ |> fun h => by rw [HWe.out]; exact h)
                        omega
                      have HS5 : Hid (EvSt w b a len cap g cp L a7 s7 w5) := by
                        have f := fr_grown HG5.out
                        refine ⟨row_of HSe.out.row (fun k hk => f.block k (row_lt HSe.out.row k hk).2 (fun e => ?_)), src_sameE HSe.out.src (f.block b HSe.out.blt (fun e => ?_)) f.size, HSe.out.low.grown HG5.out (Nat.le_of_lt HSe.out.blt) (fun q hq => ?_)⟩
                        · have h1 : g = k := by simpa [Value.ownBlock] using hk
                          have h2 : wd.heap.size = k := by simpa using e
                          omega
                        · have h2 : wd.heap.size = b := by simpa using e
                          have := HSe.out.glt
                          omega
                        · have h2 : wd.heap.size = q := by simpa using hq
                          have := HSe.out.glt
                          omega
                      have HE5 : Hid (w5.heap[eb]? = some (.cells #[.int .i64 (s : Int), .int .i64 q, .int .i64 tm, .int .i64 kd, .string cd, .int .i64 0] 35 (0, 0))) := ((fr_grown HG5.out).block eb (blkLt HEe.out) (fun e => by have h2 := Option.some.inj e; omega)).trans HEe.out
                      have HRs : Hid (w5.ownsRow wd.heap.size 35 6 (.slice va (L.length - p) vc) (L.length - p) (evCells (L.drop p))) := by have h := HR5.out; rw [Nat.zero_add, List.nil_append] at h; exact h
                      clear HRe HSe HEe HNw HR5 HG5 HWe hzW
                      have hvl : ∀ q, Value.ownBlock (.slice va (L.length - p) vc) = some q → wd.heap.size ≤ q ∧ q < w5.heap.size := fun q hq => row_lt HRs.out q hq
                      have HVl : Hid (∀ q, Value.ownBlock (.slice va (L.length - p) vc) = some q → wd.heap.size ≤ q ∧ q < w5.heap.size) := hvl
                      clear hvl
                      have HQ : Hid (∀ W, Fr (fun q => q = g) w5 W → W.heap[eb]? = some (.cells #[.int .i64 (s : Int), .int .i64 q, .int .i64 tm, .int .i64 kd, .string cd, .int .i64 0] 35 (0, 0))) := fun W hW => (hW.block eb (blkLt HE5.out) (fun e => hgE e.symm)).trans HE5.out
                      refine wp_region_held_drew (S := fun W' => Fr (fun q => q = g) w5 W') (by kernel_rfl) (Fr.of (below_drew _)) (fun hH => ?_)
                      refine wpAnyH_take (i := 0) (v := .slice (some ⟨g, 0, none⟩) L.length cp) rfl (by kernel_rfl) (by kernel_rfl) (by kernel_rfl) (fun _ _ _ h => h) (Or.inl ⟨by rfl, fun w hSw => by go_simp⟩) hH ?_
                      refine wpAnyH_take (i := 1) (v := .int .i64 (p : Int)) rfl (by kernel_rfl) (by kernel_rfl) (by kernel_rfl) (fun _ _ _ h => h) (Or.inl ⟨by rfl, fun w hSw => by go_simp⟩) hH ?_
                      try simp only [Act.put, List.setIfInBounds_toArray, List.set_cons_zero, List.set_cons_succ, List.getElem_toArray, List.getElem_cons_succ, List.getElem_cons_zero]
                      refine wpAnyH_take (i := 2) (v := .slice (some ⟨g, 0, none⟩) p cp) rfl (by kernel_rfl) (by kernel_rfl) (by kernel_rfl) (fun _ _ _ h => h) (Or.inl ⟨by rfl, fun w hSw => by go_simp⟩) hH ?_
                      try simp only [Act.put, List.setIfInBounds_toArray, List.set_cons_zero, List.set_cons_succ, List.getElem_toArray, List.getElem_cons_succ, List.getElem_cons_zero]
                      refine wpAnyH_take (i := 3) (v := .agg #[.int .i64 (s : Int), .int .i64 q, .int .i64 tm, .int .i64 kd, .string cd, .int .i64 0]) rfl (by kernel_rfl) (by kernel_rfl) (by kernel_rfl) (fun _ _ _ h => h) (Or.inl ⟨by rfl, fun w hSw => by have f := HQ.out w hSw; have f0 := blkCell f 0 _ rfl; have f1 := blkCell f 1 _ rfl; have f2 := blkCell f 2 _ rfl; have f3 := blkCell f 3 _ rfl; have f4 := blkCell f 4 _ rfl; have f5 := blkCell f 5 _ rfl; clear f; go_simp⟩) hH ?_
                      try simp only [Act.put, List.setIfInBounds_toArray, List.set_cons_zero, List.set_cons_succ, List.getElem_toArray, List.getElem_cons_succ, List.getElem_cons_zero]
                      refine wpAnyH_take (i := 6) (v := .slice va (L.length - p) vc) rfl (by kernel_rfl) (by kernel_rfl) (by kernel_rfl) (fun _ _ _ h => h) (Or.inl ⟨by rfl, fun w hSw => by go_simp⟩) hH ?_
                      try simp only [Act.put, List.setIfInBounds_toArray, List.set_cons_zero, List.set_cons_succ, List.getElem_toArray, List.getElem_cons_succ, List.getElem_cons_zero]
                      refine wpAnyH_ready (rs := [4]) (by kernel_rfl) (by simp) ?_
                      refine AllReadyH.cons rfl (fun K hK => ?_) AllReadyH.nil
                      go_simp
                      have h6 : Below w5.heap.size w5 (w5.alloc (Obj.cells #[.int .i64 (s : Int), .int .i64 q, .int .i64 tm, .int .i64 kd, .string cd, .int .i64 0] 35)).drew := chain (below_alloc _ _) (below_drew _)
                      have hb6 : (w5.alloc (Obj.cells #[.int .i64 (s : Int), .int .i64 q, .int .i64 tm, .int .i64 kd, .string cd, .int .i64 0] 35)).drew.heap[w5.heap.size]? = some (.cells #[.int .i64 (s : Int), .int .i64 q, .int .i64 tm, .int .i64 kd, .string cd, .int .i64 0] 35 (0, 0)) := heapNew w5 _
                      have hF6 : Fr (fun q => q = g) w5 (w5.alloc (Obj.cells #[.int .i64 (s : Int), .int .i64 q, .int .i64 tm, .int .i64 kd, .string cd, .int .i64 0] 35)).drew := Fr.of h6
                      refine hK.out _ _ hF6 (fun _ => ?_)
                      clear hK K
                      try simp only [Act.put, List.setIfInBounds_toArray, List.set_cons_zero, List.set_cons_succ, List.getElem_toArray, List.getElem_cons_succ, List.getElem_cons_zero]
                      generalize (w5.alloc (Obj.cells #[.int .i64 (s : Int), .int .i64 q, .int .i64 tm, .int .i64 kd, .string cd, .int .i64 0] 35)).drew = W6 at *
                      have HS6 : Hid (EvSt w b a len cap g cp L a7 s7 W6) := HS5.out.later h6
                      have HR6 : Hid (W6.ownsRow (b + 1) 35 6 (.slice (some ⟨g, 0, none⟩) p cp) p (evCells (L.take p))) := by rw [← evCells_take]; exact row_take HS6.out.row p hpl
                      have hB6 : b + 1 ≤ W6.heap.size := HS6.out.blt
                      refine wpAnyH_ready (rs := [5]) (by kernel_rfl) (by simp) ?_
                      refine AllReadyH.cons rfl (fun K hK => ?_) AllReadyH.nil
                      refine step_append_lies _ rfl (.tmp 92) (.tmp 94) 24 rfl (b + 1) 35 i0 (.agg #[.int .i64 0, .int .i64 0, .int .i64 0, .int .i64 0, .string ⟨#[]⟩, .int .i64 0]) 6 56 Try.underlying24 hi hi0' hi1 hi2 rfl (by decide) (.slice (some ⟨g, 0, none⟩) p cp) _ _ (by simp [Act.eval]) HR6.out ⟨w5.heap.size, 0, none⟩ 1 1 [.int .i64 (s : Int), .int .i64 q, .int .i64 tm, .int .i64 kd, .string cd, .int .i64 0] (by simp [Act.eval]) rfl (World.news_of_block hb6) (by simp [Value.oneCell']) (by omega) (by unfold maxLen; omega) (by omega) hB6 _ rfl (fun g1 cp1 w9 hown hgrow hat hglt => ?_)
                      have hS9 : Fr (fun q => q = g) w5 w9 := hF6.trans ((fr_grown hgrow).mono (fun q hq => own_g hq))
                      have HR9 : Hid (w9.ownsRow (b + 1) 35 6 (.slice (some ⟨g1, 0, none⟩) (p + 1) cp1) (p + 1) (evCells (L.take p) ++ [.int .i64 (s : Int), .int .i64 q, .int .i64 tm, .int .i64 kd, .string cd, .int .i64 0])) := hown
                      have HG1 : Hid (g1 = g ∨ w5.heap.size ≤ g1) := by
                        rcases hat with r | r
                        · exact .inl (own_g r)
                        · exact .inr (by have := h6.size; omega)
                      have HRs9 : Hid (w9.ownsRow wd.heap.size 35 6 (.slice va (L.length - p) vc) (L.length - p) (evCells (L.drop p))) := row_of HRs.out (fun q hq => hS9.block q (HVl.out q hq).2 (fun e => by have := (HVl.out q hq).1; omega))
                      have hB9 : b + 1 ≤ w9.heap.size := Nat.le_trans hB6 hgrow.size
                      clear hown hgrow hat hglt hb6 h6 HR6 HS6 hB6
                      refine hK.out _ _ hS9 (fun _ => ?_)
                      clear hK K
                      try simp only [Act.put, List.setIfInBounds_toArray, List.set_cons_zero, List.set_cons_succ, List.getElem_toArray, List.getElem_cons_succ, List.getElem_cons_zero]
                      refine wpAnyH_ready (rs := [7]) (by kernel_rfl) (by simp) ?_
                      refine AllReadyH.cons rfl (fun K hK => ?_) AllReadyH.nil
                      refine step_append_any rfl (.tmp 95) (.tmp 96) 24 rfl (b + 1) 35 i0 (.agg #[.int .i64 0, .int .i64 0, .int .i64 0, .int .i64 0, .string ⟨#[]⟩, .int .i64 0]) 6 56 Try.underlying24 hi hi0' hi1 hi2 rfl (by decide) (.slice (some ⟨g1, 0, none⟩) (p + 1) cp1) _ _ (by simp [Act.eval]) HR9.out va (L.length - p) vc (evCells (L.drop p)) (by simp [Act.eval]) (by rw [evCells_len, List.length_drop]) (row_news HRs9.out) (evCells_one _) (by unfold maxLen; omega) (by omega) hB9 (fun va2 vc2 w10 hown hgrow hat => ?_)
                      have hS10 : Fr (fun q => q = g) w5 w10 := by
                        refine Fr.drop (b := 0) (w := w5) (v := w5) (Below.refl _ _) ((hS9.mono (fun q hq => .inl hq)).trans ((fr_grown hgrow).mono (fun q hq => ?_)))
                        have h : g1 = q := by simpa [Value.ownBlock] using hq
                        rcases HG1.out with r | r
                        · exact .inl (by omega)
                        · exact .inr (by omega)
                      have HFin : Hid (∃ g2, (.slice va2 (p + 1 + (L.length - p)) vc2 : Value) = .slice (some ⟨g2, 0, none⟩) (putE L p ⟨(s : Int), q, tm, kd, cd, 0⟩).length vc2 ∧ EvSt w b a len cap g2 vc2 (putE L p ⟨(s : Int), q, tm, kd, cd, 0⟩) a7 s7 w10) := by
                        obtain ⟨g2, c2, hq2⟩ := row_some hown (by omega)
                        have hn : p + 1 + (L.length - p) = (putE L p ⟨(s : Int), q, tm, kd, cd, 0⟩).length := by rw [hput]; omega
                        have hc2 : c2 = vc2 := by simp only [Value.slice.injEq, true_and] at hq2; exact hq2.2.symm
                        subst hc2
                        have hcells : evCells (L.take p) ++ [.int .i64 (s : Int), .int .i64 q, .int .i64 tm, .int .i64 kd, .string cd, .int .i64 0] ++ evCells (L.drop p) = evCells (putE L p ⟨(s : Int), q, tm, kd, cd, 0⟩) := by
                          unfold putE
                          rw [evCells_append, evCells_cons, List.append_assoc]; rfl
                        refine ⟨g2, by rw [hq2, hn], ?_, src_sameE HS5.out.src (hS10.block b HS5.out.blt (fun e => by have := HS5.out.glt; omega)) hS10.size, Fr.below HS5.out.low hS10 (Nat.le_of_lt HS5.out.blt) (fun k hk => by have := HS5.out.glt; omega)⟩
                        rw [hcells, hq2, hn] at hown
                        exact hown
                      clear hown hgrow hat
                      refine hK.out _ _ hS10 (fun _ => ?_)
                      clear hK K
                      try simp only [Act.put, List.setIfInBounds_toArray, List.set_cons_zero, List.set_cons_succ, List.getElem_toArray, List.getElem_cons_succ, List.getElem_cons_zero]
                      refine wpAnyH_take (i := 8) (v := .slice va2 (p + 1 + (L.length - p)) vc2) rfl (by kernel_rfl) (by kernel_rfl) (by kernel_rfl) (fun _ _ _ h => h) (Or.inl ⟨by rfl, fun w hSw => by go_simp⟩) hS10 ?_
                      try simp only [Act.put, List.setIfInBounds_toArray, List.set_cons_zero, List.set_cons_succ, List.getElem_toArray, List.getElem_cons_succ, List.getElem_cons_zero]
                      refine wpAnyH_done (by kernel_rfl) ?_ _
                      clear hS10 hS9 hF6 hH HR9 HRs9 HRs HQ HVl HS5 HE5
                      have hwi : IntKind.i64.wrap (i - 1) = i - 1 := wrap_id _ (by omega) (by omega)
                      go_wp2
                      go_roundw
                      case rel =>
                        obtain ⟨g2, hv2, hst2⟩ := HFin.out
                        exact ⟨putE L p ⟨(s : Int), q, tm, kd, cd, 0⟩, i - 1, tm2, g2, vc2, a7, s7, hv2, by first | rfl | go_num, rfl, by omega, by rw [hput]; omega, by omega, by omega, by omega, HPut.out, hst2⟩
                      case measure => simp [intOf]; omega
                    · skip
                      refine wpAnyH_take (i := 10) (v := .bool true) rfl (by kernel_rfl) (by kernel_rfl) (by kernel_rfl) (fun _ _ _ h => h) (Or.inl ⟨by rfl, fun w hSw => by go_simp⟩) hw9 ?_
                      try simp only [Act.put, List.setIfInBounds_toArray, List.set_cons_zero, List.set_cons_succ, List.getElem_toArray, List.getElem_cons_succ, List.getElem_cons_zero]
                      refine wpAnyH_done (by kernel_rfl) ?_ _
                      have HS2 : Hid (EvSt w b a len cap g cp L a7 s7 w9) := HS.out.later hw9
                      have HE2 : Hid (w9.heap[eb]? = some (.cells #[.int .i64 (s : Int), .int .i64 q, .int .i64 tm, .int .i64 kd, .string cd, .int .i64 0] 35 (0, 0))) := HEE.out w9 hw9
                      have HAf3 : Hid (∀ i, q1 ≤ i → i < L.length → evAh ⟨(s : Int), q, tm, kd, cd, 0⟩ (L.getD i zEv) = true) := HAf2.out rfl
                      clear HS HE hH hw9 HEE HP HAh HBe HAf2 HAf
                      go_wp2
                      go_roundw
                      case rel => exact ⟨q1, hqp, by go_num, HAf3.out, HS2.out, HE2.out⟩
                      case measure => have := HMs.out; simp [intOf]; omega
              · have hkb : (kd == 3) = false := by simpa using hk
                obtain ⟨W6, hW6⟩ : ∃ W6, W6 = w5.alloc (Obj.cells #[.int .i64 (s : Int), .int .i64 q, .int .i64 tm, .int .i64 kd, .string cd, .int .i64 am0] 35) := ⟨_, rfl⟩
                have HW6 : Hid (W6 = w5.alloc (Obj.cells #[.int .i64 (s : Int), .int .i64 q, .int .i64 tm, .int .i64 kd, .string cd, .int .i64 am0] 35)) := hW6
                have H6 : Hid (EvSt w b a len cap g cp L a5 s5 W6) := by rw [hW6]; exact H5.out.later (below_alloc _ _)
                have HE6 : Hid (W6.heap[w5.heap.size]? = some (.cells #[.int .i64 (s : Int), .int .i64 q, .int .i64 tm, .int .i64 kd, .string cd, .int .i64 am0] 35 (0, 0))) := by rw [hW6]; exact heapNew _ _
                have HOne : Hid (evOne ⟨(s : Int), q, tm, kd, cd, am0⟩ = true) := ev_right _ _ _ _ _ _ (by omega) (by omega) (by omega) (by omega) HNm.out (.inr ⟨hk, by omega, by omega⟩)
                clear hW6 H5 hk
                go_wp2_with fail
                (first | go_at_call 46 | skip)
                rw [← HW6.out]
                refine (HNx.out W6 4 a5 s5 H6.out.low H6.out.src (by omega) (by omega)).mono ?_
                rintro e w7 ⟨x7, a7, s7, rfl, ⟨hx70, hx71⟩, ha7, hb7, hs7, hb7', hf7⟩
                have H7 : Hid (EvSt w b a len cap g cp L a7 s7 w7) := H6.out.draw hf7 hb7' hs7
                have hneE : w5.heap.size ≠ b := by omega
                have HE7 : Hid (w7.heap[w5.heap.size]? = some (.cells #[.int .i64 (s : Int), .int .i64 q, .int .i64 tm, .int .i64 kd, .string cd, .int .i64 am0] 35 (0, 0))) := (hf7 w5.heap.size hneE).trans HE6.out
                obtain ⟨tm2, htm2⟩ : ∃ tm2, tm2 = tm + x7 := ⟨_, rfl⟩
                have hwt : wrap64 (tm + x7) = tm2 := by unfold wrap64; omega
                have hwt' : IntKind.i64.wrap (tm + x7) = tm2 := by rw [htm2]; exact wrap_id _ (by omega) (by omega)
                have ht1 : tm ≤ tm2 := by omega
                have ht2 : tm2 ≤ tm + 3 := by omega
                have hgE : g ≠ w5.heap.size := by omega
                clear hs7 hb7' hf7 H6 HE6 HW6 htm2
                generalize w5.heap.size = eb at *
                go_wp2
                go_loopw [10] (fun c wq => ∃ (p : Nat), p ≤ L.length ∧ c = .int .i64 (p : Int) ∧ (∀ i, p ≤ i → i < L.length → evAh ⟨(s : Int), q, tm, kd, cd, am0⟩ (L.getD i zEv) = true) ∧ EvSt w b a len cap g cp L a7 s7 wq ∧ wq.heap[eb]? = some (.cells #[.int .i64 (s : Int), .int .i64 q, .int .i64 tm, .int .i64 kd, .string cd, .int .i64 am0] 35 (0, 0))) (fun c _ => (intOf c).toNat)
                case atStart => exact ⟨L.length, Nat.le_refl _, rfl, fun i h1 h2 => by omega, H7.out, HE7.out⟩
                case round =>
                  clear H7 HE7
                  obtain ⟨p, hpl, rfl, haf, hst, hE⟩ := hrel
                  have HAf : Hid (∀ i, p ≤ i → i < L.length → evAh ⟨(s : Int), q, tm, kd, cd, am0⟩ (L.getD i zEv) = true) := haf
                  have HS : Hid (EvSt w b a len cap g cp L a7 s7 wr) := hst
                  have HE : Hid (wr.heap[eb]? = some (.cells #[.int .i64 (s : Int), .int .i64 q, .int .i64 tm, .int .i64 kd, .string cd, .int .i64 am0] 35 (0, 0))) := hE
                  clear haf hst hE
                  go_wp2_with fail
                  by_cases hp0 : p = 0
                  · have HBe : Hid (0 < p → evAh ⟨(s : Int), q, tm, kd, cd, am0⟩ (L.getD (p - 1) zEv) = false) := fun h => by omega
                    have HK0 : Hid (p = 0) := hp0
                    clear hp0
                    refine wp_region_held_drew (S := fun W' => Below wr.heap.size wr W') (by kernel_rfl) (below_drew _) (fun hH => ?_)
                    refine wpAnyH_take (i := 0) (v := .int .i64 (p : Int)) rfl (by kernel_rfl) (by kernel_rfl) (by kernel_rfl) (fun _ _ _ h => h) (Or.inl ⟨by rfl, fun w hSw => by go_simp⟩) hH ?_
                    refine wpAnyH_take (i := 1) (v := .bool false) rfl (by kernel_rfl) (by kernel_rfl) (by kernel_rfl) (fun _ _ _ h => h) (Or.inl ⟨by rfl, fun w hSw => by have f := HK0.out; go_simp⟩) hH ?_
                    try simp only [Act.put, List.setIfInBounds_toArray, List.set_cons_zero, List.set_cons_succ, List.getElem_toArray, List.getElem_cons_succ, List.getElem_cons_zero]
                    refine wpAnyH_take (i := 2) (v := .bool false) rfl (by kernel_rfl) (by kernel_rfl) (by kernel_rfl) (fun _ _ _ h => h) (Or.inl ⟨by rfl, fun w hSw => by go_simp⟩) hH ?_
                    try simp only [Act.put, List.setIfInBounds_toArray, List.set_cons_zero, List.set_cons_succ, List.getElem_toArray, List.getElem_cons_succ, List.getElem_cons_zero]
                    refine wpAnyH_take (i := 3) (v := undef) rfl (by kernel_rfl) (by kernel_rfl) (by kernel_rfl) (fun _ _ _ h => h) (Or.inr ⟨by rfl, rfl⟩) hH ?_
                    try simp only [Act.put, List.setIfInBounds_toArray, List.set_cons_zero, List.set_cons_succ, List.getElem_toArray, List.getElem_cons_succ, List.getElem_cons_zero]
                    refine wpAnyH_take (i := 4) (v := undef) rfl (by kernel_rfl) (by kernel_rfl) (by kernel_rfl) (fun _ _ _ h => h) (Or.inr ⟨by rfl, rfl⟩) hH ?_
                    try simp only [Act.put, List.setIfInBounds_toArray, List.set_cons_zero, List.set_cons_succ, List.getElem_toArray, List.getElem_cons_succ, List.getElem_cons_zero]
                    refine wpAnyH_take (i := 5) (v := undef) rfl (by kernel_rfl) (by kernel_rfl) (by kernel_rfl) (fun _ _ _ h => h) (Or.inr ⟨by rfl, rfl⟩) hH ?_
                    try simp only [Act.put, List.setIfInBounds_toArray, List.set_cons_zero, List.set_cons_succ, List.getElem_toArray, List.getElem_cons_succ, List.getElem_cons_zero]
                    refine wpAnyH_take (i := 6) (v := undef) rfl (by kernel_rfl) (by kernel_rfl) (by kernel_rfl) (fun _ _ _ h => h) (Or.inr ⟨by rfl, rfl⟩) hH ?_
                    try simp only [Act.put, List.setIfInBounds_toArray, List.set_cons_zero, List.set_cons_succ, List.getElem_toArray, List.getElem_cons_succ, List.getElem_cons_zero]
                    refine wpAnyH_take (i := 7) (v := undef) rfl (by kernel_rfl) (by kernel_rfl) (by kernel_rfl) (fun _ _ _ h => h) (Or.inr ⟨by rfl, rfl⟩) hH ?_
                    try simp only [Act.put, List.setIfInBounds_toArray, List.set_cons_zero, List.set_cons_succ, List.getElem_toArray, List.getElem_cons_succ, List.getElem_cons_zero]
                    refine wpAnyH_take (i := 8) (v := undef) rfl (by kernel_rfl) (by kernel_rfl) (by kernel_rfl) (fun _ _ _ h => h) (Or.inr ⟨by rfl, rfl⟩) hH ?_
                    try simp only [Act.put, List.setIfInBounds_toArray, List.set_cons_zero, List.set_cons_succ, List.getElem_toArray, List.getElem_cons_succ, List.getElem_cons_zero]
                    refine wpAnyH_take (i := 9) (v := undef) rfl (by kernel_rfl) (by kernel_rfl) (by kernel_rfl) (fun _ _ _ h => h) (Or.inr ⟨by rfl, rfl⟩) hH ?_
                    try simp only [Act.put, List.setIfInBounds_toArray, List.set_cons_zero, List.set_cons_succ, List.getElem_toArray, List.getElem_cons_succ, List.getElem_cons_zero]
                    refine wpAnyH_take (i := 10) (v := .bool false) rfl (by kernel_rfl) (by kernel_rfl) (by kernel_rfl) (fun _ _ _ h => h) (Or.inl ⟨by rfl, fun w hSw => by go_simp⟩) hH ?_
                    try simp only [Act.put, List.setIfInBounds_toArray, List.set_cons_zero, List.set_cons_succ, List.getElem_toArray, List.getElem_cons_succ, List.getElem_cons_zero]
                    refine wpAnyH_done (by kernel_rfl) ?_ _
                    have HS2 : Hid (EvSt w b a len cap g cp L a7 s7 wr.drew) := HS.out.later (below_drew _)
                    have HE2 : Hid (wr.drew.heap[eb]? = some (.cells #[.int .i64 (s : Int), .int .i64 q, .int .i64 tm, .int .i64 kd, .string cd, .int .i64 am0] 35 (0, 0))) := HE.out
                    clear HS HE hH
                    generalize wr.drew = wd at *
                    have HPut : Hid (ShI s tm2 (putE L p ⟨(s : Int), q, tm, kd, cd, am0⟩)) := HI.out.put HOne.out (by omega) HQs.out (by omega) hpl HAf.out HBe.out
                    have hput := putE_len (L := L) (p := p) ⟨(s : Int), q, tm, kd, cd, am0⟩ hpl
                    have hcp : L.length ≤ cp := row_cap HS2.out.row
                    clear HAf HBe HI HOne HQs
                    obtain ⟨o8, ho8⟩ : ∃ o8 : Nat, o8 = if cp = p then 0 else p * 6 := ⟨_, rfl⟩
                    have hof : (if cp = p then (some (⟨g, 0, none⟩ : Addr)) else some ⟨g, p * 6, none⟩) = some ⟨g, o8, none⟩ := by rw [ho8]; split <;> rfl
                    have hp1 : (p : Int) ≤ (L.length : Int) := by omega
                    have hp2 : (p : Int) ≤ (cp : Int) := by omega
                    obtain ⟨We, hWe⟩ : ∃ We, We = wd.alloc (Obj.cells #[] 35) := ⟨_, rfl⟩
                    have HWe : Hid (We = wd.alloc (Obj.cells #[] 35)) := hWe
                    have HRe : Hid (We.ownsRow wd.heap.size 35 6 (.slice (some ⟨wd.heap.size, 0, none⟩) 0 0) 0 []) := by rw [hWe]; exact row_empty wd _ (Nat.le_refl _)
                    have HSe : Hid (EvSt w b a len cap g cp L a7 s7 We) := by rw [hWe]; exact HS2.out.later (below_alloc _ _)
                    have HEe : Hid (We.heap[eb]? = some (.cells #[.int .i64 (s : Int), .int .i64 q, .int .i64 tm, .int .i64 kd, .string cd, .int .i64 am0] 35 (0, 0))) := by rw [hWe]; exact ((below_alloc wd _).block eb (blkLt HE2.out)).trans HE2.out
                    have HNw : Hid (0 < L.length - p → ∃ ad, (some (⟨g, o8, none⟩ : Addr)) = some ad ∧ ∀ j u, (evCells (L.drop p))[j]? = some u → We.cell? (ad.add j) = some u) := fun h0 => ⟨_, rfl, by
                      have ho : o8 = p * 6 := by rw [ho8, if_neg (by omega)]
                      rw [ho]
                      refine row_part HSe.out.row (p * 6) _ (fun j u hj => ?_)
                      rw [← evCells_drop, List.getElem?_drop] at hj
                      exact hj⟩
                    have hgd : g < wd.heap.size ∧ eb < wd.heap.size := ⟨HS2.out.glt.2, blkLt HE2.out⟩
                    have hzW : wd.heap.size ≤ We.heap.size := by rw [hWe]; simp
                    clear hWe ho8 HS2 HE2
                    go_wp2_with (at_builtin; rw [← HWe.out]; refine wpList_append_any rfl _ _ 24 rfl wd.heap.size 35 i0 (.agg #[.int .i64 0, .int .i64 0, .int .i64 0, .int .i64 0, .string ⟨#[]⟩, .int .i64 0]) 6 56 Try.underlying24 hi hi0' hi1 hi2 rfl (by decide) _ _ _ rfl HRe.out (some ⟨g, o8, none⟩) (L.length - p) (cp - p) (evCells (L.drop p)) (by simp [Act.eval]) (by rw [evCells_len, List.length_drop]) HNw.out (evCells_one _) (by unfold maxLen; omega) (by omega) hzW ?_; intro va vc w5 hown hgr hat; have HR5 : Hid (w5.ownsRow wd.heap.size 35 6 (.slice va (0 + (L.length - p)) vc) (0 + (L.length - p)) ([] ++ evCells (L.drop p))) := hown; have HG5 : Hid (We.grownBy w5 (some wd.heap.size)) := hgr; clear hown hgr hat)
                    have hz5 : wd.heap.size < w5.heap.size := by
                      have h1 := HG5.out.size
                      have h2 : wd.heap.size < We.heap.size := blkLt (heapNew wd _ |> fun h => by rw [HWe.out]; exact h)
                      omega
                    have HS5 : Hid (EvSt w b a len cap g cp L a7 s7 w5) := by
                      have f := fr_grown HG5.out
                      refine ⟨row_of HSe.out.row (fun k hk => f.block k (row_lt HSe.out.row k hk).2 (fun e => ?_)), src_sameE HSe.out.src (f.block b HSe.out.blt (fun e => ?_)) f.size, HSe.out.low.grown HG5.out (Nat.le_of_lt HSe.out.blt) (fun q hq => ?_)⟩
                      · have h1 : g = k := by simpa [Value.ownBlock] using hk
                        have h2 : wd.heap.size = k := by simpa using e
                        omega
                      · have h2 : wd.heap.size = b := by simpa using e
                        have := HSe.out.glt
                        omega
                      · have h2 : wd.heap.size = q := by simpa using hq
                        have := HSe.out.glt
                        omega
                    have HE5 : Hid (w5.heap[eb]? = some (.cells #[.int .i64 (s : Int), .int .i64 q, .int .i64 tm, .int .i64 kd, .string cd, .int .i64 am0] 35 (0, 0))) := ((fr_grown HG5.out).block eb (blkLt HEe.out) (fun e => by have h2 := Option.some.inj e; omega)).trans HEe.out
                    have HRs : Hid (w5.ownsRow wd.heap.size 35 6 (.slice va (L.length - p) vc) (L.length - p) (evCells (L.drop p))) := by have h := HR5.out; rw [Nat.zero_add, List.nil_append] at h; exact h
                    clear HRe HSe HEe HNw HR5 HG5 HWe hzW
                    have hvl : ∀ q, Value.ownBlock (.slice va (L.length - p) vc) = some q → wd.heap.size ≤ q ∧ q < w5.heap.size := fun q hq => row_lt HRs.out q hq
                    have HVl : Hid (∀ q, Value.ownBlock (.slice va (L.length - p) vc) = some q → wd.heap.size ≤ q ∧ q < w5.heap.size) := hvl
                    clear hvl
                    have HQ : Hid (∀ W, Fr (fun q => q = g) w5 W → W.heap[eb]? = some (.cells #[.int .i64 (s : Int), .int .i64 q, .int .i64 tm, .int .i64 kd, .string cd, .int .i64 am0] 35 (0, 0))) := fun W hW => (hW.block eb (blkLt HE5.out) (fun e => hgE e.symm)).trans HE5.out
                    refine wp_region_held_drew (S := fun W' => Fr (fun q => q = g) w5 W') (by kernel_rfl) (Fr.of (below_drew _)) (fun hH => ?_)
                    refine wpAnyH_take (i := 0) (v := .slice (some ⟨g, 0, none⟩) L.length cp) rfl (by kernel_rfl) (by kernel_rfl) (by kernel_rfl) (fun _ _ _ h => h) (Or.inl ⟨by rfl, fun w hSw => by go_simp⟩) hH ?_
                    refine wpAnyH_take (i := 1) (v := .int .i64 (p : Int)) rfl (by kernel_rfl) (by kernel_rfl) (by kernel_rfl) (fun _ _ _ h => h) (Or.inl ⟨by rfl, fun w hSw => by go_simp⟩) hH ?_
                    try simp only [Act.put, List.setIfInBounds_toArray, List.set_cons_zero, List.set_cons_succ, List.getElem_toArray, List.getElem_cons_succ, List.getElem_cons_zero]
                    refine wpAnyH_take (i := 2) (v := .slice (some ⟨g, 0, none⟩) p cp) rfl (by kernel_rfl) (by kernel_rfl) (by kernel_rfl) (fun _ _ _ h => h) (Or.inl ⟨by rfl, fun w hSw => by go_simp⟩) hH ?_
                    try simp only [Act.put, List.setIfInBounds_toArray, List.set_cons_zero, List.set_cons_succ, List.getElem_toArray, List.getElem_cons_succ, List.getElem_cons_zero]
                    refine wpAnyH_take (i := 3) (v := .agg #[.int .i64 (s : Int), .int .i64 q, .int .i64 tm, .int .i64 kd, .string cd, .int .i64 am0]) rfl (by kernel_rfl) (by kernel_rfl) (by kernel_rfl) (fun _ _ _ h => h) (Or.inl ⟨by rfl, fun w hSw => by have f := HQ.out w hSw; have f0 := blkCell f 0 _ rfl; have f1 := blkCell f 1 _ rfl; have f2 := blkCell f 2 _ rfl; have f3 := blkCell f 3 _ rfl; have f4 := blkCell f 4 _ rfl; have f5 := blkCell f 5 _ rfl; clear f; go_simp⟩) hH ?_
                    try simp only [Act.put, List.setIfInBounds_toArray, List.set_cons_zero, List.set_cons_succ, List.getElem_toArray, List.getElem_cons_succ, List.getElem_cons_zero]
                    refine wpAnyH_take (i := 6) (v := .slice va (L.length - p) vc) rfl (by kernel_rfl) (by kernel_rfl) (by kernel_rfl) (fun _ _ _ h => h) (Or.inl ⟨by rfl, fun w hSw => by go_simp⟩) hH ?_
                    try simp only [Act.put, List.setIfInBounds_toArray, List.set_cons_zero, List.set_cons_succ, List.getElem_toArray, List.getElem_cons_succ, List.getElem_cons_zero]
                    refine wpAnyH_ready (rs := [4]) (by kernel_rfl) (by simp) ?_
                    refine AllReadyH.cons rfl (fun K hK => ?_) AllReadyH.nil
                    go_simp
                    have h6 : Below w5.heap.size w5 (w5.alloc (Obj.cells #[.int .i64 (s : Int), .int .i64 q, .int .i64 tm, .int .i64 kd, .string cd, .int .i64 am0] 35)).drew := chain (below_alloc _ _) (below_drew _)
                    have hb6 : (w5.alloc (Obj.cells #[.int .i64 (s : Int), .int .i64 q, .int .i64 tm, .int .i64 kd, .string cd, .int .i64 am0] 35)).drew.heap[w5.heap.size]? = some (.cells #[.int .i64 (s : Int), .int .i64 q, .int .i64 tm, .int .i64 kd, .string cd, .int .i64 am0] 35 (0, 0)) := heapNew w5 _
                    have hF6 : Fr (fun q => q = g) w5 (w5.alloc (Obj.cells #[.int .i64 (s : Int), .int .i64 q, .int .i64 tm, .int .i64 kd, .string cd, .int .i64 am0] 35)).drew := Fr.of h6
                    refine hK.out _ _ hF6 (fun _ => ?_)
                    clear hK K
                    try simp only [Act.put, List.setIfInBounds_toArray, List.set_cons_zero, List.set_cons_succ, List.getElem_toArray, List.getElem_cons_succ, List.getElem_cons_zero]
                    generalize (w5.alloc (Obj.cells #[.int .i64 (s : Int), .int .i64 q, .int .i64 tm, .int .i64 kd, .string cd, .int .i64 am0] 35)).drew = W6 at *
                    have HS6 : Hid (EvSt w b a len cap g cp L a7 s7 W6) := HS5.out.later h6
                    have HR6 : Hid (W6.ownsRow (b + 1) 35 6 (.slice (some ⟨g, 0, none⟩) p cp) p (evCells (L.take p))) := by rw [← evCells_take]; exact row_take HS6.out.row p hpl
                    have hB6 : b + 1 ≤ W6.heap.size := HS6.out.blt
                    refine wpAnyH_ready (rs := [5]) (by kernel_rfl) (by simp) ?_
                    refine AllReadyH.cons rfl (fun K hK => ?_) AllReadyH.nil
                    refine step_append_lies _ rfl (.tmp 92) (.tmp 94) 24 rfl (b + 1) 35 i0 (.agg #[.int .i64 0, .int .i64 0, .int .i64 0, .int .i64 0, .string ⟨#[]⟩, .int .i64 0]) 6 56 Try.underlying24 hi hi0' hi1 hi2 rfl (by decide) (.slice (some ⟨g, 0, none⟩) p cp) _ _ (by simp [Act.eval]) HR6.out ⟨w5.heap.size, 0, none⟩ 1 1 [.int .i64 (s : Int), .int .i64 q, .int .i64 tm, .int .i64 kd, .string cd, .int .i64 am0] (by simp [Act.eval]) rfl (World.news_of_block hb6) (by simp [Value.oneCell']) (by omega) (by unfold maxLen; omega) (by omega) hB6 _ rfl (fun g1 cp1 w9 hown hgrow hat hglt => ?_)
                    have hS9 : Fr (fun q => q = g) w5 w9 := hF6.trans ((fr_grown hgrow).mono (fun q hq => own_g hq))
                    have HR9 : Hid (w9.ownsRow (b + 1) 35 6 (.slice (some ⟨g1, 0, none⟩) (p + 1) cp1) (p + 1) (evCells (L.take p) ++ [.int .i64 (s : Int), .int .i64 q, .int .i64 tm, .int .i64 kd, .string cd, .int .i64 am0])) := hown
                    have HG1 : Hid (g1 = g ∨ w5.heap.size ≤ g1) := by
                      rcases hat with r | r
                      · exact .inl (own_g r)
                      · exact .inr (by have := h6.size; omega)
                    have HRs9 : Hid (w9.ownsRow wd.heap.size 35 6 (.slice va (L.length - p) vc) (L.length - p) (evCells (L.drop p))) := row_of HRs.out (fun q hq => hS9.block q (HVl.out q hq).2 (fun e => by have := (HVl.out q hq).1; omega))
                    have hB9 : b + 1 ≤ w9.heap.size := Nat.le_trans hB6 hgrow.size
                    clear hown hgrow hat hglt hb6 h6 HR6 HS6 hB6
                    refine hK.out _ _ hS9 (fun _ => ?_)
                    clear hK K
                    try simp only [Act.put, List.setIfInBounds_toArray, List.set_cons_zero, List.set_cons_succ, List.getElem_toArray, List.getElem_cons_succ, List.getElem_cons_zero]
                    refine wpAnyH_ready (rs := [7]) (by kernel_rfl) (by simp) ?_
                    refine AllReadyH.cons rfl (fun K hK => ?_) AllReadyH.nil
                    refine step_append_any rfl (.tmp 95) (.tmp 96) 24 rfl (b + 1) 35 i0 (.agg #[.int .i64 0, .int .i64 0, .int .i64 0, .int .i64 0, .string ⟨#[]⟩, .int .i64 0]) 6 56 Try.underlying24 hi hi0' hi1 hi2 rfl (by decide) (.slice (some ⟨g1, 0, none⟩) (p + 1) cp1) _ _ (by simp [Act.eval]) HR9.out va (L.length - p) vc (evCells (L.drop p)) (by simp [Act.eval]) (by rw [evCells_len, List.length_drop]) (row_news HRs9.out) (evCells_one _) (by unfold maxLen; omega) (by omega) hB9 (fun va2 vc2 w10 hown hgrow hat => ?_)
                    have hS10 : Fr (fun q => q = g) w5 w10 := by
                      refine Fr.drop (b := 0) (w := w5) (v := w5) (Below.refl _ _) ((hS9.mono (fun q hq => .inl hq)).trans ((fr_grown hgrow).mono (fun q hq => ?_)))
                      have h : g1 = q := by simpa [Value.ownBlock] using hq
                      rcases HG1.out with r | r
                      · exact .inl (by omega)
                      · exact .inr (by omega)
                    have HFin : Hid (∃ g2, (.slice va2 (p + 1 + (L.length - p)) vc2 : Value) = .slice (some ⟨g2, 0, none⟩) (putE L p ⟨(s : Int), q, tm, kd, cd, am0⟩).length vc2 ∧ EvSt w b a len cap g2 vc2 (putE L p ⟨(s : Int), q, tm, kd, cd, am0⟩) a7 s7 w10) := by
                      obtain ⟨g2, c2, hq2⟩ := row_some hown (by omega)
                      have hn : p + 1 + (L.length - p) = (putE L p ⟨(s : Int), q, tm, kd, cd, am0⟩).length := by rw [hput]; omega
                      have hc2 : c2 = vc2 := by simp only [Value.slice.injEq, true_and] at hq2; exact hq2.2.symm
                      subst hc2
                      have hcells : evCells (L.take p) ++ [.int .i64 (s : Int), .int .i64 q, .int .i64 tm, .int .i64 kd, .string cd, .int .i64 am0] ++ evCells (L.drop p) = evCells (putE L p ⟨(s : Int), q, tm, kd, cd, am0⟩) := by
                        unfold putE
                        rw [evCells_append, evCells_cons, List.append_assoc]; rfl
                      refine ⟨g2, by rw [hq2, hn], ?_, src_sameE HS5.out.src (hS10.block b HS5.out.blt (fun e => by have := HS5.out.glt; omega)) hS10.size, Fr.below HS5.out.low hS10 (Nat.le_of_lt HS5.out.blt) (fun k hk => by have := HS5.out.glt; omega)⟩
                      rw [hcells, hq2, hn] at hown
                      exact hown
                    clear hown hgrow hat
                    refine hK.out _ _ hS10 (fun _ => ?_)
                    clear hK K
                    try simp only [Act.put, List.setIfInBounds_toArray, List.set_cons_zero, List.set_cons_succ, List.getElem_toArray, List.getElem_cons_succ, List.getElem_cons_zero]
                    refine wpAnyH_take (i := 8) (v := .slice va2 (p + 1 + (L.length - p)) vc2) rfl (by kernel_rfl) (by kernel_rfl) (by kernel_rfl) (fun _ _ _ h => h) (Or.inl ⟨by rfl, fun w hSw => by go_simp⟩) hS10 ?_
                    try simp only [Act.put, List.setIfInBounds_toArray, List.set_cons_zero, List.set_cons_succ, List.getElem_toArray, List.getElem_cons_succ, List.getElem_cons_zero]
                    refine wpAnyH_done (by kernel_rfl) ?_ _
                    clear hS10 hS9 hF6 hH HR9 HRs9 HRs HQ HVl HS5 HE5
                    have hwi : IntKind.i64.wrap (i - 1) = i - 1 := wrap_id _ (by omega) (by omega)
                    go_wp2
                    go_roundw
                    case rel =>
                      obtain ⟨g2, hv2, hst2⟩ := HFin.out
                      exact ⟨putE L p ⟨(s : Int), q, tm, kd, cd, am0⟩, i - 1, tm2, g2, vc2, a7, s7, hv2, by first | rfl | go_num, rfl, by omega, by rw [hput]; omega, by omega, by omega, by omega, HPut.out, hst2⟩
                    case measure => simp [intOf]; omega
                  · obtain ⟨q1, hq1e⟩ : ∃ q1, p = q1 + 1 := ⟨p - 1, by omega⟩
                    have HPv := evs_row HS.out.row q1 (by omega)
                    obtain ⟨pv, hpv⟩ : ∃ pv, L.getD q1 zEv = pv := ⟨_, rfl⟩
                    rw [hpv] at HPv
                    obtain ⟨p0, p1, p2, p3, p4, p5⟩ := pv
                    have HP : Hid (∀ W, Below wr.heap.size wr W → EvAt W g (0 + q1 * 6) ⟨p0, p1, p2, p3, p4, p5⟩) := fun W h => HPv.below h HS.out.glt.2
                    have HEE : Hid (∀ W, Below wr.heap.size wr W → W.heap[eb]? = some (.cells #[.int .i64 (s : Int), .int .i64 q, .int .i64 tm, .int .i64 kd, .string cd, .int .i64 am0] 35 (0, 0))) := fun W h => (h.block eb (blkLt HE.out)).trans HE.out
                    have HAh : Hid (∀ W, Calls Try.prog 29 #[.agg #[.int .i64 (s : Int), .int .i64 q, .int .i64 tm, .int .i64 kd, .string cd, .int .i64 am0], .agg #[.int .i64 p0, .int .i64 p1, .int .i64 p2, .int .i64 p3, .string p4, .int .i64 p5]] W fun e w' => e = .returned (.bool (evAh ⟨(s : Int), q, tm, kd, cd, am0⟩ ⟨p0, p1, p2, p3, p4, p5⟩)) ∧ Below W.heap.size W w') := fun W => evSAhead_any _ _ _ _ _ _ _ _ _ _ _ _ W
                    have HBe : Hid (evAh ⟨(s : Int), q, tm, kd, cd, am0⟩ ⟨p0, p1, p2, p3, p4, p5⟩ = false → 0 < p → evAh ⟨(s : Int), q, tm, kd, cd, am0⟩ (L.getD (p - 1) zEv) = false) := fun h _ => by rw [show p - 1 = q1 by omega, hpv]; exact h
                    have HAf2 : Hid (evAh ⟨(s : Int), q, tm, kd, cd, am0⟩ ⟨p0, p1, p2, p3, p4, p5⟩ = true → ∀ i, q1 ≤ i → i < L.length → evAh ⟨(s : Int), q, tm, kd, cd, am0⟩ (L.getD i zEv) = true) := fun h i h1 h2 => by
                      by_cases e : i = q1
                      · rw [e, hpv]; exact h
                      · exact HAf.out i (by omega) h2
                    have hkn : 0 < p := by omega
                    have hkq : IntKind.i64.wrap ((p : Int) - 1) = (q1 : Int) := by rw [show (p : Int) - 1 = (q1 : Int) by omega]; exact wrap_id _ (by omega) (by omega)
                    have hql : q1 < L.length := by omega
                    have hqp : q1 ≤ L.length := by omega
                    have HMs : Hid (q1 < p) := by show q1 < p; omega
                    clear hpv HPv hp0 hq1e
                    generalize evAh ⟨(s : Int), q, tm, kd, cd, am0⟩ ⟨p0, p1, p2, p3, p4, p5⟩ = ahb at *
                    cases ahb
                    all_goals
                      refine wp_region_held_drew (S := fun W' => Below wr.heap.size wr W') (by kernel_rfl) (below_drew _) (fun hH => ?_)
                      refine wpAnyH_take (i := 0) (v := .int .i64 (p : Int)) rfl (by kernel_rfl) (by kernel_rfl) (by kernel_rfl) (fun _ _ _ h => h) (Or.inl ⟨by rfl, fun w hSw => by go_simp⟩) hH ?_
                      refine wpAnyH_take (i := 1) (v := .bool true) rfl (by kernel_rfl) (by kernel_rfl) (by kernel_rfl) (fun _ _ _ h => h) (Or.inl ⟨by rfl, fun w hSw => by have f := hkn; go_simp⟩) hH ?_
                      try simp only [Act.put, List.setIfInBounds_toArray, List.set_cons_zero, List.set_cons_succ, List.getElem_toArray, List.getElem_cons_succ, List.getElem_cons_zero]
                      refine wpAnyH_take (i := 2) (v := .bool true) rfl (by kernel_rfl) (by kernel_rfl) (by kernel_rfl) (fun _ _ _ h => h) (Or.inl ⟨by rfl, fun w hSw => by go_simp⟩) hH ?_
                      try simp only [Act.put, List.setIfInBounds_toArray, List.set_cons_zero, List.set_cons_succ, List.getElem_toArray, List.getElem_cons_succ, List.getElem_cons_zero]
                      refine wpAnyH_take (i := 3) (v := .agg #[.int .i64 (s : Int), .int .i64 q, .int .i64 tm, .int .i64 kd, .string cd, .int .i64 am0]) rfl (by kernel_rfl) (by kernel_rfl) (by kernel_rfl) (fun _ _ _ h => h) (Or.inl ⟨by rfl, fun w hSw => by have f := HEE.out w hSw; have f0 := blkCell f 0 _ rfl; have f1 := blkCell f 1 _ rfl; have f2 := blkCell f 2 _ rfl; have f3 := blkCell f 3 _ rfl; have f4 := blkCell f 4 _ rfl; have f5 := blkCell f 5 _ rfl; clear f; go_simp⟩) hH ?_
                      try simp only [Act.put, List.setIfInBounds_toArray, List.set_cons_zero, List.set_cons_succ, List.getElem_toArray, List.getElem_cons_succ, List.getElem_cons_zero]
                      refine wpAnyH_take (i := 4) (v := .slice (some ⟨g, 0, none⟩) L.length cp) rfl (by kernel_rfl) (by kernel_rfl) (by kernel_rfl) (fun _ _ _ h => h) (Or.inl ⟨by rfl, fun w hSw => by go_simp⟩) hH ?_
                      try simp only [Act.put, List.setIfInBounds_toArray, List.set_cons_zero, List.set_cons_succ, List.getElem_toArray, List.getElem_cons_succ, List.getElem_cons_zero]
                      refine wpAnyH_take (i := 5) (v := .int .i64 (p : Int)) rfl (by kernel_rfl) (by kernel_rfl) (by kernel_rfl) (fun _ _ _ h => h) (Or.inl ⟨by rfl, fun w hSw => by go_simp⟩) hH ?_
                      try simp only [Act.put, List.setIfInBounds_toArray, List.set_cons_zero, List.set_cons_succ, List.getElem_toArray, List.getElem_cons_succ, List.getElem_cons_zero]
                      refine wpAnyH_take (i := 6) (v := .int .i64 (q1 : Int)) rfl (by kernel_rfl) (by kernel_rfl) (by kernel_rfl) (fun _ _ _ h => h) (Or.inl ⟨by rfl, fun w hSw => by have f := hkq; go_simp⟩) hH ?_
                      try simp only [Act.put, List.setIfInBounds_toArray, List.set_cons_zero, List.set_cons_succ, List.getElem_toArray, List.getElem_cons_succ, List.getElem_cons_zero]
                      refine wpAnyH_take (i := 7) (v := .pointer (some ⟨g, q1 * 6, none⟩)) rfl (by kernel_rfl) (by kernel_rfl) (by kernel_rfl) (fun _ _ _ h => h) (Or.inl ⟨by rfl, fun w hSw => by have f := hql; go_simp⟩) hH ?_
                      try simp only [Act.put, List.setIfInBounds_toArray, List.set_cons_zero, List.set_cons_succ, List.getElem_toArray, List.getElem_cons_succ, List.getElem_cons_zero]
                      refine wpAnyH_take (i := 8) (v := .agg #[.int .i64 p0, .int .i64 p1, .int .i64 p2, .int .i64 p3, .string p4, .int .i64 p5]) rfl (by kernel_rfl) (by kernel_rfl) (by kernel_rfl) (fun _ _ _ h => h) (Or.inl ⟨by rfl, fun w hSw => by obtain ⟨f0, f1, f2, f3, f4, f5⟩ := HP.out w hSw; simp only [Nat.zero_add] at f0 f1 f2 f3 f4 f5; go_simp⟩) hH ?_
                      try simp only [Act.put, List.setIfInBounds_toArray, List.set_cons_zero, List.set_cons_succ, List.getElem_toArray, List.getElem_cons_succ, List.getElem_cons_zero]
                      refine wpAnyH_ready (rs := [9]) (by kernel_rfl) (by simp) ?_
                      refine AllReadyH.cons rfl (fun K hK => ?_) AllReadyH.nil
                      go_simp
                      go_at_call 29
                      refine (HAh.out _).mono ?_
                      rintro e w9 ⟨rfl, hb9⟩
                      have hw9 := chain hH hb9
                      clear hb9
                      refine hK.out _ _ hw9 (fun _ => ?_)
                      clear hK K
                      try simp only [Act.put, List.setIfInBounds_toArray, List.set_cons_zero, List.set_cons_succ, List.getElem_toArray, List.getElem_cons_succ, List.getElem_cons_zero]
                    · skip
                      refine wpAnyH_take (i := 10) (v := .bool false) rfl (by kernel_rfl) (by kernel_rfl) (by kernel_rfl) (fun _ _ _ h => h) (Or.inl ⟨by rfl, fun w hSw => by go_simp⟩) hw9 ?_
                      try simp only [Act.put, List.setIfInBounds_toArray, List.set_cons_zero, List.set_cons_succ, List.getElem_toArray, List.getElem_cons_succ, List.getElem_cons_zero]
                      refine wpAnyH_done (by kernel_rfl) ?_ _
                      have HS2 : Hid (EvSt w b a len cap g cp L a7 s7 w9) := HS.out.later hw9
                      have HE2 : Hid (w9.heap[eb]? = some (.cells #[.int .i64 (s : Int), .int .i64 q, .int .i64 tm, .int .i64 kd, .string cd, .int .i64 am0] 35 (0, 0))) := HEE.out w9 hw9
                      have HBe2 : Hid (0 < p → evAh ⟨(s : Int), q, tm, kd, cd, am0⟩ (L.getD (p - 1) zEv) = false) := HBe.out rfl
                      clear HS HE hH hw9 HEE HP HAh HBe HAf2
                      have HBe := HBe2
                      clear HBe2
                      generalize w9 = wd at *
                      have HPut : Hid (ShI s tm2 (putE L p ⟨(s : Int), q, tm, kd, cd, am0⟩)) := HI.out.put HOne.out (by omega) HQs.out (by omega) hpl HAf.out HBe.out
                      have hput := putE_len (L := L) (p := p) ⟨(s : Int), q, tm, kd, cd, am0⟩ hpl
                      have hcp : L.length ≤ cp := row_cap HS2.out.row
                      clear HAf HBe HI HOne HQs
                      obtain ⟨o8, ho8⟩ : ∃ o8 : Nat, o8 = if cp = p then 0 else p * 6 := ⟨_, rfl⟩
                      have hof : (if cp = p then (some (⟨g, 0, none⟩ : Addr)) else some ⟨g, p * 6, none⟩) = some ⟨g, o8, none⟩ := by rw [ho8]; split <;> rfl
                      have hp1 : (p : Int) ≤ (L.length : Int) := by omega
                      have hp2 : (p : Int) ≤ (cp : Int) := by omega
                      obtain ⟨We, hWe⟩ : ∃ We, We = wd.alloc (Obj.cells #[] 35) := ⟨_, rfl⟩
                      have HWe : Hid (We = wd.alloc (Obj.cells #[] 35)) := hWe
                      have HRe : Hid (We.ownsRow wd.heap.size 35 6 (.slice (some ⟨wd.heap.size, 0, none⟩) 0 0) 0 []) := by rw [hWe]; exact row_empty wd _ (Nat.le_refl _)
                      have HSe : Hid (EvSt w b a len cap g cp L a7 s7 We) := by rw [hWe]; exact HS2.out.later (below_alloc _ _)
                      have HEe : Hid (We.heap[eb]? = some (.cells #[.int .i64 (s : Int), .int .i64 q, .int .i64 tm, .int .i64 kd, .string cd, .int .i64 am0] 35 (0, 0))) := by rw [hWe]; exact ((below_alloc wd _).block eb (blkLt HE2.out)).trans HE2.out
                      have HNw : Hid (0 < L.length - p → ∃ ad, (some (⟨g, o8, none⟩ : Addr)) = some ad ∧ ∀ j u, (evCells (L.drop p))[j]? = some u → We.cell? (ad.add j) = some u) := fun h0 => ⟨_, rfl, by
                        have ho : o8 = p * 6 := by rw [ho8, if_neg (by omega)]
                        rw [ho]
                        refine row_part HSe.out.row (p * 6) _ (fun j u hj => ?_)
                        rw [← evCells_drop, List.getElem?_drop] at hj
                        exact hj⟩
                      have hgd : g < wd.heap.size ∧ eb < wd.heap.size := ⟨HS2.out.glt.2, blkLt HE2.out⟩
                      have hzW : wd.heap.size ≤ We.heap.size := by rw [hWe]; simp
                      clear hWe ho8 HS2 HE2
                      go_wp2_with (at_builtin; rw [← HWe.out]; refine wpList_append_any rfl _ _ 24 rfl wd.heap.size 35 i0 (.agg #[.int .i64 0, .int .i64 0, .int .i64 0, .int .i64 0, .string ⟨#[]⟩, .int .i64 0]) 6 56 Try.underlying24 hi hi0' hi1 hi2 rfl (by decide) _ _ _ rfl HRe.out (some ⟨g, o8, none⟩) (L.length - p) (cp - p) (evCells (L.drop p)) (by simp [Act.eval]) (by rw [evCells_len, List.length_drop]) HNw.out (evCells_one _) (by unfold maxLen; omega) (by omega) hzW ?_; intro va vc w5 hown hgr hat; have HR5 : Hid (w5.ownsRow wd.heap.size 35 6 (.slice va (0 + (L.length - p)) vc) (0 + (L.length - p)) ([] ++ evCells (L.drop p))) := hown; have HG5 : Hid (We.grownBy w5 (some wd.heap.size)) := hgr; clear hown hgr hat)
                      have hz5 : wd.heap.size < w5.heap.size := by
                        have h1 := HG5.out.size
                        have h2 : wd.heap.size < We.heap.size := blkLt (heapNew wd _ |> fun h => by rw [HWe.out]; exact h)
                        omega
                      have HS5 : Hid (EvSt w b a len cap g cp L a7 s7 w5) := by
                        have f := fr_grown HG5.out
                        refine ⟨row_of HSe.out.row (fun k hk => f.block k (row_lt HSe.out.row k hk).2 (fun e => ?_)), src_sameE HSe.out.src (f.block b HSe.out.blt (fun e => ?_)) f.size, HSe.out.low.grown HG5.out (Nat.le_of_lt HSe.out.blt) (fun q hq => ?_)⟩
                        · have h1 : g = k := by simpa [Value.ownBlock] using hk
                          have h2 : wd.heap.size = k := by simpa using e
                          omega
                        · have h2 : wd.heap.size = b := by simpa using e
                          have := HSe.out.glt
                          omega
                        · have h2 : wd.heap.size = q := by simpa using hq
                          have := HSe.out.glt
                          omega
                      have HE5 : Hid (w5.heap[eb]? = some (.cells #[.int .i64 (s : Int), .int .i64 q, .int .i64 tm, .int .i64 kd, .string cd, .int .i64 am0] 35 (0, 0))) := ((fr_grown HG5.out).block eb (blkLt HEe.out) (fun e => by have h2 := Option.some.inj e; omega)).trans HEe.out
                      have HRs : Hid (w5.ownsRow wd.heap.size 35 6 (.slice va (L.length - p) vc) (L.length - p) (evCells (L.drop p))) := by have h := HR5.out; rw [Nat.zero_add, List.nil_append] at h; exact h
                      clear HRe HSe HEe HNw HR5 HG5 HWe hzW
                      have hvl : ∀ q, Value.ownBlock (.slice va (L.length - p) vc) = some q → wd.heap.size ≤ q ∧ q < w5.heap.size := fun q hq => row_lt HRs.out q hq
                      have HVl : Hid (∀ q, Value.ownBlock (.slice va (L.length - p) vc) = some q → wd.heap.size ≤ q ∧ q < w5.heap.size) := hvl
                      clear hvl
                      have HQ : Hid (∀ W, Fr (fun q => q = g) w5 W → W.heap[eb]? = some (.cells #[.int .i64 (s : Int), .int .i64 q, .int .i64 tm, .int .i64 kd, .string cd, .int .i64 am0] 35 (0, 0))) := fun W hW => (hW.block eb (blkLt HE5.out) (fun e => hgE e.symm)).trans HE5.out
                      refine wp_region_held_drew (S := fun W' => Fr (fun q => q = g) w5 W') (by kernel_rfl) (Fr.of (below_drew _)) (fun hH => ?_)
                      refine wpAnyH_take (i := 0) (v := .slice (some ⟨g, 0, none⟩) L.length cp) rfl (by kernel_rfl) (by kernel_rfl) (by kernel_rfl) (fun _ _ _ h => h) (Or.inl ⟨by rfl, fun w hSw => by go_simp⟩) hH ?_
                      refine wpAnyH_take (i := 1) (v := .int .i64 (p : Int)) rfl (by kernel_rfl) (by kernel_rfl) (by kernel_rfl) (fun _ _ _ h => h) (Or.inl ⟨by rfl, fun w hSw => by go_simp⟩) hH ?_
                      try simp only [Act.put, List.setIfInBounds_toArray, List.set_cons_zero, List.set_cons_succ, List.getElem_toArray, List.getElem_cons_succ, List.getElem_cons_zero]
                      refine wpAnyH_take (i := 2) (v := .slice (some ⟨g, 0, none⟩) p cp) rfl (by kernel_rfl) (by kernel_rfl) (by kernel_rfl) (fun _ _ _ h => h) (Or.inl ⟨by rfl, fun w hSw => by go_simp⟩) hH ?_
                      try simp only [Act.put, List.setIfInBounds_toArray, List.set_cons_zero, List.set_cons_succ, List.getElem_toArray, List.getElem_cons_succ, List.getElem_cons_zero]
                      refine wpAnyH_take (i := 3) (v := .agg #[.int .i64 (s : Int), .int .i64 q, .int .i64 tm, .int .i64 kd, .string cd, .int .i64 am0]) rfl (by kernel_rfl) (by kernel_rfl) (by kernel_rfl) (fun _ _ _ h => h) (Or.inl ⟨by rfl, fun w hSw => by have f := HQ.out w hSw; have f0 := blkCell f 0 _ rfl; have f1 := blkCell f 1 _ rfl; have f2 := blkCell f 2 _ rfl; have f3 := blkCell f 3 _ rfl; have f4 := blkCell f 4 _ rfl; have f5 := blkCell f 5 _ rfl; clear f; go_simp⟩) hH ?_
                      try simp only [Act.put, List.setIfInBounds_toArray, List.set_cons_zero, List.set_cons_succ, List.getElem_toArray, List.getElem_cons_succ, List.getElem_cons_zero]
                      refine wpAnyH_take (i := 6) (v := .slice va (L.length - p) vc) rfl (by kernel_rfl) (by kernel_rfl) (by kernel_rfl) (fun _ _ _ h => h) (Or.inl ⟨by rfl, fun w hSw => by go_simp⟩) hH ?_
                      try simp only [Act.put, List.setIfInBounds_toArray, List.set_cons_zero, List.set_cons_succ, List.getElem_toArray, List.getElem_cons_succ, List.getElem_cons_zero]
                      refine wpAnyH_ready (rs := [4]) (by kernel_rfl) (by simp) ?_
                      refine AllReadyH.cons rfl (fun K hK => ?_) AllReadyH.nil
                      go_simp
                      have h6 : Below w5.heap.size w5 (w5.alloc (Obj.cells #[.int .i64 (s : Int), .int .i64 q, .int .i64 tm, .int .i64 kd, .string cd, .int .i64 am0] 35)).drew := chain (below_alloc _ _) (below_drew _)
                      have hb6 : (w5.alloc (Obj.cells #[.int .i64 (s : Int), .int .i64 q, .int .i64 tm, .int .i64 kd, .string cd, .int .i64 am0] 35)).drew.heap[w5.heap.size]? = some (.cells #[.int .i64 (s : Int), .int .i64 q, .int .i64 tm, .int .i64 kd, .string cd, .int .i64 am0] 35 (0, 0)) := heapNew w5 _
                      have hF6 : Fr (fun q => q = g) w5 (w5.alloc (Obj.cells #[.int .i64 (s : Int), .int .i64 q, .int .i64 tm, .int .i64 kd, .string cd, .int .i64 am0] 35)).drew := Fr.of h6
                      refine hK.out _ _ hF6 (fun _ => ?_)
                      clear hK K
                      try simp only [Act.put, List.setIfInBounds_toArray, List.set_cons_zero, List.set_cons_succ, List.getElem_toArray, List.getElem_cons_succ, List.getElem_cons_zero]
                      generalize (w5.alloc (Obj.cells #[.int .i64 (s : Int), .int .i64 q, .int .i64 tm, .int .i64 kd, .string cd, .int .i64 am0] 35)).drew = W6 at *
                      have HS6 : Hid (EvSt w b a len cap g cp L a7 s7 W6) := HS5.out.later h6
                      have HR6 : Hid (W6.ownsRow (b + 1) 35 6 (.slice (some ⟨g, 0, none⟩) p cp) p (evCells (L.take p))) := by rw [← evCells_take]; exact row_take HS6.out.row p hpl
                      have hB6 : b + 1 ≤ W6.heap.size := HS6.out.blt
                      refine wpAnyH_ready (rs := [5]) (by kernel_rfl) (by simp) ?_
                      refine AllReadyH.cons rfl (fun K hK => ?_) AllReadyH.nil
                      refine step_append_lies _ rfl (.tmp 92) (.tmp 94) 24 rfl (b + 1) 35 i0 (.agg #[.int .i64 0, .int .i64 0, .int .i64 0, .int .i64 0, .string ⟨#[]⟩, .int .i64 0]) 6 56 Try.underlying24 hi hi0' hi1 hi2 rfl (by decide) (.slice (some ⟨g, 0, none⟩) p cp) _ _ (by simp [Act.eval]) HR6.out ⟨w5.heap.size, 0, none⟩ 1 1 [.int .i64 (s : Int), .int .i64 q, .int .i64 tm, .int .i64 kd, .string cd, .int .i64 am0] (by simp [Act.eval]) rfl (World.news_of_block hb6) (by simp [Value.oneCell']) (by omega) (by unfold maxLen; omega) (by omega) hB6 _ rfl (fun g1 cp1 w9 hown hgrow hat hglt => ?_)
                      have hS9 : Fr (fun q => q = g) w5 w9 := hF6.trans ((fr_grown hgrow).mono (fun q hq => own_g hq))
                      have HR9 : Hid (w9.ownsRow (b + 1) 35 6 (.slice (some ⟨g1, 0, none⟩) (p + 1) cp1) (p + 1) (evCells (L.take p) ++ [.int .i64 (s : Int), .int .i64 q, .int .i64 tm, .int .i64 kd, .string cd, .int .i64 am0])) := hown
                      have HG1 : Hid (g1 = g ∨ w5.heap.size ≤ g1) := by
                        rcases hat with r | r
                        · exact .inl (own_g r)
                        · exact .inr (by have := h6.size; omega)
                      have HRs9 : Hid (w9.ownsRow wd.heap.size 35 6 (.slice va (L.length - p) vc) (L.length - p) (evCells (L.drop p))) := row_of HRs.out (fun q hq => hS9.block q (HVl.out q hq).2 (fun e => by have := (HVl.out q hq).1; omega))
                      have hB9 : b + 1 ≤ w9.heap.size := Nat.le_trans hB6 hgrow.size
                      clear hown hgrow hat hglt hb6 h6 HR6 HS6 hB6
                      refine hK.out _ _ hS9 (fun _ => ?_)
                      clear hK K
                      try simp only [Act.put, List.setIfInBounds_toArray, List.set_cons_zero, List.set_cons_succ, List.getElem_toArray, List.getElem_cons_succ, List.getElem_cons_zero]
                      refine wpAnyH_ready (rs := [7]) (by kernel_rfl) (by simp) ?_
                      refine AllReadyH.cons rfl (fun K hK => ?_) AllReadyH.nil
                      refine step_append_any rfl (.tmp 95) (.tmp 96) 24 rfl (b + 1) 35 i0 (.agg #[.int .i64 0, .int .i64 0, .int .i64 0, .int .i64 0, .string ⟨#[]⟩, .int .i64 0]) 6 56 Try.underlying24 hi hi0' hi1 hi2 rfl (by decide) (.slice (some ⟨g1, 0, none⟩) (p + 1) cp1) _ _ (by simp [Act.eval]) HR9.out va (L.length - p) vc (evCells (L.drop p)) (by simp [Act.eval]) (by rw [evCells_len, List.length_drop]) (row_news HRs9.out) (evCells_one _) (by unfold maxLen; omega) (by omega) hB9 (fun va2 vc2 w10 hown hgrow hat => ?_)
                      have hS10 : Fr (fun q => q = g) w5 w10 := by
                        refine Fr.drop (b := 0) (w := w5) (v := w5) (Below.refl _ _) ((hS9.mono (fun q hq => .inl hq)).trans ((fr_grown hgrow).mono (fun q hq => ?_)))
                        have h : g1 = q := by simpa [Value.ownBlock] using hq
                        rcases HG1.out with r | r
                        · exact .inl (by omega)
                        · exact .inr (by omega)
                      have HFin : Hid (∃ g2, (.slice va2 (p + 1 + (L.length - p)) vc2 : Value) = .slice (some ⟨g2, 0, none⟩) (putE L p ⟨(s : Int), q, tm, kd, cd, am0⟩).length vc2 ∧ EvSt w b a len cap g2 vc2 (putE L p ⟨(s : Int), q, tm, kd, cd, am0⟩) a7 s7 w10) := by
                        obtain ⟨g2, c2, hq2⟩ := row_some hown (by omega)
                        have hn : p + 1 + (L.length - p) = (putE L p ⟨(s : Int), q, tm, kd, cd, am0⟩).length := by rw [hput]; omega
                        have hc2 : c2 = vc2 := by simp only [Value.slice.injEq, true_and] at hq2; exact hq2.2.symm
                        subst hc2
                        have hcells : evCells (L.take p) ++ [.int .i64 (s : Int), .int .i64 q, .int .i64 tm, .int .i64 kd, .string cd, .int .i64 am0] ++ evCells (L.drop p) = evCells (putE L p ⟨(s : Int), q, tm, kd, cd, am0⟩) := by
                          unfold putE
                          rw [evCells_append, evCells_cons, List.append_assoc]; rfl
                        refine ⟨g2, by rw [hq2, hn], ?_, src_sameE HS5.out.src (hS10.block b HS5.out.blt (fun e => by have := HS5.out.glt; omega)) hS10.size, Fr.below HS5.out.low hS10 (Nat.le_of_lt HS5.out.blt) (fun k hk => by have := HS5.out.glt; omega)⟩
                        rw [hcells, hq2, hn] at hown
                        exact hown
                      clear hown hgrow hat
                      refine hK.out _ _ hS10 (fun _ => ?_)
                      clear hK K
                      try simp only [Act.put, List.setIfInBounds_toArray, List.set_cons_zero, List.set_cons_succ, List.getElem_toArray, List.getElem_cons_succ, List.getElem_cons_zero]
                      refine wpAnyH_take (i := 8) (v := .slice va2 (p + 1 + (L.length - p)) vc2) rfl (by kernel_rfl) (by kernel_rfl) (by kernel_rfl) (fun _ _ _ h => h) (Or.inl ⟨by rfl, fun w hSw => by go_simp⟩) hS10 ?_
                      try simp only [Act.put, List.setIfInBounds_toArray, List.set_cons_zero, List.set_cons_succ, List.getElem_toArray, List.getElem_cons_succ, List.getElem_cons_zero]
                      refine wpAnyH_done (by kernel_rfl) ?_ _
                      clear hS10 hS9 hF6 hH HR9 HRs9 HRs HQ HVl HS5 HE5
                      have hwi : IntKind.i64.wrap (i - 1) = i - 1 := wrap_id _ (by omega) (by omega)
                      go_wp2
                      go_roundw
                      case rel =>
                        obtain ⟨g2, hv2, hst2⟩ := HFin.out
                        exact ⟨putE L p ⟨(s : Int), q, tm, kd, cd, am0⟩, i - 1, tm2, g2, vc2, a7, s7, hv2, by first | rfl | go_num, rfl, by omega, by rw [hput]; omega, by omega, by omega, by omega, HPut.out, hst2⟩
                      case measure => simp [intOf]; omega
                    · skip
                      refine wpAnyH_take (i := 10) (v := .bool true) rfl (by kernel_rfl) (by kernel_rfl) (by kernel_rfl) (fun _ _ _ h => h) (Or.inl ⟨by rfl, fun w hSw => by go_simp⟩) hw9 ?_
                      try simp only [Act.put, List.setIfInBounds_toArray, List.set_cons_zero, List.set_cons_succ, List.getElem_toArray, List.getElem_cons_succ, List.getElem_cons_zero]
                      refine wpAnyH_done (by kernel_rfl) ?_ _
                      have HS2 : Hid (EvSt w b a len cap g cp L a7 s7 w9) := HS.out.later hw9
                      have HE2 : Hid (w9.heap[eb]? = some (.cells #[.int .i64 (s : Int), .int .i64 q, .int .i64 tm, .int .i64 kd, .string cd, .int .i64 am0] 35 (0, 0))) := HEE.out w9 hw9
                      have HAf3 : Hid (∀ i, q1 ≤ i → i < L.length → evAh ⟨(s : Int), q, tm, kd, cd, am0⟩ (L.getD i zEv) = true) := HAf2.out rfl
                      clear HS HE hH hw9 HEE HP HAh HBe HAf2 HAf
                      go_wp2
                      go_roundw
                      case rel => exact ⟨q1, hqp, by go_num, HAf3.out, HS2.out, HE2.out⟩
                      case measure => have := HMs.out; simp [intOf]; omega
        · have hi1 : i = 0 := by omega
          have HI2 : Hid (ShI s tm L) := HI.out
          clear HI
          go_wp2
          go_roundw
          case rel => exact ⟨s + 1, L, g, cp, at1, sd, rfl, by go_num, by omega, by omega, by omega, by omega, ⟨HI2.out.right, fun r hr => by have := HI2.out.shop r hr; omega, fun r hr h => by have := HI2.out.shop r hr; omega, HI2.out.sq⟩, HS.out⟩
          case measure => simp [intOf]; omega
    · have hle : ¬ ((s : Int) ≤ 3) := by omega
      go_wp2
      go_ret
      exact ⟨g, cp, L, at1, sd, rfl, HI0.out.right, by omega, by omega, HS0.out⟩
end Go.Proofs.Ytabghjlmmpckdaa
