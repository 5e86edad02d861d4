/-
  What ShelfOf answers, as a function of its arguments; contracts of the program's shelfFault, planOf, ShelfOf.
-/
import Derived.Test.YtphefbaogfknoaaFbA
import Derived.Test.YtphefbaogfknoaaShelf
import Derived.Test.YtphefbaogfknoaaRow1
namespace Go.Proofs.Ytphefbaogfknoaa
open Go.ChangeShapes Go.WideShapes Go.ChangeAt Go.RowKit Go.Deep
set_option linter.unusedVariables false

def shFault (rs : List CFc) (wd : Int) : Int := if fcAll rs = true then (if wd < 0 ∨ 2000 < wd then 5 else 0) else 1
def shCode (rs : List CFc) (wd : Int) (cs : List Int) : Int := if 4096 < rs.length ∨ 4096 < cs.length then 2 else if shFault rs wd = 0 then (if (decide (rs.length = cs.length) && fitS rs cs rs.length) = true then (if wd < usN rs cs rs.length then 14 else 0) else 3) else shFault rs wd
/-- A plan and a code: its list lies in memory of its own. -/
def AnsS (code : Int) (L : List Int) (us ga : Int) (w : World) (e : Ending) (w' : World) : Prop := ∃ q cq, e = .returned (.tuple #[.agg #[.slice q L.length cq, .int .i64 us, .int .i64 ga], .int .i64 code]) ∧ Own2 w.heap.size w' q L ∧ Below w.heap.size w w'
def shL (rs : List CFc) (wd : Int) (cs : List Int) : List Int := if shCode rs wd cs = 0 then cs else []
def shU (rs : List CFc) (wd : Int) (cs : List Int) : Int := if shCode rs wd cs = 0 then usN rs cs rs.length else 0
def shG (rs : List CFc) (wd : Int) (cs : List Int) : Int := if shCode rs wd cs = 0 then gaN rs cs rs.length else 0
def AnsSh (rs : List CFc) (wd : Int) (cs : List Int) (w : World) (e : Ending) (w' : World) : Prop := AnsS (shCode rs wd cs) (shL rs wd cs) (shU rs wd cs) (shG rs wd cs) w e w'
theorem ansSh_none {rs : List CFc} {wd : Int} {cs : List Int} {w w' : World} {c : Int} (h : shCode rs wd cs = c) (hc : c ≠ 0) (hb : Below w.heap.size w w') : AnsSh rs wd cs w (.returned (.tuple #[.agg #[.slice none 0 0, .int .i64 0, .int .i64 0], .int .i64 c])) w' := by
  have hn : shCode rs wd cs ≠ 0 := by rw [h]; exact hc
  unfold AnsSh shL shU shG
  rw [if_neg hn, if_neg hn, if_neg hn, h]
  exact ⟨none, 0, rfl, .inl rfl, hb⟩
theorem ansSh_some {rs : List CFc} {wd : Int} {cs : List Int} {w w' : World} {q : Option Addr} {cq : Nat} (h : shCode rs wd cs = 0) (ho : Own2 w.heap.size w' q cs) (hb : Below w.heap.size w w') : AnsSh rs wd cs w (.returned (.tuple #[.agg #[.slice q cs.length cq, .int .i64 (usN rs cs rs.length), .int .i64 (gaN rs cs rs.length)], .int .i64 0])) w' := by
  unfold AnsSh shL shU shG
  rw [if_pos h, if_pos h, if_pos h, h]
  exact ⟨q, cq, rfl, ho, hb⟩
theorem shFault_ways (rs : List CFc) (wd : Int) : (fcAll rs = false ∧ shFault rs wd = 1) ∨ (fcAll rs = true ∧ wd < 0 ∧ shFault rs wd = 5) ∨ (fcAll rs = true ∧ ¬ wd < 0 ∧ 2000 < wd ∧ shFault rs wd = 5) ∨ (fcAll rs = true ∧ ¬ wd < 0 ∧ ¬ 2000 < wd ∧ shFault rs wd = 0) := by
  unfold shFault
  cases h : fcAll rs
  · exact .inl ⟨rfl, rfl⟩
  · by_cases h1 : wd < 0
    · exact .inr (.inl ⟨rfl, h1, by rw [if_pos rfl, if_pos (.inl h1)]⟩)
    · by_cases h2 : 2000 < wd
      · exact .inr (.inr (.inl ⟨rfl, h1, h2, by rw [if_pos rfl, if_pos (.inr h2)]⟩))
      · exact .inr (.inr (.inr ⟨rfl, h1, h2, by rw [if_pos rfl, if_neg (by omega)]⟩))
set_option maxHeartbeats 2000000 in
theorem shelfFault_any (a : Option Addr) (cap : Nat) (rs : List CFc) (hl : rs.length ≤ 100000000) (hp : ∀ r ∈ rs, FcOK r) (wd : Int) (w : World) (hr : ReadsFc w.heap.size w a rs) :
    Calls Try.prog 27 #[.slice a rs.length cap, .int .i64 wd] w fun e w' => e = .returned (.int .i64 (shFault rs wd)) ∧ Below w.heap.size w w' := by
  have hF := implFacings_any a cap rs hl hp w hr
  clear hr hp
  rcases shFault_ways rs wd with ⟨h1, h2⟩ | ⟨h1, h3, h2⟩ | ⟨h1, h3, h4, h2⟩ | ⟨h1, h3, h4, h2⟩
  all_goals
    rw [h2]
    rw [h1] at hF
    clear h1 h2
    have HF : Hid (Calls Try.prog 10 #[.slice a rs.length cap] w fun e w' => e = .returned (.bool _) ∧ Below w.heap.size w w') := hF
    clear hF
    go_enter Try.func27, Try.ntmps27
    go_wp2_with fail
    (first | go_at_call 10 | skip)
    refine HF.out.mono ?_
    rintro e w2 ⟨rfl, hb2⟩
    go_wp2_with fail
    go_ret
    exact ⟨rfl, hb2⟩
theorem cloneI_any (b : Nat) (off : Nat) (cb : Nat) (ns : List Int) (hn : ns.length ≤ 4096) (w : World) (ks : Reads w.heap.size w (some ⟨b, off, none⟩) ns) :
    Calls Try.prog 31 #[.slice (some ⟨b, off, none⟩) ns.length cb] w fun e w' => ∃ g cp, e = .returned (.slice (some ⟨g, 0, none⟩) ns.length cp) ∧ Own2 w.heap.size w' (some ⟨g, 0, none⟩) ns ∧ Below w.heap.size w w' := by
  have hI : ∀ j, j < ns.length → w.cell? ⟨b, off + j, none⟩ = some (.int .i64 (ns.getD j 0)) := fun j hj => by
    rcases ks with h | ⟨b1, o1, hb1, hB1, ib⟩
    · rw [h] at hj; simp at hj
    · cases hb1
      exact ib j hj
  refine (Try.slices_Clone_int b off ns.length cb ns w (Nat.le_refl _) (by omega) hI).mono ?_
  rintro e w' ⟨v', rfl, ho, hne, hb⟩
  rw [List.take_length] at ho
  have h2 := ho.2
  rcases h2 with ⟨h2, _⟩ | ⟨g, cap, cur, rfl, hB, hg, hle, _⟩
  · exact absurd h2 hne
  have hO : One w w.heap.size (.slice (some ⟨g, 0, none⟩) ns.length cap) ns w' := ⟨ho, hb.size, hb⟩
  exact ⟨g, cap, rfl, hO.own2 rfl, hb⟩
theorem own2_later {B : Nat} {w w' : World} {g : Option Addr} {L : List Int} (h : Own2 B w g L) (hb : Below w.heap.size w w') : Own2 B w' g L := h.below hb (Nat.le_refl _)
theorem own2_mono {B B' : Nat} {w : World} {g : Option Addr} {L : List Int} (h : Own2 B w g L) (hB : B' ≤ B) : Own2 B' w g L := by
  rcases h with h | ⟨b, h1, h2, h3⟩
  · exact .inl h
  · exact .inr ⟨b, h1, by omega, h3⟩
theorem own2_set {B : Nat} {w : World} {g : Option Addr} {L : List Int} (h : Own2 B w g L) {d : Nat} (hne : ∀ c, g = some ⟨c, 0, none⟩ → d ≠ c ∨ L = []) (o : Nat) (v : Value) : Own2 B (w.setCell ⟨d, o, none⟩ v) g L := by
  rcases h with h | ⟨b, h1, h2, h3, h4, h5⟩
  · exact .inl h
  · rcases hne b h1 with h6 | h6
    · exact .inr ⟨b, h1, h2, by rw [World.size_setCell]; exact h3, IntsAt.set h4 h6 _ _, fun i hi => by rw [World.frozen?_setCell]; exact h5 i hi⟩
    · exact .inl h6
theorem own2_neF {B : Nat} {w : World} {g : Option Addr} {L : List Int} (h : Own2 B w g L) {c d : Nat} (hc : g = some ⟨c, 0, none⟩) (hd : d < B) : d ≠ c ∨ L = [] := by
  rcases h with h | ⟨b, h1, h2, _⟩
  · exact .inr h
  · rw [h1] at hc; cases hc; exact .inl (by omega)
set_option maxHeartbeats 4000000 in
theorem planOf_any (a : Option Addr) (cap : Nat) (rs : List CFc) (hl : rs.length ≤ 12) (hrr : ∀ r ∈ rs, FcR r) (b : Option Addr) (cb : Nat) (cs : List Int) (hlen : rs.length = cs.length) (hfit : fitS rs cs rs.length = true) (w : World) (hr : ReadsFc w.heap.size w a rs) (ks : Reads w.heap.size w b cs) :
    Calls Try.prog 30 #[.slice a rs.length cap, .slice b cs.length cb] w fun e w' => e = .returned (.agg #[.slice b cs.length cb, .int .i64 (usN rs cs rs.length), .int .i64 (gaN rs cs rs.length)]) ∧ Below w.heap.size w w' := by
  have HU : Hid (∀ W, Below w.heap.size w W → Calls Try.prog 52 #[.slice a rs.length cap, .slice b cs.length cb, .func (.func 53) #[] #[]] W fun e w' => e = .returned (.int .i64 (usN rs cs rs.length)) ∧ Below W.heap.size W w') := fun W hb => sumUses_any a cap rs hl hrr b cb cs hlen hfit W (hr.later hb) (ks.later hb)
  have HG : Hid (∀ W, Below w.heap.size w W → Calls Try.prog 52 #[.slice a rs.length cap, .slice b cs.length cb, .func (.func 54) #[] #[]] W fun e w' => e = .returned (.int .i64 (gaN rs cs rs.length)) ∧ Below W.heap.size W w') := fun W hb => sumGains_any a cap rs hl hrr b cb cs hlen hfit W (hr.later hb) (ks.later hb)
  clear hr ks hrr hfit hlen
  generalize usN rs cs rs.length = uv at *
  generalize gaN rs cs rs.length = gv at *
  obtain ⟨W0, hW0⟩ : ∃ W0, W0 = w.alloc (Obj.cells #[.slice none 0 0, .int .i64 0, .int .i64 0] 28) := ⟨_, rfl⟩
  obtain ⟨R, hR⟩ : ∃ R, R = w.heap.size := ⟨_, rfl⟩
  have HW0 : Hid (W0 = w.alloc (Obj.cells #[.slice none 0 0, .int .i64 0, .int .i64 0] 28) ∧ R = w.heap.size) := ⟨hW0, hR⟩
  have HB0 : Hid (Below w.heap.size w W0) := by show Below _ _ _; rw [hW0]; exact below_alloc _ _
  have HRx : Hid (W0.heap[R]? = some (.cells #[.slice none 0 0, .int .i64 0, .int .i64 0] 28 (0, 0))) := by show _ = _; rw [hW0, hR]; exact heapNew _ _
  clear hW0 hR
  go_enter Try.func30, Try.ntmps30
  go_upto_region 1 with fail
  rw [← HW0.out.1, ← HW0.out.2]
  go_wp2_with fail
  (first | go_at_call 52 | skip)
  refine (HU.out W0 HB0.out).mono ?_
  rintro e w1 ⟨rfl, hb1⟩
  have HB1 : Hid (Below W0.heap.size W0 w1) := hb1
  clear hb1 HU
  go_wp2_with fail
  (first | go_at_call 52 | skip)
  refine (HG.out w1 (chain HB0.out HB1.out)).mono ?_
  rintro e w2 ⟨rfl, hb2⟩
  have HB2 : Hid (Below W0.heap.size W0 w2) := chain HB1.out hb2
  have hrx := (HB2.out.block R (blkLt HRx.out)).trans HRx.out
  have z0 := blkCell hrx 0 _ rfl
  have z1 := blkCell hrx 1 _ rfl
  have z2 := blkCell hrx 2 _ rfl
  have y0 := blkFree hrx 0
  have y1 := blkFree hrx 1
  have y2 := blkFree hrx 2
  simp only [List.getElem_toArray, List.getElem_cons_zero, List.getElem_cons_succ] at z0 z1 z2
  have hRw : w.heap.size ≤ R := by rw [HW0.out.2]; exact Nat.le_refl _
  clear hrx hb2 HG HB1 HW0
  go_wp2_with fail
  refine bodyPost_ret (v := .agg #[.slice b cs.length cb, .int .i64 uv, .int .i64 gv]) (by simp [results, Try.results30, go_sem, z0, z1, z2]) rfl ⟨rfl, ?_⟩
  repeat refine Below.setCell ?_ (by dsimp only; omega) _
  exact chain HB0.out HB2.out

set_option maxHeartbeats 8000000 in
set_option maxRecDepth 4000 in
theorem implShelf_any (a : Option Addr) (cap : Nat) (rs : List CFc) (hl : rs.length ≤ 100000000) (hp : ∀ r ∈ rs, FcOK r) (wd : Int) (b off cb : Nat) (cs : List Int) (hc : cs.length ≤ 100000000) (w : World) (hr : ReadsFc w.heap.size w a rs) (ks : Reads w.heap.size w (some ⟨b, off, none⟩) cs) :
    Calls Try.prog 8 #[.slice a rs.length cap, .int .i64 wd, .slice (some ⟨b, off, none⟩) cs.length cb] w (AnsSh rs wd cs w) := by
  have HNo : Hid (∀ (c : Int) (w' : World), shCode rs wd cs = c → c ≠ 0 → Below w.heap.size w w' → AnsSh rs wd cs w (.returned (.tuple #[.agg #[.slice none 0 0, .int .i64 0, .int .i64 0], .int .i64 c])) w') := fun c w' h1 h2 h3 => ansSh_none h1 h2 h3
  have HYe : Hid (∀ (q : Option Addr) (cq : Nat) (w' : World), shCode rs wd cs = 0 → Own2 w.heap.size w' q cs → Below w.heap.size w w' → AnsSh rs wd cs w (.returned (.tuple #[.agg #[.slice q cs.length cq, .int .i64 (usN rs cs rs.length), .int .i64 (gaN rs cs rs.length)], .int .i64 0])) w') := fun q cq w' h1 h2 h3 => ansSh_some h1 h2 h3
  have HCd : Hid (shCode rs wd cs = if 4096 < rs.length ∨ 4096 < cs.length then 2 else if shFault rs wd = 0 then (if (decide (rs.length = cs.length) && fitS rs cs rs.length) = true then (if wd < usN rs cs rs.length then 14 else 0) else 3) else shFault rs wd) := rfl
  obtain ⟨W0, hW0⟩ : ∃ W0, W0 = w.alloc (Obj.cells #[.slice none 0 0, .int .i64 0, .int .i64 0] 28) := ⟨_, rfl⟩
  obtain ⟨R, hR⟩ : ∃ R, R = w.heap.size := ⟨_, rfl⟩
  have HW0 : Hid (W0 = w.alloc (Obj.cells #[.slice none 0 0, .int .i64 0, .int .i64 0] 28) ∧ R = w.heap.size) := ⟨hW0, hR⟩
  have HB0 : Hid (Below w.heap.size w W0) := by show Below _ _ _; rw [hW0]; exact below_alloc _ _
  have HRx : Hid (W0.heap[R]? = some (.cells #[.slice none 0 0, .int .i64 0, .int .i64 0] 28 (0, 0))) := by show _ = _; rw [hW0, hR]; exact heapNew _ _
  have hRw : w.heap.size ≤ R := by rw [hR]; exact Nat.le_refl _
  have HF : Hid (∀ W, Below w.heap.size w W → Calls Try.prog 27 #[.slice a rs.length cap, .int .i64 wd] W fun e w' => e = .returned (.int .i64 (shFault rs wd)) ∧ Below W.heap.size W w') := fun W hb => shelfFault_any a cap rs hl hp wd W (hr.later hb)
  have HT : Hid (∀ W, Below w.heap.size w W → Calls Try.prog 28 #[.slice a rs.length cap, .slice (some ⟨b, off, none⟩) cs.length cb, .func (.func 29) #[] #[]] W fun e w' => e = .returned (.bool (decide (rs.length = cs.length) && fitS rs cs rs.length)) ∧ Below W.heap.size W w') := fun W hb => fitT_any a cap rs hl (some ⟨b, off, none⟩) cb cs hc W (hr.later hb) (ks.later hb)
  have HR : Hid (ReadsFc w.heap.size w a rs) := hr
  have HK : Hid (Reads w.heap.size w (some ⟨b, off, none⟩) cs) := ks
  clear hr ks hp hW0 hR
  by_cases h4 : (4096 : Int) < (rs.length : Int)
  · have HC : Hid (shCode rs wd cs = 2) := by show _ = _; rw [HCd.out, if_pos (by omega)]
    clear HCd HF HT HR HK HYe
    go_enter Try.func8, Try.ntmps8
    go_wp2
    refine bodyPost_ret (v := .tuple #[.agg #[.slice none 0 0, .int .i64 0, .int .i64 0], .int .i64 2]) (by simp [results, Try.results8, go_sem]) rfl ?_
    exact HNo.out 2 _ HC.out (by omega) (below_alloc _ _)
  by_cases h5 : (4096 : Int) < (cs.length : Int)
  · have HC : Hid (shCode rs wd cs = 2) := by show _ = _; rw [HCd.out, if_pos (by omega)]
    clear HCd HF HT HR HK HYe
    go_enter Try.func8, Try.ntmps8
    go_wp2
    refine bodyPost_ret (v := .tuple #[.agg #[.slice none 0 0, .int .i64 0, .int .i64 0], .int .i64 2]) (by simp [results, Try.results8, go_sem]) rfl ?_
    exact HNo.out 2 _ HC.out (by omega) (below_alloc _ _)
  have HCd2 : Hid (shCode rs wd cs = if shFault rs wd = 0 then (if (decide (rs.length = cs.length) && fitS rs cs rs.length) = true then (if wd < usN rs cs rs.length then 14 else 0) else 3) else shFault rs wd) := by show _ = _; rw [HCd.out, if_neg (by omega)]
  have hc4 : cs.length ≤ 4096 := by omega
  clear HCd
  by_cases hf : shFault rs wd = 0
  case neg =>
    have HC : Hid (shCode rs wd cs = shFault rs wd) := by show _ = _; rw [HCd2.out, if_neg hf]
    have HNz : Hid (shFault rs wd ≠ 0) := hf
    have hfb : (shFault rs wd != 0) = true := by simpa using hf
    clear HCd2 HT HR HK HYe hf
    generalize shFault rs wd = fv at *
    go_enter Try.func8, Try.ntmps8
    go_upto_region 3 with fail
    rw [← HW0.out.1, ← HW0.out.2]
    clear HW0
    go_wp2_with fail
    (first | go_at_call 27 | skip)
    refine (HF.out W0 HB0.out).mono ?_
    rintro e w1 ⟨rfl, hb1⟩
    have HB1 : Hid (Below W0.heap.size W0 w1) := hb1
    clear hb1 HF
    have hrx := (HB1.out.block R (blkLt HRx.out)).trans HRx.out
    have z0 := blkCell hrx 0 _ rfl
    have z1 := blkCell hrx 1 _ rfl
    have z2 := blkCell hrx 2 _ rfl
    have y0 := blkFree hrx 0
    have y1 := blkFree hrx 1
    have y2 := blkFree hrx 2
    simp only [List.getElem_toArray, List.getElem_cons_zero, List.getElem_cons_succ] at z0 z1 z2
    clear hrx
    go_wp2_with fail
    refine bodyPost_ret (v := .tuple #[.agg #[.slice none 0 0, .int .i64 0, .int .i64 0], .int .i64 fv]) (by simp [results, Try.results8, go_sem, z0, z1, z2]) rfl ?_
    refine HNo.out fv _ HC.out HNz.out ?_
    repeat refine Below.setCell ?_ (by dsimp only; omega) _
    exact chain HB0.out HB1.out
  have hall : fcAll rs = true := by
    rcases shFault_ways rs wd with ⟨_, e⟩ | ⟨_, _, e⟩ | ⟨_, _, _, e⟩ | ⟨h, _⟩
    · rw [e] at hf; cases hf
    · rw [e] at hf; cases hf
    · rw [e] at hf; cases hf
    · exact h
  have hR12 := fcAll_r hall
  have HCd3 : Hid (shCode rs wd cs = if (decide (rs.length = cs.length) && fitS rs cs rs.length) = true then (if wd < usN rs cs rs.length then 14 else 0) else 3) := by show _ = _; rw [HCd2.out, if_pos hf]
  have HPl : Hid (∀ W g cg, (decide (rs.length = cs.length) && fitS rs cs rs.length) = true → Below w.heap.size w W → Own2 w.heap.size W g cs → Calls Try.prog 30 #[.slice a rs.length cap, .slice g cs.length cg] W fun e w' => e = .returned (.agg #[.slice g cs.length cg, .int .i64 (usN rs cs rs.length), .int .i64 (gaN rs cs rs.length)]) ∧ Below W.heap.size W w') := fun W g cg h1 hb ho => by
    rw [Bool.and_eq_true] at h1
    exact planOf_any a cap rs hR12.1 hR12.2 g cg cs (of_decide_eq_true h1.1) h1.2 W (HR.out.later hb) ho.reads
  have HCl : Hid (∀ W, Below w.heap.size w W → Calls Try.prog 31 #[.slice (some ⟨b, off, none⟩) cs.length cb] W fun e w' => ∃ g cp, e = .returned (.slice (some ⟨g, 0, none⟩) cs.length cp) ∧ Own2 W.heap.size w' (some ⟨g, 0, none⟩) cs ∧ Below W.heap.size W w') := fun W hb => cloneI_any b off cb cs hc4 W (HK.out.later hb)
  rw [hf] at HF
  clear HCd2 hf hall hR12
  cases hfit : (decide (rs.length = cs.length) && fitS rs cs rs.length)
  · have HC : Hid (shCode rs wd cs = 3) := by show _ = _; rw [HCd3.out, hfit]; rfl
    rw [hfit] at HT
    clear HCd3 HPl HCl hfit HYe
    go_enter Try.func8, Try.ntmps8
    go_upto_region 3 with fail
    rw [← HW0.out.1, ← HW0.out.2]
    clear HW0
    go_wp2_with fail
    (first | go_at_call 27 | skip)
    refine (HF.out W0 HB0.out).mono ?_
    rintro e w1 ⟨rfl, hb1⟩
    have HB1 : Hid (Below W0.heap.size W0 w1) := hb1
    clear hb1 HF
    go_wp2_with fail
    (first | go_at_call 28 | skip)
    refine (HT.out w1 (chain HB0.out HB1.out)).mono ?_
    rintro e w2 ⟨rfl, hb2⟩
    have HB2 : Hid (Below W0.heap.size W0 w2) := chain HB1.out hb2
    clear hb2 HT
    have hrx := (HB2.out.block R (blkLt HRx.out)).trans HRx.out
    have z0 := blkCell hrx 0 _ rfl
    have z1 := blkCell hrx 1 _ rfl
    have z2 := blkCell hrx 2 _ rfl
    have y0 := blkFree hrx 0
    have y1 := blkFree hrx 1
    have y2 := blkFree hrx 2
    simp only [List.getElem_toArray, List.getElem_cons_zero, List.getElem_cons_succ] at z0 z1 z2
    clear hrx
    go_wp2_with fail
    refine bodyPost_ret (v := .tuple #[.agg #[.slice none 0 0, .int .i64 0, .int .i64 0], .int .i64 3]) (by simp [results, Try.results8, go_sem, z0, z1, z2]) rfl ?_
    refine HNo.out 3 _ HC.out (by omega) ?_
    repeat refine Below.setCell ?_ (by dsimp only; omega) _
    exact chain HB0.out HB2.out
  have HPl2 : Hid (∀ W g cg, Below w.heap.size w W → Own2 w.heap.size W g cs → Calls Try.prog 30 #[.slice a rs.length cap, .slice g cs.length cg] W fun e w' => e = .returned (.agg #[.slice g cs.length cg, .int .i64 (usN rs cs rs.length), .int .i64 (gaN rs cs rs.length)]) ∧ Below W.heap.size W w') := fun W g cg => HPl.out W g cg hfit
  have HCd4 : Hid (shCode rs wd cs = if wd < usN rs cs rs.length then 14 else 0) := by show _ = _; rw [HCd3.out, hfit]; rfl
  rw [hfit] at HT
  clear HCd3 HPl hfit
  generalize usN rs cs rs.length = uv at *
  generalize gaN rs cs rs.length = gv at *
  by_cases hu : wd < uv
  · have HC : Hid (shCode rs wd cs = 14) := by show _ = _; rw [HCd4.out, if_pos hu]
    clear HCd4
    go_enter Try.func8, Try.ntmps8
    go_upto_region 3 with fail
    rw [← HW0.out.1, ← HW0.out.2]
    clear HW0
    go_wp2_with fail
    (first | go_at_call 27 | skip)
    refine (HF.out W0 HB0.out).mono ?_
    rintro e w1 ⟨rfl, hb1⟩
    have HB1 : Hid (Below W0.heap.size W0 w1) := hb1
    clear hb1 HF
    go_wp2_with fail
    (first | go_at_call 28 | skip)
    refine (HT.out w1 (chain HB0.out HB1.out)).mono ?_
    rintro e w2 ⟨rfl, hb2⟩
    have HB2 : Hid (Below W0.heap.size W0 w2) := chain HB1.out hb2
    clear hb2 HT
    go_wp2_with fail
    (first | go_at_call 31 | skip)
    refine (HCl.out w2 (chain HB0.out HB2.out)).mono ?_
    rintro e w3 ⟨g, cg, rfl, ho3, hb3⟩
    have HB3 : Hid (Below W0.heap.size W0 w3) := chain HB2.out hb3
    have HO3 : Hid (Own2 W0.heap.size w3 (some ⟨g, 0, none⟩) cs) := own2_mono ho3 HB2.out.size
    clear hb3 ho3 HCl
    go_wp2_with fail
    (first | go_at_call 30 | skip)
    refine (HPl2.out w3 (some ⟨g, 0, none⟩) cg (chain HB0.out HB3.out) (own2_mono HO3.out HB0.out.size)).mono ?_
    rintro e w4 ⟨rfl, hb4⟩
    have HB4 : Hid (Below W0.heap.size W0 w4) := chain HB3.out hb4
    have HO4 : Hid (Own2 W0.heap.size w4 (some ⟨g, 0, none⟩) cs) := own2_later HO3.out hb4
    clear hb4 HPl2
    have hpx : (w4.alloc (Obj.cells #[.slice (some ⟨g, 0, none⟩) cs.length cg, .int .i64 uv, .int .i64 gv] 28)).heap[w4.heap.size]? = some (.cells #[.slice (some ⟨g, 0, none⟩) cs.length cg, .int .i64 uv, .int .i64 gv] 28 (0, 0)) := heapNew _ _
    obtain ⟨w5, hw5⟩ : ∃ w5, w5 = w4.alloc (Obj.cells #[.slice (some ⟨g, 0, none⟩) cs.length cg, .int .i64 uv, .int .i64 gv] 28) := ⟨_, rfl⟩
    rw [← hw5] at hpx
    have HW5 : Hid (w5 = w4.alloc (Obj.cells #[.slice (some ⟨g, 0, none⟩) cs.length cg, .int .i64 uv, .int .i64 gv] 28)) := hw5
    have HB5 : Hid (Below W0.heap.size W0 w5) := by show Below _ _ _; rw [hw5]; exact chain HB4.out (below_alloc _ _)
    have x1 := blkCell hpx 1 _ rfl
    simp only [List.getElem_toArray, List.getElem_cons_zero, List.getElem_cons_succ] at x1
    clear hw5 hpx
    go_upto_region 9 with fail
    rw [← HW5.out]
    clear HW5
    have hrx := (HB5.out.block R (blkLt HRx.out)).trans HRx.out
    have z0 := blkCell hrx 0 _ rfl
    have z1 := blkCell hrx 1 _ rfl
    have z2 := blkCell hrx 2 _ rfl
    have y0 := blkFree hrx 0
    have y1 := blkFree hrx 1
    have y2 := blkFree hrx 2
    simp only [List.getElem_toArray, List.getElem_cons_zero, List.getElem_cons_succ] at z0 z1 z2
    clear hrx
    go_wp2_with fail
    refine bodyPost_ret (v := .tuple #[.agg #[.slice none 0 0, .int .i64 0, .int .i64 0], .int .i64 14]) (by simp [results, Try.results8, go_sem, z0, z1, z2]) rfl ?_
    refine HNo.out 14 _ HC.out (by omega) ?_
    repeat refine Below.setCell ?_ (by dsimp only; omega) _
    exact chain HB0.out HB5.out
  · have HC : Hid (shCode rs wd cs = 0) := by show _ = _; rw [HCd4.out, if_neg hu]
    clear HCd4
    go_enter Try.func8, Try.ntmps8
    go_upto_region 3 with fail
    rw [← HW0.out.1, ← HW0.out.2]
    clear HW0
    go_wp2_with fail
    (first | go_at_call 27 | skip)
    refine (HF.out W0 HB0.out).mono ?_
    rintro e w1 ⟨rfl, hb1⟩
    have HB1 : Hid (Below W0.heap.size W0 w1) := hb1
    clear hb1 HF
    go_wp2_with fail
    (first | go_at_call 28 | skip)
    refine (HT.out w1 (chain HB0.out HB1.out)).mono ?_
    rintro e w2 ⟨rfl, hb2⟩
    have HB2 : Hid (Below W0.heap.size W0 w2) := chain HB1.out hb2
    clear hb2 HT
    go_wp2_with fail
    (first | go_at_call 31 | skip)
    refine (HCl.out w2 (chain HB0.out HB2.out)).mono ?_
    rintro e w3 ⟨g, cg, rfl, ho3, hb3⟩
    have HB3 : Hid (Below W0.heap.size W0 w3) := chain HB2.out hb3
    have HO3 : Hid (Own2 W0.heap.size w3 (some ⟨g, 0, none⟩) cs) := own2_mono ho3 HB2.out.size
    clear hb3 ho3 HCl
    go_wp2_with fail
    (first | go_at_call 30 | skip)
    refine (HPl2.out w3 (some ⟨g, 0, none⟩) cg (chain HB0.out HB3.out) (own2_mono HO3.out HB0.out.size)).mono ?_
    rintro e w4 ⟨rfl, hb4⟩
    have HB4 : Hid (Below W0.heap.size W0 w4) := chain HB3.out hb4
    have HO4 : Hid (Own2 W0.heap.size w4 (some ⟨g, 0, none⟩) cs) := own2_later HO3.out hb4
    clear hb4 HPl2
    have hpx : (w4.alloc (Obj.cells #[.slice (some ⟨g, 0, none⟩) cs.length cg, .int .i64 uv, .int .i64 gv] 28)).heap[w4.heap.size]? = some (.cells #[.slice (some ⟨g, 0, none⟩) cs.length cg, .int .i64 uv, .int .i64 gv] 28 (0, 0)) := heapNew _ _
    obtain ⟨w5, hw5⟩ : ∃ w5, w5 = w4.alloc (Obj.cells #[.slice (some ⟨g, 0, none⟩) cs.length cg, .int .i64 uv, .int .i64 gv] 28) := ⟨_, rfl⟩
    rw [← hw5] at hpx
    have HW5 : Hid (w5 = w4.alloc (Obj.cells #[.slice (some ⟨g, 0, none⟩) cs.length cg, .int .i64 uv, .int .i64 gv] 28)) := hw5
    have HB5 : Hid (Below W0.heap.size W0 w5) := by show Below _ _ _; rw [hw5]; exact chain HB4.out (below_alloc _ _)
    have HO5 : Hid (Own2 W0.heap.size w5 (some ⟨g, 0, none⟩) cs) := by show Own2 _ _ _ _; rw [hw5]; exact own2_later HO4.out (below_alloc _ _)
    have x0 := blkCell hpx 0 _ rfl
    have x1 := blkCell hpx 1 _ rfl
    have x2 := blkCell hpx 2 _ rfl
    have hrx := (HB5.out.block R (blkLt HRx.out)).trans HRx.out
    have z0 := blkCell hrx 0 _ rfl
    have z1 := blkCell hrx 1 _ rfl
    have z2 := blkCell hrx 2 _ rfl
    have y0 := blkFree hrx 0
    have y1 := blkFree hrx 1
    have y2 := blkFree hrx 2
    simp only [List.getElem_toArray, List.getElem_cons_zero, List.getElem_cons_succ] at x0 x1 x2 z0 z1 z2
    have hRlt := blkLt HRx.out
    have HRlt : Hid (R < W0.heap.size) := hRlt
    clear hw5 hpx hrx hRlt
    go_upto_region 9 with fail
    rw [← HW5.out]
    clear HW5
    go_wp2_with fail
    refine bodyPost_ret (v := .tuple #[.agg #[.slice (some ⟨g, 0, none⟩) cs.length cg, .int .i64 uv, .int .i64 gv], .int .i64 0]) (by simp [results, Try.results8, go_sem, z0, z1, z2]) rfl ?_
    refine HYe.out _ _ _ HC.out ?_ ?_
    · refine own2_set ?_ (fun c hc => ?_) _ _
      refine own2_set ?_ (fun c hc => ?_) _ _
      refine own2_set (own2_mono HO5.out HB0.out.size) (fun c hc => ?_) _ _
      all_goals exact own2_neF HO5.out hc HRlt.out
    · repeat refine Below.setCell ?_ (by dsimp only; omega) _
      exact chain HB0.out HB5.out
end Go.Proofs.Ytphefbaogfknoaa
