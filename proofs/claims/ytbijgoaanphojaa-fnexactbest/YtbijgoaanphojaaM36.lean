/-
  Texts of this claim laid together: BsH, BsI.
-/
import Derived.Test.YtbijgoaanphojaaM35
/-
  The specification's uses: the sets of a deal that begin with the first unit that a mask leaves.
-/
namespace Go.Proofs.Ytbijgoaanphojaa
open Go.ChangeShapes Go.WideShapes Go.ChangeAt Go.RowKit Go.Deep
set_option linter.unusedVariables false

theorem freeL_least {n mask x : Nat} {l : List Nat} (h : freeL n mask = x :: l) : x < n ∧ mask.testBit x = false ∧ ∀ y, y < x → mask.testBit y = true := by
  have hx := (mem_freeL n mask x).1 (by rw [h]; exact List.mem_cons_self)
  refine ⟨hx.1, hx.2, fun y hy => ?_⟩
  cases e : mask.testBit y
  · have hm : y ∈ freeL n mask := (mem_freeL n mask y).2 ⟨by omega, e⟩
    rw [h] at hm
    have hr := freeL_ris n mask
    rw [h] at hr
    rcases List.mem_cons.1 hm with q | q
    · omega
    · have := (List.pairwise_cons.1 hr.1).1 y q
      omega
  · rfl
theorem freeX_of {us : List RUn} {d : CDl} {mask x : Nat} {l : List Nat} (h : freeL us.length mask = x :: l) : freeX us d x mask us.length = l.filter (fitU us d) := by
  obtain ⟨h1, h2, h3⟩ := freeL_least h
  have h4 := freeL_first h1 h2 h3
  rw [h] at h4
  have h5 := (List.cons.inj h4).2
  rw [h5, List.filter_filter]
  unfold freeX
  congr 1
  funext i
  rw [Bool.and_comm]
theorem uses_any (sb : Nat) (us : List RUn) (ua : Option Addr) (uc : Nat) (ds : List CDl) (da : Option Addr) (dc mb : Nat) (k x mask : Nat) (l : List Nat) (hk : k < ds.length) (hq : ∀ r ∈ ds, DlOK r) (w : World) (hS : SvIs w sb ua us.length uc da ds.length dc mb) (hr : ReadsUn w.heap.size w ua us) (ks : ReadsDl w.heap.size w da ds) (hu8 : us.length ≤ 8) (hm : mask < 256) (hn4 : 1 ≤ (ds.getD k zDl).nd ∧ (ds.getD k zDl).nd ≤ 4) (hl : freeL us.length mask = x :: l) :
    Calls Try.prog 39 #[.pointer (some ⟨sb, 0, none⟩), .int .i64 (k : Int), .int .i64 (x : Int), .int .i64 (mask : Int)] w fun e w' => ∃ g cp E, e = .returned (.slice g (setsK us ds (x :: l) k).length cp) ∧ OutS w (.slice g (setsK us ds (x :: l) k).length cp) (setsK us ds (x :: l) k) E w' ∧ HiB w.heap.size E (setsK us ds (x :: l) k).length := by
  have hx := (freeL_least hl).1
  unfold setsK
  rw [takes_sets]
  cases hf : fitU us (ds.getD k zDl) x
  · rw [if_neg (by simp)]
    refine (uses_no sb us ua uc ds da dc mb k x mask hk hx hq w hS hr ks hf).mono ?_
    rintro e w' ⟨g, cp, rfl, hO⟩
    exact ⟨g, cp, [], rfl, hO, fun i hi => by simp at hi⟩
  · rw [if_pos rfl, ← freeX_of hl]
    exact uses_yes sb us ua uc ds da dc mb k x mask hk hx hq w hS hr ks hu8 hm hn4 hf
end Go.Proofs.Ytbijgoaanphojaa

/-
  The specification's most, begun: its table; nothing is left.
-/
namespace Go.Proofs.Ytbijgoaanphojaa
open Go.ChangeShapes Go.WideShapes Go.ChangeAt Go.RowKit Go.Deep
set_option linter.unusedVariables false

/-- What the table holds is right. -/
def TabOK (us : List RUn) (ds : List CDl) (F : Nat → Int) : Prop := ∀ mask sp, mask < 256 → sp < 64 → SpOK ds sp → F (sp * 256 + mask) = -1 ∨ F (sp * 256 + mask) = mostM us ds mask sp
structure MoS (B sb mb : Nat) (us : List RUn) (ua : Option Addr) (uc : Nat) (ds : List CDl) (da : Option Addr) (dc : Nat) (F : Nat → Int) (W : World) : Prop where
  sv : SvIs W sb ua us.length uc da ds.length dc mb
  un : ReadsUn B W ua us
  dl : ReadsDl B W da ds
  tab : W.rowIs mb 3 16384 (fun i => .int .i64 (F i))
  ok : TabOK us ds F
  bs : B ≤ sb
  bm : B ≤ mb
theorem MoS.ne {B sb mb : Nat} {us : List RUn} {ua : Option Addr} {uc : Nat} {ds : List CDl} {da : Option Addr} {dc : Nat} {F : Nat → Int} {W : World} (h : MoS B sb mb us ua uc ds da dc F W) : sb ≠ mb := fun e => by
  obtain ⟨c, hc, _⟩ := h.tab
  have := h.sv
  unfold SvIs at this
  rw [e, hc] at this
  simp at this
theorem MoS.top {B sb mb : Nat} {us : List RUn} {ua : Option Addr} {uc : Nat} {ds : List CDl} {da : Option Addr} {dc : Nat} {F : Nat → Int} {W : World} (h : MoS B sb mb us ua uc ds da dc F W) : B ≤ W.heap.size := Nat.le_trans h.bm (Nat.le_of_lt h.tab.lt)
theorem MoS.later {B sb mb : Nat} {us : List RUn} {ua : Option Addr} {uc : Nat} {ds : List CDl} {da : Option Addr} {dc : Nat} {F : Nat → Int} {W W' : World} (h : MoS B sb mb us ua uc ds da dc F W) (hb : Below W.heap.size W W') : MoS B sb mb us ua uc ds da dc F W' :=
  ⟨(hb.block _ (blkLt h.sv)).trans h.sv, h.un.below (hb.mono h.top), h.dl.below (hb.mono h.top), h.tab.of_block (hb.block _ h.tab.lt), h.ok, h.bs, h.bm⟩
theorem at_inj {m1 s1 m2 s2 : Nat} (h1 : m1 < 256) (h2 : m2 < 256) (h : s1 * 256 + m1 = s2 * 256 + m2) : m1 = m2 ∧ s1 = s2 := by omega
theorem MoS.put {B sb mb : Nat} {us : List RUn} {ua : Option Addr} {uc : Nat} {ds : List CDl} {da : Option Addr} {dc : Nat} {F : Nat → Int} {W : World} (h : MoS B sb mb us ua uc ds da dc F W) {mask sp : Nat} (hm : mask < 256) :
    MoS B sb mb us ua uc ds da dc (fun i => if i = sp * 256 + mask then mostM us ds mask sp else F i) (W.setCell ⟨mb, sp * 256 + mask, none⟩ (.int .i64 (mostM us ds mask sp))) := by
  have hb : Below B W (W.setCell ⟨mb, sp * 256 + mask, none⟩ (.int .i64 (mostM us ds mask sp))) := (Below.refl _ _).setCell h.bm _
  refine ⟨(Below.heap_setCell _ _ _ _ h.ne).trans h.sv, h.un.below hb, h.dl.below hb, (h.tab.set _ _).congr (fun i hi => ?_), fun m s h1 h2 h3 => ?_, h.bs, h.bm⟩
  · try dsimp only
    split <;> rfl
  · try dsimp only
    by_cases e : s * 256 + m = sp * 256 + mask
    · obtain ⟨rfl, rfl⟩ := at_inj h1 hm e
      rw [if_pos rfl]; exact .inr rfl
    · rw [if_neg e]; exact h.ok m s h1 h2 h3
/-- The contract of most where at most n units are left. -/
def MostP (B sb mb : Nat) (us : List RUn) (ua : Option Addr) (uc : Nat) (ds : List CDl) (da : Option Addr) (dc : Nat) (n : Nat) : Prop := ∀ (mask sp : Nat) (F : Nat → Int) (W : World), mask < 256 → sp < 64 → SpOK ds sp → (freeL us.length mask).length ≤ n → MoS B sb mb us ua uc ds da dc F W →
  Calls Try.prog 38 #[.pointer (some ⟨sb, 0, none⟩), .int .i64 (mask : Int), .int .i64 (sp : Int)] W fun e w' => e = .returned (.int .i64 (mostM us ds mask sp)) ∧ (∃ F', MoS B sb mb us ua uc ds da dc F' w') ∧ Fr (fun q => q = mb) W w'
set_option maxHeartbeats 4000000 in
theorem most_none (B sb mb : Nat) (us : List RUn) (ua : Option Addr) (uc : Nat) (ds : List CDl) (da : Option Addr) (dc : Nat) (hu8 : us.length ≤ 8) (mask sp : Nat) (F : Nat → Int) (w : World) (hm : mask < 256) (hf : freeL us.length mask = []) (h : MoS B sb mb us ua uc ds da dc F w) :
    Calls Try.prog 38 #[.pointer (some ⟨sb, 0, none⟩), .int .i64 (mask : Int), .int .i64 (sp : Int)] w fun e w' => e = .returned (.int .i64 (mostM us ds mask sp)) ∧ (∃ F', MoS B sb mb us ua uc ds da dc F' w') ∧ Fr (fun q => q = mb) w w' := by
  rw [most_nil hf]
  have HS : Hid (MoS B sb mb us ua uc ds da dc F w) := h
  have HBit : Hid (∀ y, y < us.length → mask.testBit y = true) := fun y hy => by
    cases e : mask.testBit y
    · have := (mem_freeL us.length mask y).2 ⟨hy, e⟩
      rw [hf] at this
      cases this
    · rfl
  have x0 : w.cell? ⟨sb, 0, none⟩ = some (.slice ua us.length uc) := blkCell h.sv 0 _ rfl
  clear h hf
  go_enter Try.func38, Try.ntmps38
  go_wp2
  go_loop [7] (fun c => ∃ k : Nat, k ≤ us.length ∧ c = .int .i64 (k : Int)) (fun c => us.length - (intOf c).toNat)
  case atStart => exact ⟨0, Nat.zero_le _, rfl⟩
  case round =>
    obtain ⟨k, hk, rfl⟩ := hrel
    by_cases hlt : k < us.length
    · have hlt' : (k : Int) < (us.length : Int) := by omega
      have hju := wrapJ k (Nat.lt_of_lt_of_le hlt (Nat.le_trans hu8 (by decide)))
      have hsh := shr_bit mask k (Nat.lt_trans hm (by decide))
      rw [HBit.out k hlt, if_pos rfl] at hsh
      have hsh1 : bits .and .i64 ((mask : Int) / 2 ^ k) 1 = (1 : Int) := by rw [hsh]; rfl
      clear hsh
      go_wp2
      exact ⟨⟨k + 1, hlt, by go_num⟩, by simp [intOf]; omega⟩
    · obtain rfl : k = us.length := by omega
      have hnn : ¬ ((us.length : Int) < (us.length : Int)) := by omega
      go_wp2
      go_ret
      exact ⟨rfl, ⟨F, HS.out⟩, Fr.refl _ _⟩
end Go.Proofs.Ytbijgoaanphojaa
