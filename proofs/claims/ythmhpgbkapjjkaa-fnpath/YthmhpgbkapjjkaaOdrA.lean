/-
  Contract of the source's order: each number below n once.
-/
import Derived.Test.YthmhpgbkapjjkaaPlO
import Derived.Test.YthmhpgbkapjjkaaQdA
import Derived.Deep.AppendLies
import Derived.Laws.OwnMore
namespace Go.Proofs.Ythmhpgbkapjjkaa
open Go.ChangeShapes Go.WideShapes Go.ChangeAt Go.RowKit Go.Deep
set_option linter.unusedVariables false

/-- How far it is from k up to x, around n. -/
def dsO (x k n : Nat) : Nat := if k ≤ x then x - k else x + n - k
/-- The number behind k, around n. -/
def nxO (k n : Nat) : Nat := if k + 1 = n then 0 else k + 1
theorem nxO_lt {k n : Nat} (h : k < n) : nxO k n < n := by unfold nxO; split <;> omega
theorem nxO_mod {k n : Nat} (h : k < n) : ((k : Int) + 1).tmod (n : Int) = (nxO k n : Int) := by
  rw [Int.tmod_eq_emod_of_nonneg (by omega)]
  unfold nxO
  by_cases e : k + 1 = n
  · rw [if_pos e, show (k : Int) + 1 = (n : Int) by omega]; simp
  · rw [if_neg e, Int.emod_eq_of_lt (by omega) (by omega)]; simp
theorem dsO_next {x k n : Nat} (hx : x < n) (hk : k < n) (hne : x ≠ k) : dsO x (nxO k n) n + 1 = dsO x k n := by
  unfold dsO nxO
  by_cases e : k + 1 = n
  · rw [if_pos e, if_pos (by omega), if_neg (by omega)]; omega
  · rw [if_neg e]
    by_cases h : k ≤ x
    · rw [if_pos h, if_pos (by omega)]; omega
    · rw [if_neg h, if_neg (by omega)]; omega
/-- A list shorter than n lacks a number below n. -/
theorem lack {n : Nat} {L : List Int} (h : L.length < n) : ∃ x : Nat, x < n ∧ (x : Int) ∉ L := by
  refine Classical.byContradiction (fun hno => ?_)
  have hall : ∀ y ∈ numZ n, y ∈ L := fun y hy => by
    obtain ⟨h1, h2⟩ := (numZ_mem n y).1 hy
    refine Classical.byContradiction (fun hc => hno ⟨y.toNat, by omega, ?_⟩)
    rw [show ((y.toNat : Nat) : Int) = y by omega]
    exact hc
  have := (numZ_nodup n).length_le_of_subset hall
  rw [numZ_length] at this
  omega
def lenV : Value → Nat
  | .slice _ n _ => n
  | _ => 0
def PostOd (b : Nat) (a : Option Addr) (len cap n : Nat) (at0 : Int) (w : World) (e : Ending) (w' : World) : Prop := ∃ (L : List Int) (g cp : Nat) (at2 sd2 : Int), e = .returned (.slice (some ⟨g, 0, none⟩) L.length cp) ∧ OnP L n ∧ at2 ≤ at0 + 3 * (n : Int) ∧ FoSt b a len cap w (.slice (some ⟨g, 0, none⟩) L.length cp) L at2 sd2 w'
set_option maxHeartbeats 4000000 in
set_option maxRecDepth 4000 in
theorem order_any (b : Nat) (a : Option Addr) (len cap : Nat) (zs : List Int) (n : Nat) (hn : n ≤ 9) (at0 sd0 : Int) (w : World) (hs : Src w b a len cap at0 sd0) (hr : RowB b w a len zs) (ha0 : at0 ≤ 999999990000) :
    Calls Try.prog 35 #[.pointer (some ⟨b, 0, none⟩), .int .i64 (n : Int)] w (PostOd b a len cap n at0 w) := by
  have HR : Hid (RowB b w a len zs) := hr
  have HNx : Hid (∀ (at' sd : Int) (W : World), at' ≤ 999999999000 → Src W b a len cap at' sd → Below b w W → Calls Try.prog 32 #[.pointer (some ⟨b, 0, none⟩), .int .i64 (n : Int)] W fun e w' => ∃ x at2 s' : Int, e = .returned (.int .i64 x) ∧ Drawn x (n : Int) ∧ at' ≤ at2 ∧ at2 ≤ at' + 3 ∧ Src w' b a len cap at2 s' ∧ Below b W w' ∧ Apt b W w') := fun at' sd W ha hS hB => next_anyA b b a len cap zs (n : Int) at' sd W (Nat.le_refl _) hS (HR.out.below hB) ha (by omega)
  have HF0 : Hid (FoSt b a len cap w (.slice (some ⟨w.heap.size, 0, none⟩) 0 0) [] at0 sd0 (w.alloc (Obj.cells #[] 3))) := FoSt.start hs
  obtain ⟨i0, hi, hzz⟩ := Option.map_eq_some_iff.1 intInfo
  simp only [Prod.mk.injEq] at hzz
  obtain ⟨hi0, hi1, hi2⟩ := hzz
  clear hr hs HR
  go_enter Try.func35, Try.ntmps35
  go_wp2
  go_loopw [5, 6, 7] (fun v _ _ wr => ∃ (L : List Int) (g cp : Nat) (at' sd : Int), v = .slice (some ⟨g, 0, none⟩) L.length cp ∧ L.length ≤ n ∧ (∀ x ∈ L, 0 ≤ x ∧ x ≤ (n : Int) - 1) ∧ L.Nodup ∧ at' ≤ at0 + 3 * (L.length : Int) ∧ FoSt b a len cap w (.slice (some ⟨g, 0, none⟩) L.length cp) L at' sd wr) (fun v _ _ _ => n - lenV v)
  case atStart => exact ⟨[], w.heap.size, 0, at0, sd0, rfl, Nat.zero_le _, by simp, List.nodup_nil, by simp, HF0.out⟩
  case round =>
    clear HF0
    obtain ⟨L, g, cp, at', sd, rfl, hL, hin, hnd, hat, hF⟩ := hrel
    have HF : Hid (FoSt b a len cap w (.slice (some ⟨g, 0, none⟩) L.length cp) L at' sd wr) := hF
    have HIn : Hid (∀ x ∈ L, 0 ≤ x ∧ x ≤ (n : Int) - 1) := hin
    have HNd : Hid (L.Nodup) := hnd
    clear hF hin hnd
    by_cases hlt : L.length < n
    · have hlt' : (L.length : Int) < (n : Int) := by omega
      go_wp2_with fail
      (first | go_at_call 32 | skip)
      refine (HNx.out at' sd wr (by omega) HF.out.src HF.out.low).mono ?_
      rintro e w5 ⟨p, at5, s5, rfl, hp, q5, q6, hs5, hb5, ha5⟩
      have HF5 : Hid (FoSt b a len cap w (.slice (some ⟨g, 0, none⟩) L.length cp) L at5 s5 w5) := HF.out.step (ha5.apart hb5) hb5 hs5
      obtain ⟨k0, rfl⟩ : ∃ k0 : Nat, p = (k0 : Int) := ⟨p.toNat, by obtain ⟨u1, u2⟩ := hp; omega⟩
      have hk0 : k0 < n := by obtain ⟨u1, u2⟩ := hp; omega
      obtain ⟨x, hx, hxL⟩ := lack hlt
      have HX : Hid ((x : Int) ∉ L) := hxL
      clear hs5 hb5 ha5 HF hp hxL
      go_wp2_with fail
      go_loopw [6, 7] (fun kv iv wr => ∃ k i : Nat, kv = .int .i64 (k : Int) ∧ iv = .int .i64 (i : Int) ∧ k < n ∧ i ≤ L.length ∧ (∀ j, j < i → L.getD j 0 ≠ (k : Int)) ∧ w5 = wr) (fun kv iv _ => dsO x (intOf kv).toNat n * (L.length + 1) + (L.length - (intOf iv).toNat))
      case atStart => exact ⟨k0, 0, rfl, rfl, hk0, Nat.zero_le _, fun j hj => absurd hj (Nat.not_lt_zero _), rfl⟩
      case round =>
        obtain ⟨k, i, rfl, rfl, hk, hi', hall, rfl⟩ := hrel
        have HAll : Hid (∀ j, j < i → L.getD j 0 ≠ (k : Int)) := hall
        clear hall
        by_cases hil : i < L.length
        · have hil' : (i : Int) < (L.length : Int) := by omega
          have f0 : w5.cell? ⟨g, i, none⟩ = some (.int .i64 (L.getD i 0)) := by
            rw [HF5.out.row.cellAt i (by omega)]; simp [List.getD_eq_getElem?_getD, hil]
          have HM : Hid (L.getD i 0 ∈ L) := by
            have e : L.getD i 0 = L[i] := by simp [List.getD_eq_getElem?_getD, hil]
            rw [e]; exact List.getElem_mem _
          have hw1 : IntKind.i64.wrap ((i : Int) + 1) = ((i + 1 : Nat) : Int) := by rw [wrap_id _ (by omega) (by omega)]; omega
          by_cases e : L.getD i 0 = (k : Int)
          · rw [e] at f0 HM
            have hxk : x ≠ k := fun h => HX.out (by rw [h]; exact HM.out)
            have hds := dsO_next hx hk hxk
            have hnk := nxO_lt hk
            have htm := nxO_mod hk
            have hwk : IntKind.i64.wrap ((k : Int) + 1) = (k : Int) + 1 := wrap_id _ (by omega) (by omega)
            have hwk2 : IntKind.i64.wrap ((nxO k n : Nat) : Int) = ((nxO k n : Nat) : Int) := wrap_id _ (by omega) (by omega)
            have hn0 : ¬ (n : Int) = 0 := by omega
            have hmul : dsO x k n * (L.length + 1) = dsO x (nxO k n) n * (L.length + 1) + (L.length + 1) := by rw [← hds, Nat.succ_mul]
            generalize nxO k n = k2 at *
            clear e HM hxk hds hw1
            go_wp2
            exact ⟨⟨k2, 0, rfl, rfl, hnk, Nat.zero_le _, fun j hj => absurd hj (Nat.not_lt_zero _), trivial⟩, by simp [intOf]; omega⟩
          · have HAll2 : Hid (∀ j, j < i + 1 → L.getD j 0 ≠ (k : Int)) := fun j hj => by
              by_cases h : j = i
              · subst h; exact e
              · exact HAll.out j (by omega)
            clear HAll
            obtain ⟨y, hy⟩ : ∃ y, y = L.getD i 0 := ⟨_, rfl⟩
            rw [← hy] at f0 e
            clear hy
            clear HM
            go_wp2
            exact ⟨⟨k, i + 1, rfl, rfl, hk, by omega, HAll2.out, trivial⟩, by simp [intOf]; omega⟩
        · have hil' : ¬ (i : Int) < (L.length : Int) := by omega
          have hnm : (k : Int) ∉ L := fun hm => by
            obtain ⟨j, hj, e⟩ := List.getElem_of_mem hm
            exact HAll.out j (by omega) (by simp [List.getD_eq_getElem?_getD, hj, e])
          have HF6 : Hid (FoSt b a len cap w (.slice (some ⟨g, 0, none⟩) L.length cp) L at5 s5 (w5.alloc (Obj.cells #[.int .i64 (k : Int)] 3))) := HF5.out.later (below_alloc _ _)
          have HNw : Hid (∀ j u, [Value.int .i64 (k : Int)][j]? = some u → (w5.alloc (Obj.cells #[.int .i64 (k : Int)] 3)).cell? ((⟨w5.heap.size, 0, none⟩ : Addr).add j) = some u) := World.news_of_block (heapNew w5 (Obj.cells #[.int .i64 (k : Int)] 3))
          have HLen : Hid ((L ++ [(k : Int)]).length = L.length + 1) := by show _ = _; simp
          have HZb : Hid (w.heap.size ≤ (w5.alloc (Obj.cells #[.int .i64 (k : Int)] 3)).heap.size) := HF6.out.ap.1
          have HIn2 : Hid (∀ y ∈ L ++ [(k : Int)], 0 ≤ y ∧ y ≤ (n : Int) - 1) := fun y hy => by
            rcases List.mem_append.1 hy with h | h
            · exact HIn.out y h
            · simp at h; subst h; omega
          have HNd2 : Hid ((L ++ [(k : Int)]).Nodup) := nodup_snoc HNd.out hnm
          clear HF5 HIn HNd hnm HAll HX
          go_wp2_with (at_builtin; refine wpList_append_lies _ rfl _ _ 26 rfl w.heap.size 3 i0 (.int .i64 0) 1 8 Try.underlying26 hi hi0 hi1 hi2 rfl (by decide) _ _ _ rfl HF6.out.row ⟨w5.heap.size, 0, none⟩ 1 1 [.int .i64 (k : Int)] rfl rfl HNw.out (by intro u hu; simp at hu; rcases hu with rfl; rfl) (by omega) (by unfold maxLen; omega) (by omega) HZb.out _ rfl ?_; intro g1 cp1 w7 hown1 hgrow1 hat1 hglt1; have HF7 : Hid (FoSt b a len cap w (.slice (some ⟨g1, 0, none⟩) (L.length + 1) cp1) (L ++ [(k : Int)]) at5 s5 w7) := HF6.out.push hown1 hgrow1; clear hown1 hgrow1 hat1)
          go_roundw
          case rel => exact ⟨L ++ [(k : Int)], g1, cp1, at5, s5, by rw [HLen.out], by rw [HLen.out]; omega, HIn2.out, HNd2.out, by rw [HLen.out]; omega, by rw [HLen.out]; exact HF7.out⟩
          case measure => simp [lenV]; omega
    · have hge : ¬ (L.length : Int) < (n : Int) := by omega
      have HFin : Hid (OnP L n) := ⟨by omega, HIn.out, HNd.out⟩
      go_wp2
      go_ret
      exact ⟨L, g, cp, at', sd, rfl, HFin.out, by omega, HF.out⟩
end Go.Proofs.Ythmhpgbkapjjkaa
