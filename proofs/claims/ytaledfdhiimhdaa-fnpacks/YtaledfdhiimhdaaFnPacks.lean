/-
  For every list of bytes the law FnPacks answers true: units that the program packs are as many as it packed and left, and what is left is less than any pack; with no condition.
-/
import Derived.Test.YtaledfdhiimhdaaDrawPacks
import Derived.Test.YtaledfdhiimhdaaPackD
import Derived.Test.YtaledfdhiimhdaaPacksFacts
namespace Go.Proofs.Ytaledfdhiimhdaa
open Go.ChangeShapes Go.WideShapes Go.ChangeAt Go.RowKit Go.Joins
set_option linter.unusedVariables false

set_option maxHeartbeats 400000 in
theorem next_bigA (B b : Nat) (a : Option Addr) (len cap : Nat) (zs : List Int) (n at' seed : Int) (w : World) (hB : B ≤ b) (hs : Src w b a len cap at' seed) (hr : RowB B w a len zs) (a1 : at' ≤ 999999999000) (h1 : 1 < n) (h2 : 256 < n) (hn : n ≤ 1000000000000) :
    Calls Try.prog 23 #[.pointer (some ⟨b, 0, none⟩), .int .i64 n] w fun e w' => ∃ x at2 s' : Int, e = .returned (.int .i64 x) ∧ Drawn x n ∧ at' ≤ at2 ∧ at2 ≤ at' + 3 ∧ Src w' b a len cap at2 s' ∧ Below B w w' ∧ Apt b w w' := by
  have hbyte := byte_anyA B b a len cap zs at' seed w hB hs hr (by omega)
  have hbyte2 := fun s' w1 (hs1 : Src w1 b a len cap (at' + 1) s') (hb1 : Below B w w1) => byte_anyA B b a len cap zs (at' + 1) s' w1 hB hs1 (hr.below hb1) (by omega)
  have hbyte3 := fun s' w1 (hs1 : Src w1 b a len cap (at' + 1 + 1) s') (hb1 : Below B w w1) => byte_anyA B b a len cap zs (at' + 1 + 1) s' w1 hB hs1 (hr.below hb1) (by omega)
  clear hr
  go_enter Try.func23, Try.ntmps23
  go_wp2_with (first | (go_at_call 55; refine hbyte.mono ?_; rintro e w1 ⟨x, s', rfl, hx0, hx1, hs1, hb1, ha1⟩) | (go_at_call 55; refine (hbyte2 _ _ hs1 hb1).mono ?_; rintro e w2 ⟨y, s2, rfl, hy0, hy1, hs2, hb2, ha2⟩; replace hb2 := hb1.trans hb2; replace ha2 := Apt.trans ha1 ha2) | (go_at_call 55; refine (hbyte3 _ _ hs2 hb2).mono ?_; rintro e w3 ⟨z, s3, rfl, hz0, hz1, hs3, hb3, ha3⟩; replace hb3 := hb2.trans hb3; replace ha3 := Apt.trans ha2 ha3))
  go_ret
  exact ⟨_, _, _, rfl, drawn_mod _ n (by omega) h1, by omega, by omega, hs3, hb3, ha3⟩

theorem pkGo_word (ps : List Pk) : ∀ (r k : Nat) (L : List Int), (pkGo ps r k L).2.1 = 0 → (pkGo ps r k L).2.2 = ByteArray.empty
  | 0, k, L, h => rfl
  | r + 1, k, L, h => by
    unfold pkGo at h ⊢
    by_cases hc : (pkRes (ps.take k) L (ps.getD k pk0)).2 = 0
    · rw [if_pos hc] at h ⊢
      exact pkGo_word ps r (k + 1) _ h
    · rw [if_neg hc] at h; exact absurd h hc
theorem pkAll_word {ps : List Pk} (h : (pkAll ps).2.1 = 0) : (pkAll ps).2.2 = ByteArray.empty := by
  unfold pkAll at h ⊢
  split at h
  · cases h
  · split at h
    · cases h
    · rename_i h1 h2
      rw [if_neg h1, if_neg h2]
      exact pkGo_word ps _ _ _ h
theorem pkAll_nil : (pkAll []).2.1 = 0 := rfl

theorem Src.later {w w' : World} {b : Nat} {a : Option Addr} {len cap : Nat} {x s : Int} (h : Src w b a len cap x s) (hb : Below w.heap.size w w') : Src w' b a len cap x s := by
  have hlt := h.2.2.2.2.2.1
  have e : w'.heap[b]? = w.heap[b]? := hb.block b hlt
  obtain ⟨h0, h1, h2, f1, f2, _, r⟩ := h
  exact ⟨(World.cell?_of_block (w := w) (a := ⟨b, 0, none⟩) e).trans h0, (World.cell?_of_block (w := w) (a := ⟨b, 1, none⟩) e).trans h1, (World.cell?_of_block (w := w) (a := ⟨b, 2, none⟩) e).trans h2, (World.frozen?_of_block (w := w) (a := ⟨b, 1, none⟩) e).trans f1, (World.frozen?_of_block (w := w) (a := ⟨b, 2, none⟩) e).trans f2, Nat.lt_of_lt_of_le hlt hb.size, r⟩
theorem PacksAt.apt {b g : Nat} {w w' : World} {ps : List Pk} (h : PacksAt w g 0 ps) (ha : Apt b w w') (hne : g ≠ b) : PacksAt w' g 0 ps := fun i hi => by
  have e := ha g hne
  obtain ⟨h0, h1, h2⟩ := h i hi
  exact ⟨(World.cell?_of_block (w := w) (a := ⟨g, _, none⟩) e).trans h0, (World.cell?_of_block (w := w) (a := ⟨g, _, none⟩) e).trans h1, (World.cell?_of_block (w := w) (a := ⟨g, _, none⟩) e).trans h2⟩
theorem PacksAt.take {g : Nat} {w : World} {ps : List Pk} (h : PacksAt w g 0 ps) (k : Nat) : PacksAt w g 0 (ps.take k) := by
  rcases ReadsP.take (B := g + 1) (w := w) (a := some ⟨g, 0, none⟩) (ps := ps) (.inr ⟨g, 0, rfl, Nat.lt_succ_self _, h⟩) k with e | ⟨b, off, e, _, h'⟩
  · rw [e]; intro i hi; simp at hi
  · simp at e; obtain ⟨rfl, rfl⟩ := e; exact h'
theorem take_pk_ok {ps : List Pk} (h : ∀ p ∈ ps, PkOK p) (k : Nat) : ∀ p ∈ ps.take k, PkOK p := fun p hp => h p (List.mem_of_mem_take hp)

def sliceLen : Value → Nat
  | .slice _ n _ => n
  | _ => 0

def PkoPost (w : World) (e : Ending) (w' : World) : Prop := ∃ (ps : List Pk) (g cp : Nat) (n : Int), e = .returned (.tuple #[.slice (some ⟨g, 0, none⟩) ps.length cp, .int .i64 n]) ∧ ps.length ≤ cp ∧ ps.length ≤ 8 ∧ (∀ p ∈ ps, PkOK p) ∧ (pkAll ps).2.1 = 0 ∧ 0 ≤ n ∧ n ≤ 4999 ∧ PacksAt w' g 0 ps ∧ g < w'.heap.size ∧ Below w.heap.size w w'

/-- The source in block B, the packs at g. -/
def PkLoop (w : World) (B g : Nat) (a : Option Addr) (len cap : Nat) (ps : List Pk) (at' sd : Int) (wr : World) : Prop := PacksAt wr g 0 ps ∧ g < wr.heap.size ∧ g ≠ B ∧ Src wr B a len cap at' sd ∧ Below B w wr

set_option maxHeartbeats 2000000 in
theorem packsOf_any (a : Option Addr) (len cap : Nat) (zs : List Int) (w : World) (hr : RowB w.heap.size w a len zs) :
    Calls Try.prog 13 #[.slice a len cap] w (PkoPost w) := by
  have HR : Hid (RowB w.heap.size w a len zs) := hr
  have hsrc := source_any a len cap w hr.1
  clear hr
  generalize hBe : w.heap.size = B at *
  have HBe : Hid (w.heap.size = B) := hBe
  clear hBe
  go_enter Try.func13, Try.ntmps13
  go_wp2_with (first
    | (go_at_call 22; refine hsrc.mono ?_; rintro e w1 ⟨s1, rfl, hs1, hb1⟩; have HS1 : Hid (Src w1 B a len cap 0 s1) := hs1; have B1 : Hid (Below B w w1) := hb1; clear hs1 hb1)
    | (go_at_call 35; refine (packs_any B a len cap zs s1 w1 HS1.out (HR.out.below B1.out)).mono ?_; rintro e w2 ⟨ps, g, cp, at', sd, rfl, hcap, hl8, hok, hpk, hgl, hgb, hgs, hs2, hat, hb2⟩; have HL2 : Hid (PkLoop w B g a len cap ps at' sd w2) := ⟨hpk, hgl, hgb, hs2, B1.out.trans hb2⟩; have HOK : Hid (∀ p ∈ ps, PkOK p) := hok; clear hok hpk hgl hgs hs2 hb2))
  go_loopw [5, 6, 7, 8] (fun v _ _ _ wr => ∃ k : Nat, k ≤ ps.length ∧ v = .slice (some ⟨g, 0, none⟩) k cp ∧ PkLoop w B g a len cap ps at' sd wr) (fun v _ _ _ _ => sliceLen v)
  case atStart => exact ⟨ps.length, Nat.le_refl _, rfl, HL2.out⟩
  case round =>
    clear HL2 HS1 B1
    obtain ⟨k, hk, rfl, hL⟩ := hrel
    have HL : Hid (PkLoop w B g a len cap ps at' sd wr) := hL
    clear hL
    have hlen : (ps.take k).length = k := by rw [List.length_take]; omega
    have hsp := specPack_any (some ⟨g, 0, none⟩) cp (ps.take k) (by omega) (by omega) (take_pk_ok HOK.out k) wr.heap.size wr rfl ((ReadsP.take (ps := ps) (.inr ⟨g, 0, rfl, HL.out.2.1, HL.out.1⟩) k))
    rw [hlen] at hsp
    have HW : Hid ((pkAll (ps.take k)).2.1 = 0 → (pkAll (ps.take k)).2.1 = 0) := fun h => h
    by_cases hc : (pkAll (ps.take k)).2.1 = 0
    · have HC : Hid ((pkAll (ps.take k)).2.1 = 0) := hc
      unfold PackPost at hsp
      rw [hc] at hsp
      clear hc HW
      go_wp2_with (first
        | (go_at_call 15; refine hsp.mono ?_; rintro e w3 ⟨g3, c3, rfl, _, hb3⟩; have HL3 : Hid (PkLoop w B g a len cap ps at' sd w3) := ⟨HL.out.1.below hb3 HL.out.2.1, Nat.lt_of_lt_of_le HL.out.2.1 hb3.size, HL.out.2.2.1, HL.out.2.2.2.1.later hb3, HL.out.2.2.2.2.trans (hb3.mono (by have := HL.out.2.2.2.2.size; have := HBe.out; omega))⟩; clear hb3)
        | (go_at_call 23; refine (next_bigA B B a len cap zs 5000 at' sd w3 (Nat.le_refl _) HL3.out.2.2.2.1 (HBe.out ▸ (HR.out.below (HBe.out ▸ HL3.out.2.2.2.2))) (by omega) (by omega) (by omega) (by omega)).mono ?_; rintro e w4 ⟨x, a4, s4, rfl, ⟨hx0, hx1⟩, _, _, hs4, hb4, ha4⟩; have HF : Hid (PacksAt w4 g 0 ps ∧ g < w4.heap.size ∧ Below B w w4 ∧ 0 ≤ x ∧ x ≤ 4999) := ⟨HL3.out.1.apt ha4 HL3.out.2.2.1, Nat.lt_of_lt_of_le HL3.out.2.1 hb4.size, HL3.out.2.2.2.2.trans hb4, hx0, (by omega)⟩; clear hs4 hb4 ha4 hx0 hx1))
      go_ret2
      obtain ⟨f1, f2, f3, f4, f5⟩ := HF.out
      exact ⟨ps.take k, g, cp, x, by rw [hlen]; rfl, by omega, by omega, take_pk_ok HOK.out k, HC.out, f4, f5, PacksAt.take f1 k, f2, HBe.out ▸ f3⟩
    · have hk0 : k ≠ 0 := fun e => by subst e; exact hc pkAll_nil
      obtain ⟨m, rfl⟩ : ∃ m, k = m + 1 := ⟨k - 1, by omega⟩
      unfold PackPost at hsp
      have hcb : ((pkAll (ps.take (m + 1))).2.1 == 0) = false := by simpa using hc
      generalize (pkAll (ps.take (m + 1))).2.1 = c at hsp hcb
      clear hc HW hk0
      have hmc : (m : Int) ≤ (cp : Int) := by omega
      go_wp2_with (first
        | (go_at_call 15; refine hsp.mono ?_; rintro e w3 ⟨g3, c3, rfl, _, hb3⟩; have HL3 : Hid (PkLoop w B g a len cap ps at' sd w3) := ⟨HL.out.1.below hb3 HL.out.2.1, Nat.lt_of_lt_of_le HL.out.2.1 hb3.size, HL.out.2.2.1, HL.out.2.2.2.1.later hb3, HL.out.2.2.2.2.trans (hb3.mono (by have := HL.out.2.2.2.2.size; have := HBe.out; omega))⟩; clear hb3))
      exact ⟨⟨m, by omega, rfl, HL3.out⟩, Nat.lt_succ_self m⟩

set_option maxHeartbeats 1000000 in
theorem sameInts_any (a b : Option Addr) (ca cb : Nat) (L : List Int) (hl : L.length ≤ 1000) (w : World) (ra : Reads w.heap.size w a L) (rb : Reads w.heap.size w b L) :
    Calls Try.prog 16 #[.slice a L.length ca, .slice b L.length cb] w fun e w' => e = .returned (.bool true) ∧ Below w.heap.size w w' := by
  have HA : Hid (Reads w.heap.size w a L) := ra
  have HB : Hid (Reads w.heap.size w b L) := rb
  clear ra rb
  have hne : ((L.length : Int) != (L.length : Int)) = false := by simp
  go_enter Try.func16, Try.ntmps16
  go_wp2
  go_loopw [5] (fun c wr => ∃ k : Nat, k ≤ L.length ∧ c = .int .i64 (k : Int) ∧ Below w.heap.size w wr) (fun c _ => L.length - (intOf c).toNat)
  case atStart => exact ⟨0, Nat.zero_le _, rfl, Below.refl _ _⟩
  case round =>
    obtain ⟨k, hk, rfl, hb⟩ := hrel
    have HK : Hid (Below w.heap.size w wr) := hb
    clear hb
    by_cases hlt : k < L.length
    · have hlt' : (k : Int) < (L.length : Int) := by omega
      rcases HA.out with h | ⟨b0, o0, ha, hB0, ia⟩
      · rw [h] at hlt; simp at hlt
      rcases HB.out with h | ⟨b1, o1, hb, hB1, ib⟩
      · rw [h] at hlt; simp at hlt
      have c0 := (ia.below HK.out hB0) k hlt
      have c1 := (ib.below HK.out hB1) k hlt
      rw [ha, hb]
      clear ia ib
      have hxx : ∀ x : Int, (x != x) = false := fun x => by simp
      generalize L.getD k 0 = x at *
      have hx := hxx x
      go_wp2
      go_quiet (fail)
      go_wp2
      exact ⟨⟨k + 1, by omega, by go_num, below_drewN HK.out _⟩, by simp [intOf]; omega⟩
    · have hle : (L.length : Int) ≤ (k : Int) := by omega
      go_wp2
      go_ret
      exact ⟨rfl, HK.out⟩

theorem own2_ints {B n : Nat} {w : World} {g : Option Addr} {L : List Int} (h : Own2 B w g L) (hn : L.length = n) (hpos : 0 < n) : ∃ b, g = some ⟨b, 0, none⟩ ∧ b < w.heap.size ∧ IntsAt w b 0 L := by
  rcases h with h | ⟨b, hg, _, hlt, hi, _⟩
  · rw [h] at hn; simp at hn; omega
  · exact ⟨b, hg, hlt, hi⟩

namespace FnPacks
set_option maxHeartbeats 4000000 in
set_option maxRecDepth 8000 in
theorem walk (a0 : Option Addr) (len0 cap0 : Nat) (z0 : List Int) (w : World) (r0 : RowB w.heap.size w a0 len0 z0) :
    Calls Try.prog 5 #[.slice a0 len0 cap0] w fun e w' => e = .returned (.bool true) ∧ Below w.heap.size w w' := by
  have hl0 := r0.1
  unfold maxLen at hl0
  by_cases h : (1048576 : Int) < (len0 : Int)
  · go_enter Try.func5, Try.ntmps5
    go_wp2
    go_ret
    exact ⟨rfl, Below.refl _ _⟩
  have h' : (len0 : Int) ≤ 1048576 := by omega
  clear h
  have hpo := packsOf_any a0 len0 cap0 z0 w r0
  clear r0 hl0
  go_enter Try.func5, Try.ntmps5
  go_wp2_with (go_at_call 13; refine hpo.mono ?_; rintro e w1 ⟨ps, g, cp, n, rfl, hcap, hl8, hok, hc, hn0, hn1, hpk, hgl, hb1⟩)
  obtain ⟨hL, hU⟩ := pkAll_ok hc
  have hW := pkAll_word hc
  obtain ⟨u1, u2, u3, u4, u5, u6⟩ := upAll_facts hU hn0
  have HP1 : Hid (ReadsP w1.heap.size w1 (some ⟨g, 0, none⟩) ps) := .inr ⟨g, 0, rfl, hgl, hpk⟩
  have HB1 : Hid (Below w.heap.size w w1) := hb1
  have HI : Hid (∀ w', ReadsP w'.heap.size w' (some ⟨g, 0, none⟩) ps → Calls Try.prog 14 #[.slice (some ⟨g, 0, none⟩) ps.length cp] w' fun e w'' => ∃ g' cp', e = .returned (.tuple #[.slice g' ps.length cp', .int .i64 0, .string ⟨#[]⟩]) ∧ Own2 w'.heap.size w'' g' (pkAll ps).1 ∧ Below w'.heap.size w' w'') := fun w' hr => by
    refine (implPack_any (some ⟨g, 0, none⟩) cp ps (by omega) hcap hok w'.heap.size w' rfl hr).mono ?_
    rintro e w'' ⟨g', cp', rfl, ho, hb⟩
    exact ⟨g', cp', by rw [hc, hW, hL]; rfl, ho, hb⟩
  have HS : Hid (∀ w', ReadsP w'.heap.size w' (some ⟨g, 0, none⟩) ps → Calls Try.prog 15 #[.slice (some ⟨g, 0, none⟩) ps.length cp] w' fun e w'' => ∃ g' cp', e = .returned (.tuple #[.slice g' ps.length cp', .int .i64 0, .string ⟨#[]⟩]) ∧ Own2 w'.heap.size w'' g' (pkAll ps).1 ∧ Below w'.heap.size w' w'') := fun w' hr => by
    refine (specPack_any (some ⟨g, 0, none⟩) cp ps (by omega) hcap hok w'.heap.size w' rfl hr).mono ?_
    rintro e w'' ⟨g', cp', rfl, ho, hb⟩
    exact ⟨g', cp', by rw [hc, hW, hL]; rfl, ho, hb⟩
  have HUn : Hid (∀ w', ReadsP w'.heap.size w' (some ⟨g, 0, none⟩) ps → Calls Try.prog 17 #[.slice (some ⟨g, 0, none⟩) ps.length cp, .int .i64 n] w' fun e w'' => ∃ g' cp', e = .returned (.tuple #[.slice g' ps.length cp', .int .i64 (upAll (pkAll ps).1 n).2, .int .i64 0]) ∧ Own2 w'.heap.size w'' g' (upAll (pkAll ps).1 n).1 ∧ Below w'.heap.size w' w'') := fun w' hr => by
    refine (implUnpack_any (some ⟨g, 0, none⟩) cp ps n (by omega) hcap hok w'.heap.size w' rfl hr).mono ?_
    rintro e w'' ⟨g', cp', rfl, ho, hb⟩
    have hA : unAll ps n = ((upAll (pkAll ps).1 n).1, (upAll (pkAll ps).1 n).2, 0) := by
      unfold unAll; rw [if_pos hc, if_pos ⟨hn0, by omega⟩]
    rw [hA] at ho ⊢
    exact ⟨g', cp', by show Ending.returned (.tuple #[.slice g' (upAll (pkAll ps).1 n).1.length cp', _, _]) = _; rw [u1, hL], ho, hb⟩
  have hmono := dotTo_mono u5 hU
  have HSm : Hid (∀ c c' g1 g2 w', Reads w'.heap.size w' g1 (pkAll ps).1 → Reads w'.heap.size w' g2 (pkAll ps).1 → Calls Try.prog 16 #[.slice g1 ps.length c, .slice g2 ps.length c'] w' fun e w'' => e = .returned (.bool true) ∧ Below w'.heap.size w' w'') := fun c c' g1 g2 w' h1 h2 => by
    have := sameInts_any g1 g2 c c' (pkAll ps).1 (by omega) w' h1 h2
    rwa [hL] at this
  rw [hL] at u1 u4 u5 u6
  have HF : Hid ((pkAll ps).1.length = ps.length ∧ (upAll (pkAll ps).1 n).1.length = ps.length ∧ (∀ i, i < ps.length → (upAll (pkAll ps).1 n).2 < (pkAll ps).1.getD i 0) ∧ (∀ i, i < ps.length → 0 ≤ (upAll (pkAll ps).1 n).1.getD i 0) ∧ (upAll (pkAll ps).1 n).2 + dotTo (upAll (pkAll ps).1 n).1 (pkAll ps).1 ps.length = n ∧ (∀ k, k ≤ ps.length → 0 ≤ dotTo (upAll (pkAll ps).1 n).1 (pkAll ps).1 k ∧ dotTo (upAll (pkAll ps).1 n).1 (pkAll ps).1 k ≤ dotTo (upAll (pkAll ps).1 n).1 (pkAll ps).1 ps.length) ∧ UnOK (pkAll ps).1) := ⟨hL, u1, u4, u5, u6, by rw [hL] at hmono; exact hmono, hU⟩
  clear hL hU hW u1 u4 u5 u6 hmono hc hok hpk hgl hb1 hcap
  generalize (upAll (pkAll ps).1 n).1 = X at *
  generalize (upAll (pkAll ps).1 n).2 = left at *
  generalize (pkAll ps).1 = L at *
  refine (HI.out _ HP1.out).mono ?_
  rintro e w2 ⟨g2, c2, rfl, ho2, hb2⟩
  have HO2 : Hid (Own2 w1.heap.size w2 g2 L) := ho2
  have HP2 : Hid (ReadsP w2.heap.size w2 (some ⟨g, 0, none⟩) ps) := (HP1.out.below hb2).mono hb2.size
  have HB2 : Hid (Below w.heap.size w w2) := chain HB1.out hb2
  clear ho2 hb2 HP1 HI hpo
  have hne1 : ((ps.length : Int) != (ps.length : Int)) = false := by simp
  have hlt0 : decide (left < 0) = false := decide_eq_false (by omega)
  go_wp2_with (first
    | (go_at_call 15; refine (HS.out _ HP2.out).mono ?_; rintro e w3 ⟨g3, c3, rfl, ho3, hb3⟩; have HO3 : Hid (Own2 w2.heap.size w3 g3 L) := ho3; have HO3' : Hid (Own2 w1.heap.size w3 g2 L) := HO2.out.below hb3 (Nat.le_refl _); have HP3 : Hid (ReadsP w3.heap.size w3 (some ⟨g, 0, none⟩) ps) := (HP2.out.below hb3).mono hb3.size; have HB3 : Hid (Below w.heap.size w w3) := chain HB2.out hb3; clear ho3 hb3)
    | (go_at_call 16; refine (HSm.out _ _ _ _ _ HO3'.out.reads HO3.out.reads).mono ?_; rintro e w4 ⟨rfl, hb4⟩; have HO4 : Hid (Own2 w1.heap.size w4 g2 L) := HO3'.out.below hb4 (Nat.le_refl _); have HP4 : Hid (ReadsP w4.heap.size w4 (some ⟨g, 0, none⟩) ps) := (HP3.out.below hb4).mono hb4.size; have HB4 : Hid (Below w.heap.size w w4) := chain HB3.out hb4; clear hb4)
    | (go_at_call 17; refine (HUn.out _ HP4.out).mono ?_; rintro e w5 ⟨g5, c5, rfl, ho5, hb5⟩; have HX5 : Hid (Own2 w4.heap.size w5 g5 X) := ho5; have HO5 : Hid (Own2 w1.heap.size w5 g2 L) := HO4.out.below hb5 (Nat.le_refl _); have HB5 : Hid (Below w.heap.size w w5) := chain HB4.out hb5; clear ho5 hb5))
  clear HB1 HB2 HB3 HB4 HO2 HO3 HO3' HO4 HP2 HP3 HP4 HS HUn HSm
  go_loopw [14, 15] (fun t c wr => ∃ k : Nat, k ≤ ps.length ∧ c = .int .i64 (k : Int) ∧ t = .int .i64 (left + dotTo X L k) ∧ Below w5.heap.size w5 wr) (fun _ c _ => ps.length - (intOf c).toNat)
  case atStart => exact ⟨0, Nat.zero_le _, rfl, by simp [dotTo], Below.refl _ _⟩
  case round =>
    obtain ⟨k, hk, rfl, rfl, hbk⟩ := hrel
    have HBk : Hid (Below w5.heap.size w5 wr) := hbk
    clear hbk
    obtain ⟨f1, f2, f3, f4, f5, f6, f7⟩ := HF.out
    by_cases hlt : k < ps.length
    · have hlt' : (k : Int) < (ps.length : Int) := by omega
      obtain ⟨bx, hgx, ltx, ix⟩ := own2_ints HX5.out f2 (by omega)
      obtain ⟨bl, hgl, ltl, il⟩ := own2_ints HO5.out f1 (by omega)
      have c0 := (ix.below HBk.out ltx) k (by omega)
      have c1 := (il.below HBk.out ltl) k (by omega)
      rw [Nat.zero_add] at c0 c1
      have d1 := f3 k hlt
      have d2 := f4 k hlt
      have d3 := f6 k hk
      have d4 := f6 (k + 1) (by omega)
      have d5 : dotTo X L (k + 1) = dotTo X L k + X.getD k 0 * L.getD k 0 := rfl
      obtain ⟨d6, d7⟩ := getD_bound f7 k (by omega)
      have HN : Hid (left + dotTo X L (k + 1) = left + dotTo X L k + X.getD k 0 * L.getD k 0) := by show _ = _; omega
      rw [d5] at d4
      generalize dotTo X L ps.length = T at *
      clear d5 ix il f1 f2 f3 f4 f6 f7
      generalize dotTo X L k = t at *
      generalize X.getD k 0 = x at *
      generalize L.getD k 0 = y at *
      have m0 : 0 ≤ x * y := Int.mul_nonneg d2 (by omega)
      have g1 : decide (x < 0) = false := decide_eq_false (by omega)
      have g2' : decide (y ≤ left) = false := decide_eq_false (by omega)
      have m1 : x * y ≤ 5000 := by omega
      have hw1 : IntKind.i64.wrap (x * y) = x * y := wrap_id _ (by omega) (by omega)
      have hw2 : IntKind.i64.wrap (left + t + x * y) = left + t + x * y := wrap_id _ (by omega) (by omega)
      have HBd : Hid (left + T = n) := f5
      clear f5
      rw [hgx, hgl]
      go_wp2
      go_quiet (fail)
      go_wp2
      exact ⟨⟨k + 1, by omega, by go_num, by rw [HN.out], below_drewN HBk.out _⟩, by simp [intOf]; omega⟩
    · obtain rfl : k = ps.length := by omega
      have hle : (ps.length : Int) ≤ (ps.length : Int) := by omega
      have heq : (left + dotTo X L ps.length == n) = true := by rw [f5]; simp
      clear f1 f2 f3 f4 f5 f6 f7
      go_wp2
      go_ret
      exact ⟨rfl, chain HB5.out HBk.out⟩

theorem own : ownKnob Try.prog.godebug = none := by kernel_rfl
theorem laidOut : laidOutB Try.prog = true := by kernel_rfl

set_option maxRecDepth 100000 in
theorem lifted (os : Os) (started : os.Started) (H : Type) (enc : TypeId × Value → H) :
    ReturnsInHanded {} Try.checked os 5 .any (Rows.fnPacksSpec.pre6 enc Try.prog Try.f5 Rows.fnPacksRow.domain false) (Rows.fnPacksSpec.post enc Try.prog Try.f5 false true false false) := by
  refine returnsInHanded_of_change (C := Try.checked) own started (by kernel_rfl) Try.func5
    (ChangeSpec.witness6 (enc := enc) (C := Try.checked) false ⟨#[], #[.slice none 0 0], []⟩ 8 (by kernel_rfl) (by kernel_rfl) (by kernel_rfl) (by kernel_rfl)) ?_
  intro W base args ds gs before hval0 hW hcnd _
  have hval : ∀ (j : Nat) t v, Try.f5.params[j]? = some t → args[j]? = some v → Value.okWide Try.prog W .any base t v := hval0
  have hW' := hW
  obtain ⟨p, q, hA0, hV, rfl, hfz, hnd⟩ := hW
  have hA : DataW.TrodAll enc Try.prog W 0 (fun _ => true) true Try.f5.params.toList args.toList ds p := hA0
  rw [Try.params5] at hA hval
  obtain ⟨v0, vs0, d0, ds0, p0, q0, hargs, rfl, rfl, h0, r0⟩ := trodAll_cons hA
  obtain ⟨rfl, rfl, rfl⟩ := trodAll_nil r0
  obtain rfl : args = #[v0] := by cases args; simp_all
  obtain ⟨rfl, rfl⟩ := trodVars_none hV
  have k0 := h0
  have lt0 : ∀ x ∈ p0, x.block < W.heap.size := by obtain ⟨m, hm⟩ := k0; exact DataW.trod_lt m _ _ _ hm
  obtain ⟨a0, len0, cap0, rfl⟩ := okWide_slice Try.underlying22 (hval 0 22 v0 rfl rfl)
  obtain ⟨z0, w0⟩ : ∃ zs, IsRow .u8 W a0 len0 cap0 zs := by
    obtain ⟨fuel, hf⟩ := h0
    rcases open_ints Try.underlying22 Try.underlying5 (by kernel_rfl) hf with ⟨hcs, _⟩ | ⟨x, l, c, zs, hcs, _, hl, hm, hz, _, hcell, hwz⟩
    · simp [Value.cells] at hcs
      obtain ⟨rfl, rfl, rfl⟩ := hcs
      exact ⟨[], .inl ⟨rfl, rfl, rfl, rfl⟩⟩
    · simp [Value.cells] at hcs
      obtain ⟨rfl, rfl, rfl⟩ := hcs
      exact ⟨zs, .inr ⟨_, rfl, hl, hm, by simpa using hz, hcell, hwz⟩⟩
  clear hA0 hval0
  refine (walk a0 len0 cap0 z0 W (rowB_of _ _ _ _ _ w0)).mono fun e W' ⟨he, bel⟩ => ?_
  subst he
  exact ⟨_, rfl, _, _, _, [], _, [], hW', trodAll_mk1 (shut_bool Try.underlying4 _), (trodAll_cons_mk (Below.trod laidOut (by kernel_rfl) (of_decide_eq_true (by kernel_rfl)) k0 bel lt0) trodAll_mk0), rfl, bel.frame _, fun h => by cases h⟩

theorem over : Rows.fnPacksRow.holds Try.pinned (OpenSpec.ofChange Rows.fnPacksSpec) :=
  OpenClaim.holds_of_wide 5 Try.f5 rfl rfl rfl rfl rfl rfl rfl ⟨rfl, rfl, rfl, rfl, rfl⟩ rfl rfl rfl rfl rfl (by kernel_rfl) Try.func5 (by kernel_rfl)
    (of_decide_eq_true (by kernel_rfl)) (by unfold Func.isWrapper; first | (rw [if_pos (by decide +kernel)]; kernel_rfl) | (rw [if_neg (by decide +kernel)]; exact ⟨rfl, rfl⟩))
    (fun os started H enc _ => lifted os started H enc)
end FnPacks

theorem fnPacks_holds : Rows.FnPacksSaid := FnPacks.over
end Go.Proofs.Ytaledfdhiimhdaa
