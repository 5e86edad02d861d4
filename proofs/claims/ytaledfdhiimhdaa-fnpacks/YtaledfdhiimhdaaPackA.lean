/-
  Lists of packs in memory, and the functions that look for a name among them (the specification's and the program's).
-/
import Derived.Test.YtaledfdhiimhdaaLists0
namespace Go.Proofs.Ytaledfdhiimhdaa
open Go.ChangeShapes Go.WideShapes Go.ChangeAt Go.RowKit
set_option linter.unusedVariables false

/-- A pack: its name, of what, how many. -/
structure Pk where
  name : ByteArray
  of : ByteArray
  count : Int
def pk0 : Pk := ⟨ByteArray.empty, ByteArray.empty, 0⟩
/-- The packs ps lie in block b from off on, three cells each. -/
def PacksAt (w : World) (b off : Nat) (ps : List Pk) : Prop := ∀ i, i < ps.length → w.cell? ⟨b, off + i * 3, none⟩ = some (.string (ps.getD i pk0).name) ∧ w.cell? ⟨b, off + i * 3 + 1, none⟩ = some (.string (ps.getD i pk0).of) ∧ w.cell? ⟨b, off + i * 3 + 2, none⟩ = some (.int .i64 (ps.getD i pk0).count)
def ReadsP (B : Nat) (w : World) (a : Option Addr) (ps : List Pk) : Prop := ps = [] ∨ ∃ b off, a = some ⟨b, off, none⟩ ∧ b < B ∧ PacksAt w b off ps

theorem PacksAt.below {B : Nat} {w w' : World} {b off : Nat} {ps : List Pk} (h : PacksAt w b off ps) (hb : Below B w w') (hB : b < B) : PacksAt w' b off ps := fun i hi =>
  ⟨(hb.cell (p := ⟨b, off + i * 3, none⟩) hB).trans (h i hi).1, (hb.cell (p := ⟨b, off + i * 3 + 1, none⟩) hB).trans (h i hi).2.1, (hb.cell (p := ⟨b, off + i * 3 + 2, none⟩) hB).trans (h i hi).2.2⟩
theorem ReadsP.below {B : Nat} {w w' : World} {a : Option Addr} {ps : List Pk} (h : ReadsP B w a ps) (hb : Below B w w') : ReadsP B w' a ps := by
  rcases h with h | ⟨b, off, ha, hB, hi⟩
  · exact .inl h
  · exact .inr ⟨b, off, ha, hB, hi.below hb hB⟩
theorem ReadsP.mono {B B' : Nat} {w : World} {a : Option Addr} {ps : List Pk} (h : ReadsP B w a ps) (hb : B ≤ B') : ReadsP B' w a ps := by
  rcases h with h | ⟨b, off, ha, hB, hi⟩
  · exact .inl h
  · exact .inr ⟨b, off, ha, by omega, hi⟩

/-- Where the first of that name is, from k on; -1 without one. -/
def findP (n : ByteArray) : List Pk → Nat → Int
  | [], _ => -1
  | p :: ps, k => if (p.name.toList == n.toList) = true then (k : Int) else findP n ps (k + 1)

theorem findP_drop (n : ByteArray) (ps : List Pk) (k : Nat) (h : k < ps.length) : findP n (ps.drop k) k = if ((ps.getD k pk0).name.toList == n.toList) = true then (k : Int) else findP n (ps.drop (k + 1)) (k + 1) := by
  rw [List.drop_eq_getElem_cons h]
  have e : ps.getD k pk0 = ps[k] := by simp [List.getD_eq_getElem?_getD, h]
  rw [e]; rfl


set_option maxHeartbeats 1000000 in
theorem implFind_any (a : Option Addr) (cap : Nat) (ps : List Pk) (n : ByteArray) (hl : ps.length ≤ 100000000) (w : World) (hr : ReadsP w.heap.size w a ps) :
    Calls Try.prog 59 #[.slice a ps.length cap, .string n] w fun e w' => e = .returned (.int .i64 (findP n ps 0)) ∧ Below w.heap.size w w' := by
  have HR : Hid (ReadsP w.heap.size w a ps) := hr
  clear hr
  go_enter Try.func59, Try.ntmps59
  go_wp2
  go_loopw [5, 6, 9] (fun _ _ c wr => ∃ k : Nat, k ≤ ps.length ∧ c = .int .i64 (k : Int) ∧ findP n ps 0 = findP n (ps.drop k) k ∧ Below w.heap.size w wr) (fun _ _ c _ => ps.length - (intOf c).toNat)
  case atStart => exact ⟨0, Nat.zero_le _, rfl, rfl, Below.refl _ _⟩
  case round =>
    obtain ⟨k, hk, rfl, hf, hb⟩ := hrel
    have HF : Hid (findP n ps 0 = findP n (ps.drop k) k) := hf
    have HB : Hid (Below w.heap.size w wr) := hb
    clear hf hb
    by_cases hlt : k < ps.length
    · have hlt' : (k : Int) < (ps.length : Int) := by omega
      rcases HR.out with h | ⟨b0, o0, ha, hB0, ia⟩
      · rw [h] at hlt; simp at hlt
      obtain ⟨c0, c1, c2⟩ := (ia.below HB.out hB0) k hlt
      have HD : Hid (findP n (ps.drop k) k = if ((ps.getD k pk0).name.toList == n.toList) = true then (k : Int) else findP n (ps.drop (k + 1)) (k + 1)) := findP_drop n ps k hlt
      rw [ha]
      clear ia
      generalize (ps.getD k pk0).name = p at *
      generalize (ps.getD k pk0).of = q at *
      generalize (ps.getD k pk0).count = z at *
      cases hpn : (p.toList == n.toList)
      · rw [hpn] at HD
        go_wp2
        exact ⟨⟨k + 1, by omega, by go_num, HF.out.trans HD.out, chain HB.out (below_alloc _ _)⟩, by simp [intOf]; omega⟩
      · rw [hpn] at HD
        go_wp2
        go_ret
        exact ⟨ret_int (HF.out.trans HD.out).symm, chain HB.out (below_alloc _ _)⟩
    · have HD : Hid (findP n (ps.drop k) k = -1) := by show _ = _; rw [List.drop_eq_nil_of_le (by omega)]; rfl
      go_wp2
      go_ret
      exact ⟨ret_int (HF.out.trans HD.out).symm, HB.out⟩



set_option maxHeartbeats 1000000 in
theorem specFind_any (a : Option Addr) (cap : Nat) (ps : List Pk) (n : ByteArray) (hl : ps.length ≤ 100000000) (w : World) (hr : ReadsP w.heap.size w a ps) :
    Calls Try.prog 40 #[.slice a ps.length cap, .string n] w fun e w' => e = .returned (.int .i64 (findP n ps 0)) ∧ Below w.heap.size w w' := by
  have HR : Hid (ReadsP w.heap.size w a ps) := hr
  clear hr
  go_enter Try.func40, Try.ntmps40
  go_wp2
  go_loopw [5] (fun c wr => ∃ k : Nat, k ≤ ps.length ∧ c = .int .i64 (k : Int) ∧ findP n ps 0 = findP n (ps.drop k) k ∧ Below w.heap.size w wr) (fun c _ => ps.length - (intOf c).toNat)
  case atStart => exact ⟨0, Nat.zero_le _, rfl, rfl, Below.refl _ _⟩
  case round =>
    obtain ⟨k, hk, rfl, hf, hb⟩ := hrel
    have HF : Hid (findP n ps 0 = findP n (ps.drop k) k) := hf
    have HB : Hid (Below w.heap.size w wr) := hb
    clear hf hb
    by_cases hlt : k < ps.length
    · have hlt' : (k : Int) < (ps.length : Int) := by omega
      rcases HR.out with h | ⟨b0, o0, ha, hB0, ia⟩
      · rw [h] at hlt; simp at hlt
      obtain ⟨c0, c1, c2⟩ := (ia.below HB.out hB0) k hlt
      have HD : Hid (findP n (ps.drop k) k = if ((ps.getD k pk0).name.toList == n.toList) = true then (k : Int) else findP n (ps.drop (k + 1)) (k + 1)) := findP_drop n ps k hlt
      rw [ha]
      clear ia
      generalize (ps.getD k pk0).name = p at *
      generalize (ps.getD k pk0).of = q at *
      generalize (ps.getD k pk0).count = z at *
      cases hpn : (p.toList == n.toList)
      · rw [hpn] at HD
        go_wp2
        go_roundw
        case rel => exact ⟨k + 1, by omega, by go_num, HF.out.trans HD.out, HB.out⟩
        case measure => simp [intOf]; omega
      · rw [hpn] at HD
        go_wp2
        go_ret
        exact ⟨ret_int (HF.out.trans HD.out).symm, HB.out⟩
    · have HD : Hid (findP n (ps.drop k) k = -1) := by show _ = _; rw [List.drop_eq_nil_of_le (by omega)]; rfl
      go_wp2
      go_ret
      exact ⟨ret_int (HF.out.trans HD.out).symm, HB.out⟩

end Go.Proofs.Ytaledfdhiimhdaa
