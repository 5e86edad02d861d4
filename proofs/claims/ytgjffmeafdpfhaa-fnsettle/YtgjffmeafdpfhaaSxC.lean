/-
  Contracts of the program's settledSum, firstUnpaired.
-/
import Derived.Test.YtgjffmeafdpfhaaSxB
namespace Go.Proofs.Ytgjffmeafdpfhaa
open Go.ChangeShapes Go.WideShapes Go.ChangeAt Go.RowKit Go.Deep
set_option linter.unusedVariables false

set_option maxHeartbeats 2000000 in
theorem settledSum_any (a : Option Addr) (cap : Nat) (rs : List RSe) (hl : rs.length ≤ 60) (hp : ∀ r ∈ rs, -1000000000 ≤ r.am ∧ r.am ≤ 1000000000) (w : World) (hr : ReadsSe w.heap.size w a rs) :
    Calls Try.prog 37 #[.slice a rs.length cap] w fun e w' => e = .returned (.int .i64 (sumS rs rs.length)) ∧ Below w.heap.size w w' := by
  have HR : Hid (ReadsSe w.heap.size w a rs) := hr
  have HS : Hid (∀ k, k ≤ rs.length → -1000000000 * (k : Int) ≤ sumS rs k ∧ sumS rs k ≤ 1000000000 * (k : Int)) := sumS_bound hp
  clear hr hp
  go_enter Try.func37, Try.ntmps37
  go_wp2
  go_loopw [3, 5, 8] (fun s _ c wr => ∃ k : Nat, k ≤ rs.length ∧ c = .int .i64 (k : Int) ∧ s = .int .i64 (sumS rs k) ∧ Below w.heap.size w wr) (fun _ _ c _ => rs.length - (intOf c).toNat)
  case atStart => exact ⟨0, Nat.zero_le _, rfl, rfl, Below.refl _ _⟩
  case round =>
    obtain ⟨k, hk, rfl, rfl, hb⟩ := hrel
    have HB : Hid (Below w.heap.size w wr) := hb
    clear hb
    by_cases hlt : k < rs.length
    · have hlt' : (k : Int) < (rs.length : Int) := by omega
      rcases HR.out with h | ⟨b0, o0, ha, hB0, ia⟩
      · rw [h] at hlt; simp at hlt
      obtain ⟨c0, c1⟩ := (ia.below HB.out hB0) k hlt
      have h1 := HS.out k (by omega)
      have h2 := HS.out (k + 1) (by omega)
      have HN : Hid (sumS rs (k + 1) = sumS rs k + (rs.getD k zSe).am) := rfl
      rw [HN.out] at h2
      subst ha
      clear ia
      generalize rs.getD k zSe = q at *
      obtain ⟨qa, qp⟩ := q
      dsimp only at c0 c1 HN h2
      generalize sumS rs k = s0 at *
      have hw : wrap64 (s0 + qp) = s0 + qp := by unfold wrap64; omega
      have hw' : IntKind.i64.wrap (s0 + qp) = s0 + qp := wrap_id _ (by omega) (by omega)
      go_wp2
      first
      | exact ⟨⟨k + 1, by omega, by go_num, by rw [HN.out], HB.out.alloc HB.out.size _⟩, by simp [intOf]; omega⟩
      | (go_roundw
         case rel => exact ⟨k + 1, by omega, by go_num, by rw [HN.out], HB.out.alloc HB.out.size _⟩
         case measure => simp [intOf]; omega)
    · obtain rfl : k = rs.length := by omega
      go_wp2
      go_ret
      exact ⟨rfl, HB.out⟩
theorem part_ways (id : ByteArray) (am : Int) (id' : ByteArray) (am' : Int) (t : Bool) : (seEq ⟨id, am⟩ ⟨id', am'⟩ = false ∧ sePart ⟨id', am'⟩ t ⟨id, am⟩ = false) ∨ (seEq ⟨id, am⟩ ⟨id', am'⟩ = true ∧ t = true ∧ sePart ⟨id', am'⟩ t ⟨id, am⟩ = false) ∨ (seEq ⟨id, am⟩ ⟨id', am'⟩ = true ∧ t = false ∧ sePart ⟨id', am'⟩ t ⟨id, am⟩ = true) := by
  unfold sePart
  cases h : seEq ⟨id, am⟩ ⟨id', am'⟩
  · exact .inl ⟨rfl, rfl⟩
  · cases t
    · exact .inr (.inr ⟨rfl, rfl, rfl⟩)
    · exact .inr (.inl ⟨rfl, rfl, rfl⟩)
set_option maxHeartbeats 4000000 in
theorem firstUn_any (a : Option Addr) (cap : Nat) (bank : List RSe) (hl : bank.length ≤ 60) (pb : Nat) (tk : Nat → Bool) (id : ByteArray) (am : Int) (w : World) (hr : ReadsSe w.heap.size w a bank) (hp : w.rowIs pb 4 bank.length (fun j => .bool (tk j))) :
    Calls Try.prog 38 #[.slice a bank.length cap, .slice (some ⟨pb, 0, none⟩) bank.length bank.length, .agg #[.string id, .int .i64 am]] w fun e w' => e = .returned (.int .i64 (fuI (firstU bank tk ⟨id, am⟩))) ∧ Below w.heap.size w w' := by
  have HR : Hid (ReadsSe w.heap.size w a bank) := hr
  have HP : Hid (w.rowIs pb 4 bank.length (fun j => .bool (tk j))) := hp
  have hpl : pb < w.heap.size := hp.lt
  generalize hfx : fuI (firstU bank tk ⟨id, am⟩) = fx
  have HFX : Hid (fuI (firstU bank tk ⟨id, am⟩) = fx) := hfx
  clear hr hp hfx
  go_enter Try.func38, Try.ntmps38
  go_wp2
  go_loopw [7, 8, 11] (fun _ _ c wr => ∃ k : Nat, k ≤ bank.length ∧ c = .int .i64 (k : Int) ∧ (∀ j, j < k → sePart ⟨id, am⟩ (tk j) (bank.getD j zSe) = false) ∧ Below (w.alloc (Obj.cells #[.string id, .int .i64 am] 33)).heap.size (w.alloc (Obj.cells #[.string id, .int .i64 am] 33)) wr) (fun _ _ c _ => bank.length - (intOf c).toNat)
  case atStart => exact ⟨0, Nat.zero_le _, rfl, fun j hj => by omega, Below.refl _ _⟩
  case round =>
    obtain ⟨k, hk, rfl, hf, hb⟩ := hrel
    have HF : Hid (∀ j, j < k → sePart ⟨id, am⟩ (tk j) (bank.getD j zSe) = false) := hf
    have HB : Hid (Below w.heap.size w wr) := chain (below_alloc _ _) hb
    have y0 : wr.cell? ⟨w.heap.size, 0, none⟩ = some (.string id) := (hb.cell (p := ⟨w.heap.size, 0, none⟩) (by simp)).trans (blkCell (heapNew _ _) 0 _ rfl)
    have y1 : wr.cell? ⟨w.heap.size, 1, none⟩ = some (.int .i64 am) := (hb.cell (p := ⟨w.heap.size, 1, none⟩) (by simp)).trans (blkCell (heapNew _ _) 1 _ rfl)
    have hwl : w.heap.size < wr.heap.size := Nat.lt_of_lt_of_le (by simp) hb.size
    have HD : Hid (Below (w.alloc (Obj.cells #[.string id, .int .i64 am] 33)).heap.size (w.alloc (Obj.cells #[.string id, .int .i64 am] 33)) wr) := hb
    clear hf hb
    by_cases hlt : k < bank.length
    · have hlt' : (k : Int) < (bank.length : Int) := by omega
      rcases HR.out with h | ⟨b0, o0, ha, hB0, ia⟩
      · rw [h] at hlt; simp at hlt
      obtain ⟨c0, c1⟩ := (ia.below HB.out hB0) k hlt
      have hb0 : b0 < wr.heap.size := Nat.lt_of_lt_of_le hB0 HB.out.size
      have p0 : wr.cell? ⟨pb, k, none⟩ = some (.bool (tk k)) := (HB.out.cell (p := ⟨pb, k, none⟩) hpl).trans (HP.out.cell hlt)
      have hpl2 : pb < wr.heap.size := Nat.lt_of_lt_of_le hpl HB.out.size
      have HX : Hid (sePart ⟨id, am⟩ (tk k) (bank.getD k zSe) = true → fx = (k : Int)) := fun h => by rw [← HFX.out, firstU_at hlt HF.out h]; rfl
      have HN : Hid (sePart ⟨id, am⟩ (tk k) (bank.getD k zSe) = false → ∀ j, j < k + 1 → sePart ⟨id, am⟩ (tk j) (bank.getD j zSe) = false) := fun h j hj => by
        by_cases e : j = k
        · rw [e]; exact h
        · exact HF.out j (by omega)
      subst ha
      clear ia HF
      generalize bank.getD k zSe = q at *
      generalize tk k = tb at *
      obtain ⟨qa, qp⟩ := q
      dsimp only at c0 c1
      have heq := fun W => seEql_run qa id qp am W
      rcases part_ways qa qp id am tb with ⟨h1, h2⟩ | ⟨h1, h2, h3⟩ | ⟨h1, h2, h3⟩
      · have H1 : Hid (∀ j, j < k + 1 → sePart ⟨id, am⟩ (tk j) (bank.getD j zSe) = false) := HN.out h2
        rw [h1] at heq
        clear HX HN h1 h2
        go_wp2
        first
        | exact ⟨⟨k + 1, by omega, by go_num, H1.out, chain HD.out (below_alloc _ _)⟩, by simp [intOf]; omega⟩
        | (go_roundw
           case rel => exact ⟨k + 1, by omega, by go_num, H1.out, chain HD.out (below_alloc _ _)⟩
           case measure => simp [intOf]; omega)
      · have H1 : Hid (∀ j, j < k + 1 → sePart ⟨id, am⟩ (tk j) (bank.getD j zSe) = false) := HN.out h3
        rw [h1] at heq
        clear HX HN h1 h3
        subst h2
        go_wp2
        first
        | exact ⟨⟨k + 1, by omega, by go_num, H1.out, chain HD.out (below_alloc _ _)⟩, by simp [intOf]; omega⟩
        | (go_roundw
           case rel => exact ⟨k + 1, by omega, by go_num, H1.out, chain HD.out (below_alloc _ _)⟩
           case measure => simp [intOf]; omega)
      · have H1 : Hid (fx = (k : Int)) := HX.out h3
        rw [h1] at heq
        clear HX HN h1 h3
        subst h2
        go_wp2
        go_ret
        exact ⟨ret_int H1.out.symm, chain HB.out (below_alloc _ _)⟩
    · have hle : (bank.length : Int) ≤ (k : Int) := by omega
      have HE : Hid (fx = -1) := by show _ = _; rw [← HFX.out, firstU_none (fun j hj => HF.out j (by omega))]; rfl
      go_wp2
      go_ret
      exact ⟨ret_int HE.out.symm, HB.out⟩
end Go.Proofs.Ytgjffmeafdpfhaa
