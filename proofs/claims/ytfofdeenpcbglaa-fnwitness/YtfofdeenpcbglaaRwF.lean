/-
  Contract of the program's Witness.
-/
import Derived.Test.YtfofdeenpcbglaaRwE
import Derived.Test.YtfofdeenpcbglaaRhB
namespace Go.Proofs.Ytfofdeenpcbglaa
open Go.ChangeShapes Go.WideShapes Go.ChangeAt Go.RowKit Go.Deep
set_option linter.unusedVariables false

/-- What Witness answers: facts, a code, numbers. -/
def wtV (c : CCl) : Array Value := if clOne c = true then leastV c.ts else #[.int .i64 0, .int .i64 0, .int .i64 0, .int .i64 0, .int .i64 0]
def wtC (c : CCl) : Int := if clOne c = true then (if canT c.ts = true then 0 else 8) else 1
def wtL (c : CCl) : List Int := if clOne c = true then (if canT c.ts = true then [] else zs (coreR c.ts c.ts.length)) else []
theorem wt_ways (c : CCl) : (clOne c = false ∧ wtV c = #[.int .i64 0, .int .i64 0, .int .i64 0, .int .i64 0, .int .i64 0] ∧ wtC c = 1 ∧ wtL c = []) ∨ (clOne c = true ∧ canT c.ts = false ∧ wtV c = #[.int .i64 0, .int .i64 0, .int .i64 0, .int .i64 0, .int .i64 0] ∧ wtC c = 8 ∧ wtL c = zs (coreR c.ts c.ts.length)) ∨ (clOne c = true ∧ canT c.ts = true ∧ wtV c = leastV c.ts ∧ wtC c = 0 ∧ wtL c = []) := by
  unfold wtV wtC wtL
  cases h1 : clOne c
  · simp
  cases h2 : canT c.ts
  · simp [leastV_no h2]
  · simp
theorem wtL_len (c : CCl) : (wtL c).length ≤ c.ts.length := by
  rcases wt_ways c with ⟨_, _, _, h⟩ | ⟨_, _, _, _, h⟩ | ⟨_, _, _, _, h⟩ <;> rw [h]
  · exact Nat.zero_le _
  · rw [zs_length]; exact coreR_len _ _
  · exact Nat.zero_le _
theorem clOne_len {c : CCl} (h : clOne c = true) : c.ts.length ≤ 8 ∧ c.ts.all tmB = true := by
  unfold clOne sayB at h
  simp only [Bool.and_eq_true, decide_eq_true_eq] at h
  exact ⟨h.1.1, h.2.2⟩
def WtAt (w : World) (an : ByteArray) (ha : Option Addr) (na ca : Nat) (aa au : Int) (W : World) : Prop :=
  (W.cell? ⟨w.heap.size, 0, none⟩ = some (.string an) ∧ W.cell? ⟨w.heap.size, 1, none⟩ = some (.slice ha na ca) ∧ W.cell? ⟨w.heap.size, 2, none⟩ = some (.int .i64 aa) ∧ W.cell? ⟨w.heap.size, 3, none⟩ = some (.int .i64 au)) ∧
  (W.cell? ⟨w.heap.size + 1, 0, none⟩ = some (.int .i64 0) ∧ W.cell? ⟨w.heap.size + 1, 1, none⟩ = some (.int .i64 0) ∧ W.cell? ⟨w.heap.size + 1, 2, none⟩ = some (.int .i64 0) ∧ W.cell? ⟨w.heap.size + 1, 3, none⟩ = some (.int .i64 0) ∧ W.cell? ⟨w.heap.size + 1, 4, none⟩ = some (.int .i64 0)) ∧
  ((W.frozen? ⟨w.heap.size + 1, 0, none⟩ = false ∧ W.frozen? ⟨w.heap.size + 1, 1, none⟩ = false ∧ W.frozen? ⟨w.heap.size + 1, 2, none⟩ = false ∧ W.frozen? ⟨w.heap.size + 1, 3, none⟩ = false ∧ W.frozen? ⟨w.heap.size + 1, 4, none⟩ = false) ∧ w.heap.size + 1 < W.heap.size)
theorem wtAt {w : World} {an : ByteArray} {ha : Option Addr} {na ca : Nat} {aa au : Int} {t1 t2 : TypeId} {W : World} (h : Below ((w.alloc (Obj.cells #[.string an, .slice ha na ca, .int .i64 aa, .int .i64 au] t1)).alloc (Obj.cells #[.int .i64 0, .int .i64 0, .int .i64 0, .int .i64 0, .int .i64 0] t2)).heap.size ((w.alloc (Obj.cells #[.string an, .slice ha na ca, .int .i64 aa, .int .i64 au] t1)).alloc (Obj.cells #[.int .i64 0, .int .i64 0, .int .i64 0, .int .i64 0, .int .i64 0] t2)) W) : WtAt w an ha na ca aa au W := by
  have c0 : ∀ j v, #[Value.string an, .slice ha na ca, .int .i64 aa, .int .i64 au][j]? = some v → W.cell? ⟨w.heap.size, j, none⟩ = some v := fun j v hv => (h.cell (p := ⟨w.heap.size, j, none⟩) (by simp; omega)).trans ((cellOld _ _ (by simp)).trans (cellNew _ _ _ _ rfl hv))
  have c2 : ∀ j v, #[Value.int .i64 0, .int .i64 0, .int .i64 0, .int .i64 0, .int .i64 0][j]? = some v → W.cell? ⟨w.heap.size + 1, j, none⟩ = some v := fun j v hv => (h.cell (p := ⟨w.heap.size + 1, j, none⟩) (by simp)).trans (cellNew _ _ _ _ (by simp) hv)
  have f2 : ∀ j, W.frozen? ⟨w.heap.size + 1, j, none⟩ = false := fun j => (h.frozen (p := ⟨w.heap.size + 1, j, none⟩) (by simp)).trans (frozenNew _ _ _ (by simp))
  have hs := h.size
  simp at hs
  exact ⟨⟨c0 _ _ rfl, c0 _ _ rfl, c0 _ _ rfl, c0 _ _ rfl⟩, ⟨c2 _ _ rfl, c2 _ _ rfl, c2 _ _ rfl, c2 _ _ rfl, c2 _ _ rfl⟩, ⟨f2 _, f2 _, f2 _, f2 _, f2 _⟩, by omega⟩
theorem own2_mono {B B' : Nat} {w : World} {g : Option Addr} {L : List Int} (h : Own2 B w g L) (hB : B' ≤ B) : Own2 B' w g L := by
  rcases h with h | ⟨b, hg, h1, r⟩
  · exact .inl h
  · exact .inr ⟨b, hg, Nat.le_trans hB h1, r⟩
theorem own2_set {B D : Nat} {w : World} {g : Option Addr} {L : List Int} (h : Own2 B w g L) (hD : D < B) (o : Nat) (v : Value) : Own2 B (w.setCell ⟨D, o, none⟩ v) g L := by
  rcases h with h | ⟨b, hg, h1, h2, h3, h4⟩
  · exact .inl h
  · refine .inr ⟨b, hg, h1, by rw [World.size_setCell]; exact h2, fun i hi => ?_, fun i hi => ?_⟩
    · rw [World.cell?_setCell_far _ _ _ _ (show D ≠ b by omega)]; exact h3 i hi
    · rw [World.frozen?_setCell]; exact h4 i hi
set_option maxHeartbeats 16000000 in
set_option maxRecDepth 8000 in
theorem implWitness_any (c : CCl) (h : Option Addr) (cp : Nat) (ok : ClOK c) (w : World) (hr : ReadsTm w.heap.size w h c.ts) :
    Calls Try.prog 5 #[.agg #[.string c.nm, .slice h c.ts.length cp, .int .i64 c.ac, .int .i64 c.nu]] w fun e w' => ∃ g cp', e = .returned (.tuple #[.agg (wtV c), .int .i64 (wtC c), .slice g (wtL c).length cp']) ∧ Own2 w.heap.size w' g (wtL c) ∧ Below w.heap.size w w' := by
  have HO : Hid (∀ W, Below w.heap.size w W → Calls Try.prog 11 #[.agg #[.string c.nm, .slice h c.ts.length cp, .int .i64 c.ac, .int .i64 c.nu]] W fun e w' => e = .returned (.bool (clOne c)) ∧ Below W.heap.size W w') := fun W hb => clauseOK_any c h cp ok W (hr.later hb)
  have HRo : Hid (clOne c = true → ∀ W, Below w.heap.size w W → Calls Try.prog 12 #[.slice h c.ts.length cp] W fun e w' => e = .returned (.agg (rowI (rm c.ts))) ∧ Below W.heap.size W w') := fun q W hb => roomOf_any h cp c.ts (clOne_len q).2 (by have := ok.2; omega) W (hr.later hb)
  have HNt : Hid (clOne c = true → ∀ W, Below w.heap.size w W → Calls Try.prog 14 #[.slice h c.ts.length cp] W fun e w' => ∃ g cp', e = .returned (.slice g (zs (coreR c.ts c.ts.length)).length cp') ∧ Own2 W.heap.size w' g (zs (coreR c.ts c.ts.length)) ∧ Below W.heap.size W w') := fun q W hb => by
    have := neverTogether_any h cp c.ts (clOne_len q).2 (clOne_len q).1 W (hr.later hb)
    rw [zs_length]
    exact this
  have HEm : Hid (∀ W, Calls Try.prog 13 #[.agg (rowI (rm c.ts))] W fun e w' => e = .returned (.bool (!canT c.ts)) ∧ Below W.heap.size W w') := fun W => by
    have := roomEmpty_any (rm c.ts) rfl W
    rwa [show emptyL (rm c.ts) = !canT c.ts by simp [canT]] at this
  have HLf : Hid (canT c.ts = true → ∀ W, Calls Try.prog 15 #[.agg (rowI (rm c.ts))] W fun e w' => e = .returned (.agg (leastV c.ts)) ∧ Below W.heap.size W w') := fun q W => by
    have := leastFacts_any (rm c.ts) rfl W
    rwa [show factsV (rm c.ts) = leastV c.ts by unfold leastV; rw [if_pos q]] at this
  obtain ⟨y1, y2, y3, y4, y5, hy⟩ : ∃ y1 y2 y3 y4 y5 : Int, leastV c.ts = #[.int .i64 y1, .int .i64 y2, .int .i64 y3, .int .i64 y4, .int .i64 y5] := by
    unfold leastV
    split
    · exact ⟨_, _, _, _, _, rfl⟩
    · exact ⟨_, _, _, _, _, rfl⟩
  obtain ⟨a0, a1, a2, a3, a4, a5, a6, a7, a8, a9, a10, a11, hM⟩ := list12 (rm c.ts) rfl
  rw [hM, rowI12] at HRo HEm HLf
  have hw := wt_ways c
  rw [hy] at hw HLf
  clear hM hy hr ok
  generalize wtV c = wv at *
  generalize wtC c = wc at *
  generalize wtL c = wl at *
  generalize clOne c = oc at *
  generalize canT c.ts = cb at *
  generalize zs (coreR c.ts c.ts.length) = core at *
  obtain ⟨nm, ts, ac, nu⟩ := c
  dsimp only at *
  generalize ts.length = n at *
  rcases hw with ⟨rfl, rfl, rfl, rfl⟩ | ⟨rfl, rfl, rfl, rfl, rfl⟩ | ⟨rfl, rfl, rfl, rfl, rfl⟩
  · go_enter Try.func5, Try.ntmps5
    go_wp2_with (go_at_call 11; refine (HO.out _ (chain (below_alloc _ _) (below_alloc _ _))).mono ?_; rintro e v1 ⟨rfl, hv1⟩; obtain ⟨⟨s0, s1, s2, s3⟩, ⟨p0, p1, p2, p3, p4⟩, ⟨f0, f1, f2, f3, f4⟩, hlt⟩ := wtAt hv1)
    refine bodyPost_ret (v := .tuple #[.agg #[.int .i64 0, .int .i64 0, .int .i64 0, .int .i64 0, .int .i64 0], .int .i64 1, .slice none 0 0]) (by simp [results, Try.results5, go_sem, p0, p1, p2, p3, p4]) rfl ⟨none, 0, rfl, .inl rfl, ?_⟩
    repeat refine Below.setCell ?_ (by dsimp only; omega) _
    exact chain (chain (below_alloc _ _) (below_alloc _ _)) hv1
  · have hRo := HRo.out rfl
    have hNt := HNt.out rfl
    go_enter Try.func5, Try.ntmps5
    go_wp2_with fail
    (first | go_at_call 11 | skip)
    refine (HO.out _ (chain (below_alloc _ _) (below_alloc _ _))).mono ?_
    rintro e v1 ⟨rfl, hv1⟩
    obtain ⟨⟨s0, s1, s2, s3⟩, ⟨p0, p1, p2, p3, p4⟩, ⟨f0, f1, f2, f3, f4⟩, hlt⟩ := wtAt hv1
    have HV1 : Hid _ := hv1
    go_wp2_with fail
    (first | go_at_call 12 | skip)
    refine (hRo _ (chain (chain (below_alloc _ _) (below_alloc _ _)) HV1.out)).mono ?_
    rintro e v2 ⟨rfl, hv2⟩
    have HV2 : Hid _ := chain HV1.out hv2
    clear s0 s1 s2 s3 p0 p1 p2 p3 p4 f0 f1 f2 f3 f4 hlt hv1 hv2
    go_wp2_with fail
    (first | go_at_call 13 | skip)
    refine (HEm.out _).mono ?_
    rintro e v3 ⟨rfl, hv3⟩
    have HV3 : Hid _ := chain (chain HV2.out (below_alloc _ _)) hv3
    obtain ⟨⟨s0, s1, s2, s3⟩, ⟨p0, p1, p2, p3, p4⟩, ⟨f0, f1, f2, f3, f4⟩, hlt⟩ := wtAt HV3.out
    clear hv3
    go_wp2_with fail
    (first | go_at_call 14 | skip)
    refine (hNt v3 (chain (chain (below_alloc _ _) (below_alloc _ _)) HV3.out)).mono ?_
    rintro e v4 ⟨g, cg, rfl, o4, hv4⟩
    have HV4 : Hid _ := chain HV3.out hv4
    have HO4 : Hid (Own2 v3.heap.size v4 g _) := o4
    have HL4 : Hid (w.heap.size + 1 < v3.heap.size) := hlt
    clear s0 s1 s2 s3 p0 p1 p2 p3 p4 f0 f1 f2 f3 f4 hlt hv4 o4
    obtain ⟨⟨s0, s1, s2, s3⟩, ⟨p0, p1, p2, p3, p4⟩, ⟨f0, f1, f2, f3, f4⟩, hlt⟩ := wtAt HV4.out
    go_wp2
    refine bodyPost_ret (v := .tuple #[.agg #[.int .i64 0, .int .i64 0, .int .i64 0, .int .i64 0, .int .i64 0], .int .i64 8, .slice g _ cg]) (by simp [results, Try.results5, go_sem, p0, p1, p2, p3, p4]) rfl ⟨g, cg, rfl, ?_, ?_⟩
    · refine own2_mono (B := v3.heap.size) ?_ (by have := HL4.out; omega)
      repeat refine own2_set ?_ HL4.out _ _
      exact HO4.out
    · repeat refine Below.setCell ?_ (by dsimp only; omega) _
      exact chain (chain (below_alloc _ _) (below_alloc _ _)) HV4.out
  · have hRo := HRo.out rfl
    have hLf := HLf.out rfl
    go_enter Try.func5, Try.ntmps5
    go_wp2_with fail
    (first | go_at_call 11 | skip)
    refine (HO.out _ (chain (below_alloc _ _) (below_alloc _ _))).mono ?_
    rintro e v1 ⟨rfl, hv1⟩
    obtain ⟨⟨s0, s1, s2, s3⟩, ⟨p0, p1, p2, p3, p4⟩, ⟨f0, f1, f2, f3, f4⟩, hlt⟩ := wtAt hv1
    have HV1 : Hid _ := hv1
    go_wp2_with fail
    (first | go_at_call 12 | skip)
    refine (hRo _ (chain (chain (below_alloc _ _) (below_alloc _ _)) HV1.out)).mono ?_
    rintro e v2 ⟨rfl, hv2⟩
    have HV2 : Hid _ := chain HV1.out hv2
    clear s0 s1 s2 s3 p0 p1 p2 p3 p4 f0 f1 f2 f3 f4 hlt hv1 hv2
    go_wp2_with fail
    (first | go_at_call 13 | skip)
    refine (HEm.out _).mono ?_
    rintro e v3 ⟨rfl, hv3⟩
    have HV3 : Hid _ := chain (chain HV2.out (below_alloc _ _)) hv3
    have HRm : Hid (RoomAt v3 v2.heap.size [a0, a1, a2, a3, a4, a5, a6, a7, a8, a9, a10, a11]) := RoomAt.later (RoomAt.new v2 [a0, a1, a2, a3, a4, a5, a6, a7, a8, a9, a10, a11]) hv3
    obtain ⟨d0, d1, d2, d3, d4, d5, d6, d7, d8, d9, d10, d11⟩ := room_cells HRm.out
    clear hv3
    go_wp2_with fail
    (first | go_at_call 15 | skip)
    refine (hLf _).mono ?_
    rintro e v4 ⟨rfl, hv4⟩
    have HV4 : Hid _ := chain HV3.out hv4
    clear d0 d1 d2 d3 d4 d5 d6 d7 d8 d9 d10 d11 hv4
    obtain ⟨⟨s0, s1, s2, s3⟩, ⟨p0, p1, p2, p3, p4⟩, ⟨f0, f1, f2, f3, f4⟩, hlt⟩ := wtAt HV4.out
    go_wp2
    refine bodyPost_ret (v := .tuple #[.agg #[.int .i64 y1, .int .i64 y2, .int .i64 y3, .int .i64 y4, .int .i64 y5], .int .i64 0, .slice none 0 0]) (by simp [results, Try.results5, go_sem, p0, p1, p2, p3, p4]) rfl ⟨none, 0, rfl, .inl rfl, ?_⟩
    repeat refine Below.setCell ?_ (by dsimp only; omega) _
    exact chain (chain (below_alloc _ _) (below_alloc _ _)) HV4.out
end Go.Proofs.Ytfofdeenpcbglaa
