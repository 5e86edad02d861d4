/-
  Texts of this claim laid together: Shelf, BgC, Rate.
-/
import Derived.Ground.Names2Prog
import Derived.Shelf.Slices.Clone
import Derived.Test.YtkfmifbffgbiiaaProg
import Derived.Test.YtkfmifbffgbiiaaM11
import Derived.Test.YtkfmifbffgbiiaaM1
/-
  Contracts of library functions at this seat's program, laid plain by wip/shelf.sh with the kit's own tool; each is one application of a theorem of the library.
-/
namespace Go.Proofs.Ytkfmifbffgbiiaa
open Go.Shelf
def Try.laysNm215_ren : Go.Shelf.Ren := ⟨fun | 15 => 35 | n => n, fun | 22 => 34 | 3 => 3 | 4 => 4 | n => n, fun | n => n⟩
theorem Try.laysNm215 : Go.Proofs.Lays2.n15 Try.prog Try.laysNm215_ren := {
  mixed := by kernel_rfl
  f15 := Try.func35.trans (congrArg some (by kernel_rfl))
  t3 := Try.underlying3
  a3 := Try.isAgg3
  z3 := Try.sizeOf3
  v3 := Try.zeroValue3
  t4 := Try.underlying4
  a4 := Try.isAgg4
  z4 := Try.sizeOf4
  v4 := Try.zeroValue4
  t22 := Try.underlying34
  a22 := Try.isAgg34
  z22 := Try.sizeOf34
  v22 := Try.zeroValue34
  i3 := by kernel_rfl }
open Go.RowKit Go.Lib in
theorem Try.slices_Clone_int (b off n c : Nat) (zs : List Int) (w : World) (hz : n ≤ zs.length) (hbig : n * 8 ≤ 140737488355328) (hc : ∀ j, j < zs.length → w.cell? ⟨b, off + j, none⟩ = some (.int .i64 (zs.getD j 0))) :
    Calls Try.prog 35 #[.slice (some ⟨b, off, none⟩) n c] w fun e w' => ∃ v', e = .returned v' ∧ w'.ownsRow w.heap.size 3 1 v' n ((zs.take n).map (Value.int .i64)) ∧ v' ≠ .slice none 0 0 ∧ Below w.heap.size w w' := Any.slices_Clone_int Try.laysNm215 b off n c zs w hz hbig hc
end Go.Proofs.Ytkfmifbffgbiiaa

/-
  Contracts of the program's pricesOf, wants, useFits, of the library's slices.Clone at numbers.
-/
namespace Go.Proofs.Ytkfmifbffgbiiaa
open Go.ChangeShapes Go.WideShapes Go.ChangeAt Go.RowKit
set_option linter.unusedVariables false

def prAt (us : List RUn) (x : Int) : Int := (us.getD x.toNat zUn).pr
def InR (us : List RUn) (ns : List Int) : Prop := ∀ x ∈ ns, 0 ≤ x ∧ x < (us.length : Int)
theorem map_take_next (us : List RUn) (ns : List Int) (k : Nat) (h : k < ns.length) : (ns.take (k + 1)).map (prAt us) = (ns.take k).map (prAt us) ++ [prAt us (ns.getD k 0)] := by
  have e : ns.getD k 0 = ns[k] := by simp [List.getD_eq_getElem?_getD, h]
  rw [List.take_succ_eq_append_getElem h, List.map_append, e]; rfl


set_option maxHeartbeats 2000000 in
theorem pricesOf_any (a : Option Addr) (cap : Nat) (us : List RUn) (hl : us.length ≤ 100000000) (b : Option Addr) (cb : Nat) (ns : List Int) (hn : ns.length ≤ 100) (hin : InR us ns) (w : World) (hr : ReadsUn w.heap.size w a us) (ks : Reads w.heap.size w b ns) :
    Calls Try.prog 34 #[.slice a us.length cap, .slice b ns.length cb] w fun e w' => ∃ g cp, e = .returned (.slice (some ⟨g, 0, none⟩) ns.length cp) ∧ Reads w'.heap.size w' (some ⟨g, 0, none⟩) (ns.map (prAt us)) ∧ Below w.heap.size w w' := by
  have HR : Hid (ReadsUn w.heap.size w a us) := hr
  have HK : Hid (Reads w.heap.size w b ns) := ks
  have HI : Hid (InR us ns) := hin
  clear hr ks hin
  have hmk : ∀ w, (Instr.makeSlice 34 (.int .i64 0) (.int .i64 (ns.length : Int))).run Try.prog w = .ok (.slice (some ⟨w.heap.size, 0, none⟩) 0 ns.length) (w.alloc (.cells (madeCells #[.int .i64 0] ns.length) 3)) := fun w => run_make_cap ns.length (by omega) w
  have H0 : Hid (One w w.heap.size (.slice (some ⟨w.heap.size, 0, none⟩) 0 ns.length) [] (w.alloc (Obj.cells (madeCells #[.int .i64 0] ns.length) 3))) := One.made w w.heap.size rfl ns.length (by omega)
  obtain ⟨i0, hi, hzz⟩ := Option.map_eq_some_iff.1 intInfo1
  simp only [Prod.mk.injEq] at hzz
  obtain ⟨hi0, hi1, hi2⟩ := hzz
  go_enter Try.func34, Try.ntmps34
  go_wp2
  go_loopw [5, 7, 13] (fun v _ c wr => ∃ k g cp : Nat, k ≤ ns.length ∧ c = .int .i64 (k : Int) ∧ v = .slice (some ⟨g, 0, none⟩) k cp ∧ One w w.heap.size (.slice (some ⟨g, 0, none⟩) k cp) ((ns.take k).map (prAt us)) wr) (fun _ _ c _ => ns.length - (intOf c).toNat)
  case atStart => exact ⟨0, w.heap.size, ns.length, Nat.zero_le _, rfl, rfl, by simpa using H0.out⟩
  case round =>
    clear H0 hmk
    obtain ⟨k, g, cp, hk, rfl, rfl, hO⟩ := hrel
    have HO : Hid (One w w.heap.size (.slice (some ⟨g, 0, none⟩) k cp) ((ns.take k).map (prAt us)) wr) := hO
    have HB : Hid (Below w.heap.size w wr) := hO.2.2
    clear hO
    by_cases hlt : k < ns.length
    · have hlt' : (k : Int) < (ns.length : Int) := by omega
      rcases HK.out with h | ⟨b1, o1, hb1, hB1, ib⟩
      · rw [h] at hlt; simp at hlt
      have d0 := (ib.below HB.out hB1) k hlt
      have hx := HI.out _ (show ns.getD k 0 ∈ ns by rw [show ns.getD k 0 = ns[k] by simp [List.getD_eq_getElem?_getD, hlt]]; exact List.getElem_mem _)
      rcases HR.out with h | ⟨b0, o0, ha, hB0, ia⟩
      · rw [h] at hx; simp at hx; omega
      obtain ⟨x, hxe⟩ : ∃ x : Nat, ns.getD k 0 = (x : Int) := ⟨(ns.getD k 0).toNat, by omega⟩
      obtain ⟨_, c1⟩ := (ia.below HB.out hB0) x (by omega)
      have hlen : ((ns.take k).map (prAt us)).length = k := by rw [List.length_map, List.length_take]; omega
      have HN : Hid ((ns.take k).map (prAt us) ++ [(us.getD x zUn).pr] = (ns.take (k + 1)).map (prAt us)) := by
        show _ = _
        rw [map_take_next us ns k hlt, hxe]; rfl
      rw [hxe] at d0 hx
      obtain ⟨hx0, hx1⟩ := hx
      rw [ha, hb1]
      clear ia ib hxe
      generalize (us.getD x zUn).pr = p at *
      have HW5 : Hid (One w w.heap.size (.slice (some ⟨g, 0, none⟩) k cp) ((ns.take k).map (prAt us)) (wr.alloc (Obj.cells #[.int .i64 p] 3))) := HO.out.alloc _
      have HNw : Hid (∀ j u, [Value.int .i64 p][j]? = some u → (wr.alloc (Obj.cells #[.int .i64 p] 3)).cell? ((⟨wr.heap.size, 0, none⟩ : Addr).add j) = some u) := newsOne wr (.int .i64 p) 3
      generalize (ns.take k).map (prAt us) = L at *
      obtain rfl : L.length = k := hlen
      go_wp2_with (at_builtin; refine wpList_append_lies _ rfl _ _ 34 rfl w.heap.size 3 i0 (.int .i64 0) 1 8 Try.underlying34 hi hi0 hi1 hi2 rfl (by decide) _ _ _ rfl HW5.out.1 ⟨wr.heap.size, 0, none⟩ 1 1 [.int .i64 p] rfl rfl HNw.out (by intro u hu; simp at hu; rcases hu with rfl; rfl) (by omega) (by unfold maxLen; omega) (by omega) HW5.out.2.1 _ rfl ?_; intro g1 cp1 w7 hown1 hgrow1 hat1 hglt1; have HO7 : Hid (One w w.heap.size (.slice (some ⟨g1, 0, none⟩) (L.length + 1) cp1) (L ++ [p]) w7) := HW5.out.push hown1 hgrow1; clear hown1 hgrow1 hat1)
      have HO8 : Hid (One w w.heap.size (.slice (some ⟨g1, 0, none⟩) (L.length + 1) cp1) ((ns.take (L.length + 1)).map (prAt us)) w7) := by have := HO7.out; rwa [HN.out] at this
      go_roundw
      case rel => exact ⟨L.length + 1, g1, cp1, by omega, by go_num, rfl, HO8.out⟩
      case measure => simp [intOf]; omega
    · obtain rfl : k = ns.length := by omega
      have HE : Hid (Reads wr.heap.size wr (some ⟨g, 0, none⟩) (ns.map (prAt us))) := by
        have := (HO.out.own2 (by rw [List.length_map, List.take_length])).reads
        rwa [List.take_length] at this
      go_wp2
      go_ret
      exact ⟨g, cp, rfl, HE.out, HB.out⟩

theorem One.pushAll {w : World} {B : Nat} {v : Value} {L xs : List Int} {wr w' : World} {g cp : Nat} (h : One w B v L wr)
    (ho : w'.ownsRow B 3 1 (.slice (some ⟨g, 0, none⟩) (L.length + xs.length) cp) (L.length + xs.length) (L.map (Value.int .i64) ++ xs.map (Value.int .i64))) (hg : wr.grownBy w' v.ownBlock) : One w B (.slice (some ⟨g, 0, none⟩) (L.length + xs.length) cp) (L ++ xs) w' := by
  obtain ⟨h1, h4, h5⟩ := h
  refine ⟨?_, Nat.le_trans h4 hg.size, h5.grown hg h4 (fun q hq => (h1.lt q hq).1)⟩
  rw [List.length_append, List.map_append]; exact ho
theorem One.cap {w : World} {B g n cp : Nat} {L : List Int} {wr : World} (h : One w B (.slice (some ⟨g, 0, none⟩) n cp) L wr) : n ≤ cp := by
  obtain ⟨_, h2⟩ := h.1
  rcases h2 with h2 | ⟨g', cap, cur, e, _, _, hle, _⟩
  · simp at h2
  · simp at e; omega
theorem newsInts {w : World} {b off : Nat} {ns : List Int} (h : IntsAt w b off ns) : ∀ j u, (ns.map (Value.int .i64))[j]? = some u → w.cell? ((⟨b, off, none⟩ : Addr).add j) = some u := fun j u hj => by
  rw [List.getElem?_map] at hj
  obtain ⟨x, hx, rfl⟩ := Option.map_eq_some_iff.1 hj
  obtain ⟨hlt, he⟩ := List.getElem?_eq_some_iff.1 hx
  rw [Go.WideShapes.add_plain, h j hlt]
  congr 2
  simp [List.getD_eq_getElem?_getD, hx]

set_option maxHeartbeats 2000000 in
theorem clone_any (b : Nat) (off : Nat) (cb : Nat) (ns : List Int) (hn : ns.length ≤ 100) (h1 : 1 ≤ ns.length) (w : World) (ks : Reads w.heap.size w (some ⟨b, off, none⟩) ns) :
    Calls Try.prog 35 #[.slice (some ⟨b, off, none⟩) ns.length cb] w fun e w' => ∃ g cp, e = .returned (.slice (some ⟨g, 0, none⟩) ns.length cp) ∧ (w.heap.size ≤ g ∧ g < w'.heap.size) ∧ ns.length ≤ cp ∧ IntsAt w' g 0 ns ∧ FreeAt w' g 0 ns.length ∧ Below w.heap.size w w' := by
  rcases ks with h | ⟨b1, o1, hb1, hB1, ib⟩
  · rw [h] at h1; simp at h1
  cases hb1
  refine (Try.slices_Clone_int b off ns.length cb ns w (Nat.le_refl _) (by omega) (fun j hj => ib j hj)).mono ?_
  rintro e w' ⟨v', rfl, ho, hne, hb⟩
  rw [List.take_length] at ho
  have h2 := ho.2
  rcases h2 with ⟨h2, _⟩ | ⟨g, cap, cur, rfl, hB, hg, hle, _⟩
  · exact absurd h2 hne
  have hO : One w w.heap.size (.slice (some ⟨g, 0, none⟩) ns.length cap) ns w' := ⟨ho, hb.size, hb⟩
  rcases hO.own2 rfl with hz | ⟨g2, hg2, k1, k2, k3, k4⟩
  · rw [hz] at h1; simp at h1
  cases hg2
  exact ⟨g, cap, rfl, ⟨k1, k2⟩, hle, k3, k4, hb⟩


theorem wants_any (c : CDl) (h : Option Addr) (cp : Nat) (hok : c.arts.length ≤ 1048576) (a : ByteArray) (p : Int) (w : World) (hr : ReadsS w.heap.size w h c.arts) :
    Calls Try.prog 40 #[.agg #[.string c.nm, .int .i64 c.kd, .slice h c.arts.length cp, .int .i64 c.nd, .int .i64 c.vl, .bool c.on], .agg #[.string a, .int .i64 p]] w fun e w' => e = .returned (.bool (hasB c.arts a)) ∧ Below w.heap.size w w' := by
  have HD : Hid (∀ W, Below w.heap.size w W → Calls Try.prog 46 #[.slice h c.arts.length cp, .string a] W fun e w' => e = .returned (.bool (hasB c.arts a)) ∧ Below W.heap.size W w') := fun W hb => strContains_any h cp c.arts (by omega) a W (hr.later hb)
  clear hr hok
  generalize hasB c.arts a = bb at *
  obtain ⟨nm, kd, arts, nd, vl, on⟩ := c
  dsimp only at *
  generalize arts.length = n at *
  go_enter Try.func40, Try.ntmps40
  go_wp2_with (go_at_call 46; refine (HD.out _ (by repeat (first | exact Below.refl _ _ | refine chain ?_ (below_alloc _ _) | refine chain ?_ (below_drew _)))).mono ?_; rintro e w2 ⟨rfl, hb2⟩)
  go_ret
  exact ⟨rfl, by repeat (first | exact Below.refl _ _ | refine chain ?_ (by assumption) | refine chain ?_ (below_alloc _ _) | refine chain ?_ (below_drew _))⟩

end Go.Proofs.Ytkfmifbffgbiiaa

/-
  Contracts of the small functions of chapter 2 that ask whether a rate is right (the specification's and the program's), each for every argument.
-/
namespace Go.Proofs.Ytkfmifbffgbiiaa
open Go.ChangeShapes Go.WideShapes Go.ChangeAt Go.RowKit
set_option linter.unusedVariables false


theorem in_any (n lo hi : Int) (w : World) :
    Calls Try.prog 52 #[.int .i64 n, .int .i64 lo, .int .i64 hi] w fun e w' => e = .returned (.bool (inB n lo hi)) ∧ w' = w := by
  rcases in_ways n lo hi with h | ⟨h1, h2⟩ | ⟨h1, h2⟩
  all_goals
    go_enter Try.func52, Try.ntmps52
    go_wp2
    go_ret
    exact ⟨ret_bool (by first | exact (decide_eq_false (by omega)).symm | exact (decide_eq_true (by omega)).symm | exact decide_eq_decide.mpr (by omega) | (simp [inB]; omega)), rfl⟩





end Go.Proofs.Ytkfmifbffgbiiaa
