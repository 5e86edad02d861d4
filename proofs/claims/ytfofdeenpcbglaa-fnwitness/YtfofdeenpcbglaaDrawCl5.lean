/-
  The specification's drawn rules: right ones, their names r0, r1, .. apart, each one's terms in a row of their own.
-/
import Derived.Test.YtfofdeenpcbglaaDrawCl4
import Derived.Test.YtfofdeenpcbglaaSrcSize
namespace Go.Proofs.Ytfofdeenpcbglaa
open Go.ChangeShapes Go.WideShapes Go.ChangeAt Go.RowKit Go.Deep
set_option linter.unusedVariables false

/-- A rule that was drawn, with where its terms lie. -/
abbrev EC := CCl × Option Addr × Nat
def rowC (e : EC) : Value := .slice e.2.1 e.1.ts.length e.2.2
def cellsC (e : EC) : List Value := [.string e.1.nm, rowC e, .int .i64 e.1.ac, .int .i64 e.1.nu]
def rName (i : Nat) : ByteArray := ⟨#[114]⟩ ++ decS i
structure ClsSt (b : Nat) (a : Option Addr) (len cap : Nat) (zs : List Int) (B : Nat) (lo hi : Int) (w : World) (v : Value) (E : List EC) (W : World) : Prop where
  go : Going b a len cap zs B lo hi w W
  row : W.ownsRow w.heap.size 25 4 v E.length (E.flatMap cellsC)
  own : ∀ e ∈ E, ∀ q, v.ownBlock = some q → (rowC e).ownBlock ≠ some q
  ins : ∀ e ∈ E, W.ownsRow w.heap.size 37 3 (rowC e) e.1.ts.length (tmCells e.1.ts)
  lt : b < w.heap.size ∧ B ≤ b
  all : ∀ e ∈ E, clOne e.1 = true
  nms : E.map (fun e => e.1.nm) = (List.range E.length).map rName
theorem row_base {w : World} {B B' : Nat} {e : TypeId} {k : Nat} {v : Value} {n : Nat} {xs : List Value} (h : w.ownsRow B e k v n xs) (hb : B' ≤ B) : w.ownsRow B' e k v n xs := by
  obtain ⟨h1, h2⟩ := h
  refine ⟨h1, ?_⟩
  rcases h2 with h2 | ⟨g, cap, cur, rfl, hB, r⟩
  · exact .inl h2
  · exact .inr ⟨g, cap, cur, rfl, by omega, r⟩
theorem ClsSt.draw {b : Nat} {a : Option Addr} {len cap : Nat} {zs : List Int} {B : Nat} {lo hi hi' : Int} {w : World} {v : Value} {E : List EC} {W W' : World} (h : ClsSt b a len cap zs B lo hi w v E W) (k : Going b a len cap zs B lo hi' W W') : ClsSt b a len cap zs B lo hi' w v E W' := by
  have hl := h.lt
  exact ⟨h.go.comp k, row_at h.row (fun q hq => k.2.2.2 q (by have := (h.row.lt q hq).1; omega) (h.row.lt q hq).2), h.own, fun e he => row_at (h.ins e he) (fun q hq => k.2.2.2 q (by have := ((h.ins e he).lt q hq).1; omega) ((h.ins e he).lt q hq).2), h.lt, h.all, h.nms⟩
theorem ClsSt.later {b : Nat} {a : Option Addr} {len cap : Nat} {zs : List Int} {B : Nat} {lo hi : Int} {w : World} {v : Value} {E : List EC} {W W' : World} (h : ClsSt b a len cap zs B lo hi w v E W) (hb : Below W.heap.size W W') : ClsSt b a len cap zs B lo hi w v E W' :=
  h.draw (h.go.self.later (by have := h.go.lt; have := h.lt; omega) hb)
theorem ClsSt.start {b : Nat} {a : Option Addr} {len cap : Nat} {zs : List Int} {B : Nat} {lo hi : Int} {w : World} (hB : B ≤ b) (k : Going b a len cap zs B lo hi w w) : ClsSt b a len cap zs B lo hi w (.slice (some ⟨w.heap.size, 0, none⟩) 0 0) [] (w.alloc (Obj.cells #[] 25)) := by
  have hb := k.lt
  exact ⟨k.later (by omega) (below_alloc _ _), ⟨rfl, .inr ⟨w.heap.size, 0, #[], rfl, Nat.le_refl _, heapNew w _, Nat.le_refl _, by unfold maxLen; omega, rfl, rfl⟩⟩, by simp, by simp, ⟨hb, hB⟩, by simp, rfl⟩
theorem Going.grown {b : Nat} {a : Option Addr} {len cap : Nat} {zs : List Int} {B : Nat} {lo hi : Int} {w W W' : World} {o : Option Nat} (h : Going b a len cap zs B lo hi w W) (hB : B ≤ b) (hbw : b < w.heap.size) (hg : W.grownBy W' o) (ho : ∀ q, o = some q → w.heap.size ≤ q) : Going b a len cap zs B lo hi w W' := by
  have hbl : b < W.heap.size := h.lt
  obtain ⟨⟨at2, q1, q2, ⟨s, hs⟩, hr⟩, q3, q4⟩ := h
  have eb := hg.block b hbl (fun e => by have := ho b e.symm; omega)
  obtain ⟨s0, s1, s2, f1, f2, sb, r⟩ := hs
  have hbB : Below B W W' := (Below.refl _ _).grown hg (by omega) (fun q hq => by have := ho q hq; omega)
  refine ⟨⟨at2, q1, q2, ⟨s, (World.cell?_of_block (a := ⟨b, 0, none⟩) eb).trans s0, (World.cell?_of_block (a := ⟨b, 1, none⟩) eb).trans s1, (World.cell?_of_block (a := ⟨b, 2, none⟩) eb).trans s2, (World.frozen?_of_block (a := ⟨b, 1, none⟩) eb).trans f1, (World.frozen?_of_block (a := ⟨b, 2, none⟩) eb).trans f2, Nat.lt_of_lt_of_le sb hg.size, r⟩, hr.below hbB⟩, q3.trans hbB, Nat.le_trans q4.1 hg.size, fun k hk hl => ?_⟩
  exact (hg.block k (Nat.lt_of_lt_of_le hl q4.1) (fun e => by have := ho k e.symm; omega)).trans (q4.2 k hk hl)
theorem ClsSt.push {b : Nat} {a : Option Addr} {len cap : Nat} {zs : List Int} {B : Nat} {lo hi : Int} {w : World} {v : Value} {E : List EC} {W W' : World} {g cp : Nat} {e : EC} (h : ClsSt b a len cap zs B lo hi w v E W)
    (ho : W'.ownsRow w.heap.size 25 4 (.slice (some ⟨g, 0, none⟩) (E.length + 1) cp) (E.length + 1) (E.flatMap cellsC ++ cellsC e)) (hg : W.grownBy W' v.ownBlock) (hat : v.ownBlock = some g ∨ g = W.heap.size)
    (he : W.ownsRow w.heap.size 37 3 (rowC e) e.1.ts.length (tmCells e.1.ts)) (hne : ∀ q, v.ownBlock = some q → (rowC e).ownBlock ≠ some q) (h1 : clOne e.1 = true) (hn : e.1.nm = rName E.length) :
    ClsSt b a len cap zs B lo hi w (.slice (some ⟨g, 0, none⟩) (E.length + 1) cp) (E ++ [e]) W' := by
  have insE : ∀ d ∈ E ++ [e], W.ownsRow w.heap.size 37 3 (rowC d) d.1.ts.length (tmCells d.1.ts) := fun d hd => by
    rcases List.mem_append.1 hd with q | q
    · exact h.ins d q
    · rw [List.mem_singleton.1 q]; exact he
  have ownE : ∀ d ∈ E ++ [e], ∀ q, v.ownBlock = some q → (rowC d).ownBlock ≠ some q := fun d hd => by
    rcases List.mem_append.1 hd with q | q
    · exact h.own d q
    · rw [List.mem_singleton.1 q]; exact hne
  refine ⟨h.go.grown h.lt.2 h.lt.1 hg (fun q hq => (h.row.lt q hq).1), ?_, fun d hd q hq => ?_, fun d hd => ?_, h.lt, fun d hd => ?_, ?_⟩
  · rw [List.length_append, List.flatMap_append, List.flatMap_cons, List.flatMap_nil, List.append_nil]; exact ho
  · obtain rfl : g = q := by simpa [Value.ownBlock] using hq
    rcases hat with k | k
    · exact ownE d hd g k
    · intro e'
      have := ((insE d hd).lt g e').2
      omega
  · refine row_at (insE d hd) (fun q hq => hg.block q ((insE d hd).lt q hq).2 (fun e' => ownE d hd q e'.symm hq))
  · rcases List.mem_append.1 hd with q | q
    · exact h.all d q
    · rw [List.mem_singleton.1 q]; exact h1
  · rw [List.map_append, List.length_append, h.nms, List.length_singleton, List.range_succ, List.map_append, List.map_singleton, List.map_singleton, hn]
theorem clInfoR : (Try.prog.info? 25).map (fun i => (i.zero, i.size, i.bytes)) = some (some (.agg #[.string ⟨#[]⟩, .slice none 0 0, .int .i64 0, .int .i64 0]), 4, 56) := by kernel_rfl
theorem size_going {b : Nat} {a : Option Addr} {len cap : Nat} {zs : List Int} {B : Nat} {lo hi : Int} {w W : World} (m : Int) (h : Going b a len cap zs B lo hi w W) (hm : 1 ≤ m) (hm' : m ≤ 1000) :
    Calls Try.prog 39 #[.pointer (some ⟨b, 0, none⟩), .int .i64 m] W fun e w' => (∃ x : Int, e = .returned (.int .i64 x) ∧ 1 ≤ x ∧ x ≤ m) ∧ w' = W := by
  obtain ⟨⟨at2, h1, h2, ⟨s, hs⟩, hr⟩, _⟩ := h
  exact size_src b a len cap m at2 s W hs hr.1 hm hm'
set_option maxHeartbeats 8000000 in
set_option maxRecDepth 8000 in
theorem clauses_any (b : Nat) (a : Option Addr) (len cap : Nat) (zs : List Int) (B : Nat) (hB : B ≤ b) (lo hi : Int) (hhi : hi ≤ 700000) (w : World) (h0 : Going b a len cap zs B lo hi w w) :
    Calls Try.prog 21 #[.pointer (some ⟨b, 0, none⟩)] w fun e w' => ∃ (E : List EC) (g cp : Nat), e = .returned (.slice (some ⟨g, 0, none⟩) E.length cp) ∧ E.length ≤ 7 ∧ ClsSt b a len cap zs B lo (hi + 1500) w (.slice (some ⟨g, 0, none⟩) E.length cp) E w' := by
  have HT0 : Hid (ClsSt b a len cap zs B lo hi w (.slice (some ⟨w.heap.size, 0, none⟩) 0 0) [] (w.alloc (Obj.cells #[] 25))) := ClsSt.start hB h0
  obtain ⟨i0, hti, hzz⟩ := Option.map_eq_some_iff.1 clInfoR
  simp only [Prod.mk.injEq] at hzz
  obtain ⟨hi0, hi1, hi2⟩ := hzz
  clear h0
  go_enter Try.func21, Try.ntmps21
  go_wp2_with fail
  (first | go_at_call 39 | skip)
  refine (size_going 7 HT0.out.go (by omega) (by omega)).mono ?_
  rintro e w1 ⟨⟨y, rfl, y1, y2⟩, hw1⟩
  rw [hw1]
  clear hw1 w1
  go_wp2_with fail
  (first | go_at_call 22 | skip)
  refine (next_going b a len cap zs B hB lo hi (y + 1) _ _ (by omega) (by omega) HT0.out.go.self).mono ?_
  rintro e w2 ⟨x, rfl, hx, g2⟩
  obtain ⟨hx0, hx1⟩ := drawn5 hx (by omega)
  have HT1 : Hid (ClsSt b a len cap zs B lo (hi + 3) w (.slice (some ⟨w.heap.size, 0, none⟩) 0 0) [] w2) := HT0.out.draw g2
  clear hx g2 HT0
  go_wp2_with fail
  go_loopw [3, 4] (fun v c wr => ∃ (E : List EC) (g cp : Nat) (i hq : Int), v = .slice (some ⟨g, 0, none⟩) E.length cp ∧ c = .int .i64 i ∧ 0 ≤ i ∧ (E.length : Int) + i ≤ 7 ∧ hq ≤ hi + 3 + 200 * (E.length : Int) ∧ ClsSt b a len cap zs B lo hq w (.slice (some ⟨g, 0, none⟩) E.length cp) E wr) (fun _ c _ => (intOf c).toNat)
  case atStart => exact ⟨[], w.heap.size, 0, x, hi + 3, rfl, rfl, hx0, by simp; omega, by simp, HT1.out⟩
  case round =>
    clear HT1
    obtain ⟨E, g, cp, i, hq, rfl, rfl, hi', hil, hqh, hT⟩ := hrel
    have HT : Hid (ClsSt b a len cap zs B lo hq w (.slice (some ⟨g, 0, none⟩) E.length cp) E wr) := hT
    clear hT
    by_cases hz : i = 0
    · subst hz
      go_wp2
      go_ret
      have hT := HT.out
      exact ⟨E, g, cp, rfl, by omega, ⟨hT.go.wider (by omega), hT.row, hT.own, hT.ins, hT.lt, hT.all, hT.nms⟩⟩
    · have hpos : 1 ≤ i := by omega
      clear hz
      go_wp2_with fail
      (first | go_at_call 10 | skip)
      refine (clause_any b a len cap zs B hB lo hq (by omega) E.length (by omega) wr wr HT.out.go.self).mono ?_
      rintro e w3 ⟨ts, ac, nu, g3, cp3, rfl, hone, gg, hrow, hob⟩
      have HE : Hid (clOne (⟨⟨#[114]⟩ ++ decS E.length, ts, ac, nu⟩ : CCl) = true) := hone
      have HT3 : Hid (ClsSt b a len cap zs B lo (hq + 200) w (.slice (some ⟨g, 0, none⟩) E.length cp) E w3) := HT.out.draw gg
      have HW : Hid (w3.ownsRow w.heap.size 37 3 (rowC (⟨⟨#[114]⟩ ++ decS E.length, ts, ac, nu⟩, g3, cp3)) ts.length (tmCells ts)) := row_base hrow HT.out.go.2.2.1
      have HN : Hid (∀ q, (Value.slice (some ⟨g, 0, none⟩) E.length cp).ownBlock = some q → (rowC (⟨⟨#[114]⟩ ++ decS E.length, ts, ac, nu⟩, g3, cp3)).ownBlock ≠ some q) := fun q hq' e' => by
        have k1 := (HT.out.row.lt q hq').2
        have k2 := (hrow.lt q e').1
        omega
      clear hone gg hrow hob HT
      generalize hnm : (⟨#[114]⟩ ++ decS E.length : ByteArray) = nm at *
      have HM : Hid ((⟨#[114]⟩ ++ decS E.length : ByteArray) = nm) := hnm
      clear hnm
      have hEl : E.length ≤ 6 := by omega
      have HT4 : Hid (ClsSt b a len cap zs B lo (hq + 200) w (.slice (some ⟨g, 0, none⟩) E.length cp) E (w3.alloc (Obj.cells #[.string nm, .slice g3 ts.length cp3, .int .i64 ac, .int .i64 nu] 25))) := HT3.out.later (below_alloc _ _)
      have HW4 : Hid ((w3.alloc (Obj.cells #[.string nm, .slice g3 ts.length cp3, .int .i64 ac, .int .i64 nu] 25)).ownsRow w.heap.size 37 3 (rowC (⟨nm, ts, ac, nu⟩, g3, cp3)) ts.length (tmCells ts)) := row_at HW.out (fun q hq => Below.heap_alloc _ _ _ (HW.out.lt q hq).2)
      clear HT3 HW
      go_wp2_with (at_builtin; refine wpList_append_lies _ rfl _ _ 34 rfl w.heap.size 25 i0 (.agg #[.string ⟨#[]⟩, .slice none 0 0, .int .i64 0, .int .i64 0]) 4 56 Try.underlying34 hti hi0 hi1 hi2 rfl (by decide) _ _ _ rfl HT4.out.row ⟨w3.heap.size, 0, none⟩ 1 1 (cellsC (⟨nm, ts, ac, nu⟩, g3, cp3)) rfl rfl (World.news_of_block (heapNew w3 _)) (by simp [Value.oneCell', cellsC, rowC]) (by omega) (by unfold maxLen; omega) (by omega) (by have := HT4.out.go.2.2.1; omega) _ rfl ?_; intro g7 cp7 W7 own7 grow7 hat7 hlt7; have HT8 : Hid (ClsSt b a len cap zs B lo (hq + 200) w (.slice (some ⟨g7, 0, none⟩) (E.length + 1) cp7) (E ++ [(⟨nm, ts, ac, nu⟩, g3, cp3)]) W7) := HT4.out.push own7 grow7 hat7 HW4.out HN.out HE.out HM.out.symm; clear own7 grow7 hat7 hlt7)
      go_roundw
      case rel => exact ⟨E ++ [(⟨nm, ts, ac, nu⟩, g3, cp3)], g7, cp7, i - 1, hq + 200, by rw [List.length_append]; rfl, by go_num, by omega, by rw [List.length_append]; simp; omega, by rw [List.length_append]; simp; omega, by rw [List.length_append]; exact HT8.out⟩
      case measure => simp [intOf]; omega
end Go.Proofs.Ytfofdeenpcbglaa
