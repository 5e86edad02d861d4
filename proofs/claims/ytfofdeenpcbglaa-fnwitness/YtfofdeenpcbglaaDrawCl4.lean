/-
  The specification's drawn rule: of every list of bytes it is right.
-/
import Derived.Test.YtfofdeenpcbglaaDrawCl3
namespace Go.Proofs.Ytfofdeenpcbglaa
open Go.ChangeShapes Go.WideShapes Go.ChangeAt Go.RowKit Go.Deep
set_option linter.unusedVariables false

theorem row_form {w : World} {B : Nat} {e : TypeId} {k : Nat} {v : Value} {n : Nat} {xs : List Value} (h : w.ownsRow B e k v n xs) : ∃ g cp, v = .slice g n cp := by
  rcases h.2 with ⟨rfl, rfl⟩ | ⟨g, cap, cur, rfl, _⟩
  · exact ⟨_, _, rfl⟩
  · exact ⟨_, _, rfl⟩
theorem ClSt.start {b : Nat} {a : Option Addr} {len cap : Nat} {zs : List Int} {B : Nat} {lo hi : Int} {w W : World} (hB : B ≤ b) (hb : b < w.heap.size) (k : Going b a len cap zs B lo hi (w.alloc (Obj.cells #[.string ⟨#[]⟩, .slice none 0 0, .int .i64 0, .int .i64 0] 25)) W) (nm : ByteArray) (ac : Int) : ClSt b a len cap zs B lo hi w W.heap.size nm ac 0 (.slice none 0 0) [] (W.alloc (Obj.cells #[.string nm, .slice none 0 0, .int .i64 ac, .int .i64 0] 25)) := by
  have hs : w.heap.size + 1 ≤ W.heap.size := by have := k.2.2.1; simpa using this
  have k0 : Going b a len cap zs B lo hi w W := by
    refine ⟨k.1, ((Below.refl _ _).alloc (by omega) _).trans k.2.1, by omega, fun c hc hl => (k.2.2.2 c hc (by simp; omega)).trans (Below.heap_alloc _ _ _ hl)⟩
  refine ⟨k0.later (by omega) (below_alloc _ _), World.ownsRow_nil _ _ _ _, ?_, heapNew _ _, ⟨by simp [Value.ownBlock], by simp [Value.ownBlock]⟩, ⟨hb, by omega, hB⟩, rfl⟩
  exact (Below.heap_alloc _ _ _ (by omega)).trans ((k.2.2.2 w.heap.size (by omega) (by simp)).trans (heapNew _ _))
theorem ClSt.cellsR {b : Nat} {a : Option Addr} {len cap : Nat} {zs : List Int} {B : Nat} {lo hi : Int} {w : World} {cb : Nat} {nm : ByteArray} {ac nu : Int} {v : Value} {ts : List RTm} {W : World} (h : ClSt b a len cap zs B lo hi w cb nm ac nu v ts W) :
    (W.cell? ⟨w.heap.size, 0, none⟩ = some (.string ⟨#[]⟩) ∧ W.cell? ⟨w.heap.size, 1, none⟩ = some (.slice none 0 0) ∧ W.cell? ⟨w.heap.size, 2, none⟩ = some (.int .i64 0) ∧ W.cell? ⟨w.heap.size, 3, none⟩ = some (.int .i64 0)) ∧ (W.frozen? ⟨w.heap.size, 0, none⟩ = false ∧ W.frozen? ⟨w.heap.size, 1, none⟩ = false ∧ W.frozen? ⟨w.heap.size, 2, none⟩ = false ∧ W.frozen? ⟨w.heap.size, 3, none⟩ = false) ∧ w.heap.size ≠ cb ∧ w.heap.size < W.heap.size := by
  refine ⟨⟨?_, ?_, ?_, ?_⟩, ⟨?_, ?_, ?_, ?_⟩, by have := h.lt; omega, blk_lt h.res⟩
  iterate 4 (unfold World.cell?; rw [h.res]; rfl)
  iterate 4 (unfold World.frozen?; rw [h.res]; rfl)
theorem ClSt.num {b : Nat} {a : Option Addr} {len cap : Nat} {zs : List Int} {B : Nat} {lo hi : Int} {w : World} {cb : Nat} {nm : ByteArray} {ac nu : Int} {v : Value} {ts : List RTm} {W : World} (h : ClSt b a len cap zs B lo hi w cb nm ac nu v ts W) (nu' : Int) : ClSt b a len cap zs B lo hi w cb nm ac nu' v ts (W.setCell ⟨cb, 3, none⟩ (.int .i64 nu')) := by
  have hl := h.lt
  have hset : ∀ k, k ≠ cb → (W.setCell ⟨cb, 3, none⟩ (.int .i64 nu')).heap[k]? = W.heap[k]? := fun k hk => Below.heap_setCell _ _ _ _ hk
  refine ⟨h.go.set (by omega) h.lt.2.2 h.lt.1 _ _, row_at h.row (fun q hq => hset q (fun e => h.ne.2 (by rw [hq, e]))), (hset _ (by omega)).trans h.res, heap_setCell_same _ _ 3 _ _ _ h.own, h.ne, h.lt, h.all⟩
theorem ClSt.fin {b : Nat} {a : Option Addr} {len cap : Nat} {zs : List Int} {B : Nat} {lo hi : Int} {w : World} {cb : Nat} {nm : ByteArray} {ac nu : Int} {v : Value} {ts : List RTm} {W : World} (h : ClSt b a len cap zs B lo hi w cb nm ac nu v ts W) (o0 o1 o2 o3 : Nat) (v0 v1 v2 v3 : Value) :
    Going b a len cap zs B lo hi w ((((W.setCell ⟨w.heap.size, o0, none⟩ v0).setCell ⟨w.heap.size, o1, none⟩ v1).setCell ⟨w.heap.size, o2, none⟩ v2).setCell ⟨w.heap.size, o3, none⟩ v3) ∧ ((((W.setCell ⟨w.heap.size, o0, none⟩ v0).setCell ⟨w.heap.size, o1, none⟩ v1).setCell ⟨w.heap.size, o2, none⟩ v2).setCell ⟨w.heap.size, o3, none⟩ v3).ownsRow w.heap.size 37 3 v ts.length (tmCells ts) := by
  have hs : ∀ (W : World) (k o : Nat) (v : Value), k ≠ w.heap.size → (W.setCell ⟨w.heap.size, o, none⟩ v).heap[k]? = W.heap[k]? := fun W k o v hk => Below.heap_setCell _ _ _ _ hk
  refine ⟨(((h.go.set (Nat.le_refl _) h.lt.2.2 h.lt.1 _ _).set (Nat.le_refl _) h.lt.2.2 h.lt.1 _ _).set (Nat.le_refl _) h.lt.2.2 h.lt.1 _ _).set (Nat.le_refl _) h.lt.2.2 h.lt.1 _ _, row_at h.row (fun q hq => ?_)⟩
  have hq' : q ≠ w.heap.size := fun e => h.ne.1 (by rw [hq, e])
  rw [hs _ _ _ _ hq', hs _ _ _ _ hq', hs _ _ _ _ hq', hs _ _ _ _ hq']
theorem clOne_of {nm : ByteArray} {ts : List RTm} {ac nu : Int} (h1 : ts.length ≤ 8) (h2 : nameB nm = true) (h3 : actB ac nu = true) (h4 : ts.all tmB = true) : clOne ⟨nm, ts, ac, nu⟩ = true := by
  unfold clOne sayB
  simp only [h2, h3, h4, Bool.and_true, decide_eq_true_eq]
  exact h1
set_option maxHeartbeats 8000000 in
set_option maxRecDepth 8000 in
theorem clause_any (b : Nat) (a : Option Addr) (len cap : Nat) (zs : List Int) (B : Nat) (hB : B ≤ b) (lo hi : Int) (hhi : hi ≤ 800000) (i : Nat) (hi9 : i < 10) (w0 w : World) (h0 : Going b a len cap zs B lo hi w0 w) :
    Calls Try.prog 10 #[.pointer (some ⟨b, 0, none⟩), .int .i64 (i : Int)] w fun e w' => ∃ (ts : List RTm) (ac nu : Int) (g : Option Addr) (cp : Nat), e = .returned (.agg #[.string (⟨#[114]⟩ ++ decS i), .slice g ts.length cp, .int .i64 ac, .int .i64 nu]) ∧ clOne ⟨(⟨#[114]⟩ ++ decS i), ts, ac, nu⟩ = true ∧ Going b a len cap zs B lo (hi + 200) w0 w' ∧ w'.ownsRow w.heap.size 37 3 (.slice g ts.length cp) ts.length (tmCells ts) ∧ ((Value.slice g ts.length cp).ownBlock ≠ some w.heap.size) := by
  have H0 : Hid _ := h0
  have hb0 := h0.lt
  have hD := fun W => digits_any i (by omega) W
  obtain ⟨hnm, hnz⟩ := nameR i hi9
  have G1 : Hid (Going b a len cap zs B lo hi (w.alloc (Obj.cells #[.string ⟨#[]⟩, .slice none 0 0, .int .i64 0, .int .i64 0] 25)) (w.alloc (Obj.cells #[.string ⟨#[]⟩, .slice none 0 0, .int .i64 0, .int .i64 0] 25))) := (h0.later (by omega) (below_alloc _ _)).self
  have HSt : Hid (∀ (W : World) (hi' : Int) (nm : ByteArray) (ac : Int), Going b a len cap zs B lo hi' (w.alloc (Obj.cells #[.string ⟨#[]⟩, .slice none 0 0, .int .i64 0, .int .i64 0] 25)) W → ClSt b a len cap zs B lo hi' w W.heap.size nm ac 0 (.slice none 0 0) [] (W.alloc (Obj.cells #[.string nm, .slice none 0 0, .int .i64 ac, .int .i64 0] 25))) := fun W hi' nm ac k => ClSt.start hB hb0 k nm ac
  have HNm : Hid (nameB (⟨#[114]⟩ ++ decS i) = true) := hnm
  obtain ⟨j0, hj, hzy⟩ := Option.map_eq_some_iff.1 tmInfoR
  simp only [Prod.mk.injEq] at hzy
  obtain ⟨hj0, hj1, hj2⟩ := hzy
  have hdz : (decS i).size + 1 ≤ 9223372036854775807 := by
    have := decS_size i; omega
  clear h0 hnm hnz
  go_enter Try.func10, Try.ntmps10
  go_wp2_with fail
  (first | go_at_call 23 | skip)
  generalize (w.alloc (Obj.cells #[.string ⟨#[]⟩, .slice none 0 0, .int .i64 0, .int .i64 0] 25)) = W1 at *
  refine (hD _).mono ?_
  rintro e w2 ⟨rfl, hb2⟩
  have G2 : Hid (Going b a len cap zs B lo hi W1 w2) := Going.later G1.out (by have := Going.lt G1.out; omega) hb2
  clear hb2 hD
  generalize hDi : decS i = Di at *
  have HDi : Hid (decS i = Di) := hDi
  clear hDi
  go_wp2_with fail
  (first | go_at_call 22 | skip)
  refine (next_going b a len cap zs B hB lo hi 3 W1 w2 (by omega) (by omega) G2.out).mono ?_
  rintro e w3 ⟨x, rfl, hx, g3⟩
  obtain ⟨hx0, hx3⟩ := drawn5 hx (by omega)
  have S3 : Hid (ClSt b a len cap zs B lo (hi + 3) w w3.heap.size (⟨#[114]⟩ ++ Di) (1 + x) 0 (.slice none 0 0) [] (w3.alloc (Obj.cells #[.string (⟨#[114]⟩ ++ Di), .slice none 0 0, .int .i64 (1 + x), .int .i64 0] 25))) := HSt.out w3 _ _ _ g3
  clear hx g3 HSt
  have hac3 : 1 ≤ 1 + x ∧ 1 + x ≤ 3 := by omega
  go_wp2_with fail
  (first | go_at_call 22 | skip)
  refine (next_going b a len cap zs B hB lo (hi + 3) 5 _ _ (by omega) (by omega) S3.out.go.self).mono ?_
  rintro e w4 ⟨y, rfl, hy, g4⟩
  obtain ⟨hy0, hy5⟩ := drawn5 hy (by omega)
  obtain ⟨J, rfl⟩ : ∃ J : Nat, y = (J : Int) := ⟨y.toNat, by omega⟩
  have S4 : Hid (ClSt b a len cap zs B lo (hi + 3 + 3) w w3.heap.size (⟨#[114]⟩ ++ Di) (1 + x) 0 (.slice none 0 0) [] w4) := S3.out.draw g4
  clear S3 g4 hy
  go_wp2
  go_loopw [6] (fun kv wr => ∃ (j : Nat) (ts : List RTm) (v : Value) (hq : Int), kv = .int .i64 (j : Int) ∧ j + ts.length ≤ 4 ∧ hq ≤ hi + 6 + 20 * (ts.length : Int) ∧ ClSt b a len cap zs B lo hq w w3.heap.size (⟨#[114]⟩ ++ Di) (1 + x) 0 v ts wr) (fun kv _ => (intOf kv).toNat)
  case atStart => exact ⟨J, [], _, _, rfl, by simp; omega, by simp; omega, S4.out⟩
  case round =>
    clear S4
    obtain ⟨j, ts, v, hq, rfl, hjt, hqh, hst⟩ := hrel
    obtain ⟨gv, cv, rfl⟩ := row_form hst.row
    have ST0 : Hid (ClSt b a len cap zs B lo hq w w3.heap.size (⟨#[114]⟩ ++ Di) (1 + x) 0 (.slice gv ts.length cv) ts wr) := hst
    clear hst
    by_cases hj0' : 0 < j
    · have hj' : (0 : Int) < (j : Int) := by omega
      go_wp2_with fail
      have ST : Hid (ClSt b a len cap zs B lo hq w w3.heap.size (⟨#[114]⟩ ++ Di) (1 + x) 0 (.slice gv ts.length cv) ts wr.drew) := ST0.out.later (below_drew _)
      refine wp_region_held_drew (S := fun _ => True) (by kernel_rfl) trivial (fun hH => ?_)
      refine wpAnyH_take (i := 0) (v := .pointer (some ⟨w3.heap.size, 1, none⟩)) rfl (by kernel_rfl) (by kernel_rfl) (by kernel_rfl) (fun _ _ _ h => h) (Or.inl ⟨by rfl, fun w hSw => by go_simp⟩) trivial ?_
      refine wpAnyH_take (i := 2) (v := .pointer (some ⟨b, 0, none⟩)) rfl (by kernel_rfl) (by kernel_rfl) (by kernel_rfl) (fun _ _ _ h => h) (Or.inl ⟨by rfl, fun w hSw => by go_simp⟩) trivial ?_
      try simp only [Act.put, List.setIfInBounds_toArray, List.set_cons_zero, List.set_cons_succ, List.getElem_toArray, List.getElem_cons_succ, List.getElem_cons_zero]
      refine wpAnyH_ready (rs := [1, 3]) (by kernel_rfl) (by simp) ?_
      refine AllReadyH.cons rfl (fun K hK => ?_) (AllReadyH.cons rfl (fun K hK => ?_) AllReadyH.nil)
      · skip
        have c1 := ST.out.cells.1.2.1
        go_simp
        refine hK.out _ _ trivial (fun _ => ?_)
        clear hK K
        try simp only [Act.put, List.setIfInBounds_toArray, List.set_cons_zero, List.set_cons_succ, List.getElem_toArray, List.getElem_cons_succ, List.getElem_cons_zero]
        clear c1
        refine wpAnyH_ready (rs := [3]) (by kernel_rfl) (by simp) ?_
        refine AllReadyH.cons rfl (fun K hK => ?_) AllReadyH.nil
        go_simp
        go_at_call 24
        refine (term_any b a len cap zs B hB lo hq (by omega) _ _ ST.out.go.self).mono ?_
        rintro e w5 ⟨t, rfl, ht, g5⟩
        have ST : Hid (ClSt b a len cap zs B lo (hq + 20) w w3.heap.size (⟨#[114]⟩ ++ Di) (1 + x) 0 (.slice gv ts.length cv) ts w5) := ST.out.draw g5
        clear g5
        refine hK.out _ _ trivial (fun _ => ?_)
        clear hK K
        try simp only [Act.put, List.setIfInBounds_toArray, List.set_cons_zero, List.set_cons_succ, List.getElem_toArray, List.getElem_cons_succ, List.getElem_cons_zero]
        refine wpAnyH_ready (rs := [4]) (by kernel_rfl) (by simp) ?_
        refine AllReadyH.cons rfl (fun K hK => ?_) AllReadyH.nil
        go_simp
        have ST : Hid (ClSt b a len cap zs B lo (hq + 20) w w3.heap.size (⟨#[114]⟩ ++ Di) (1 + x) 0 (.slice gv ts.length cv) ts (w5.alloc (Obj.cells #[.int .i64 t.fd, .int .i64 t.op, .int .i64 t.nu] 37))) := ST.out.later (below_alloc _ _)
        refine hK.out _ _ trivial (fun _ => ?_)
        clear hK K
        try simp only [Act.put, List.setIfInBounds_toArray, List.set_cons_zero, List.set_cons_succ, List.getElem_toArray, List.getElem_cons_succ, List.getElem_cons_zero]
        refine wpAnyH_ready (rs := [5]) (by kernel_rfl) (by simp) ?_
        refine AllReadyH.cons rfl (fun K hK => ?_) AllReadyH.nil
        refine step_append_lies _ rfl _ _ 23 rfl w.heap.size 37 j0 (.agg #[.int .i64 0, .int .i64 0, .int .i64 0]) 3 24 Try.underlying23 hj hj0 hj1 hj2 rfl (by decide) _ _ _ rfl ST.out.row ⟨w5.heap.size, 0, none⟩ 1 1 [.int .i64 t.fd, .int .i64 t.op, .int .i64 t.nu] rfl rfl (World.news_of_block (heapNew w5 _)) (by simp [Value.oneCell']) (by omega) (by unfold maxLen; omega) (by omega) (by have := blk_lt ST.out.res; omega) _ rfl ?_
        intro g1 cp1 w7 hown1 hgrow1 hat1 hglt1
        have P7 : Hid (ClSt b a len cap zs B lo (hq + 20) w w3.heap.size (⟨#[114]⟩ ++ Di) (1 + x) 0 (.slice (some ⟨g1, 0, none⟩) (ts.length + 1) cp1) (ts ++ [t]) (w7.setCell ⟨w3.heap.size, 1, none⟩ (.slice (some ⟨g1, 0, none⟩) (ts.length + 1) cp1))) := ST.out.push hown1 hgrow1 hat1 ht
        have eB := hgrow1.block w3.heap.size (blk_lt ST.out.own) (fun e => ST.out.ne.2 e.symm)
        have z1 : w7.cell? ⟨w3.heap.size, 1, none⟩ = some (.slice gv ts.length cv) := (World.cell?_of_block (a := ⟨w3.heap.size, 1, none⟩) eB).trans ST.out.cells.1.2.1
        have zf : w7.frozen? ⟨w3.heap.size, 1, none⟩ = false := (World.frozen?_of_block (a := ⟨w3.heap.size, 1, none⟩) eB).trans ST.out.cells.2.1.1
        clear hown1 hgrow1 hat1 hglt1 eB
        refine hK.out _ _ trivial (fun _ => ?_)
        clear hK K
        try simp only [Act.put, List.setIfInBounds_toArray, List.set_cons_zero, List.set_cons_succ, List.getElem_toArray, List.getElem_cons_succ, List.getElem_cons_zero]
        refine wpAnyH_take (i := 6) (v := .pointer (some ⟨w3.heap.size, 1, none⟩)) rfl (by kernel_rfl) (by kernel_rfl) (by kernel_rfl) (fun _ _ _ h => h) (Or.inl ⟨by rfl, fun w hSw => by go_simp⟩) trivial ?_
        try simp only [Act.put, List.setIfInBounds_toArray, List.set_cons_zero, List.set_cons_succ, List.getElem_toArray, List.getElem_cons_succ, List.getElem_cons_zero]
        refine wpAnyH_ready (rs := [7]) (by kernel_rfl) (by simp) ?_
        refine AllReadyH.cons rfl (fun K hK => ?_) AllReadyH.nil
        go_simp
        refine hK.out _ _ trivial (fun _ => ?_)
        clear hK K
        try simp only [Act.put, List.setIfInBounds_toArray, List.set_cons_zero, List.set_cons_succ, List.getElem_toArray, List.getElem_cons_succ, List.getElem_cons_zero]
        refine wpAnyH_done (by kernel_rfl) ?_ _
        try simp
        go_wp2
        exact ⟨⟨j - 1, ts ++ [t], _, _, congrArg (Value.int .i64) (by omega), by simp; omega, by simp; omega, P7.out⟩, by simp [intOf]; omega⟩
      · skip
        go_simp
        go_at_call 24
        refine (term_any b a len cap zs B hB lo hq (by omega) _ _ ST.out.go.self).mono ?_
        rintro e w5 ⟨t, rfl, ht, g5⟩
        have ST : Hid (ClSt b a len cap zs B lo (hq + 20) w w3.heap.size (⟨#[114]⟩ ++ Di) (1 + x) 0 (.slice gv ts.length cv) ts w5) := ST.out.draw g5
        clear g5
        refine hK.out _ _ trivial (fun _ => ?_)
        clear hK K
        try simp only [Act.put, List.setIfInBounds_toArray, List.set_cons_zero, List.set_cons_succ, List.getElem_toArray, List.getElem_cons_succ, List.getElem_cons_zero]
        refine wpAnyH_ready (rs := [1, 4]) (by kernel_rfl) (by simp) ?_
        refine AllReadyH.cons rfl (fun K hK => ?_) (AllReadyH.cons rfl (fun K hK => ?_) AllReadyH.nil)
        · skip
          have c1 := ST.out.cells.1.2.1
          go_simp
          refine hK.out _ _ trivial (fun _ => ?_)
          clear hK K
          try simp only [Act.put, List.setIfInBounds_toArray, List.set_cons_zero, List.set_cons_succ, List.getElem_toArray, List.getElem_cons_succ, List.getElem_cons_zero]
          clear c1
          refine wpAnyH_ready (rs := [4]) (by kernel_rfl) (by simp) ?_
          refine AllReadyH.cons rfl (fun K hK => ?_) AllReadyH.nil
          go_simp
          have ST : Hid (ClSt b a len cap zs B lo (hq + 20) w w3.heap.size (⟨#[114]⟩ ++ Di) (1 + x) 0 (.slice gv ts.length cv) ts (w5.alloc (Obj.cells #[.int .i64 t.fd, .int .i64 t.op, .int .i64 t.nu] 37))) := ST.out.later (below_alloc _ _)
          refine hK.out _ _ trivial (fun _ => ?_)
          clear hK K
          try simp only [Act.put, List.setIfInBounds_toArray, List.set_cons_zero, List.set_cons_succ, List.getElem_toArray, List.getElem_cons_succ, List.getElem_cons_zero]
          refine wpAnyH_ready (rs := [5]) (by kernel_rfl) (by simp) ?_
          refine AllReadyH.cons rfl (fun K hK => ?_) AllReadyH.nil
          refine step_append_lies _ rfl _ _ 23 rfl w.heap.size 37 j0 (.agg #[.int .i64 0, .int .i64 0, .int .i64 0]) 3 24 Try.underlying23 hj hj0 hj1 hj2 rfl (by decide) _ _ _ rfl ST.out.row ⟨w5.heap.size, 0, none⟩ 1 1 [.int .i64 t.fd, .int .i64 t.op, .int .i64 t.nu] rfl rfl (World.news_of_block (heapNew w5 _)) (by simp [Value.oneCell']) (by omega) (by unfold maxLen; omega) (by omega) (by have := blk_lt ST.out.res; omega) _ rfl ?_
          intro g1 cp1 w7 hown1 hgrow1 hat1 hglt1
          have P7 : Hid (ClSt b a len cap zs B lo (hq + 20) w w3.heap.size (⟨#[114]⟩ ++ Di) (1 + x) 0 (.slice (some ⟨g1, 0, none⟩) (ts.length + 1) cp1) (ts ++ [t]) (w7.setCell ⟨w3.heap.size, 1, none⟩ (.slice (some ⟨g1, 0, none⟩) (ts.length + 1) cp1))) := ST.out.push hown1 hgrow1 hat1 ht
          have eB := hgrow1.block w3.heap.size (blk_lt ST.out.own) (fun e => ST.out.ne.2 e.symm)
          have z1 : w7.cell? ⟨w3.heap.size, 1, none⟩ = some (.slice gv ts.length cv) := (World.cell?_of_block (a := ⟨w3.heap.size, 1, none⟩) eB).trans ST.out.cells.1.2.1
          have zf : w7.frozen? ⟨w3.heap.size, 1, none⟩ = false := (World.frozen?_of_block (a := ⟨w3.heap.size, 1, none⟩) eB).trans ST.out.cells.2.1.1
          clear hown1 hgrow1 hat1 hglt1 eB
          refine hK.out _ _ trivial (fun _ => ?_)
          clear hK K
          try simp only [Act.put, List.setIfInBounds_toArray, List.set_cons_zero, List.set_cons_succ, List.getElem_toArray, List.getElem_cons_succ, List.getElem_cons_zero]
          refine wpAnyH_take (i := 6) (v := .pointer (some ⟨w3.heap.size, 1, none⟩)) rfl (by kernel_rfl) (by kernel_rfl) (by kernel_rfl) (fun _ _ _ h => h) (Or.inl ⟨by rfl, fun w hSw => by go_simp⟩) trivial ?_
          try simp only [Act.put, List.setIfInBounds_toArray, List.set_cons_zero, List.set_cons_succ, List.getElem_toArray, List.getElem_cons_succ, List.getElem_cons_zero]
          refine wpAnyH_ready (rs := [7]) (by kernel_rfl) (by simp) ?_
          refine AllReadyH.cons rfl (fun K hK => ?_) AllReadyH.nil
          go_simp
          refine hK.out _ _ trivial (fun _ => ?_)
          clear hK K
          try simp only [Act.put, List.setIfInBounds_toArray, List.set_cons_zero, List.set_cons_succ, List.getElem_toArray, List.getElem_cons_succ, List.getElem_cons_zero]
          refine wpAnyH_done (by kernel_rfl) ?_ _
          try simp
          go_wp2
          exact ⟨⟨j - 1, ts ++ [t], _, _, congrArg (Value.int .i64) (by omega), by simp; omega, by simp; omega, P7.out⟩, by simp [intOf]; omega⟩
        · skip
          go_simp
          have ST : Hid (ClSt b a len cap zs B lo (hq + 20) w w3.heap.size (⟨#[114]⟩ ++ Di) (1 + x) 0 (.slice gv ts.length cv) ts (w5.alloc (Obj.cells #[.int .i64 t.fd, .int .i64 t.op, .int .i64 t.nu] 37))) := ST.out.later (below_alloc _ _)
          refine hK.out _ _ trivial (fun _ => ?_)
          clear hK K
          try simp only [Act.put, List.setIfInBounds_toArray, List.set_cons_zero, List.set_cons_succ, List.getElem_toArray, List.getElem_cons_succ, List.getElem_cons_zero]
          refine wpAnyH_ready (rs := [1]) (by kernel_rfl) (by simp) ?_
          refine AllReadyH.cons rfl (fun K hK => ?_) AllReadyH.nil
          have c1 := ST.out.cells.1.2.1
          go_simp
          refine hK.out _ _ trivial (fun _ => ?_)
          clear hK K
          try simp only [Act.put, List.setIfInBounds_toArray, List.set_cons_zero, List.set_cons_succ, List.getElem_toArray, List.getElem_cons_succ, List.getElem_cons_zero]
          clear c1
          refine wpAnyH_ready (rs := [5]) (by kernel_rfl) (by simp) ?_
          refine AllReadyH.cons rfl (fun K hK => ?_) AllReadyH.nil
          refine step_append_lies _ rfl _ _ 23 rfl w.heap.size 37 j0 (.agg #[.int .i64 0, .int .i64 0, .int .i64 0]) 3 24 Try.underlying23 hj hj0 hj1 hj2 rfl (by decide) _ _ _ rfl ST.out.row ⟨w5.heap.size, 0, none⟩ 1 1 [.int .i64 t.fd, .int .i64 t.op, .int .i64 t.nu] rfl rfl (World.news_of_block (heapNew w5 _)) (by simp [Value.oneCell']) (by omega) (by unfold maxLen; omega) (by omega) (by have := blk_lt ST.out.res; omega) _ rfl ?_
          intro g1 cp1 w7 hown1 hgrow1 hat1 hglt1
          have P7 : Hid (ClSt b a len cap zs B lo (hq + 20) w w3.heap.size (⟨#[114]⟩ ++ Di) (1 + x) 0 (.slice (some ⟨g1, 0, none⟩) (ts.length + 1) cp1) (ts ++ [t]) (w7.setCell ⟨w3.heap.size, 1, none⟩ (.slice (some ⟨g1, 0, none⟩) (ts.length + 1) cp1))) := ST.out.push hown1 hgrow1 hat1 ht
          have eB := hgrow1.block w3.heap.size (blk_lt ST.out.own) (fun e => ST.out.ne.2 e.symm)
          have z1 : w7.cell? ⟨w3.heap.size, 1, none⟩ = some (.slice gv ts.length cv) := (World.cell?_of_block (a := ⟨w3.heap.size, 1, none⟩) eB).trans ST.out.cells.1.2.1
          have zf : w7.frozen? ⟨w3.heap.size, 1, none⟩ = false := (World.frozen?_of_block (a := ⟨w3.heap.size, 1, none⟩) eB).trans ST.out.cells.2.1.1
          clear hown1 hgrow1 hat1 hglt1 eB
          refine hK.out _ _ trivial (fun _ => ?_)
          clear hK K
          try simp only [Act.put, List.setIfInBounds_toArray, List.set_cons_zero, List.set_cons_succ, List.getElem_toArray, List.getElem_cons_succ, List.getElem_cons_zero]
          refine wpAnyH_take (i := 6) (v := .pointer (some ⟨w3.heap.size, 1, none⟩)) rfl (by kernel_rfl) (by kernel_rfl) (by kernel_rfl) (fun _ _ _ h => h) (Or.inl ⟨by rfl, fun w hSw => by go_simp⟩) trivial ?_
          try simp only [Act.put, List.setIfInBounds_toArray, List.set_cons_zero, List.set_cons_succ, List.getElem_toArray, List.getElem_cons_succ, List.getElem_cons_zero]
          refine wpAnyH_ready (rs := [7]) (by kernel_rfl) (by simp) ?_
          refine AllReadyH.cons rfl (fun K hK => ?_) AllReadyH.nil
          go_simp
          refine hK.out _ _ trivial (fun _ => ?_)
          clear hK K
          try simp only [Act.put, List.setIfInBounds_toArray, List.set_cons_zero, List.set_cons_succ, List.getElem_toArray, List.getElem_cons_succ, List.getElem_cons_zero]
          refine wpAnyH_done (by kernel_rfl) ?_ _
          try simp
          go_wp2
          exact ⟨⟨j - 1, ts ++ [t], _, _, congrArg (Value.int .i64) (by omega), by simp; omega, by simp; omega, P7.out⟩, by simp [intOf]; omega⟩
    · obtain rfl : j = 0 := by omega
      obtain ⟨⟨c0, c1, c2, c3⟩, ⟨f1, f3⟩, hcb⟩ := ST0.out.cells
      by_cases ha : 1 + x = 3
      · obtain ⟨⟨r0, r1, r2, r3⟩, ⟨q0, q1, q2, q3⟩, hne, hrl⟩ := ST0.out.cellsR
        have hne' := hne.symm
        go_wp2
        clear c0 c1 c2 c3 f1 f3
        obtain ⟨F1, F2⟩ := ST0.out.fin 0 1 2 3 (.string (⟨#[114]⟩ ++ Di)) (.slice gv ts.length cv) (.int .i64 3) (.int .i64 0)
        refine bodyPost_ret (v := .agg #[.string (⟨#[114]⟩ ++ Di), .slice gv ts.length cv, .int .i64 3, .int .i64 0]) (by simp [results, Try.results10, go_sem, r0, r1, r2, r3]) rfl ⟨ts, 3, 0, gv, cv, by rw [HDi.out], ?_, (Going.comp H0.out F1).wider (by omega), F2, ST0.out.ne.1⟩
        rw [HDi.out]
        exact clOne_of (by omega) HNm.out (by decide) ST0.out.all
      · go_wp2_with fail
        (first | go_at_call 22 | skip)
        refine (next_going b a len cap zs B hB lo hq 4 _ _ (by omega) (by omega) ST0.out.go.self).mono ?_
        rintro e w6 ⟨y, rfl, hy, g6⟩
        obtain ⟨hy0, hy4⟩ := drawn5 hy (by omega)
        have S6 : Hid (ClSt b a len cap zs B lo (hq + 3) w w3.heap.size (⟨#[114]⟩ ++ Di) (1 + x) (5 * y) (.slice gv ts.length cv) ts (w6.setCell ⟨w3.heap.size, 3, none⟩ (.int .i64 (5 * y)))) := (ST0.out.draw g6).num (5 * y)
        obtain ⟨⟨_, _, _, d3⟩, ⟨_, z3⟩, hdb⟩ := (ST0.out.draw g6).cells
        clear g6 hy c0 c1 c2 c3 f1 f3 hcb
        obtain ⟨⟨c0, c1, c2, c3⟩, ⟨f1, f3⟩, hcb⟩ := S6.out.cells
        obtain ⟨⟨r0, r1, r2, r3⟩, ⟨q0, q1, q2, q3⟩, hne, hrl⟩ := S6.out.cellsR
        have hne' := hne.symm
        go_wp2
        clear c0 c1 c2 c3 f1 f3 d3 z3
        obtain ⟨F1, F2⟩ := S6.out.fin 0 1 2 3 (.string (⟨#[114]⟩ ++ Di)) (.slice gv ts.length cv) (.int .i64 (1 + x)) (.int .i64 (5 * y))
        refine bodyPost_ret (v := .agg #[.string (⟨#[114]⟩ ++ Di), .slice gv ts.length cv, .int .i64 (1 + x), .int .i64 (5 * y)]) (by simp [results, Try.results10, go_sem, r0, r1, r2, r3]) rfl ⟨ts, 1 + x, 5 * y, gv, cv, by rw [HDi.out], ?_, (Going.comp H0.out F1).wider (by omega), F2, S6.out.ne.1⟩
        rw [HDi.out]
        exact clOne_of (by omega) HNm.out (by unfold actB; rw [decide_eq_true_iff]; omega) S6.out.all
end Go.Proofs.Ytfofdeenpcbglaa
