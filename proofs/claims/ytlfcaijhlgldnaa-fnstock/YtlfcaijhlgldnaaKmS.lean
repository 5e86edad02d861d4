/-
  The program's newStockRun and stock.
-/
import Derived.Test.YtlfcaijhlgldnaaKmI
import Derived.Test.YtlfcaijhlgldnaaKmJ
namespace Go.Proofs.Ytlfcaijhlgldnaa
open Go.ChangeShapes Go.WideShapes Go.ChangeAt Go.RowKit Go.Deep
set_option linter.unusedVariables false

def slC (r : RSl) : List Value := [.string r.ar, .int .i64 r.lt, .int .i64 r.nu, .int .i64 r.un, .bool r.hd]
def slCells (L : List RSl) : List Value := L.flatMap slC
theorem slCells_append (a b : List RSl) : slCells (a ++ b) = slCells a ++ slCells b := by simp [slCells]
theorem slCells_len : ∀ L : List RSl, (slCells L).length = L.length * 5
  | [] => rfl
  | r :: L => by
    show (slC r ++ slCells L).length = _
    rw [List.length_append, slCells_len L]; simp [slC]; omega
theorem slCells_at : ∀ (L : List RSl) (i : Nat), i < L.length → (slCells L)[i * 5]? = some (.string (gl L i).ar) ∧ (slCells L)[i * 5 + 1]? = some (.int .i64 (gl L i).lt) ∧ (slCells L)[i * 5 + 2]? = some (.int .i64 (gl L i).nu) ∧ (slCells L)[i * 5 + 3]? = some (.int .i64 (gl L i).un) ∧ (slCells L)[i * 5 + 4]? = some (.bool (gl L i).hd)
  | r :: L, 0, h => ⟨rfl, rfl, rfl, rfl, rfl⟩
  | r :: L, i + 1, h => by
    have := slCells_at L i (by simpa using h)
    rw [show (i + 1) * 5 = i * 5 + 1 + 1 + 1 + 1 + 1 by omega]
    exact this
theorem slInfo : (Try.prog.info? 38).map (fun i => (i.zero, i.size, i.bytes)) = some (some (.agg #[.string ⟨#[]⟩, .int .i64 0, .int .i64 0, .int .i64 0, .bool false]), 5, 48) := by kernel_rfl
theorem sl_reads {B : Nat} {W : World} {a : Option Addr} {cp : Nat} {L : List RSl} (h : W.ownsRow B 38 5 (.slice a L.length cp) L.length (slCells L)) : ReadsSl W.heap.size W a L := by
  by_cases h0 : L.length = 0
  · exact .inl (List.eq_nil_of_length_eq_zero h0)
  · obtain ⟨g, c, hq⟩ := row_some h (by omega)
    simp only [Value.slice.injEq, true_and] at hq
    obtain ⟨rfl, rfl⟩ := hq
    refine .inr ⟨g, 0, rfl, (row_lt h g rfl).2, fun i hi => ?_⟩
    obtain ⟨q0, q1, q2, q3, q4⟩ := slCells_at L i hi
    refine ⟨?_, ?_, ?_, ?_, ?_⟩
    · rw [h.cellAt (0 + i * 5) (by omega), show 0 + i * 5 = i * 5 by omega, q0]; rfl
    · rw [h.cellAt (0 + i * 5 + 1) (by omega), show 0 + i * 5 + 1 = i * 5 + 1 by omega, q1]; rfl
    · rw [h.cellAt (0 + i * 5 + 2) (by omega), show 0 + i * 5 + 2 = i * 5 + 2 by omega, q2]; rfl
    · rw [h.cellAt (0 + i * 5 + 3) (by omega), show 0 + i * 5 + 3 = i * 5 + 3 by omega, q3]; rfl
    · rw [h.cellAt (0 + i * 5 + 4) (by omega), show 0 + i * 5 + 4 = i * 5 + 4 by omega, q4]; rfl
theorem newStockRun_any (w : World) :
    Calls Try.prog 23 #[] w fun e w' => e = .returned (.agg (runV st0 (w.heap.size + 1) (w.heap.size + 2) (.slice none 0 0))) ∧ MapL w' (w.heap.size + 1) 0 (fun _ _ => none) ∧ MapI w' (w.heap.size + 2) 0 (fun _ => 0) ∧ Below w.heap.size w w' := by
  have hmm := @run_makeMap Try.prog
  unfold runV st0
  dsimp only
  obtain ⟨o, ho⟩ : ∃ o : Obj, o = Obj.cells #[.int .i64 0, .int .i64 0, .int .i64 0, .int .i64 0, .int .i64 0, .slice none 0 0, .map (some (w.heap.size + 1)), .slice none 0 0, .map (some (w.heap.size + 2))] 58 := ⟨_, rfl⟩
  have HE : Hid (MapL (((w.alloc o).alloc (.map #[] 0)).alloc (.map #[] 0)) (w.heap.size + 1) 0 (fun _ _ => none) ∧ MapI (((w.alloc o).alloc (.map #[] 0)).alloc (.map #[] 0)) (w.heap.size + 2) 0 (fun _ => 0) ∧ Below w.heap.size w (((w.alloc o).alloc (.map #[] 0)).alloc (.map #[] 0))) := by
    have m1 := MapL.made (w.alloc o)
    have m2 := MapI.made ((w.alloc o).alloc (.map #[] 0))
    rw [show (w.alloc o).heap.size = w.heap.size + 1 by simp] at m1
    rw [show ((w.alloc o).alloc (.map #[] 0)).heap.size = w.heap.size + 2 by simp] at m2
    exact ⟨m1.block (Below.heap_alloc _ _ _ (by simp)), m2, chain (chain (below_alloc _ _) (below_alloc _ _)) (below_alloc _ _)⟩
  rw [ho] at HE
  clear ho
  go_enter Try.func23, Try.ntmps23
  go_wp2
  exact bodyPost_ret (v := .agg #[.int .i64 0, .int .i64 0, .int .i64 0, .int .i64 0, .int .i64 0, .slice none 0 0, .map (some (w.heap.size + 1)), .slice none 0 0, .map (some (w.heap.size + 2))]) (by simp [results, Try.results23, go_sem]) rfl ⟨rfl, HE.out⟩
end Go.Proofs.Ytlfcaijhlgldnaa
