/-
  A lot as it stands in the program's map: what its methods tell.
-/
import Derived.Test.YtlfcaijhlgldnaaKmC
import Derived.Test.YtlfcaijhlgldnaaShelf
import Derived.Stop.Asserts
namespace Go.Proofs.Ytlfcaijhlgldnaa
open Go.ChangeShapes Go.WideShapes Go.ChangeAt Go.RowKit Go.Deep
set_option linter.unusedVariables false

def lotT (hd : Bool) : TypeId := if hd = true then 139 else 97
def lotC (a : ByteArray) (l n u : Int) (hd : Bool) : Array Value := #[.string a, .int .i64 l, .int .i64 n, .int .i64 u, .bool hd]
def lotV (r : RSl) : Value := .iface (lotT r.hd) (.agg #[.string r.ar, .int .i64 r.lt, .int .i64 r.nu, .int .i64 r.un, .bool r.hd])
theorem na_told (a b c d e : Value) (w : World) : (nilAhead 241 97 (.agg #[a, b, c, d, e]) "loop.example/g00067/impl.told").run Try.prog w = .ok (some false) w := by kernel_rfl
theorem me_told (a b c d e : Value) (w : World) : (method 241 97 (.agg #[a, b, c, d, e]) "loop.example/g00067/impl.told").run Try.prog w = .ok (92, .agg #[a, b, c, d, e]) w := by kernel_rfl
theorem nh_told (a b c d e : Value) (w : World) : (nilAhead 241 139 (.agg #[a, b, c, d, e]) "loop.example/g00067/impl.told").run Try.prog w = .ok (some false) w := by kernel_rfl
theorem mh_told (a b c d e : Value) (w : World) : (method 241 139 (.agg #[a, b, c, d, e]) "loop.example/g00067/impl.told").run Try.prog w = .ok (92, .agg #[a, b, c, d, e]) w := by kernel_rfl
theorem na_ag (a b c d e : Value) (w : World) : (nilAhead 241 97 (.agg #[a, b, c, d, e]) "loop.example/g00067/impl.against").run Try.prog w = .ok (some false) w := by kernel_rfl
theorem me_ag (a b c d e : Value) (w : World) : (method 241 97 (.agg #[a, b, c, d, e]) "loop.example/g00067/impl.against").run Try.prog w = .ok (94, .agg #[a, b, c, d, e]) w := by kernel_rfl
theorem nh_ag (a b c d e : Value) (w : World) : (nilAhead 241 139 (.agg #[a, b, c, d, e]) "loop.example/g00067/impl.against").run Try.prog w = .ok (some false) w := by kernel_rfl
theorem mh_ag (a b c d e : Value) (w : World) : (method 241 139 (.agg #[a, b, c, d, e]) "loop.example/g00067/impl.against").run Try.prog w = .ok (98, .agg #[a, b, c, d, e]) w := by kernel_rfl
theorem na_lv (a b c d e : Value) (w : World) : (nilAhead 241 97 (.agg #[a, b, c, d, e]) "loop.example/g00067/impl.leaving").run Try.prog w = .ok (some false) w := by kernel_rfl
theorem me_lv (a b c d e : Value) (w : World) : (method 241 97 (.agg #[a, b, c, d, e]) "loop.example/g00067/impl.leaving").run Try.prog w = .ok (96, .agg #[a, b, c, d, e]) w := by kernel_rfl
theorem nh_lv (a b c d e : Value) (w : World) : (nilAhead 241 139 (.agg #[a, b, c, d, e]) "loop.example/g00067/impl.leaving").run Try.prog w = .ok (some false) w := by kernel_rfl
theorem mh_lv (a b c d e : Value) (w : World) : (method 241 139 (.agg #[a, b, c, d, e]) "loop.example/g00067/impl.leaving").run Try.prog w = .ok (100, .agg #[a, b, c, d, e]) w := by kernel_rfl
theorem na_hd (a b c d e : Value) (w : World) : (nilAhead 241 97 (.agg #[a, b, c, d, e]) "loop.example/g00067/impl.held").run Try.prog w = .ok (some false) w := by kernel_rfl
theorem me_hd (a b c d e : Value) (w : World) : (method 241 97 (.agg #[a, b, c, d, e]) "loop.example/g00067/impl.held").run Try.prog w = .ok (95, .agg #[a, b, c, d, e]) w := by kernel_rfl
theorem nh_fr (a b c d e : Value) (w : World) : (nilAhead 241 139 (.agg #[a, b, c, d, e]) "loop.example/g00067/impl.freed").run Try.prog w = .ok (some false) w := by kernel_rfl
theorem mh_fr (a b c d e : Value) (w : World) : (method 241 139 (.agg #[a, b, c, d, e]) "loop.example/g00067/impl.freed").run Try.prog w = .ok (99, .agg #[a, b, c, d, e]) w := by kernel_rfl
theorem ta_ff (v : Value) (w : World) : (Instr.typeAssert (.iface 97 v) 84 114 true).run Try.prog w = .ok (.tuple #[.iface 97 v, .bool true]) w := by kernel_rfl
theorem ta_hf (v : Value) (w : World) : (Instr.typeAssert (.iface 139 v) 84 114 true).run Try.prog w = .ok (.tuple #[.nilIface, .bool false]) w := run_typeAssert_lacksB Try.underlying114 (by kernel_rfl) (by kernel_rfl) v _ w
theorem ta_hh (v : Value) (w : World) : (Instr.typeAssert (.iface 139 v) 84 118 true).run Try.prog w = .ok (.tuple #[.iface 139 v, .bool true]) w := by kernel_rfl
theorem ta_fh (v : Value) (w : World) : (Instr.typeAssert (.iface 97 v) 84 118 true).run Try.prog w = .ok (.tuple #[.nilIface, .bool false]) w := run_typeAssert_lacksB Try.underlying118 (by kernel_rfl) (by kernel_rfl) v _ w
theorem told_any (a : ByteArray) (l n u : Int) (hd : Bool) (w : World) :
    Calls Try.prog 92 #[.agg #[.string a, .int .i64 l, .int .i64 n, .int .i64 u, .bool hd]] w fun e w' => e = .returned (.agg #[.string a, .int .i64 l, .int .i64 n, .int .i64 u, .bool hd]) ∧ Below w.heap.size w w' := by
  go_enter Try.func92, Try.ntmps92
  go_wp2
  refine bodyPost_ret (v := .agg #[.string a, .int .i64 l, .int .i64 n, .int .i64 u, .bool hd]) (by simp [results, Try.results92, go_sem]) rfl ⟨rfl, ?_⟩
  exact chain (below_alloc _ _) (below_alloc _ _)
theorem inDate_any (a : ByteArray) (l n u : Int) (hd : Bool) (d : Int) (w : World) :
    Calls Try.prog 91 #[.agg #[.string a, .int .i64 l, .int .i64 n, .int .i64 u, .bool hd], .int .i64 d] w fun e w' => e = .returned (.bool (decide (d ≤ u))) ∧ Below w.heap.size w w' := by
  go_enter Try.func91, Try.ntmps91
  go_wp2
  go_ret
  exact ⟨rfl, below_alloc _ _⟩
theorem freeAgainst_any (a : ByteArray) (l n u : Int) (d : Int) (w : World) :
    Calls Try.prog 94 #[.agg #[.string a, .int .i64 l, .int .i64 n, .int .i64 u, .bool false], .int .i64 d] w fun e w' => e = .returned (.int .i64 (cA d ⟨a, l, n, u, false⟩)) ∧ Below w.heap.size w w' := by
  unfold cA
  by_cases h : d ≤ u
  · have hq : decide (d ≤ u) = true := by simpa using h
    rw [if_pos h, if_neg (by simp)]
    go_enter Try.func94, Try.ntmps94
    go_wp2_with (go_at_call 91; refine (inDate_any _ _ _ _ _ _ _).mono ?_; rintro e w2 ⟨rfl, hb2⟩)
    go_ret
    exact ⟨rfl, chain (below_alloc _ _) hb2⟩
  · have hq : decide (d ≤ u) = false := by simpa using h
    rw [if_neg h]
    go_enter Try.func94, Try.ntmps94
    go_wp2_with (go_at_call 91; refine (inDate_any _ _ _ _ _ _ _).mono ?_; rintro e w2 ⟨rfl, hb2⟩)
    go_ret
    exact ⟨rfl, chain (below_alloc _ _) hb2⟩
theorem heldAgainst_any (a : ByteArray) (l n u : Int) (d : Int) (w : World) :
    Calls Try.prog 98 #[.agg #[.string a, .int .i64 l, .int .i64 n, .int .i64 u, .bool true], .int .i64 d] w fun e w' => e = .returned (.int .i64 (cA d ⟨a, l, n, u, true⟩)) ∧ Below w.heap.size w w' := by
  unfold cA
  by_cases h : d ≤ u
  · have hq : decide (d ≤ u) = true := by simpa using h
    rw [if_pos h, if_pos rfl]
    go_enter Try.func98, Try.ntmps98
    go_wp2_with (go_at_call 91; refine (inDate_any _ _ _ _ _ _ _).mono ?_; rintro e w2 ⟨rfl, hb2⟩)
    go_ret
    exact ⟨rfl, chain (below_alloc _ _) hb2⟩
  · have hq : decide (d ≤ u) = false := by simpa using h
    rw [if_neg h]
    go_enter Try.func98, Try.ntmps98
    go_wp2_with (go_at_call 91; refine (inDate_any _ _ _ _ _ _ _).mono ?_; rintro e w2 ⟨rfl, hb2⟩)
    go_ret
    exact ⟨rfl, chain (below_alloc _ _) hb2⟩
theorem freeLeaving_any (a : ByteArray) (l n u : Int) (hd : Bool) (m : Int) (w : World) :
    Calls Try.prog 96 #[.agg #[.string a, .int .i64 l, .int .i64 n, .int .i64 u, .bool hd], .int .i64 m] w fun e w' => e = .returned (.iface 97 (.agg #[.string a, .int .i64 l, .int .i64 m, .int .i64 u, .bool hd])) ∧ Below w.heap.size w w' := by
  go_enter Try.func96, Try.ntmps96
  go_wp2
  go_ret
  exact ⟨rfl, below_alloc _ _⟩
theorem heldLeaving_any (a : ByteArray) (l n u : Int) (hd : Bool) (m : Int) (w : World) :
    Calls Try.prog 100 #[.agg #[.string a, .int .i64 l, .int .i64 n, .int .i64 u, .bool hd], .int .i64 m] w fun e w' => e = .returned (.iface 139 (.agg #[.string a, .int .i64 l, .int .i64 m, .int .i64 u, .bool hd])) ∧ Below w.heap.size w w' := by
  go_enter Try.func100, Try.ntmps100
  go_wp2
  go_ret
  exact ⟨rfl, below_alloc _ _⟩
theorem held_any (a : ByteArray) (l n u : Int) (hd : Bool) (w : World) :
    Calls Try.prog 95 #[.agg #[.string a, .int .i64 l, .int .i64 n, .int .i64 u, .bool hd]] w fun e w' => e = .returned (.iface 139 (.agg #[.string a, .int .i64 l, .int .i64 n, .int .i64 u, .bool true])) ∧ Below w.heap.size w w' := by
  go_enter Try.func95, Try.ntmps95
  go_wp2
  go_ret
  exact ⟨rfl, below_alloc _ _⟩
theorem freed_any (a : ByteArray) (l n u : Int) (hd : Bool) (w : World) :
    Calls Try.prog 99 #[.agg #[.string a, .int .i64 l, .int .i64 n, .int .i64 u, .bool hd]] w fun e w' => e = .returned (.iface 97 (.agg #[.string a, .int .i64 l, .int .i64 n, .int .i64 u, .bool false])) ∧ Below w.heap.size w w' := by
  go_enter Try.func99, Try.ntmps99
  go_wp2
  go_ret
  exact ⟨rfl, below_alloc _ _⟩
theorem spanHas_any (a b n : Int) (w : World) :
    Calls Try.prog 55 #[.agg #[.int .i64 a, .int .i64 b], .int .i64 n] w fun e w' => e = .returned (.bool (inB n a b)) ∧ Below w.heap.size w w' := by
  unfold inB
  rcases (by omega : n < a ∨ (a ≤ n ∧ b < n) ∨ (a ≤ n ∧ n ≤ b)) with h1 | ⟨h1, h2⟩ | ⟨h1, h2⟩
  all_goals
    go_enter Try.func55, Try.ntmps55
    go_wp2
    go_ret
    refine ⟨ret_bool ?_, below_alloc _ _⟩
    rw [Bool.eq_iff_iff]
    simp <;> omega
theorem skClone_any (s : ByteArray) (hs : s.size ≤ 2000000) (w : World) :
    Calls Try.prog 51 #[.string s] w fun e w' => e = .returned (.string s) ∧ Below w.heap.size w w' := by
  have hc := fun w => Try.stringslite_Clone s w (by omega)
  go_enter Try.func51, Try.ntmps51
  go_wp2_with (go_at_call 63; refine (hc _).mono ?_; rintro e w1 ⟨rfl, hb1⟩)
  go_ret
  exact ⟨rfl, hb1⟩
/-! ### Keys -/
def kyC (r : RSl) : List Value := [.string r.ar, .int .i64 r.lt]
def kyCells (L : List RSl) : List Value := L.flatMap kyC
theorem kyCells_append (a b : List RSl) : kyCells (a ++ b) = kyCells a ++ kyCells b := by simp [kyCells]
theorem kyCells_len : ∀ L : List RSl, (kyCells L).length = L.length * 2
  | [] => rfl
  | r :: L => by
    show (kyC r ++ kyCells L).length = _
    rw [List.length_append, kyCells_len L]; simp [kyC]; omega
theorem kyCells_at : ∀ (L : List RSl) (i : Nat), i < L.length → (kyCells L)[i * 2]? = some (.string (gl L i).ar) ∧ (kyCells L)[i * 2 + 1]? = some (.int .i64 (gl L i).lt)
  | r :: L, 0, h => ⟨rfl, rfl⟩
  | r :: L, i + 1, h => by
    have := kyCells_at L i (by simpa using h)
    rw [show (i + 1) * 2 = i * 2 + 1 + 1 by omega]
    exact this
theorem kyCells_take (L : List RSl) (i : Nat) (hi : i ≤ L.length) : (kyCells L).take (i * 2) = kyCells (L.take i) := by
  have h : kyCells L = kyCells (L.take i) ++ kyCells (L.drop i) := by rw [← kyCells_append, List.take_append_drop]
  rw [h, List.take_left' (by rw [kyCells_len, List.length_take]; omega)]
theorem kyCells_drop (L : List RSl) (i : Nat) (hi : i ≤ L.length) : (kyCells L).drop (i * 2) = kyCells (L.drop i) := by
  have h : kyCells L = kyCells (L.take i) ++ kyCells (L.drop i) := by rw [← kyCells_append, List.take_append_drop]
  rw [h, List.drop_left' (by rw [kyCells_len, List.length_take]; omega)]
theorem kyCells_set (L : List RSl) (i : Nat) (hi : i < L.length) (r : RSl) (ha : r.ar = (gl L i).ar) (hl : r.lt = (gl L i).lt) : kyCells (L.set i r) = kyCells L := by
  induction L generalizing i with
  | nil => simp at hi
  | cons x L ih =>
    cases i with
    | zero =>
      have hx : gl (x :: L) 0 = x := rfl
      rw [hx] at ha hl
      show kyC r ++ kyCells L = kyC x ++ kyCells L
      unfold kyC; rw [ha, hl]
    | succ i =>
      have := ih i (by simpa using hi) ha hl
      show kyC x ++ kyCells (L.set i r) = kyC x ++ kyCells L
      rw [this]
theorem ky_one (L : List RSl) : ∀ u ∈ kyCells L, u.oneCell' = true := fun u hu => by
  unfold kyCells at hu
  obtain ⟨r, _, hr⟩ := List.mem_flatMap.1 hu
  unfold kyC at hr
  simp at hr
  rcases hr with rfl | rfl <;> rfl
theorem lkInfo : (Try.prog.info? 82).map (fun i => (i.zero, i.size, i.bytes)) = some (some (.agg #[.string ⟨#[]⟩, .int .i64 0]), 2, 24) := by kernel_rfl
end Go.Proofs.Ytlfcaijhlgldnaa
