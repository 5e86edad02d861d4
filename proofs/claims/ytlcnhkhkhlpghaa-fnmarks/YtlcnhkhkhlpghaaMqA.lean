/-
  A price, a stock, percents and a demand that are right, as a function of what they hold; contracts of the program's percentsOK, demandOK (with its two closures, and the library's slices.IndexFunc, ContainsFunc at them) and marksFault.
-/
import Derived.Test.YtlcnhkhkhlpghaaMpA
import Derived.Test.YtlcnhkhkhlpghaaDmA
import Derived.Test.YtlcnhkhkhlpghaaRowG
namespace Go.Proofs.Ytlcnhkhkhlpghaa
open Go.ChangeShapes Go.WideShapes Go.ChangeAt Go.RowKit Go.Deep Go.Joins
set_option linter.unusedVariables false

/-- The percent ahead of the k-th. -/
def ahd (ps : List Int) : Nat → Int
  | 0 => -1
  | k + 1 => ps.getD k 0
def pcAt (ps : List Int) (k : Nat) : Bool := decide (ahd ps k < ps.getD k 0) && inB (ps.getD k 0) 0 100
def upTo (f : Nat → Bool) : Nat → Bool
  | 0 => true
  | k + 1 => upTo f k && f k
theorem upTo_fail {f : Nat → Bool} {k : Nat} (h : f k = false) : ∀ n, k < n → upTo f n = false
  | n + 1, hn => by
    rw [upTo]
    by_cases e : k = n
    · subst e; rw [h, Bool.and_false]
    · rw [upTo_fail h n (by omega), Bool.false_and]
theorem upTo_at {f : Nat → Bool} : ∀ {n : Nat}, upTo f n = true → ∀ k, k < n → f k = true
  | n + 1, h, k, hk => by
    rw [upTo, Bool.and_eq_true] at h
    by_cases e : k = n
    · subst e; exact h.2
    · exact upTo_at h.1 k (by omega)
theorem upTo_of {f : Nat → Bool} : ∀ {n : Nat}, (∀ k, k < n → f k = true) → upTo f n = true
  | 0, _ => rfl
  | n + 1, h => by rw [upTo, upTo_of (fun k hk => h k (by omega)), h n (by omega)]; rfl
def pcB (ps : List Int) : Bool := inB (ps.length : Int) 1 5 && upTo (pcAt ps) ps.length
def daX (r : List Int) : Bool := r.all (fun x => inB x 0 200)
def daB (n : Nat) (r : List Int) : Bool := decide (r.length = n) && daX r
def dmB (cs : LL) (n : Nat) : Bool := inB (cs.length : Int) 1 7 && cs.all (daB n)
def mkR (price stock : Int) (ps : List Int) (cs : LL) : Bool := inB price 0 1000000 && (inB stock 0 200 && (pcB ps && dmB cs ps.length))
def mkF (price stock : Int) (ps : List Int) (cs : LL) : Int := if 4096 < ps.length ∨ 4096 < cs.length then 2 else if mkR price stock ps cs = true then 0 else 1
theorem da_take (r : List Int) (k : Nat) (h : k < r.length) : daX (r.take (k + 1)) = (daX (r.take k) && inB (r.getD k 0) 0 200) := by
  unfold daX
  rw [List.take_succ_eq_append_getElem h, List.all_append]
  have e : r.getD k 0 = r[k] := by simp [List.getD_eq_getElem?_getD, h]
  rw [e]; simp
theorem da_fail {r : List Int} {k : Nat} (h : k < r.length) (hp : inB (r.getD k 0) 0 200 = false) : daX r = false := by
  have e : r.getD k 0 = r[k] := by simp [List.getD_eq_getElem?_getD, h]
  rw [e] at hp
  unfold daX
  rw [List.all_eq_false]
  exact ⟨r[k], List.getElem_mem _, by simp [hp]⟩
theorem dms_take (p : List Int → Bool) (rs : LL) (k : Nat) (h : k < rs.length) : (rs.take (k + 1)).all p = ((rs.take k).all p && p (rs.getD k [])) := by
  rw [List.take_succ_eq_append_getElem h, List.all_append]
  have e : rs.getD k [] = rs[k] := by simp [List.getD_eq_getElem?_getD, h]
  rw [e]; simp
theorem dms_fail {p : List Int → Bool} {rs : LL} {k : Nat} (h : k < rs.length) (hp : p (rs.getD k []) = false) : rs.all p = false := by
  have e : rs.getD k [] = rs[k] := by simp [List.getD_eq_getElem?_getD, h]
  rw [e] at hp
  rw [List.all_eq_false]
  exact ⟨rs[k], List.getElem_mem _, by simp [hp]⟩

set_option maxHeartbeats 2000000 in
theorem percentsOK_any (a : Option Addr) (cap : Nat) (ps : List Int) (hl : ps.length ≤ 100000000) (w : World) (hr : Reads w.heap.size w a ps) :
    Calls Try.prog 51 #[.slice a ps.length cap] w fun e w' => e = .returned (.bool (pcB ps)) ∧ Below w.heap.size w w' := by
  have HR : Hid (Reads w.heap.size w a ps) := hr
  have HS : Hid (∀ W, Calls Try.prog 39 #[.agg #[.int .i64 1, .int .i64 5], .int .i64 (ps.length : Int)] W fun e w' => e = .returned (.bool (inB (ps.length : Int) 1 5)) ∧ Below W.heap.size W w') := fun W => mkSpan_any 1 5 _ W
  have HE : Hid (pcB ps = (inB (ps.length : Int) 1 5 && upTo (pcAt ps) ps.length)) := rfl
  clear hr
  generalize pcB ps = pb at *
  cases hb1 : inB (ps.length : Int) 1 5
  · rw [hb1] at HS HE
    have hpb : pb = false := HE.out
    subst hpb
    go_enter Try.func51, Try.ntmps51
    go_wp2_with (go_at_call 39; refine (HS.out _).mono ?_; rintro e w2 ⟨rfl, hb2⟩)
    go_ret
    exact ⟨rfl, by repeat (first | exact Below.refl _ _ | refine chain ?_ (by assumption) | refine chain ?_ (below_alloc _ _))⟩
  · rw [hb1] at HS HE
    have hpb : pb = upTo (pcAt ps) ps.length := HE.out
    subst hpb
    clear HE hb1
    go_enter Try.func51, Try.ntmps51
    go_wp2_with fail
    (first | go_at_call 39 | skip)
    refine (HS.out _).mono ?_
    rintro e w2 ⟨rfl, hb2⟩
    have HB2 : Hid (Below w.heap.size w w2) := by repeat (first | exact Below.refl _ _ | refine chain ?_ (by assumption) | refine chain ?_ (below_alloc _ _))
    clear hb2 HS
    go_wp2_with fail
    go_loopw [4, 6, 15] (fun ah _ c wr => ∃ k : Nat, k ≤ ps.length ∧ c = .int .i64 (k : Int) ∧ ah = .int .i64 (ahd ps k) ∧ upTo (pcAt ps) k = true ∧ Below w.heap.size w wr) (fun _ _ c _ => ps.length - (intOf c).toNat)
    case atStart => exact ⟨0, Nat.zero_le _, rfl, rfl, rfl, HB2.out⟩
    case round =>
      clear HB2
      obtain ⟨k, hk, rfl, rfl, hf, hb⟩ := hrel
      have HF : Hid (upTo (pcAt ps) k = true) := hf
      have HB : Hid (Below w.heap.size w wr) := hb
      clear hf hb
      by_cases hlt : k < ps.length
      · have hlt' : (k : Int) < (ps.length : Int) := by omega
        rcases HR.out with h | ⟨b0, o0, ha, hB0, ia⟩
        · rw [h] at hlt; simp at hlt
        have c0 := (ia.below HB.out hB0) k hlt
        have HX : Hid (pcAt ps k = false → upTo (pcAt ps) ps.length = false) := fun h => upTo_fail h _ hlt
        have HN : Hid (pcAt ps k = true → upTo (pcAt ps) (k + 1) = true) := fun h => by show (upTo (pcAt ps) k && pcAt ps k) = true; rw [HF.out, h]; rfl
        have HP : Hid (pcAt ps k = (decide (ahd ps k < ps.getD k 0) && inB (ps.getD k 0) 0 100)) := rfl
        have HA : Hid (ahd ps (k + 1) = ps.getD k 0) := rfl
        have HS : Hid (∀ W, Calls Try.prog 39 #[.agg #[.int .i64 0, .int .i64 100], .int .i64 (ps.getD k 0)] W fun e w' => e = .returned (.bool (inB (ps.getD k 0) 0 100)) ∧ Below W.heap.size W w') := fun W => mkSpan_any 0 100 _ W
        rw [ha]
        clear ia HF
        generalize pcAt ps k = pk at *
        generalize ps.getD k 0 = p at *
        generalize ahd ps k = q at *
        by_cases hq : p ≤ q
        · have HUb : Hid (upTo (pcAt ps) ps.length = false) := HX.out (by rw [HP.out, decide_eq_false (by omega)]; rfl)
          go_wp2_with fail
          go_ret
          exact ⟨ret_bool HUb.out.symm, HB.out⟩
        · rw [decide_eq_true (show q < p by omega), Bool.true_and] at HP
          cases hib : inB p 0 100
          · rw [hib] at HS HP
            have HUb : Hid (upTo (pcAt ps) ps.length = false) := HX.out HP.out
            clear HX HN HP hib
            go_wp2_with (first | (go_at_call 40; refine (percentNumbers_any _).mono ?_; rintro e w3 ⟨rfl, hb3⟩) | (go_at_call 39; refine (HS.out _).mono ?_; rintro e w4 ⟨rfl, hb4⟩))
            go_ret
            exact ⟨ret_bool HUb.out.symm, chain (chain HB.out hb3) hb4⟩
          · rw [hib] at HS HP
            have HN1 : Hid (upTo (pcAt ps) (k + 1) = true) := HN.out HP.out
            clear HX HN HP hib
            go_wp2_with (first | (go_at_call 40; refine (percentNumbers_any _).mono ?_; rintro e w3 ⟨rfl, hb3⟩) | (go_at_call 39; refine (HS.out _).mono ?_; rintro e w4 ⟨rfl, hb4⟩))
            exact ⟨⟨k + 1, by omega, by go_num, by rw [HA.out], HN1.out, chain (chain HB.out hb3) hb4⟩, by simp [intOf]; omega⟩
      · have hle : (ps.length : Int) ≤ (k : Int) := by omega
        obtain rfl : k = ps.length := by omega
        go_wp2_with fail
        go_ret
        exact ⟨ret_bool HF.out.symm, HB.out⟩

/-- The closure over the numbers that a demand may be. -/
theorem askNot_any (x : Int) (sb : Nat) (w : World) (h0 : w.cell? ⟨sb, 0, none⟩ = some (.int .i64 0)) (h1 : w.cell? ⟨sb, 1, none⟩ = some (.int .i64 200)) :
    Calls Try.prog 60 #[.int .i64 x, .pointer (some ⟨sb, 0, none⟩)] w fun e w' => e = .returned (.bool (!inB x 0 200)) ∧ Below w.heap.size w w' := by
  have HS : Hid (∀ W, Calls Try.prog 39 #[.agg #[.int .i64 0, .int .i64 200], .int .i64 x] W fun e w' => e = .returned (.bool (inB x 0 200)) ∧ Below W.heap.size W w') := fun W => mkSpan_any 0 200 x W
  generalize inB x 0 200 = b at *
  go_enter Try.func60, Try.ntmps60
  go_wp2_with (go_at_call 39; refine (HS.out _).mono ?_; rintro e w2 ⟨rfl, hb2⟩)
  go_ret
  exact ⟨rfl, hb2⟩
set_option maxHeartbeats 2000000 in
theorem askIndex_any (a : Option Addr) (cap : Nat) (gs : List Int) (hl : gs.length ≤ 100000000) (sb : Nat) (w : World) (hr : Reads w.heap.size w a gs) (hs : sb < w.heap.size) (h0 : w.cell? ⟨sb, 0, none⟩ = some (.int .i64 0)) (h1 : w.cell? ⟨sb, 1, none⟩ = some (.int .i64 200)) :
    Calls Try.prog 64 #[.slice a gs.length cap, .func (.func 60) #[] #[.pointer (some ⟨sb, 0, none⟩)]] w fun e w' => (∃ x : Int, e = .returned (.int .i64 x) ∧ decide (0 ≤ x) = !daX gs) ∧ Below w.heap.size w w' := by
  have HR : Hid (Reads w.heap.size w a gs) := hr
  have HC : Hid (∀ x W, Below w.heap.size w W → Calls Try.prog 60 #[.int .i64 x, .pointer (some ⟨sb, 0, none⟩)] W fun e w' => e = .returned (.bool (!inB x 0 200)) ∧ Below W.heap.size W w') := fun x W hb => askNot_any x sb W ((hb.cell (p := ⟨sb, 0, none⟩) hs).trans h0) ((hb.cell (p := ⟨sb, 1, none⟩) hs).trans h1)
  clear hr h0 h1 hs
  go_enter Try.func64, Try.ntmps64
  go_wp2
  go_loopw [5, 8] (fun _ c wr => ∃ k : Nat, k ≤ gs.length ∧ c = .int .i64 (k : Int) ∧ daX (gs.take k) = true ∧ Below w.heap.size w wr) (fun _ c _ => gs.length - (intOf c).toNat)
  case atStart => exact ⟨0, Nat.zero_le _, rfl, rfl, Below.refl _ _⟩
  case round =>
    obtain ⟨k, hk, rfl, hf, hb⟩ := hrel
    have HF : Hid (daX (gs.take k) = true) := hf
    have HB : Hid (Below w.heap.size w wr) := hb
    clear hf hb
    by_cases hlt : k < gs.length
    · have hlt' : (k : Int) < (gs.length : Int) := by omega
      rcases HR.out with h | ⟨b0, o0, ha, hB0, ia⟩
      · rw [h] at hlt; simp at hlt
      have c0 := (ia.below HB.out hB0) k hlt
      have HX : Hid (inB (gs.getD k 0) 0 200 = false → daX gs = false) := fun h => da_fail hlt h
      have HN : Hid (daX (gs.take (k + 1)) = (daX (gs.take k) && inB (gs.getD k 0) 0 200)) := da_take gs k hlt
      have hm := HC.out (gs.getD k 0) wr HB.out
      rw [ha]
      clear ia
      generalize gs.getD k 0 = q at *
      generalize inB q 0 200 = mb at *
      cases mb
      · go_wp2_with (go_at_call 60; refine hm.mono ?_; rintro e w2 ⟨rfl, hb2⟩)
        go_ret
        exact ⟨⟨(k : Int), rfl, by rw [HX.out trivial]; exact decide_eq_true (by omega)⟩, chain HB.out hb2⟩
      · go_wp2_with (go_at_call 60; refine hm.mono ?_; rintro e w2 ⟨rfl, hb2⟩)
        exact ⟨⟨k + 1, by omega, by go_num, by rw [HN.out, HF.out]; rfl, chain HB.out hb2⟩, by simp [intOf]; omega⟩
    · have hle : (gs.length : Int) ≤ (k : Int) := by omega
      have HE : Hid (daX gs = true) := by have := HF.out; rwa [List.take_of_length_le (by omega)] at this
      go_wp2
      go_ret
      exact ⟨⟨-1, rfl, by rw [HE.out]; rfl⟩, HB.out⟩
theorem askContains_any (a : Option Addr) (cap : Nat) (gs : List Int) (hl : gs.length ≤ 100000000) (sb : Nat) (w : World) (hr : Reads w.heap.size w a gs) (hs : sb < w.heap.size) (h0 : w.cell? ⟨sb, 0, none⟩ = some (.int .i64 0)) (h1 : w.cell? ⟨sb, 1, none⟩ = some (.int .i64 200)) :
    Calls Try.prog 59 #[.slice a gs.length cap, .func (.func 60) #[] #[.pointer (some ⟨sb, 0, none⟩)]] w fun e w' => e = .returned (.bool (!daX gs)) ∧ Below w.heap.size w w' := by
  have hi := askIndex_any a cap gs hl sb w hr hs h0 h1
  clear hr h0 h1
  go_enter Try.func59, Try.ntmps59
  go_wp2_with (go_at_call 64; refine hi.mono ?_; rintro e w2 ⟨⟨x, rfl, hx⟩, hb2⟩; have HX : Hid (decide (0 ≤ x) = !daX gs) := hx; clear hx)
  go_ret
  exact ⟨ret_bool HX.out, hb2⟩
/-- A day's closure: the box of how many steps there are, the box of the numbers that a demand may be. -/
theorem dayNot_any (r : List Int) (h : Option Addr) (cp : Nat) (hok : DmOK r) (n : Nat) (nb sb : Nat) (w : World) (hr : Reads w.heap.size w h r) (hn0 : w.cell? ⟨nb, 0, none⟩ = some (.int .i64 (n : Int))) (hs : sb < w.heap.size) (h0 : w.cell? ⟨sb, 0, none⟩ = some (.int .i64 0)) (h1 : w.cell? ⟨sb, 1, none⟩ = some (.int .i64 200)) :
    Calls Try.prog 58 #[.slice h r.length cp, .pointer (some ⟨nb, 0, none⟩), .pointer (some ⟨sb, 0, none⟩)] w fun e w' => e = .returned (.bool (!daB n r)) ∧ Below w.heap.size w w' := by
  have HC : Hid (Calls Try.prog 59 #[.slice h r.length cp, .func (.func 60) #[] #[.pointer (some ⟨sb, 0, none⟩)]] w fun e w' => e = .returned (.bool (!daX r)) ∧ Below w.heap.size w w') := askContains_any h cp r (by unfold DmOK at hok; omega) sb w hr hs h0 h1
  have HE : Hid (daB n r = (decide (r.length = n) && daX r)) := rfl
  generalize daB n r = db at *
  clear hr h0 h1 hs hok
  by_cases hn : r.length = n
  · rw [decide_eq_true hn, Bool.true_and] at HE
    have hdb : db = daX r := HE.out
    subst hdb hn
    clear HE
    generalize daX r = xb at *
    generalize r.length = n at *
    go_enter Try.func58, Try.ntmps58
    go_wp2_with (go_at_call 59; refine HC.out.mono ?_; rintro e w2 ⟨rfl, hb2⟩)
    go_ret
    exact ⟨rfl, hb2⟩
  · rw [decide_eq_false hn, Bool.false_and] at HE
    have hdb : db = false := HE.out
    subst hdb
    clear HE HC
    have hne : ¬ (r.length : Int) = (n : Int) := by omega
    generalize r.length = m at *
    go_enter Try.func58, Try.ntmps58
    go_wp2_with fail
    go_ret
    exact ⟨rfl, Below.refl _ _⟩
set_option maxHeartbeats 2000000 in
theorem dayIndex_any (a : Option Addr) (cap : Nat) (rs : LL) (hl : rs.length ≤ 100000000) (hp : ∀ r ∈ rs, DmOK r) (n nb sb : Nat) (w : World) (hr : ReadsDm w.heap.size w a rs) (hn : nb < w.heap.size) (hn0 : w.cell? ⟨nb, 0, none⟩ = some (.int .i64 (n : Int))) (hs : sb < w.heap.size) (h0 : w.cell? ⟨sb, 0, none⟩ = some (.int .i64 0)) (h1 : w.cell? ⟨sb, 1, none⟩ = some (.int .i64 200)) :
    Calls Try.prog 63 #[.slice a rs.length cap, .func (.func 58) #[] #[.pointer (some ⟨nb, 0, none⟩), .pointer (some ⟨sb, 0, none⟩)]] w fun e w' => (∃ x : Int, e = .returned (.int .i64 x) ∧ decide (0 ≤ x) = !rs.all (daB n)) ∧ Below w.heap.size w w' := by
  have HR : Hid (ReadsDm w.heap.size w a rs) := hr
  have HOK : Hid (∀ r ∈ rs, DmOK r) := hp
  have HC : Hid (∀ (r : List Int) h cp W, DmOK r → Below w.heap.size w W → Reads W.heap.size W h r → Calls Try.prog 58 #[.slice h r.length cp, .pointer (some ⟨nb, 0, none⟩), .pointer (some ⟨sb, 0, none⟩)] W fun e w' => e = .returned (.bool (!daB n r)) ∧ Below W.heap.size W w') := fun r h cp W q hb k => dayNot_any r h cp q n nb sb W k ((hb.cell (p := ⟨nb, 0, none⟩) hn).trans hn0) (Nat.lt_of_lt_of_le hs hb.size) ((hb.cell (p := ⟨sb, 0, none⟩) hs).trans h0) ((hb.cell (p := ⟨sb, 1, none⟩) hs).trans h1)
  clear hr hp h0 h1 hs hn hn0
  go_enter Try.func63, Try.ntmps63
  go_wp2
  go_loopw [5, 8] (fun _ c wr => ∃ k : Nat, k ≤ rs.length ∧ c = .int .i64 (k : Int) ∧ (rs.take k).all (daB n) = true ∧ Below w.heap.size w wr) (fun _ c _ => rs.length - (intOf c).toNat)
  case atStart => exact ⟨0, Nat.zero_le _, rfl, rfl, Below.refl _ _⟩
  case round =>
    obtain ⟨k, hk, rfl, hf, hb⟩ := hrel
    have HF : Hid ((rs.take k).all (daB n) = true) := hf
    have HB : Hid (Below w.heap.size w wr) := hb
    clear hf hb
    by_cases hlt : k < rs.length
    · have hlt' : (k : Int) < (rs.length : Int) := by omega
      rcases HR.out with h | ⟨b0, o0, ha, hB0, ia⟩
      · rw [h] at hlt; simp at hlt
      obtain ⟨h, cp, c0, _, hS⟩ := (ia.below HB.out hB0 (Nat.le_refl _)) k hlt
      have HX : Hid (daB n (rs.getD k []) = false → rs.all (daB n) = false) := fun h => dms_fail hlt h
      have HN : Hid ((rs.take (k + 1)).all (daB n) = ((rs.take k).all (daB n) && daB n (rs.getD k []))) := dms_take _ rs k hlt
      have hm := HC.out (rs.getD k []) h cp wr (getDm HOK.out hlt) HB.out (hS.mono HB.out.size)
      rw [ha]
      clear ia hS
      generalize rs.getD k [] = q at *
      generalize daB n q = mb at *
      generalize q.length = m at *
      cases mb
      · go_wp2_with (go_at_call 58; refine hm.mono ?_; rintro e w2 ⟨rfl, hb2⟩)
        go_ret
        exact ⟨⟨(k : Int), rfl, by rw [HX.out trivial]; exact decide_eq_true (by omega)⟩, chain HB.out hb2⟩
      · go_wp2_with (go_at_call 58; refine hm.mono ?_; rintro e w2 ⟨rfl, hb2⟩)
        exact ⟨⟨k + 1, by omega, by go_num, by rw [HN.out, HF.out]; rfl, chain HB.out hb2⟩, by simp [intOf]; omega⟩
    · have hle : (rs.length : Int) ≤ (k : Int) := by omega
      have HE : Hid (rs.all (daB n) = true) := by have := HF.out; rwa [List.take_of_length_le (by omega)] at this
      go_wp2
      go_ret
      exact ⟨⟨-1, rfl, by rw [HE.out]; rfl⟩, HB.out⟩
theorem dayContains_any (a : Option Addr) (cap : Nat) (rs : LL) (hl : rs.length ≤ 100000000) (hp : ∀ r ∈ rs, DmOK r) (n nb sb : Nat) (w : World) (hr : ReadsDm w.heap.size w a rs) (hn : nb < w.heap.size) (hn0 : w.cell? ⟨nb, 0, none⟩ = some (.int .i64 (n : Int))) (hs : sb < w.heap.size) (h0 : w.cell? ⟨sb, 0, none⟩ = some (.int .i64 0)) (h1 : w.cell? ⟨sb, 1, none⟩ = some (.int .i64 200)) :
    Calls Try.prog 57 #[.slice a rs.length cap, .func (.func 58) #[] #[.pointer (some ⟨nb, 0, none⟩), .pointer (some ⟨sb, 0, none⟩)]] w fun e w' => e = .returned (.bool (!rs.all (daB n))) ∧ Below w.heap.size w w' := by
  have hi := dayIndex_any a cap rs hl hp n nb sb w hr hn hn0 hs h0 h1
  clear hr h0 h1 hn hn0 hs
  go_enter Try.func57, Try.ntmps57
  go_wp2_with (go_at_call 63; refine hi.mono ?_; rintro e w2 ⟨⟨x, rfl, hx⟩, hb2⟩; have HX : Hid (decide (0 ≤ x) = !rs.all (daB n)) := hx; clear hx)
  go_ret
  exact ⟨ret_bool HX.out, hb2⟩
theorem three_alloc (w : World) (a b c : Obj) : (((w.alloc a).alloc b).alloc c).heap[w.heap.size]? = some a ∧ (((w.alloc a).alloc b).alloc c).heap[w.heap.size + 1]? = some b ∧ (((w.alloc a).alloc b).alloc c).heap[w.heap.size + 1 + 1]? = some c := by
  have h2 := heapNew (w.alloc a) b
  have h3 := heapNew ((w.alloc a).alloc b) c
  simp only [World.size_alloc] at h2 h3
  refine ⟨?_, ?_, h3⟩
  · rw [Below.heap_alloc _ _ _ (by simp only [World.size_alloc]; omega), Below.heap_alloc _ _ _ (by simp only [World.size_alloc]; omega)]; exact heapNew w a
  · rw [Below.heap_alloc _ _ _ (by simp only [World.size_alloc]; omega)]; exact h2
set_option maxHeartbeats 2000000 in
theorem demandOK_any (a : Option Addr) (cap : Nat) (rs : LL) (hl : rs.length ≤ 100000000) (hp : ∀ r ∈ rs, DmOK r) (n : Nat) (w : World) (hr : ReadsDm w.heap.size w a rs) :
    Calls Try.prog 52 #[.slice a rs.length cap, .int .i64 (n : Int)] w fun e w' => e = .returned (.bool (dmB rs n)) ∧ Below w.heap.size w w' := by
  have HS : Hid (∀ W, Calls Try.prog 39 #[.agg #[.int .i64 1, .int .i64 7], .int .i64 (rs.length : Int)] W fun e w' => e = .returned (.bool (inB (rs.length : Int) 1 7)) ∧ Below W.heap.size W w') := fun W => mkSpan_any 1 7 _ W
  have HC : Hid (∀ nb sb W, Below w.heap.size w W → nb < W.heap.size → W.cell? ⟨nb, 0, none⟩ = some (.int .i64 (n : Int)) → sb < W.heap.size → W.cell? ⟨sb, 0, none⟩ = some (.int .i64 0) → W.cell? ⟨sb, 1, none⟩ = some (.int .i64 200) → Calls Try.prog 57 #[.slice a rs.length cap, .func (.func 58) #[] #[.pointer (some ⟨nb, 0, none⟩), .pointer (some ⟨sb, 0, none⟩)]] W fun e w' => e = .returned (.bool (!rs.all (daB n))) ∧ Below W.heap.size W w') := fun nb sb W hb h1 h2 h3 h4 h5 => dayContains_any a cap rs hl hp n nb sb W (hr.later hb) h1 h2 h3 h4 h5
  have HE : Hid (dmB rs n = (inB (rs.length : Int) 1 7 && rs.all (daB n))) := rfl
  clear hr hp
  generalize dmB rs n = db at *
  generalize rs.all (daB n) = xb at *
  generalize rs.length = m at *
  generalize inB (m : Int) 1 7 = b1 at *
  obtain ⟨W0, hW0⟩ : ∃ W0, W0 = ((w.alloc (Obj.cells #[.int .i64 (n : Int)] 3)).alloc (Obj.cells #[.int .i64 1, .int .i64 7] 63)).alloc (Obj.cells #[.int .i64 0, .int .i64 200] 63) := ⟨_, rfl⟩
  have HW0 : Hid (W0 = ((w.alloc (Obj.cells #[.int .i64 (n : Int)] 3)).alloc (Obj.cells #[.int .i64 1, .int .i64 7] 63)).alloc (Obj.cells #[.int .i64 0, .int .i64 200] 63)) := hW0
  have HB0 : Hid (Below w.heap.size w W0) := by show Below _ _ _; rw [hW0]; repeat (first | exact Below.refl _ _ | refine chain ?_ (below_alloc _ _))
  have HF : Hid (∀ W, Below W0.heap.size W0 W → (w.heap.size < W.heap.size ∧ W.cell? ⟨w.heap.size, 0, none⟩ = some (.int .i64 (n : Int))) ∧ (W.cell? ⟨w.heap.size + 1, 0, none⟩ = some (.int .i64 1) ∧ W.cell? ⟨w.heap.size + 1, 1, none⟩ = some (.int .i64 7)) ∧ (w.heap.size + 1 + 1 < W.heap.size ∧ W.cell? ⟨w.heap.size + 1 + 1, 0, none⟩ = some (.int .i64 0) ∧ W.cell? ⟨w.heap.size + 1 + 1, 1, none⟩ = some (.int .i64 200))) := fun W hb => by
    have hz : W0.heap.size = w.heap.size + 3 := by rw [hW0]; simp
    have hc : ∀ k o, k < w.heap.size + 3 → W.cell? ⟨k, o, none⟩ = W0.cell? ⟨k, o, none⟩ := fun k o hk => hb.cell (p := ⟨k, o, none⟩) (by show k < _; omega)
    have hs := hb.size
    obtain ⟨f1, f2, f3⟩ := three_alloc w (Obj.cells #[.int .i64 (n : Int)] 3) (Obj.cells #[.int .i64 1, .int .i64 7] 63) (Obj.cells #[.int .i64 0, .int .i64 200] 63)
    rw [← hW0] at f1 f2 f3
    refine ⟨⟨by omega, ?_⟩, ⟨?_, ?_⟩, by omega, ?_, ?_⟩
    · rw [hc _ _ (by omega)]; exact blkCell f1 0 _ rfl
    · rw [hc _ _ (by omega)]; exact blkCell f2 0 _ rfl
    · rw [hc _ _ (by omega)]; exact blkCell f2 1 _ rfl
    · rw [hc _ _ (by omega)]; exact blkCell f3 0 _ rfl
    · rw [hc _ _ (by omega)]; exact blkCell f3 1 _ rfl
  clear hW0
  cases b1
  all_goals
    go_enter Try.func52, Try.ntmps52
    go_upto_region 2 with fail
    rw [← HW0.out]
    clear HW0
    obtain ⟨_, ⟨m0, m1⟩, _⟩ := HF.out W0 (Below.refl _ _)
    go_wp2_with fail
    (first | go_at_call 39 | skip)
    refine (HS.out _).mono ?_
    rintro e w2 ⟨rfl, hb2⟩
    clear m0 m1
    have HB2 : Hid (Below W0.heap.size W0 w2) := hb2
    clear hb2
  · obtain rfl : db = false := HE.out
    go_wp2_with fail
    go_ret
    exact ⟨rfl, chain HB0.out HB2.out⟩
  · obtain rfl : db = xb := HE.out
    go_wp2_with fail
    (first | go_at_call 57 | skip)
    obtain ⟨⟨k1, k2⟩, _, k3, k4, k5⟩ := HF.out w2 HB2.out
    refine (HC.out _ _ w2 (chain HB0.out HB2.out) k1 k2 k3 k4 k5).mono ?_
    rintro e w4 ⟨rfl, hb4⟩
    go_wp2_with fail
    go_ret
    exact ⟨ret_bool (by simp), chain (chain HB0.out HB2.out) hb4⟩
theorem mkF_ways (price stock : Int) (ps : List Int) (cs : LL) : (4096 < ps.length ∧ mkF price stock ps cs = 2) ∨ (¬ 4096 < ps.length ∧ 4096 < cs.length ∧ mkF price stock ps cs = 2) ∨ ((¬ 4096 < ps.length ∧ ¬ 4096 < cs.length) ∧ mkF price stock ps cs = if (inB price 0 1000000 && (inB stock 0 200 && (pcB ps && dmB cs ps.length))) = true then 0 else 1) := by
  unfold mkF mkR
  by_cases h1 : 4096 < ps.length
  · exact .inl ⟨h1, if_pos (.inl h1)⟩
  by_cases h2 : 4096 < cs.length
  · exact .inr (.inl ⟨h1, h2, if_pos (.inr h2)⟩)
  exact .inr (.inr ⟨⟨h1, h2⟩, if_neg (by omega)⟩)
set_option maxHeartbeats 4000000 in
theorem marksFault_any (price stock : Int) (a : Option Addr) (ca : Nat) (ps : List Int) (hl : ps.length ≤ 100000000) (b : Option Addr) (cb : Nat) (rs : LL) (hk : rs.length ≤ 100000000) (hp : ∀ r ∈ rs, DmOK r) (w : World) (hr : Reads w.heap.size w a ps) (ks : ReadsDm w.heap.size w b rs) :
    Calls Try.prog 30 #[.int .i64 price, .int .i64 stock, .slice a ps.length ca, .slice b rs.length cb] w fun e w' => e = .returned (.int .i64 (mkF price stock ps rs)) ∧ Below w.heap.size w w' := by
  have HP : Hid (∀ W, Below w.heap.size w W → Calls Try.prog 51 #[.slice a ps.length ca] W fun e w' => e = .returned (.bool (pcB ps)) ∧ Below W.heap.size W w') := fun W hb => percentsOK_any a ca ps hl W (hr.later hb)
  have HD : Hid (∀ W, Below w.heap.size w W → Calls Try.prog 52 #[.slice b rs.length cb, .int .i64 (ps.length : Int)] W fun e w' => e = .returned (.bool (dmB rs ps.length)) ∧ Below W.heap.size W w') := fun W hb => demandOK_any b cb rs hk hp ps.length W (ks.later hb)
  have H1 : Hid (∀ W, Calls Try.prog 39 #[.agg #[.int .i64 0, .int .i64 1000000], .int .i64 price] W fun e w' => e = .returned (.bool (inB price 0 1000000)) ∧ Below W.heap.size W w') := fun W => mkSpan_any _ _ _ W
  have H2 : Hid (∀ W, Calls Try.prog 39 #[.agg #[.int .i64 0, .int .i64 200], .int .i64 stock] W fun e w' => e = .returned (.bool (inB stock 0 200)) ∧ Below W.heap.size W w') := fun W => mkSpan_any _ _ _ W
  clear hr ks hp
  rcases mkF_ways price stock ps rs with ⟨h1, hE⟩ | ⟨h1, h2, hE⟩ | ⟨⟨h1, h2⟩, hE⟩
  · rw [hE]
    have h1' : (4096 : Int) < (ps.length : Int) := by omega
    generalize ps.length = n at *
    generalize rs.length = m at *
    go_enter Try.func30, Try.ntmps30
    go_wp2_with fail
    go_ret
    exact ⟨rfl, Below.refl _ _⟩
  · rw [hE]
    have h1' : ¬ (4096 : Int) < (ps.length : Int) := by omega
    have h2' : (4096 : Int) < (rs.length : Int) := by omega
    generalize ps.length = n at *
    generalize rs.length = m at *
    go_enter Try.func30, Try.ntmps30
    go_wp2_with fail
    go_ret
    exact ⟨rfl, Below.refl _ _⟩
  · have h1' : ¬ (4096 : Int) < (ps.length : Int) := by omega
    have h2' : ¬ (4096 : Int) < (rs.length : Int) := by omega
    have HE : Hid (mkF price stock ps rs = if (inB price 0 1000000 && (inB stock 0 200 && (pcB ps && dmB rs ps.length))) = true then 0 else 1) := hE
    clear hE
    generalize mkF price stock ps rs = fv at *
    generalize pcB ps = b3 at *
    generalize dmB rs ps.length = b4 at *
    generalize inB price 0 1000000 = b1 at *
    generalize inB stock 0 200 = b2 at *
    generalize ps.length = n at *
    generalize rs.length = m at *
    cases b1
    · obtain rfl : fv = 1 := HE.out
      go_enter Try.func30, Try.ntmps30
      go_wp2_with (first | (go_at_call 38; refine (markCosts_any _).mono ?_; rintro e w1 ⟨rfl, hb1⟩) | (go_at_call 39; refine (H1.out _).mono ?_; rintro e w2 ⟨rfl, hb2⟩))
      go_ret
      exact ⟨rfl, chain (chain (below_alloc _ _) hb1) hb2⟩
    all_goals
      go_enter Try.func30, Try.ntmps30
      go_wp2_with fail
      (first | go_at_call 38 | skip)
      refine (markCosts_any _).mono ?_
      rintro e w1 ⟨rfl, hb1⟩
      go_wp2_with fail
      (first | go_at_call 39 | skip)
      refine (H1.out _).mono ?_
      rintro e w2 ⟨rfl, hb2⟩
      have hbx := chain (chain (below_alloc w (Obj.cells #[.int .i64 0, .int .i64 200] 63)) hb1) hb2
      have hq := (chain hb1 hb2).block w.heap.size (by simp)
      rw [heapNew] at hq
      have q0 := blkCell hq 0 _ rfl
      have q1 := blkCell hq 1 _ rfl
      simp only [List.getElem_toArray, List.getElem_cons_zero, List.getElem_cons_succ] at q0 q1
      have HBx : Hid (Below w.heap.size w w2) := hbx
      clear hb1 hb2 hbx hq H1
      go_wp2_with fail
      (first | go_at_call 39 | skip)
      refine (H2.out _).mono ?_
      rintro e w3 ⟨rfl, hb3⟩
      have HB3 : Hid (Below w.heap.size w w3) := chain HBx.out hb3
      clear hb3 q0 q1 HBx H2
    cases b2
    · obtain rfl : fv = 1 := HE.out
      go_wp2_with fail
      go_ret
      exact ⟨rfl, HB3.out⟩
    go_wp2_with fail
    (first | go_at_call 51 | skip)
    refine (HP.out _ HB3.out).mono ?_
    rintro e w4 ⟨rfl, hb4⟩
    have HB4 : Hid (Below w.heap.size w w4) := chain HB3.out hb4
    clear hb4 HB3 HP
    cases b3
    · obtain rfl : fv = 1 := HE.out
      go_wp2_with fail
      go_ret
      exact ⟨rfl, HB4.out⟩
    go_wp2_with fail
    (first | go_at_call 52 | skip)
    refine (HD.out _ HB4.out).mono ?_
    rintro e w5 ⟨rfl, hb5⟩
    have HB5 : Hid (Below w.heap.size w w5) := chain HB4.out hb5
    clear hb5 HB4 HD
    cases b4
    · obtain rfl : fv = 1 := HE.out
      go_wp2_with fail
      go_ret
      exact ⟨rfl, HB5.out⟩
    · obtain rfl : fv = 0 := HE.out
      go_wp2_with fail
      go_ret
      exact ⟨rfl, HB5.out⟩
end Go.Proofs.Ytlcnhkhkhlpghaa
