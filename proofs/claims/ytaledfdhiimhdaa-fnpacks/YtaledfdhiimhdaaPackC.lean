/-
  Contract of the program's PackUnits, for every list of packs.
-/
import Derived.Test.YtaledfdhiimhdaaPackB
import Derived.Test.YtaledfdhiimhdaaRow1
import Derived.Test.YtaledfdhiimhdaaShelf
namespace Go.Proofs.Ytaledfdhiimhdaa
open Go.ChangeShapes Go.WideShapes Go.ChangeAt Go.RowKit
set_option linter.unusedVariables false

/-- What PackUnits answers, from pack k on, the sizes ahead being L: the sizes, the code, who. -/
def pkGo (ps : List Pk) : Nat → Nat → List Int → List Int × Int × ByteArray
  | 0, _, L => (L, 0, ByteArray.empty)
  | r + 1, k, L => if (pkRes (ps.take k) L (ps.getD k pk0)).2 = 0 then pkGo ps r (k + 1) (L ++ [(pkRes (ps.take k) L (ps.getD k pk0)).1]) else ([], (pkRes (ps.take k) L (ps.getD k pk0)).2, (ps.getD k pk0).name)
def pkAll (ps : List Pk) : List Int × Int × ByteArray :=
  if 4096 < ps.length then ([], 2, ByteArray.empty) else if 30 < ps.length then ([], 9, ByteArray.empty) else pkGo ps ps.length 0 []

theorem pkRes_bound (ahead : List Pk) (L : List Int) (p : Pk) (hb : ∀ x ∈ L, 1 ≤ x ∧ x ≤ 1000000) (hL : L.length = ahead.length) (h : (pkRes ahead L p).2 = 0) : 1 ≤ (pkRes ahead L p).1 ∧ (pkRes ahead L p).1 ≤ 1000000 := by
  unfold pkRes at h ⊢
  by_cases h1 : nameB p.name = true ∧ 1 ≤ p.count ∧ p.count ≤ 1000
  · rw [if_pos h1] at h ⊢
    by_cases h2 : 0 ≤ findP p.name ahead 0
    · rw [if_pos h2] at h; cases h
    · rw [if_neg h2] at h ⊢
      by_cases h3 : (p.of.toList == []) = true
      · rw [if_pos h3] at h ⊢
        unfold pkTold at h ⊢
        rw [if_neg (by omega)] at h ⊢
        exact ⟨h1.2.1, by show p.count ≤ _; omega⟩
      · rw [if_neg h3] at h ⊢
        by_cases h4 : findP p.of ahead 0 < 0
        · rw [if_pos h4] at h; cases h
        · rw [if_neg h4] at h ⊢
          unfold pkTold at h ⊢
          by_cases h5 : 1000000 < p.count * L.getD (findP p.of ahead 0).toNat 0
          · rw [if_pos h5] at h; cases h
          · rw [if_neg h5] at h ⊢
            have hr := findP_range p.of ahead 0
            obtain ⟨x1, x2⟩ := getD_bound hb (findP p.of ahead 0).toNat (by omega)
            have : 1 * 1 ≤ p.count * L.getD (findP p.of ahead 0).toNat 0 := Int.mul_le_mul h1.2.1 x1 (by omega) (by omega)
            exact ⟨by show 1 ≤ p.count * _; omega, by show p.count * _ ≤ _; omega⟩
  · rw [if_neg h1] at h; cases h
theorem push_bound {L : List Int} {lo hi x : Int} (h : ∀ y ∈ L, lo ≤ y ∧ y ≤ hi) (h1 : lo ≤ x) (h2 : x ≤ hi) : ∀ y ∈ L ++ [x], lo ≤ y ∧ y ≤ hi := fun y hy => by
  rcases List.mem_append.mp hy with h' | h'
  · exact h y h'
  · simp at h'; subst h'; exact ⟨h1, h2⟩
theorem ReadsP.take {B : Nat} {w : World} {a : Option Addr} {ps : List Pk} (h : ReadsP B w a ps) (k : Nat) : ReadsP B w a (ps.take k) := by
  rcases h with h | ⟨b, off, ha, hB, hi⟩
  · exact .inl (by rw [h]; simp)
  · refine .inr ⟨b, off, ha, hB, fun i hi' => ?_⟩
    rw [List.length_take] at hi'
    have e : (ps.take k).getD i pk0 = ps.getD i pk0 := by simp [List.getD_eq_getElem?_getD, show i < k by omega]
    rw [e]; exact hi i (by omega)

/-- What a call of PackUnits answers, and how its world is left. -/
def PackPost (ps : List Pk) (B : Nat) (w : World) (e : Ending) (w' : World) : Prop :=
  ∃ g cp, e = .returned (.tuple #[.slice g (pkAll ps).1.length cp, .int .i64 (pkAll ps).2.1, .string (pkAll ps).2.2]) ∧ Own2 B w' g (pkAll ps).1 ∧ Below B w w'
theorem PackPost.mk {ps : List Pk} {B : Nat} {w w' : World} {L : List Int} {c : Int} {s : ByteArray} (h : pkAll ps = (L, c, s)) {g : Option Addr} {n cp : Nat} (hn : n = L.length) (ho : Own2 B w' g L) (hb : Below B w w') : PackPost ps B w (.returned (.tuple #[.slice g n cp, .int .i64 c, .string s])) w' := by
  subst hn
  exact ⟨g, cp, by rw [h], by rw [h]; exact ho, hb⟩

theorem pkGo_step (ps : List Pk) (k : Nat) (L : List Int) (h : k < ps.length) : pkGo ps (ps.length - k) k L = if (pkRes (ps.take k) L (ps.getD k pk0)).2 = 0 then pkGo ps (ps.length - (k + 1)) (k + 1) (L ++ [(pkRes (ps.take k) L (ps.getD k pk0)).1]) else ([], (pkRes (ps.take k) L (ps.getD k pk0)).2, (ps.getD k pk0).name) := by
  obtain ⟨m, hm⟩ : ∃ m, ps.length - k = m + 1 := ⟨ps.length - k - 1, by omega⟩
  rw [hm, show ps.length - (k + 1) = m by omega]
  rfl
theorem One.own2r {w : World} {B : Nat} {a : Option Addr} {cp : Nat} {L : List Int} {wr : World} (h : One w B (.slice a L.length cp) L wr) : Reads wr.heap.size wr a L := (h.own2 rfl).reads

theorem keepP {W w1 w : World} {b B : Nat} {v : Value} {L : List Int} {c0 c1 c2 : Value} (hb : Below W.heap.size W w1) (h : W.cell? ⟨b, 0, none⟩ = some c0 ∧ W.cell? ⟨b, 1, none⟩ = some c1 ∧ W.cell? ⟨b, 2, none⟩ = some c2 ∧ b < W.heap.size ∧ One w B v L W) :
    w1.cell? ⟨b, 0, none⟩ = some c0 ∧ w1.cell? ⟨b, 1, none⟩ = some c1 ∧ w1.cell? ⟨b, 2, none⟩ = some c2 ∧ b < w1.heap.size ∧ One w B v L w1 := by
  obtain ⟨h0, h1, h2, h3, h4⟩ := h
  exact ⟨(hb.cell (p := ⟨b, 0, none⟩) h3).trans h0, (hb.cell (p := ⟨b, 1, none⟩) h3).trans h1, (hb.cell (p := ⟨b, 2, none⟩) h3).trans h2, Nat.lt_of_lt_of_le h3 hb.size, h4.later hb⟩


theorem cloneAny (s : ByteArray) (hs : s.size ≤ 2000000) (w : World) :
    Calls Try.prog 37 #[.string s] w fun e w' => e = .returned (.string s) ∧ Below w.heap.size w w' := by
  have hc := fun w => Try.stringslite_Clone s w (by omega)
  go_enter Try.func37, Try.ntmps37
  go_wp2_with (go_at_call 60; refine (hc _).mono ?_; rintro e w1 ⟨rfl, hb1⟩)
  go_ret
  exact ⟨rfl, hb1⟩


set_option maxHeartbeats 4000000 in
theorem implPack_any (a : Option Addr) (cap : Nat) (ps : List Pk) (hl : ps.length ≤ 100000000) (hcap : ps.length ≤ cap) (hp : ∀ p ∈ ps, PkOK p) (B : Nat) (w : World) (hBw : w.heap.size = B) (hr : ReadsP B w a ps) :
    Calls Try.prog 14 #[.slice a ps.length cap] w (PackPost ps B w) := by
  have HR : Hid (ReadsP B w a ps) := hr
  have HPk : Hid (∀ p ∈ ps, PkOK p) := hp
  clear hr hp
  by_cases h0 : 4096 < (ps.length : Int)
  · have HA : Hid (pkAll ps = ([], 2, ByteArray.empty)) := by show _ = _; unfold pkAll; rw [if_pos (by omega)]
    go_enter Try.func14, Try.ntmps14
    go_wp2
    refine bodyPost_ret (v := .tuple #[.slice none 0 0, .int .i64 2, .string ByteArray.empty]) (by simp [results, Try.results14, go_sem]; first | rfl | skip) rfl (PackPost.mk HA.out rfl (.inl rfl) (Below.refl _ _))
  by_cases h1 : 30 < (ps.length : Int)
  · have HA : Hid (pkAll ps = ([], 9, ByteArray.empty)) := by show _ = _; unfold pkAll; rw [if_neg (by omega), if_pos (by omega)]
    go_enter Try.func14, Try.ntmps14
    go_wp2
    refine bodyPost_ret (v := .tuple #[.slice none 0 0, .int .i64 9, .string ByteArray.empty]) (by simp [results, Try.results14, go_sem]; first | rfl | skip) rfl (PackPost.mk HA.out rfl (.inl rfl) (Below.refl _ _))
  have HA : Hid (pkAll ps = pkGo ps ps.length 0 []) := by show _ = _; unfold pkAll; rw [if_neg (by omega), if_neg (by omega)]
  have hmk := fun w => run_make_cap ps.length (by omega) w
  go_enter Try.func14, Try.ntmps14
  go_wp2
  go_loopw [5, 6, 7, 8, 9, 21] (fun v _ _ _ _ c wr => ∃ (L : List Int) (g cp : Nat), L.length ≤ ps.length ∧ c = .int .i64 (L.length : Int) ∧ v = .slice (some ⟨g, 0, none⟩) L.length cp ∧ pkAll ps = pkGo ps (ps.length - L.length) L.length L ∧ (∀ x ∈ L, 1 ≤ x ∧ x ≤ 1000000) ∧ One w B (.slice (some ⟨g, 0, none⟩) L.length cp) L wr) (fun _ _ _ _ _ c _ => ps.length - (intOf c).toNat)
  case atStart => exact ⟨[], B, ps.length, Nat.zero_le _, rfl, rfl, HA.out, by simp, One.made w B hBw ps.length (by omega)⟩
  case round =>
    clear hmk
    obtain ⟨L, g, cp, hk, rfl, rfl, hG, hbd, hO⟩ := hrel
    have HG : Hid (pkAll ps = pkGo ps (ps.length - L.length) L.length L) := hG
    have HBd : Hid (∀ x ∈ L, 1 ≤ x ∧ x ≤ 1000000) := hbd
    have HO : Hid (One w B (.slice (some ⟨g, 0, none⟩) L.length cp) L wr) := hO
    clear hG hbd hO
    by_cases hlt : L.length < ps.length
    · have hlt' : (L.length : Int) < (ps.length : Int) := by omega
      have hle : (L.length : Int) ≤ (cap : Int) := by omega
      rcases HR.out with h | ⟨b0, o0, ha, hB0, ia⟩
      · rw [h] at hlt; simp at hlt
      obtain ⟨c0, c1, c2⟩ := (ia.below HO.out.2.2 hB0) L.length hlt
      have hPk : PkOK (ps.getD L.length pk0) := by
        have e : ps.getD L.length pk0 = ps[L.length] := by simp [List.getD_eq_getElem?_getD, hlt]
        rw [e]; exact HPk.out _ (List.getElem_mem _)
      have HG' : Hid (pkAll ps = if (pkRes (ps.take L.length) L (ps.getD L.length pk0)).2 = 0 then pkGo ps (ps.length - (L.length + 1)) (L.length + 1) (L ++ [(pkRes (ps.take L.length) L (ps.getD L.length pk0)).1]) else ([], (pkRes (ps.take L.length) L (ps.getD L.length pk0)).2, (ps.getD L.length pk0).name)) := HG.out.trans (pkGo_step ps L.length L hlt)
      have HBx : Hid ((pkRes (ps.take L.length) L (ps.getD L.length pk0)).2 = 0 → 1 ≤ (pkRes (ps.take L.length) L (ps.getD L.length pk0)).1 ∧ (pkRes (ps.take L.length) L (ps.getD L.length pk0)).1 ≤ 1000000) := fun h => pkRes_bound _ _ _ HBd.out (by rw [List.length_take]; omega) h
      have hps : ∀ w', ReadsP w'.heap.size w' a ps → Reads w'.heap.size w' (some ⟨g, 0, none⟩) L → Calls Try.prog 36 #[.slice a L.length cap, .slice (some ⟨g, 0, none⟩) L.length cp, .agg #[.string (ps.getD L.length pk0).name, .string (ps.getD L.length pk0).of, .int .i64 (ps.getD L.length pk0).count]] w' fun e w'' => e = .returned (.tuple #[.int .i64 (pkRes (ps.take L.length) L (ps.getD L.length pk0)).1, .int .i64 (pkRes (ps.take L.length) L (ps.getD L.length pk0)).2]) ∧ Below w'.heap.size w' w'' := fun w' h1 h2 => by
        have hlen : (ps.take L.length).length = L.length := by rw [List.length_take]; omega
        have := packSize_any w'.heap.size a (some ⟨g, 0, none⟩) cap cp (ps.take L.length) L (ps.getD L.length pk0) hPk (by omega) hlen.symm HBd.out w' (h1.take _) h2
        rwa [hlen] at this
      have HRd : Hid (∀ w', Below B w w' → ReadsP w'.heap.size w' a ps) := fun w' hb => (HR.out.below hb).mono (by have := hb.size; omega)
      have hcl := fun w => cloneAny (ps.getD L.length pk0).name hPk.1 w
      generalize pkRes (ps.take L.length) L (ps.getD L.length pk0) = r at *
      obtain ⟨r1, r2⟩ := r
      generalize (ps.getD L.length pk0).name = nm at *
      generalize (ps.getD L.length pk0).of = ofn at *
      generalize (ps.getD L.length pk0).count = cnt at *
      have HA0 : Hid (a = some ⟨b0, o0, none⟩) := ha
      clear ia hPk
      rw [ha] at hps ⊢
      clear ha
      simp only [] at HG' HBx hps
      by_cases hz : r2 = 0
      · have HZ := HBx.out hz
        obtain ⟨hx1, hx2⟩ := HZ
        rw [if_pos hz] at HG'
        subst hz
        obtain ⟨i0, hi, hzz⟩ := Option.map_eq_some_iff.1 intInfo1
        simp only [Prod.mk.injEq] at hzz
        obtain ⟨hi0, hi1, hi2⟩ := hzz
        go_wp2
        have lt : wr.heap.size < (wr.alloc (Obj.cells #[.string nm, .string ofn, .int .i64 cnt] 77)).heap.size := by simp
        obtain ⟨m0, m1, m2⟩ : (wr.alloc (Obj.cells #[.string nm, .string ofn, .int .i64 cnt] 77)).cell? ⟨wr.heap.size, 0, none⟩ = some (.string nm) ∧ (wr.alloc (Obj.cells #[.string nm, .string ofn, .int .i64 cnt] 77)).cell? ⟨wr.heap.size, 1, none⟩ = some (.string ofn) ∧ (wr.alloc (Obj.cells #[.string nm, .string ofn, .int .i64 cnt] 77)).cell? ⟨wr.heap.size, 2, none⟩ = some (.int .i64 cnt) := ⟨by simp, by simp, by simp⟩
        have HO1 : Hid (One w B (.slice (some ⟨g, 0, none⟩) L.length cp) L (wr.alloc (Obj.cells #[.string nm, .string ofn, .int .i64 cnt] 77))) := HO.out.alloc _
        have HPS : Hid (∀ w', ReadsP w'.heap.size w' (some ⟨b0, o0, none⟩) ps → Reads w'.heap.size w' (some ⟨g, 0, none⟩) L → Calls Try.prog 36 #[.slice (some ⟨b0, o0, none⟩) L.length cap, .slice (some ⟨g, 0, none⟩) L.length cp, .agg #[.string nm, .string ofn, .int .i64 cnt]] w' fun e w'' => e = .returned (.tuple #[.int .i64 r1, .int .i64 0]) ∧ Below w'.heap.size w' w'') := hps
        clear hps c0 c1 c2
        generalize wr.alloc (Obj.cells #[.string nm, .string ofn, .int .i64 cnt] 77) = W1 at *
        generalize wr.heap.size = bp at *
        go_region_held3 (fun W => W.cell? ⟨bp, 0, none⟩ = some (.string nm) ∧ W.cell? ⟨bp, 1, none⟩ = some (.string ofn) ∧ W.cell? ⟨bp, 2, none⟩ = some (.int .i64 cnt) ∧ bp < W.heap.size ∧ One w B (.slice (some ⟨g, 0, none⟩) L.length cp) L W) (first | exact ⟨m0, m1, m2, lt, HO1.out.later (below_drew _)⟩ | exact keepP (by assumption) (by assumption)) (first | (go_at_call 36; refine (HPS.out _ (HA0.out ▸ HRd.out _ (HO1.out.later (below_drew _)).2.2) (HO1.out.later (below_drew _)).own2r).mono ?_; rintro e w2 ⟨rfl, hb2⟩; have HO2 : Hid (One w B (.slice (some ⟨g, 0, none⟩) L.length cp) L w2) := (HO1.out.later (below_drew _)).later hb2))
        go_wp2_with (first
          | (at_builtin; refine wpList_append_lies _ rfl _ _ 23 rfl B 3 i0 (.int .i64 0) 1 8 Try.underlying23 hi hi0 hi1 hi2 rfl (by decide) _ _ _ rfl (HO2.out.alloc _).1 ⟨w2.heap.size, 0, none⟩ 1 1 [.int .i64 r1] rfl rfl (newsOne w2 _ _) (by intro u hu; simp at hu; subst hu; rfl) (by omega) (by unfold maxLen; omega) (by omega) (HO2.out.alloc _).2.1 _ rfl ?_; intro g1 cp1 w3 hown1 hgrow1 hat1 hglt1; have HO3 : Hid (One w B (.slice (some ⟨g1, 0, none⟩) (L.length + 1) cp1) (L ++ [r1]) w3) := (HO2.out.alloc _).push hown1 hgrow1))
        have e : (L ++ [r1]).length = L.length + 1 := by simp
        refine ⟨⟨L ++ [r1], g1, cp1, ?_⟩, by simp [intOf]; omega⟩
        rw [e]
        exact ⟨by omega, by go_num, rfl, HG'.out, push_bound HBd.out hx1 hx2, HO3.out⟩
      · rw [if_neg hz] at HG'
        go_wp2
        have lt : wr.heap.size < (wr.alloc (Obj.cells #[.string nm, .string ofn, .int .i64 cnt] 77)).heap.size := by simp
        obtain ⟨m0, m1, m2⟩ : (wr.alloc (Obj.cells #[.string nm, .string ofn, .int .i64 cnt] 77)).cell? ⟨wr.heap.size, 0, none⟩ = some (.string nm) ∧ (wr.alloc (Obj.cells #[.string nm, .string ofn, .int .i64 cnt] 77)).cell? ⟨wr.heap.size, 1, none⟩ = some (.string ofn) ∧ (wr.alloc (Obj.cells #[.string nm, .string ofn, .int .i64 cnt] 77)).cell? ⟨wr.heap.size, 2, none⟩ = some (.int .i64 cnt) := ⟨by simp, by simp, by simp⟩
        have HO1 : Hid (One w B (.slice (some ⟨g, 0, none⟩) L.length cp) L (wr.alloc (Obj.cells #[.string nm, .string ofn, .int .i64 cnt] 77))) := HO.out.alloc _
        have HPS : Hid (∀ w', ReadsP w'.heap.size w' (some ⟨b0, o0, none⟩) ps → Reads w'.heap.size w' (some ⟨g, 0, none⟩) L → Calls Try.prog 36 #[.slice (some ⟨b0, o0, none⟩) L.length cap, .slice (some ⟨g, 0, none⟩) L.length cp, .agg #[.string nm, .string ofn, .int .i64 cnt]] w' fun e w'' => e = .returned (.tuple #[.int .i64 r1, .int .i64 r2]) ∧ Below w'.heap.size w' w'') := hps
        clear hps c0 c1 c2
        generalize wr.alloc (Obj.cells #[.string nm, .string ofn, .int .i64 cnt] 77) = W1 at *
        generalize wr.heap.size = bp at *
        go_region_held3 (fun W => W.cell? ⟨bp, 0, none⟩ = some (.string nm) ∧ W.cell? ⟨bp, 1, none⟩ = some (.string ofn) ∧ W.cell? ⟨bp, 2, none⟩ = some (.int .i64 cnt) ∧ bp < W.heap.size ∧ One w B (.slice (some ⟨g, 0, none⟩) L.length cp) L W) (first | exact ⟨m0, m1, m2, lt, HO1.out.later (below_drew _)⟩ | exact keepP (by assumption) (by assumption)) (first | (go_at_call 36; refine (HPS.out _ (HA0.out ▸ HRd.out _ (HO1.out.later (below_drew _)).2.2) (HO1.out.later (below_drew _)).own2r).mono ?_; rintro e w2 ⟨rfl, hb2⟩; have HO2 : Hid (One w B (.slice (some ⟨g, 0, none⟩) L.length cp) L w2) := (HO1.out.later (below_drew _)).later hb2))
        have hz' : (r2 != 0) = true := by simpa using hz
        clear hz
        go_wp2_with (go_at_call 37; refine (hcl _).mono ?_; rintro e w3 ⟨rfl, hb3⟩; have HO3 : Hid (One w B (.slice (some ⟨g, 0, none⟩) L.length cp) L w3) := HO2.out.later hb3)
        go_ret3
        exact PackPost.mk HG'.out rfl (.inl rfl) HO3.out.2.2
    · obtain ⟨r, hr⟩ : ∃ r, ps.length - L.length = r := ⟨_, rfl⟩
      obtain rfl : r = 0 := by omega
      have HE : Hid (pkAll ps = (L, 0, ByteArray.empty)) := by show _ = _; rw [HG.out, hr]; rfl
      have hle : (ps.length : Int) ≤ (L.length : Int) := by omega
      clear hr
      go_wp2
      go_ret3
      exact PackPost.mk HE.out rfl (HO.out.own2 rfl) HO.out.2.2

end Go.Proofs.Ytaledfdhiimhdaa
