/-
  The walk through the law FnExactPriced, with what the specification's Priced does as a premise.
-/
import Derived.Test.YtlnhnocegfnllaaUsN
import Derived.Test.YtlnhnocegfnllaaUsF
import Derived.Test.YtlnhnocegfnllaaDlF
import Derived.Test.YtlnhnocegfnllaaUnF
import Derived.Test.YtlnhnocegfnllaaDlM
import Derived.Test.YtlnhnocegfnllaaUnM
import Derived.Test.YtlnhnocegfnllaaBgG
namespace Go.Proofs.Ytlnhnocegfnllaa
open Go.ChangeShapes Go.WideShapes Go.ChangeAt Go.RowKit Go.Joins
open Go.ChangeMaps (open_string shut_string)
set_option linter.unusedVariables false

/-- What the specification's Priced is known to do, by its own text. -/
def SpecP (F : Nat) : Prop := ∀ (us : List RUn) (ds : List CDl) (cs : List CUs), us.length ≤ 100000000 → (∀ r ∈ us, UnOK r) → ds.length ≤ 100000000 → (∀ r ∈ ds, DlOK r) → cs.length ≤ 1048576 → (∀ r ∈ cs, UsOK r) →
  ∀ (a : Option Addr) (ca : Nat) (b : Option Addr) (cb : Nat) (g : Option Addr) (cg : Nat) (w : World), ReadsUn w.heap.size w a us → ReadsDl w.heap.size w b ds → ReadsUs w.heap.size w g cs → Calls Try.prog F #[.slice a us.length ca, .slice b ds.length cb, .slice g cs.length cg] w (AnsP us ds cs w)
theorem ptold_facts (us : List RUn) (ds : List CDl) (cs : List CUs) (hc : cs.length ≤ 1048576) (ht : totU cs ≤ 1048576) (hu : ∀ r ∈ cs, UsOK r) : (ptold us ds cs).length ≤ 1048576 ∧ totU (ptold us ds cs) ≤ 1048576 ∧ ∀ r ∈ ptold us ds cs, UsOK r := by
  unfold ptold
  split
  · refine ⟨by rw [List.length_map]; exact hc, ?_, fun r hr => ?_⟩
    · have e : totU (cs.map (told us ds)) = totU cs := by
        unfold totU; rw [List.map_map]; rfl
      omega
    · obtain ⟨u, hu', rfl⟩ := List.mem_map.mp hr
      exact hu u hu'
  · exact ⟨Nat.zero_le _, Nat.zero_le _, fun r hr => nomatch hr⟩
/-- A bargain that lies in a block of its own. -/
def BgAt (W : World) (b : Nat) (x y : Int) (q : Option Addr) (n c : Nat) : Prop := W.cell? ⟨b, 0, none⟩ = some (.int .i64 x) ∧ W.cell? ⟨b, 1, none⟩ = some (.int .i64 y) ∧ W.cell? ⟨b, 2, none⟩ = some (.slice q n c) ∧ b < W.heap.size
theorem BgAt.low {W W' : World} {b : Nat} {x y : Int} {q : Option Addr} {n c D : Nat} (h : BgAt W b x y q n c) (hb : Below D W W') (hD : b < D) : BgAt W' b x y q n c :=
  ⟨(hb.cell (p := ⟨b, 0, none⟩) hD).trans h.1, (hb.cell (p := ⟨b, 1, none⟩) hD).trans h.2.1, (hb.cell (p := ⟨b, 2, none⟩) hD).trans h.2.2.1, Nat.lt_of_lt_of_le h.2.2.2 hb.size⟩
theorem BgAt.later {W W' : World} {b : Nat} {x y : Int} {q : Option Addr} {n c : Nat} (h : BgAt W b x y q n c) (hb : Below W.heap.size W W') : BgAt W' b x y q n c := h.low hb h.2.2.2
theorem BgAt.above {W W' : World} {b : Nat} {x y : Int} {q : Option Addr} {n c lo hi : Nat} (h : BgAt W b x y q n c) (hs : Span lo hi W W') (hD : hi ≤ b) : BgAt W' b x y q n c :=
  ⟨(hs.above hD h.2.2.2 0).1.trans h.1, (hs.above hD h.2.2.2 1).1.trans h.2.1, (hs.above hD h.2.2.2 2).1.trans h.2.2.1, Nat.lt_of_lt_of_le h.2.2.2 hs.1.size⟩
theorem BgAt.new (w : World) (x y : Int) (q : Option Addr) (n c : Nat) (t : TypeId) : BgAt (w.alloc (Obj.cells #[.int .i64 x, .int .i64 y, .slice q n c] t)) w.heap.size x y q n c :=
  ⟨cellNew _ _ _ _ rfl rfl, cellNew _ _ _ _ rfl rfl, cellNew _ _ _ _ rfl rfl, by simp⟩
theorem RowUs.later {lo hi : Nat} {w w' : World} {g : Option Addr} {n : Nat} {F : Nat → CUs} (h : RowUs lo hi w g n F) (hb : Below w.heap.size w w') : RowUs lo hi w' g n F := by
  rcases h with h | ⟨b, G, C, hg, h⟩
  · exact .inl h
  · exact .inr ⟨b, G, C, hg, h.below hb h.1.2.2⟩
theorem Span.wide {lo hi lo' hi' : Nat} {w w' : World} (h : Span lo hi w w') (h1 : lo' ≤ lo) (h2 : hi ≤ hi') : Span lo' hi' w w' := ⟨h.1.mono h1, fun c o k1 k2 => h.2 c o (Nat.le_trans h2 k1) k2⟩
theorem DlMk.apart {lo hi lo' hi' : Nat} {w w' : World} {b n : Nat} {M : Nat → Nat} (h : DlMk lo hi w b n M) (hs : Span lo' hi' w w') (hD : hi' ≤ lo) : DlMk lo hi w' b n M := by
  obtain ⟨⟨h1, h2, h3⟩, h4, h5⟩ := h
  refine ⟨⟨h1, h2, Nat.le_trans h3 hs.1.size⟩, fun j hj => ?_, fun i hi => ?_⟩
  · obtain ⟨k1, k2⟩ := h4 j hj
    obtain ⟨e1, e2⟩ := hs.above (b := b) (by omega) (by omega) j
    exact ⟨by rw [e1]; exact k1, e2.trans k2⟩
  · obtain ⟨c, cp, k1, k2, k3⟩ := h5 i hi
    refine ⟨c, cp, (hs.above (b := b) (by omega) (by omega) _).1.trans k1, k2, fun j hj => ?_⟩
    obtain ⟨e1, e2⟩ := hs.above (b := c) (by omega) (by omega) j
    exact ⟨by rw [e1]; exact (k3 j hj).1, e2.trans (k3 j hj).2⟩
def UnP (W : World) (b : Nat) (us : List RUn) : Prop := b < W.heap.size ∧ UnsAt W b 0 us ∧ FreeUn W b us.length
theorem UnP.later {W W' : World} {b : Nat} {us : List RUn} (h : UnP W b us) (hb : Below W.heap.size W W') : UnP W' b us := ⟨Nat.lt_of_lt_of_le h.1 hb.size, h.2.1.below hb h.1, h.2.2.below hb h.1⟩
theorem UnP.reads {W : World} {b : Nat} {us : List RUn} (h : UnP W b us) : ReadsUn W.heap.size W (some ⟨b, 0, none⟩) us := .inr ⟨_, _, rfl, h.1, h.2.1⟩
theorem keepBB {W w1 : World} {b0 b1 : Nat} {c0 c1 c2 d0 d1 d2 : Value} (hb : Below W.heap.size W w1) (x : W.cell? ⟨b0, 0, none⟩ = some c0 ∧ W.cell? ⟨b0, 1, none⟩ = some c1 ∧ W.cell? ⟨b0, 2, none⟩ = some c2 ∧ b0 < W.heap.size ∧ W.cell? ⟨b1, 0, none⟩ = some d0 ∧ W.cell? ⟨b1, 1, none⟩ = some d1 ∧ W.cell? ⟨b1, 2, none⟩ = some d2 ∧ b1 < W.heap.size) :
    w1.cell? ⟨b0, 0, none⟩ = some c0 ∧ w1.cell? ⟨b0, 1, none⟩ = some c1 ∧ w1.cell? ⟨b0, 2, none⟩ = some c2 ∧ b0 < w1.heap.size ∧ w1.cell? ⟨b1, 0, none⟩ = some d0 ∧ w1.cell? ⟨b1, 1, none⟩ = some d1 ∧ w1.cell? ⟨b1, 2, none⟩ = some d2 ∧ b1 < w1.heap.size := by
  obtain ⟨h0, h1, h2, l0, k0, k1, k2, l1⟩ := x
  exact ⟨(hb.cell (p := ⟨b0, 0, none⟩) l0).trans h0, (hb.cell (p := ⟨b0, 1, none⟩) l0).trans h1, (hb.cell (p := ⟨b0, 2, none⟩) l0).trans h2, Nat.lt_of_lt_of_le l0 hb.size, (hb.cell (p := ⟨b1, 0, none⟩) l1).trans k0, (hb.cell (p := ⟨b1, 1, none⟩) l1).trans k1, (hb.cell (p := ⟨b1, 2, none⟩) l1).trans k2, Nat.lt_of_lt_of_le l1 hb.size⟩
def MK (L : List CUs) : Nat → CUs := mkU 1 (fun i => (L.getD i zUs).us.length)
theorem marks_all (us : List RUn) (ds : List CDl) (cs L : List CUs) (hlen : us.length ≤ 1048576) (hdlen : ds.length ≤ 1048576) (hdt : totD ds ≤ 1048576) (hdok : ∀ r ∈ ds, DlOK r) (hclen : cs.length ≤ 1048576) (hct : totU cs ≤ 1048576) (pl : L.length ≤ 1048576) (pt : totU L ≤ 1048576) :
    ∃ k1 kD kU kL : Nat,
      (∀ b cap W, Mk b (us.length * 2) W W → Calls Try.prog 16 #[.slice (some ⟨b, 0, none⟩) us.length cap, .int .i64 1] W fun e w' => e = .returned (.int .i64 (k1 : Int)) ∧ Mk b (us.length * 2) W w') ∧
      (∀ lo hi b cap W, DlMk lo hi W b ds.length (fun i => (ds.getD i zDl).arts.length) → Calls Try.prog 17 #[.slice (some ⟨b, 0, none⟩) ds.length cap, .int .i64 (k1 : Int)] W fun e w' => e = .returned (.int .i64 (kD : Int)) ∧ Span lo hi W w') ∧
      (∀ lo hi g cap W, RowUs lo hi W g cs.length (fun i => cs.getD i zUs) → Calls Try.prog 18 #[.slice g cs.length cap, .int .i64 (kD : Int)] W fun e w' => e = .returned (.int .i64 (kU : Int)) ∧ Span lo hi W w') ∧
      (∀ x y lo hi g cap W, RowUs lo hi W g L.length (fun i => L.getD i zUs) → hi ≤ W.heap.size → lo ≤ hi → Calls Try.prog 19 #[.agg #[.int .i64 x, .int .i64 y, .slice g L.length cap], .int .i64 1] W fun e w' => e = .returned (.int .i64 (kL : Int)) ∧ Span lo hi W w' ∧ RowUs lo hi w' g L.length (MK L)) ∧
      (∀ x y lo hi g cap W, RowUs lo hi W g L.length (MK L) → hi ≤ W.heap.size → Calls Try.prog 20 #[.agg #[.int .i64 x, .int .i64 y, .slice g L.length cap], .int .i64 1] W fun e w' => e = .returned (.int .i64 (kL : Int)) ∧ Below W.heap.size W w') := by
  have e1 := kAtD_all (1 + us.length * 2) ds
  have e2 := kAt_all (kAtD (1 + us.length * 2) (fun i => (ds.getD i zDl).arts.length) ds.length) cs
  have e3 := kAt_all 1 L
  refine ⟨1 + us.length * 2, kAtD (1 + us.length * 2) (fun i => (ds.getD i zDl).arts.length) ds.length, kAt (kAtD (1 + us.length * 2) (fun i => (ds.getD i zDl).arts.length) ds.length) (fun i => (cs.getD i zUs).us.length) cs.length, kAt 1 (fun i => (L.getD i zUs).us.length) L.length, ?_, ?_, ?_, ?_, ?_⟩
  · intro b cap W hM
    have h := markUns_any b us.length cap hlen 1 (by omega) (by omega) W hM
    rw [show ((1 : Nat) : Int) + (us.length : Int) * 2 = ((1 + us.length * 2 : Nat) : Int) by omega] at h
    exact h
  · intro lo hi b cap W hM
    exact markDls_any lo hi b ds.length cap _ hdlen (fun i hi => (getDl hdok hi).2.1) _ (by omega) (by omega) W hM
  · intro lo hi g cap W hM
    exact (markUss_own lo hi g cs.length cap _ hclen _ (by omega) W hM).mono fun e w' h => ⟨h.1, h.2.1⟩
  · intro x y lo hi g cap W hM h1 h2
    exact markBg_span x y lo hi g L.length cap _ pl 1 (by omega) W hM h1 h2
  · intro x y lo hi g cap W hM h1
    exact heldBg_own x y lo hi g L.length cap _ pl 1 (by omega) W hM h1
namespace PricedLaw
set_option maxHeartbeats 8000000 in
set_option maxRecDepth 4000 in
theorem walk' (SP : SpecP 7) (a : Option Addr) (ca : Nat) (us : List RUn) (hl : us.length ≤ maxLen) (hp : ∀ r ∈ us, UnWide r) (b : Option Addr) (cb : Nat) (ds : List CDl) (hdl : ds.length ≤ maxLen) (hdp : ∀ r ∈ ds, DlWide r) (g : Option Addr) (cg : Nat) (cs : List CUs) (hcl : cs.length ≤ maxLen) (hcp : ∀ r ∈ cs, UsWide r) (w : World) (hr : ReadsUn w.heap.size w a us) (ks : ReadsDl w.heap.size w b ds) (js : ReadsUs w.heap.size w g cs) :
    Calls Try.prog 3 #[.slice a us.length ca, .slice b ds.length cb, .slice g cs.length cg] w fun e w' => e = .returned (.bool true) ∧ Below w.heap.size w w' := by
  have HR : Hid (ReadsUn w.heap.size w a us) := hr
  have KR : Hid (ReadsDl w.heap.size w b ds) := ks
  have JR : Hid (ReadsUs w.heap.size w g cs) := js
  have HZ : Hid (∀ w, ReadsUn w.heap.size w a us → Calls Try.prog 4 #[.slice a us.length ca, .int .i64 1048576] w (SzUn us w)) := fun w h => szUns_any a ca us hl hp 1048576 (by omega) (by omega) w h
  have KZ : Hid (∀ w x, 0 ≤ x → x ≤ 1048576 → ReadsDl w.heap.size w b ds → Calls Try.prog 5 #[.slice b ds.length cb, .int .i64 x] w (SzDs ds w)) := fun w x h0 h1 h => szDls_any b cb ds hdl hdp x h0 h1 w h
  have JZ : Hid (∀ w x, 0 ≤ x → x ≤ 1048576 → ReadsUs w.heap.size w g cs → Calls Try.prog 6 #[.slice g cs.length cg, .int .i64 x] w (SzUs cs w)) := fun w x h0 h1 h => szUss_any g cg cs hcl hcp x h0 h1 w h
  clear hr ks js hp hdp hcp hl hdl hcl
  go_enter Try.func3, Try.ntmps3
  go_wp2_with (go_at_call 4; refine (HZ.out _ HR.out).mono ?_; rintro e w1 ⟨x, rfl, hx, hb1⟩; have HX : Hid (x < 0 ∨ (0 ≤ x ∧ x ≤ 1048576 ∧ us.length ≤ 1048576 ∧ ∀ r ∈ us, UnOK r)) := hx; have B1 : Hid (Below w.heap.size w w1) := hb1; clear hx hb1)
  · go_ret
    exact ⟨rfl, B1.out⟩
  rcases HX.out with h | ⟨hx0, hx1, hlen, hok⟩
  · omega
  have HOK : Hid (∀ r ∈ us, UnOK r) := hok
  clear hok HX HZ
  (first | go_at_call 5 | skip)
  refine (KZ.out w1 x hx0 hx1 (KR.out.later B1.out)).mono ?_
  rintro e w2 ⟨y, rfl, hy, hb2⟩
  have KX : Hid _ := hy
  have B2 : Hid (Below w.heap.size w w2) := chain B1.out hb2
  clear hy hb2
  go_wp2_with fail
  · go_ret
    exact ⟨rfl, B2.out⟩
  rcases KX.out with h | ⟨hy0, hy1, hdlen, hdt, hdok⟩
  · omega
  have KOK : Hid (∀ r ∈ ds, DlOK r) := hdok
  clear hdok KX KZ
  (first | go_at_call 6 | skip)
  refine (JZ.out w2 y hy0 hy1 (JR.out.later B2.out)).mono ?_
  rintro e w3 ⟨z, rfl, hz, hb3⟩
  have JX : Hid _ := hz
  have B3 : Hid (Below w.heap.size w w3) := chain B2.out hb3
  clear hz hb3
  go_wp2_with fail
  · go_ret
    exact ⟨rfl, B3.out⟩
  rcases JX.out with h | ⟨hz0, hz1, hclen, hct, hcok⟩
  · omega
  have JOK : Hid (∀ r ∈ cs, UsOK r) := hcok
  have hS : Hid (∀ a ca b cb g cg w, ReadsUn w.heap.size w a us → ReadsDl w.heap.size w b ds → ReadsUs w.heap.size w g cs → Calls Try.prog 7 #[.slice a us.length ca, .slice b ds.length cb, .slice g cs.length cg] w (AnsP us ds cs w)) := SP us ds cs (by omega) HOK.out (by omega) KOK.out hclen JOK.out
  have hI : Hid (∀ a ca b cb g cg w, ReadsUn w.heap.size w a us → ReadsDl w.heap.size w b ds → ReadsUs w.heap.size w g cs → Calls Try.prog 11 #[.slice a us.length ca, .slice b ds.length cb, .slice g cs.length cg] w (AnsP us ds cs w)) := fun a ca b cb g cg w h k j => implPriced_any a ca us (by omega) HOK.out b cb ds (by omega) KOK.out g cg cs hclen JOK.out w h k j
  have hTU : Hid (∀ w, ReadsUn w.heap.size w a us → Calls Try.prog 8 #[.slice a us.length ca] w fun e w' => e = .returned (.slice (some ⟨w.heap.size, 0, none⟩) us.length us.length) ∧ Below w.heap.size w w' ∧ w.heap.size < w'.heap.size ∧ UnsAt w' w.heap.size 0 us ∧ FreeUn w' w.heap.size us.length) := fun w h => toUns_any a ca us hlen w h
  have hTD : Hid (∀ w, ReadsDl w.heap.size w b ds → Calls Try.prog 9 #[.slice b ds.length cb] w fun e w' => e = .returned (.slice (some ⟨w.heap.size, 0, none⟩) ds.length ds.length) ∧ Below w.heap.size w w' ∧ OwnDl w.heap.size w' w.heap.size ds) := fun w h => toDls_any b cb ds hdlen KOK.out w h
  have hTS : Hid (∀ w, ReadsUs w.heap.size w g cs → Calls Try.prog 10 #[.slice g cs.length cg] w fun e w' => ∃ q, e = .returned (.slice (some ⟨q, 0, none⟩) cs.length cs.length) ∧ Below w.heap.size w w' ∧ OwnUs w.heap.size w' (some ⟨q, 0, none⟩) cs) := fun w h => toUss_any g cg cs hclen JOK.out w h
  obtain ⟨pl, pt, pok⟩ := ptold_facts us ds cs hclen hct JOK.out
  have POK : Hid (∀ r ∈ ptold us ds cs, UsOK r) := pok
  unfold AnsP at hS hI
  generalize ptold us ds cs = L at *
  generalize ptot us ds cs = tt at *
  generalize psav us ds cs = sv at *
  generalize pcode us ds cs = pc at *
  clear hcok JX JZ pok SP
  (first | go_at_call 8 | skip)
  refine (hTU.out w3 ((HR.out.below B3.out).mono B3.out.size)).mono ?_
  rintro e w4 ⟨rfl, hb4, hz4, hi4, hf4⟩
  have B4 : Hid (Below w.heap.size w w4) := chain B3.out hb4
  have U4 : Hid (ReadsUn w4.heap.size w4 (some ⟨w3.heap.size, 0, none⟩) us) := .inr ⟨_, _, rfl, hz4, hi4⟩
  clear hb4 hz4 hi4 hf4
  go_wp2_with fail
  (first | go_at_call 9 | skip)
  refine (hTD.out w4 (KR.out.later B4.out)).mono ?_
  rintro e w5 ⟨rfl, hb5, ho5⟩
  have B5 : Hid (Below w.heap.size w w5) := chain B4.out hb5
  have U5 : Hid (ReadsUn w5.heap.size w5 (some ⟨w3.heap.size, 0, none⟩) us) := (U4.out.below hb5).mono hb5.size
  have D5 : Hid (ReadsDl w5.heap.size w5 (some ⟨w4.heap.size, 0, none⟩) ds) := ho5.reads
  clear hb5 ho5
  go_wp2_with fail
  (first | go_at_call 10 | skip)
  refine (hTS.out w5 (JR.out.later B5.out)).mono ?_
  rintro e w6 ⟨q6, rfl, hb6, ho6⟩
  have B6 : Hid (Below w.heap.size w w6) := chain B5.out hb6
  have U6 : Hid (ReadsUn w6.heap.size w6 (some ⟨w3.heap.size, 0, none⟩) us) := (U5.out.below hb6).mono hb6.size
  have D6 : Hid (ReadsDl w6.heap.size w6 (some ⟨w4.heap.size, 0, none⟩) ds) := D5.out.later hb6
  have S6 : Hid (ReadsUs w6.heap.size w6 (some ⟨q6, 0, none⟩) cs) := ho6.reads
  clear hb6 ho6
  go_wp2_with fail
  (first | go_at_call 7 | skip)
  refine (hS.out _ _ _ _ _ _ w6 U6.out D6.out S6.out).mono ?_
  rintro e w7 ⟨qw, cw, rfl, o7, hb7⟩
  have B7 : Hid (Below w.heap.size w w7) := chain B6.out hb7
  have OW7 : Hid (OwnUs w6.heap.size w7 qw L) := o7
  clear hb7 o7 U4 U5 U6 D5 D6 S6
  go_wp2_with fail
  have BW8 : Hid (BgAt (w7.alloc (Obj.cells #[.int .i64 tt, .int .i64 sv, .slice qw L.length cw] 30)) w7.heap.size tt sv qw L.length cw) := BgAt.new _ _ _ _ _ _ _
  have D8 : Hid (Below w7.heap.size w7 (w7.alloc (Obj.cells #[.int .i64 tt, .int .i64 sv, .slice qw L.length cw] 30))) := below_alloc _ _
  have RW7 : Hid (RowUs w6.heap.size w7.heap.size w7 qw L.length (fun i => L.getD i zUs)) := OW7.out.rowUs
  clear OW7
  (first | go_at_call 8 | skip)
  generalize w7.alloc (Obj.cells #[.int .i64 tt, .int .i64 sv, .slice qw L.length cw] 30) = w8 at *
  have B8 : Hid (Below w.heap.size w w8) := chain B7.out D8.out
  have RW8 : Hid (RowUs w6.heap.size w7.heap.size w8 qw L.length (fun i => L.getD i zUs)) := RW7.out.later D8.out
  have s78 : w7.heap.size < w8.heap.size := BW8.out.2.2.2
  clear D8 RW7
  refine (hTU.out w8 ((HR.out.below B8.out).mono B8.out.size)).mono ?_
  rintro e w9 ⟨rfl, hb9, hz9, hi9, hf9⟩
  have B9 : Hid (Below w.heap.size w w9) := chain B8.out hb9
  have U9 : Hid (UnP w9 w8.heap.size us) := ⟨hz9, hi9, hf9⟩
  have RW9 : Hid (RowUs w6.heap.size w7.heap.size w9 qw L.length (fun i => L.getD i zUs)) := RW8.out.later hb9
  have BW9 : Hid (BgAt w9 w7.heap.size tt sv qw L.length cw) := BW8.out.later hb9
  have s89 : w8.heap.size < w9.heap.size := hz9
  clear hb9 hz9 hi9 hf9 RW8 BW8
  go_wp2_with fail
  (first | go_at_call 9 | skip)
  refine (hTD.out w9 (KR.out.later B9.out)).mono ?_
  rintro e w10 ⟨rfl, hb10, ho10⟩
  have B10 : Hid (Below w.heap.size w w10) := chain B9.out hb10
  have U10 : Hid (UnP w10 w8.heap.size us) := U9.out.later hb10
  have D10 : Hid (ReadsDl w10.heap.size w10 (some ⟨w9.heap.size, 0, none⟩) ds) := ho10.reads
  have M10 : Hid (DlMk w9.heap.size w10.heap.size w10 w9.heap.size ds.length (fun i => (ds.getD i zDl).arts.length)) := ho10.mk
  have RW10 : Hid (RowUs w6.heap.size w7.heap.size w10 qw L.length (fun i => L.getD i zUs)) := RW9.out.later hb10
  have BW10 : Hid (BgAt w10 w7.heap.size tt sv qw L.length cw) := BW9.out.later hb10
  have s9a : w9.heap.size ≤ w10.heap.size := hb10.size
  clear hb10 ho10 U9 RW9 BW9
  go_wp2_with fail
  (first | go_at_call 10 | skip)
  refine (hTS.out w10 (JR.out.later B10.out)).mono ?_
  rintro e w11 ⟨q11, rfl, hb11, ho11⟩
  have B11 : Hid (Below w.heap.size w w11) := chain B10.out hb11
  have U11 : Hid (UnP w11 w8.heap.size us) := U10.out.later hb11
  have D11 : Hid (ReadsDl w11.heap.size w11 (some ⟨w9.heap.size, 0, none⟩) ds) := D10.out.later hb11
  have M11 : Hid (DlMk w9.heap.size w10.heap.size w11 w9.heap.size ds.length (fun i => (ds.getD i zDl).arts.length)) := M10.out.later hb11
  have S11 : Hid (RowUs w10.heap.size w11.heap.size w11 (some ⟨q11, 0, none⟩) cs.length (fun i => cs.getD i zUs)) := ho11.rowUs
  have RW11 : Hid (RowUs w6.heap.size w7.heap.size w11 qw L.length (fun i => L.getD i zUs)) := RW10.out.later hb11
  have BW11 : Hid (BgAt w11 w7.heap.size tt sv qw L.length cw) := BW10.out.later hb11
  have sab : w10.heap.size ≤ w11.heap.size := hb11.size
  clear hb11 ho11 U10 D10 M10 RW10 BW10
  go_wp2_with fail
  (first | go_at_call 11 | skip)
  refine (hI.out _ _ _ _ _ _ w11 U11.out.reads D11.out S11.out.reads).mono ?_
  rintro e w12 ⟨qg, cq, rfl, o12, hb12⟩
  have B12 : Hid (Below w.heap.size w w12) := chain B11.out hb12
  have U12 : Hid (UnP w12 w8.heap.size us) := U11.out.later hb12
  have D12 : Hid (ReadsDl w12.heap.size w12 (some ⟨w9.heap.size, 0, none⟩) ds) := D11.out.later hb12
  have M12 : Hid (DlMk w9.heap.size w10.heap.size w12 w9.heap.size ds.length (fun i => (ds.getD i zDl).arts.length)) := M11.out.later hb12
  have S12 : Hid (RowUs w10.heap.size w11.heap.size w12 (some ⟨q11, 0, none⟩) cs.length (fun i => cs.getD i zUs)) := S11.out.later hb12
  have RW12 : Hid (RowUs w6.heap.size w7.heap.size w12 qw L.length (fun i => L.getD i zUs)) := RW11.out.later hb12
  have BW12 : Hid (BgAt w12 w7.heap.size tt sv qw L.length cw) := BW11.out.later hb12
  have RG12 : Hid (RowUs w11.heap.size w12.heap.size w12 qg L.length (fun i => L.getD i zUs)) := o12.rowUs
  have sbc : w11.heap.size ≤ w12.heap.size := hb12.size
  have BG13 : Hid (BgAt (w12.alloc (Obj.cells #[.int .i64 tt, .int .i64 sv, .slice qg L.length cq] 30)) w12.heap.size tt sv qg L.length cq) := BgAt.new _ _ _ _ _ _ _
  have D13 : Hid (Below w12.heap.size w12 (w12.alloc (Obj.cells #[.int .i64 tt, .int .i64 sv, .slice qg L.length cq] 30))) := below_alloc _ _
  clear hb12 o12 U11 D11 M11 S11 RW11 BW11
  have BW13 : Hid (BgAt (w12.alloc (Obj.cells #[.int .i64 tt, .int .i64 sv, .slice qg L.length cq] 30)) w7.heap.size tt sv qw L.length cw) := BW12.out.later D13.out
  obtain ⟨e0, e1, e2, _⟩ := BW13.out
  go_wp2_with fail
  (first | go_at_call 12 | skip)
  clear e0 e1 e2
  generalize w12.alloc (Obj.cells #[.int .i64 tt, .int .i64 sv, .slice qg L.length cq] 30) = w13 at *
  have B13 : Hid (Below w.heap.size w w13) := chain B12.out D13.out
  have U13 : Hid (UnP w13 w8.heap.size us) := U12.out.later D13.out
  have Dd13 : Hid (ReadsDl w13.heap.size w13 (some ⟨w9.heap.size, 0, none⟩) ds) := D12.out.later D13.out
  have M13 : Hid (DlMk w9.heap.size w10.heap.size w13 w9.heap.size ds.length (fun i => (ds.getD i zDl).arts.length)) := M12.out.later D13.out
  have S13 : Hid (RowUs w10.heap.size w11.heap.size w13 (some ⟨q11, 0, none⟩) cs.length (fun i => cs.getD i zUs)) := S12.out.later D13.out
  have RW13 : Hid (RowUs w6.heap.size w7.heap.size w13 qw L.length (fun i => L.getD i zUs)) := RW12.out.later D13.out
  have RG13 : Hid (RowUs w11.heap.size w12.heap.size w13 qg L.length (fun i => L.getD i zUs)) := RG12.out.later D13.out
  clear U12 D12 M12 S12 RW12 BW12 RG12 D13
  refine (eqBg_any tt sv qg qw cq cw L pl POK.out w13 RG13.out.reads RW13.out.reads).mono ?_
  rintro e w14 ⟨rfl, hb14⟩
  have B14 : Hid (Below w.heap.size w w14) := chain B13.out hb14
  have U14 : Hid (UnP w14 w8.heap.size us) := U13.out.later hb14
  have Dd14 : Hid (ReadsDl w14.heap.size w14 (some ⟨w9.heap.size, 0, none⟩) ds) := Dd13.out.later hb14
  have M14 : Hid (DlMk w9.heap.size w10.heap.size w14 w9.heap.size ds.length (fun i => (ds.getD i zDl).arts.length)) := M13.out.later hb14
  have S14 : Hid (RowUs w10.heap.size w11.heap.size w14 (some ⟨q11, 0, none⟩) cs.length (fun i => cs.getD i zUs)) := S13.out.later hb14
  have RW14 : Hid (RowUs w6.heap.size w7.heap.size w14 qw L.length (fun i => L.getD i zUs)) := RW13.out.later hb14
  have RG14 : Hid (RowUs w11.heap.size w12.heap.size w14 qg L.length (fun i => L.getD i zUs)) := RG13.out.later hb14
  have BW14 : Hid (BgAt w14 w7.heap.size tt sv qw L.length cw) := BW13.out.later hb14
  have BG14 : Hid (BgAt w14 w12.heap.size tt sv qg L.length cq) := BG13.out.later hb14
  clear hb14 U13 Dd13 M13 S13 RW13 RG13 BW13 BG13
  go_wp2_with fail
  (first | go_at_call 8 | skip)
  refine (hTU.out w14 ((HR.out.below B14.out).mono B14.out.size)).mono ?_
  rintro e w15 ⟨rfl, hb15, hz15, hi15, hf15⟩
  have B15 : Hid (Below w.heap.size w w15) := chain B14.out hb15
  have V15 : Hid (UnP w15 w14.heap.size us) := ⟨hz15, hi15, hf15⟩
  have U15 : Hid (UnP w15 w8.heap.size us) := U14.out.later hb15
  have D15 : Hid (Below w14.heap.size w14 w15) := hb15
  clear hb15 hz15 hi15 hf15
  go_wp2_with fail
  (first | go_at_call 13 | skip)
  refine (eqUns_any _ _ _ _ us hlen w15 U15.out.reads V15.out.reads).mono ?_
  rintro e w16 ⟨rfl, hb16⟩
  have B16 : Hid (Below w.heap.size w w16) := chain B15.out hb16
  have D16 : Hid (Below w14.heap.size w14 w16) := chain D15.out hb16
  clear hb16 V15 U15 D15
  go_wp2_with fail
  (first | go_at_call 9 | skip)
  refine (hTD.out w16 (KR.out.later B16.out)).mono ?_
  rintro e w17 ⟨rfl, hb17, ho17⟩
  have B17 : Hid (Below w.heap.size w w17) := chain B16.out hb17
  have D17 : Hid (Below w14.heap.size w14 w17) := chain D16.out hb17
  have V17 : Hid (ReadsDl w17.heap.size w17 (some ⟨w16.heap.size, 0, none⟩) ds) := ho17.reads
  clear hb17 ho17 D16
  go_wp2_with fail
  (first | go_at_call 14 | skip)
  refine (eqDls_any _ _ _ _ ds hdlen KOK.out w17 (Dd14.out.later D17.out) V17.out).mono ?_
  rintro e w18 ⟨rfl, hb18⟩
  have B18 : Hid (Below w.heap.size w w18) := chain B17.out hb18
  have D18 : Hid (Below w14.heap.size w14 w18) := chain D17.out hb18
  clear hb18 V17 D17
  go_wp2_with fail
  (first | go_at_call 10 | skip)
  refine (hTS.out w18 (JR.out.later B18.out)).mono ?_
  rintro e w19 ⟨q19, rfl, hb19, ho19⟩
  have B19 : Hid (Below w.heap.size w w19) := chain B18.out hb19
  have D19 : Hid (Below w14.heap.size w14 w19) := chain D18.out hb19
  have V19 : Hid (ReadsUs w19.heap.size w19 (some ⟨q19, 0, none⟩) cs) := ho19.reads
  clear hb19 ho19 D18
  go_wp2_with fail
  (first | go_at_call 15 | skip)
  refine (eqUss_any _ _ _ _ cs hclen JOK.out w19 (S14.out.later D19.out).reads V19.out).mono ?_
  rintro e w20 ⟨rfl, hb20⟩
  have B20 : Hid (Below w.heap.size w w20) := chain B19.out hb20
  have D20 : Hid (Below w14.heap.size w14 w20) := chain D19.out hb20
  have U20 : Hid (UnP w20 w8.heap.size us) := U14.out.later D20.out
  have M20 : Hid (DlMk w9.heap.size w10.heap.size w20 w9.heap.size ds.length (fun i => (ds.getD i zDl).arts.length)) := M14.out.later D20.out
  have S20 : Hid (RowUs w10.heap.size w11.heap.size w20 (some ⟨q11, 0, none⟩) cs.length (fun i => cs.getD i zUs)) := S14.out.later D20.out
  have RW20 : Hid (RowUs w6.heap.size w7.heap.size w20 qw L.length (fun i => L.getD i zUs)) := RW14.out.later D20.out
  have RG20 : Hid (RowUs w11.heap.size w12.heap.size w20 qg L.length (fun i => L.getD i zUs)) := RG14.out.later D20.out
  have BW20 : Hid (BgAt w20 w7.heap.size tt sv qw L.length cw) := BW14.out.later D20.out
  have BG20 : Hid (BgAt w20 w12.heap.size tt sv qg L.length cq) := BG14.out.later D20.out
  clear hb20 V19 D19 D20 U14 Dd14 M14 S14 RW14 RG14 BW14 BG14
  go_wp2_with fail
  obtain ⟨k1, kD, kU, kL, hm1, hm2, hm3, hm4, hm5⟩ := marks_all us ds cs L hlen hdlen hdt KOK.out hclen hct pl pt
  have HM1 : Hid _ := hm1
  have HM2 : Hid _ := hm2
  have HM3 : Hid _ := hm3
  have HM4 : Hid _ := hm4
  have HM5 : Hid _ := hm5
  clear hm1 hm2 hm3 hm4 hm5
  have p1 : ¬ ((kU : Int) < 0) := by omega
  have p2 : ¬ ((kL : Int) < 0) := by omega
  (first | go_at_call 16 | skip)
  refine (HM1.out w8.heap.size us.length w20 (Mk.start U20.out.1 (uns_some U20.out.2.1) U20.out.2.2)).mono ?_
  rintro e w21 ⟨rfl, hm21⟩
  have N21 : Hid (Span w8.heap.size w9.heap.size w20 w21) := Span.ofMk hm21 (Nat.le_refl _) s89
  have M21 : Hid (DlMk w9.heap.size w10.heap.size w21 w9.heap.size ds.length (fun i => (ds.getD i zDl).arts.length)) := M20.out.apart N21.out (Nat.le_refl _)
  have S21 : Hid (RowUs w10.heap.size w11.heap.size w21 (some ⟨q11, 0, none⟩) cs.length (fun i => cs.getD i zUs)) := S20.out.apart N21.out s9a
  clear hm21 M20 S20 U20
  go_wp2_with fail
  (first | go_at_call 17 | skip)
  refine (HM2.out _ _ _ _ w21 M21.out).mono ?_
  rintro e w22 ⟨rfl, hm22⟩
  have N22 : Hid (Span w8.heap.size w10.heap.size w20 w22) := (N21.out.wide (Nat.le_refl _) s9a).trans (hm22.wide (Nat.le_of_lt s89) (Nat.le_refl _))
  have S22 : Hid (RowUs w10.heap.size w11.heap.size w22 (some ⟨q11, 0, none⟩) cs.length (fun i => cs.getD i zUs)) := S21.out.apart hm22 (Nat.le_refl _)
  clear hm22 M21 S21 N21
  go_wp2_with fail
  (first | go_at_call 18 | skip)
  refine (HM3.out _ _ _ _ w22 S22.out).mono ?_
  rintro e w23 ⟨rfl, hm23⟩
  have N23 : Hid (Span w8.heap.size w11.heap.size w20 w23) := (N22.out.wide (Nat.le_refl _) sab).trans (hm23.wide (Nat.le_trans (Nat.le_of_lt s89) s9a) (Nat.le_refl _))
  have B23 : Hid (Below w.heap.size w w23) := B20.out.trans (N23.out.1.mono B8.out.size)
  have RW23 : Hid (RowUs w6.heap.size w7.heap.size w23 qw L.length (fun i => L.getD i zUs)) := RW20.out.below N23.out.1 (Nat.le_of_lt s78)
  have RG23 : Hid (RowUs w11.heap.size w12.heap.size w23 qg L.length (fun i => L.getD i zUs)) := RG20.out.apart N23.out (Nat.le_refl _)
  have BW23 : Hid (BgAt w23 w7.heap.size tt sv qw L.length cw) := BW20.out.low N23.out.1 s78
  have BG23 : Hid (BgAt w23 w12.heap.size tt sv qg L.length cq) := BG20.out.above N23.out sbc
  clear hm23 S22 N22 N23 RW20 RG20 BW20 BG20
  obtain ⟨e0, e1, e2, _⟩ := BW23.out
  obtain ⟨f0, f1, f2, _⟩ := BG23.out
  go_wp2_with fail
  (first | go_at_call 12 | skip)
  clear e0 e1 e2 f0 f1 f2
  refine (eqBg_any tt sv qg qw cq cw L pl POK.out w23 RG23.out.reads RW23.out.reads).mono ?_
  rintro e w24 ⟨rfl, hb24⟩
  have B24 : Hid (Below w.heap.size w w24) := chain B23.out hb24
  have RW24 : Hid (RowUs w6.heap.size w7.heap.size w24 qw L.length (fun i => L.getD i zUs)) := RW23.out.later hb24
  have RG24 : Hid (RowUs w11.heap.size w12.heap.size w24 qg L.length (fun i => L.getD i zUs)) := RG23.out.later hb24
  have BW24 : Hid (BgAt w24 w7.heap.size tt sv qw L.length cw) := BW23.out.later hb24
  have BG24 : Hid (BgAt w24 w12.heap.size tt sv qg L.length cq) := BG23.out.later hb24
  clear hb24 RW23 RG23 BW23 BG23
  obtain ⟨f0, f1, f2, _⟩ := BG24.out
  go_wp2_with fail
  (first | go_at_call 19 | skip)
  clear f0 f1 f2
  refine (HM4.out _ _ _ _ _ _ w24 RG24.out (Nat.le_of_lt BG24.out.2.2.2) sbc).mono ?_
  rintro e w25 ⟨rfl, hm25, hr25⟩
  have B25 : Hid (Below w.heap.size w w25) := B24.out.trans (hm25.1.mono B11.out.size)
  have RW25 : Hid (RowUs w6.heap.size w7.heap.size w25 qw L.length (fun i => L.getD i zUs)) := RW24.out.below hm25.1 (by omega)
  have RG25 : Hid (RowUs w11.heap.size w12.heap.size w25 qg L.length (MK L)) := hr25
  have BW25 : Hid (BgAt w25 w7.heap.size tt sv qw L.length cw) := BW24.out.low hm25.1 (by omega)
  have BG25 : Hid (BgAt w25 w12.heap.size tt sv qg L.length cq) := BG24.out.above hm25 (Nat.le_refl _)
  clear hm25 hr25 RW24 RG24 BW24 BG24
  obtain ⟨f0, f1, f2, _⟩ := BG25.out
  go_wp2_with fail
  (first | go_at_call 20 | skip)
  clear f0 f1 f2
  refine (HM5.out _ _ _ _ _ _ w25 RG25.out (Nat.le_of_lt BG25.out.2.2.2)).mono ?_
  rintro e w26 ⟨rfl, hb26⟩
  have B26 : Hid (Below w.heap.size w w26) := chain B25.out hb26
  have RW26 : Hid (RowUs w6.heap.size w7.heap.size w26 qw L.length (fun i => L.getD i zUs)) := RW25.out.later hb26
  have RG26 : Hid (RowUs w11.heap.size w12.heap.size w26 qg L.length (MK L)) := RG25.out.later hb26
  have BW26 : Hid (BgAt w26 w7.heap.size tt sv qw L.length cw) := BW25.out.later hb26
  have BG26 : Hid (BgAt w26 w12.heap.size tt sv qg L.length cq) := BG25.out.later hb26
  clear hb26 RW25 RG25 BW25 BG25
  go_wp2_with fail
  (first | go_at_call 8 | skip)
  refine (hTU.out w26 ((HR.out.below B26.out).mono B26.out.size)).mono ?_
  rintro e w27 ⟨rfl, hb27, hz27, hi27, hf27⟩
  have B27 : Hid (Below w.heap.size w w27) := chain B26.out hb27
  have V27 : Hid (UnP w27 w26.heap.size us) := ⟨hz27, hi27, hf27⟩
  have D27 : Hid (Below w26.heap.size w26 w27) := hb27
  clear hb27 hz27 hi27 hf27
  go_wp2_with fail
  (first | go_at_call 9 | skip)
  refine (hTD.out w27 (KR.out.later B27.out)).mono ?_
  rintro e w28 ⟨rfl, hb28, ho28⟩
  have B28 : Hid (Below w.heap.size w w28) := chain B27.out hb28
  have D28 : Hid (Below w26.heap.size w26 w28) := chain D27.out hb28
  have U28 : Hid (UnP w28 w26.heap.size us) := V27.out.later hb28
  have V28 : Hid (ReadsDl w28.heap.size w28 (some ⟨w27.heap.size, 0, none⟩) ds) := ho28.reads
  clear hb28 ho28 D27 V27
  go_wp2_with fail
  (first | go_at_call 10 | skip)
  refine (hTS.out w28 (JR.out.later B28.out)).mono ?_
  rintro e w29 ⟨q29, rfl, hb29, ho29⟩
  have B29 : Hid (Below w.heap.size w w29) := chain B28.out hb29
  have D29 : Hid (Below w26.heap.size w26 w29) := chain D28.out hb29
  have U29 : Hid (UnP w29 w26.heap.size us) := U28.out.later hb29
  have V29 : Hid (ReadsDl w29.heap.size w29 (some ⟨w27.heap.size, 0, none⟩) ds) := V28.out.later hb29
  have S29 : Hid (ReadsUs w29.heap.size w29 (some ⟨q29, 0, none⟩) cs) := ho29.reads
  clear hb29 ho29 D28 U28 V28
  go_wp2_with fail
  (first | go_at_call 11 | skip)
  refine (hI.out _ _ _ _ _ _ w29 U29.out.reads V29.out S29.out).mono ?_
  rintro e w30 ⟨qh, ch, rfl, o30, hb30⟩
  have B30 : Hid (Below w.heap.size w w30) := chain B29.out hb30
  have D30 : Hid (Below w26.heap.size w26 w30) := chain D29.out hb30
  have RH30 : Hid (RowUs w29.heap.size w30.heap.size w30 qh L.length (fun i => L.getD i zUs)) := o30.rowUs
  clear hb30 o30 D29 U29 V29 S29
  have BH31 : Hid (BgAt (w30.alloc (Obj.cells #[.int .i64 tt, .int .i64 sv, .slice qh L.length ch] 30)) w30.heap.size tt sv qh L.length ch) := BgAt.new _ _ _ _ _ _ _
  have A31 : Hid (Below w30.heap.size w30 (w30.alloc (Obj.cells #[.int .i64 tt, .int .i64 sv, .slice qh L.length ch] 30))) := below_alloc _ _
  have BW31 : Hid (BgAt (w30.alloc (Obj.cells #[.int .i64 tt, .int .i64 sv, .slice qh L.length ch] 30)) w7.heap.size tt sv qw L.length cw) := BW26.out.later (chain D30.out A31.out)
  obtain ⟨e0, e1, e2, _⟩ := BW31.out
  go_wp2_with fail
  (first | go_at_call 12 | skip)
  clear e0 e1 e2 BH31 BW31
  generalize w30.alloc (Obj.cells #[.int .i64 tt, .int .i64 sv, .slice qh L.length ch] 30) = w31 at *
  have B31 : Hid (Below w.heap.size w w31) := chain B30.out A31.out
  have D31 : Hid (Below w26.heap.size w26 w31) := chain D30.out A31.out
  have RH31 : Hid (RowUs w29.heap.size w30.heap.size w31 qh L.length (fun i => L.getD i zUs)) := RH30.out.later A31.out
  refine (eqBg_any tt sv qh qw ch cw L pl POK.out w31 RH31.out.reads (RW26.out.later D31.out).reads).mono ?_
  rintro e w32 ⟨rfl, hb32⟩
  have B32 : Hid (Below w.heap.size w w32) := chain B31.out hb32
  have D32 : Hid (Below w26.heap.size w26 w32) := chain D31.out hb32
  have RG32 : Hid (RowUs w11.heap.size w12.heap.size w32 qg L.length (MK L)) := RG26.out.later D32.out
  have BG32 : Hid (BgAt w32 w12.heap.size tt sv qg L.length cq) := BG26.out.later D32.out
  clear hb32 RH30 RH31 RW26 RG26 BW26 BG26 D30 D31 D32 A31
  obtain ⟨f0, f1, f2, _⟩ := BG32.out
  go_wp2_with fail
  (first | go_at_call 20 | skip)
  clear f0 f1 f2
  refine (HM5.out _ _ _ _ _ _ w32 RG32.out (Nat.le_of_lt BG32.out.2.2.2)).mono ?_
  rintro e w33 ⟨rfl, hb33⟩
  have B33 : Hid (Below w.heap.size w w33) := chain B32.out hb33
  clear hb33
  go_wp2
  go_ret
  exact ⟨rfl, B33.out⟩
end PricedLaw
end Go.Proofs.Ytlnhnocegfnllaa
