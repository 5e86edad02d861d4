/-
  Texts of this claim laid together: BestW.
-/
import Derived.Test.YtbijgoaanphojaaM45
import Derived.Test.YtbijgoaanphojaaM39
/-
  The walk through the law FnExactBest, with what the specification's Best does as a premise.
-/
namespace Go.Proofs.Ytbijgoaanphojaa
open Go.ChangeShapes Go.WideShapes Go.ChangeAt Go.RowKit Go.Joins
open Go.ChangeMaps (open_string shut_string)
set_option linter.unusedVariables false

/-- What the specification's Best is known to do, by its own text. -/
def SpecB (F : Nat) : Prop := ∀ (us : List RUn) (ds : List CDl), us.length ≤ 100000000 → (∀ r ∈ us, UnOK r) → ds.length ≤ 100000000 → (∀ r ∈ ds, DlOK r) →
  ∀ (a : Option Addr) (ca : Nat) (b : Option Addr) (cb : Nat) (w : World), ReadsUn w.heap.size w a us → ReadsDl w.heap.size w b ds → Calls Try.prog F #[.slice a us.length ca, .slice b ds.length cb] w (AnsP us ds (bsU us ds) w)
theorem sum_four : ∀ (l : List Nat), (∀ x ∈ l, x ≤ 4) → l.sum ≤ 4 * l.length
  | [], _ => by simp
  | x :: l, h => by
    have h1 := sum_four l (fun y hy => h y (List.mem_cons_of_mem _ hy))
    have h2 := h x List.mem_cons_self
    simp only [List.sum_cons, List.length_cons]
    omega
theorem bsU_tot {us : List RUn} {ds : List CDl} : totU (bsU us ds) ≤ 1048576 := by
  have h := sum_four ((bsU us ds).map (fun r => r.us.length)) (fun x hx => by
    obtain ⟨r, hr, rfl⟩ := List.mem_map.1 hx
    have := (bsU_good r hr).2.2.2.1.1
    rw [List.length_map] at this
    exact this.2)
  have h8 := bsU_len (us := us) (ds := ds)
  rw [List.length_map] at h
  unfold totU
  omega
namespace BestLaw
set_option maxHeartbeats 8000000 in
set_option maxRecDepth 4000 in
theorem walk' (SP : SpecB 11) (a : Option Addr) (ca : Nat) (us : List RUn) (hl : us.length ≤ maxLen) (hp : ∀ r ∈ us, UnWide r) (b : Option Addr) (cb : Nat) (ds : List CDl) (hdl : ds.length ≤ maxLen) (hdp : ∀ r ∈ ds, DlWide r) (w : World) (hr : ReadsUn w.heap.size w a us) (ks : ReadsDl w.heap.size w b ds) :
    Calls Try.prog 4 #[.slice a us.length ca, .slice b ds.length cb] w fun e w' => e = .returned (.bool true) ∧ Below w.heap.size w w' := by
  have HR : Hid (ReadsUn w.heap.size w a us) := hr
  have KR : Hid (ReadsDl w.heap.size w b ds) := ks
  have HZ : Hid (∀ w, ReadsUn w.heap.size w a us → Calls Try.prog 9 #[.slice a us.length ca, .int .i64 1048576] w (SzUn us w)) := fun w h => szUns_any a ca us hl hp 1048576 (by omega) (by omega) w h
  have KZ : Hid (∀ w x, 0 ≤ x → x ≤ 1048576 → ReadsDl w.heap.size w b ds → Calls Try.prog 10 #[.slice b ds.length cb, .int .i64 x] w (SzDs ds w)) := fun w x h0 h1 h => szDls_any b cb ds hdl hdp x h0 h1 w h
  clear hr ks hp hdp hl hdl
  go_enter Try.func4, Try.ntmps4
  go_wp2_with (go_at_call 9; refine (HZ.out _ HR.out).mono ?_; rintro e w1 ⟨x, rfl, hx, hb1⟩; have HX : Hid (x < 0 ∨ (0 ≤ x ∧ x ≤ 1048576 ∧ us.length ≤ 1048576 ∧ ∀ r ∈ us, UnOK r)) := hx; have B1 : Hid (Below w.heap.size w w1) := hb1; clear hx hb1)
  · go_ret
    exact ⟨rfl, B1.out⟩
  rcases HX.out with h | ⟨hx0, hx1, hlen, hok⟩
  · omega
  have HOK : Hid (∀ r ∈ us, UnOK r) := hok
  clear hok HX HZ
  (first | go_at_call 10 | skip)
  refine (KZ.out w1 x hx0 hx1 (KR.out.later B1.out)).mono ?_
  rintro e w2 ⟨y, rfl, hy, hb2⟩
  have KX : Hid _ := hy
  have B2 : Hid (Below w.heap.size w w2) := chain B1.out hb2
  clear hy hb2
  go_wp2_with fail
  · go_ret
    exact ⟨rfl, B2.out⟩
  rcases KX.out with h | ⟨hy0, hy1, hdlen, hdt, hdok⟩
  · omega
  have KOK : Hid (∀ r ∈ ds, DlOK r) := hdok
  clear hdok KX KZ
  obtain ⟨w3, rfl⟩ : ∃ w3, w3 = w2 := ⟨_, rfl⟩
  have B3 : Hid (Below w.heap.size w w3) := B2.out
  have hS : Hid (∀ a ca b cb w, ReadsUn w.heap.size w a us → ReadsDl w.heap.size w b ds → Calls Try.prog 11 #[.slice a us.length ca, .slice b ds.length cb] w (AnsP us ds (bsU us ds) w)) := SP us ds (by omega) HOK.out (by omega) KOK.out
  have hI : Hid (∀ a ca b cb w, ReadsUn w.heap.size w a us → ReadsDl w.heap.size w b ds → Calls Try.prog 6 #[.slice a us.length ca, .slice b ds.length cb] w (AnsP us ds (bsU us ds) w)) := fun a ca b cb w h k => implBest_any a ca us (by omega) HOK.out b cb ds (by omega) KOK.out w h k
  have hTU : Hid (∀ w, ReadsUn w.heap.size w a us → Calls Try.prog 12 #[.slice a us.length ca] w fun e w' => e = .returned (.slice (some ⟨w.heap.size, 0, none⟩) us.length us.length) ∧ Below w.heap.size w w' ∧ w.heap.size < w'.heap.size ∧ UnsAt w' w.heap.size 0 us ∧ FreeUn w' w.heap.size us.length) := fun w h => toUns_any a ca us hlen w h
  have hTD : Hid (∀ w, ReadsDl w.heap.size w b ds → Calls Try.prog 13 #[.slice b ds.length cb] w fun e w' => e = .returned (.slice (some ⟨w.heap.size, 0, none⟩) ds.length ds.length) ∧ Below w.heap.size w w' ∧ OwnDl w.heap.size w' w.heap.size ds) := fun w h => toDls_any b cb ds hdlen KOK.out w h
  obtain ⟨pl, pt, pok⟩ := ptold_facts us ds (bsU us ds) (Nat.le_trans bsU_len (by omega)) bsU_tot bsU_ok
  have POK : Hid (∀ r ∈ ptold us ds (bsU us ds), UsOK r) := pok
  unfold AnsP at hS hI
  generalize ptold us ds (bsU us ds) = L at *
  generalize ptot us ds (bsU us ds) = tt at *
  generalize psav us ds (bsU us ds) = sv at *
  generalize pcode us ds (bsU us ds) = pc at *
  clear pok SP
  (first | go_at_call 12 | skip)
  refine (hTU.out w3 ((HR.out.below B3.out).mono B3.out.size)).mono ?_
  rintro e w4 ⟨rfl, hb4, hz4, hi4, hf4⟩
  have B4 : Hid (Below w.heap.size w w4) := chain B3.out hb4
  have U4 : Hid (ReadsUn w4.heap.size w4 (some ⟨w3.heap.size, 0, none⟩) us) := .inr ⟨_, _, rfl, hz4, hi4⟩
  clear hb4 hz4 hi4 hf4
  go_wp2_with fail
  (first | go_at_call 13 | skip)
  refine (hTD.out w4 (KR.out.later B4.out)).mono ?_
  rintro e w5 ⟨rfl, hb5, ho5⟩
  have B5 : Hid (Below w.heap.size w w5) := chain B4.out hb5
  have U5 : Hid (ReadsUn w5.heap.size w5 (some ⟨w3.heap.size, 0, none⟩) us) := (U4.out.below hb5).mono hb5.size
  have D5 : Hid (ReadsDl w5.heap.size w5 (some ⟨w4.heap.size, 0, none⟩) ds) := ho5.reads
  clear hb5 ho5
  obtain ⟨w6, rfl⟩ : ∃ w6, w6 = w5 := ⟨_, rfl⟩
  have hb6 : Below w6.heap.size w6 w6 := Below.refl _ _
  have B6 : Hid (Below w.heap.size w w6) := chain B5.out hb6
  have U6 : Hid (ReadsUn w6.heap.size w6 (some ⟨w3.heap.size, 0, none⟩) us) := (U5.out.below hb6).mono hb6.size
  have D6 : Hid (ReadsDl w6.heap.size w6 (some ⟨w4.heap.size, 0, none⟩) ds) := D5.out.later hb6
  clear hb6
  go_wp2_with fail
  (first | go_at_call 11 | skip)
  refine (hS.out _ _ _ _ w6 U6.out D6.out).mono ?_
  rintro e w7 ⟨qw, cw, rfl, o7, hb7⟩
  have B7 : Hid (Below w.heap.size w w7) := chain B6.out hb7
  have OW7 : Hid (OwnUs w6.heap.size w7 qw L) := o7
  clear hb7 o7 U4 U5 U6 D5 D6
  go_wp2_with fail
  have BW8 : Hid (BgAt (w7.alloc (Obj.cells #[.int .i64 tt, .int .i64 sv, .slice qw L.length cw] 29)) w7.heap.size tt sv qw L.length cw) := BgAt.new _ _ _ _ _ _ _
  have D8 : Hid (Below w7.heap.size w7 (w7.alloc (Obj.cells #[.int .i64 tt, .int .i64 sv, .slice qw L.length cw] 29))) := below_alloc _ _
  have RW7 : Hid (RowUs w6.heap.size w7.heap.size w7 qw L.length (fun i => L.getD i zUs)) := OW7.out.rowUs
  clear OW7
  (first | go_at_call 12 | skip)
  generalize w7.alloc (Obj.cells #[.int .i64 tt, .int .i64 sv, .slice qw L.length cw] 29) = w8 at *
  have B8 : Hid (Below w.heap.size w w8) := chain B7.out D8.out
  have RW8 : Hid (RowUs w6.heap.size w7.heap.size w8 qw L.length (fun i => L.getD i zUs)) := RW7.out.later D8.out
  have s78 : w7.heap.size < w8.heap.size := BW8.out.2.2.2
  clear D8 RW7
  refine (hTU.out w8 ((HR.out.below B8.out).mono B8.out.size)).mono ?_
  rintro e w9 ⟨rfl, hb9, hz9, hi9, hf9⟩
  have B9 : Hid (Below w.heap.size w w9) := chain B8.out hb9
  have U9 : Hid (UnP w9 w8.heap.size us) := ⟨hz9, hi9, hf9⟩
  have RW9 : Hid (RowUs w6.heap.size w7.heap.size w9 qw L.length (fun i => L.getD i zUs)) := RW8.out.later hb9
  have BW9 : Hid (BgAt w9 w7.heap.size tt sv qw L.length cw) := BW8.out.later hb9
  have s89 : w8.heap.size < w9.heap.size := hz9
  clear hb9 hz9 hi9 hf9 RW8 BW8
  go_wp2_with fail
  (first | go_at_call 13 | skip)
  refine (hTD.out w9 (KR.out.later B9.out)).mono ?_
  rintro e w10 ⟨rfl, hb10, ho10⟩
  have B10 : Hid (Below w.heap.size w w10) := chain B9.out hb10
  have U10 : Hid (UnP w10 w8.heap.size us) := U9.out.later hb10
  have D10 : Hid (ReadsDl w10.heap.size w10 (some ⟨w9.heap.size, 0, none⟩) ds) := ho10.reads
  have M10 : Hid (DlMk w9.heap.size w10.heap.size w10 w9.heap.size ds.length (fun i => (ds.getD i zDl).arts.length)) := ho10.mk
  have RW10 : Hid (RowUs w6.heap.size w7.heap.size w10 qw L.length (fun i => L.getD i zUs)) := RW9.out.later hb10
  have BW10 : Hid (BgAt w10 w7.heap.size tt sv qw L.length cw) := BW9.out.later hb10
  have s9a : w9.heap.size ≤ w10.heap.size := hb10.size
  clear hb10 ho10 U9 RW9 BW9
  obtain ⟨w11, rfl⟩ : ∃ w11, w11 = w10 := ⟨_, rfl⟩
  have hb11 : Below w11.heap.size w11 w11 := Below.refl _ _
  have B11 : Hid (Below w.heap.size w w11) := chain B10.out hb11
  have U11 : Hid (UnP w11 w8.heap.size us) := U10.out.later hb11
  have D11 : Hid (ReadsDl w11.heap.size w11 (some ⟨w9.heap.size, 0, none⟩) ds) := D10.out.later hb11
  have M11 : Hid (DlMk w9.heap.size w11.heap.size w11 w9.heap.size ds.length (fun i => (ds.getD i zDl).arts.length)) := M10.out.later hb11
  have RW11 : Hid (RowUs w6.heap.size w7.heap.size w11 qw L.length (fun i => L.getD i zUs)) := RW10.out.later hb11
  have BW11 : Hid (BgAt w11 w7.heap.size tt sv qw L.length cw) := BW10.out.later hb11
  have sab : w11.heap.size ≤ w11.heap.size := hb11.size
  clear hb11 U10 D10 M10 RW10 BW10
  go_wp2_with fail
  (first | go_at_call 6 | skip)
  refine (hI.out _ _ _ _ w11 U11.out.reads D11.out).mono ?_
  rintro e w12 ⟨qg, cq, rfl, o12, hb12⟩
  have B12 : Hid (Below w.heap.size w w12) := chain B11.out hb12
  have U12 : Hid (UnP w12 w8.heap.size us) := U11.out.later hb12
  have D12 : Hid (ReadsDl w12.heap.size w12 (some ⟨w9.heap.size, 0, none⟩) ds) := D11.out.later hb12
  have M12 : Hid (DlMk w9.heap.size w11.heap.size w12 w9.heap.size ds.length (fun i => (ds.getD i zDl).arts.length)) := M11.out.later hb12
  have RW12 : Hid (RowUs w6.heap.size w7.heap.size w12 qw L.length (fun i => L.getD i zUs)) := RW11.out.later hb12
  have BW12 : Hid (BgAt w12 w7.heap.size tt sv qw L.length cw) := BW11.out.later hb12
  have RG12 : Hid (RowUs w11.heap.size w12.heap.size w12 qg L.length (fun i => L.getD i zUs)) := o12.rowUs
  have sbc : w11.heap.size ≤ w12.heap.size := hb12.size
  have BG13 : Hid (BgAt (w12.alloc (Obj.cells #[.int .i64 tt, .int .i64 sv, .slice qg L.length cq] 29)) w12.heap.size tt sv qg L.length cq) := BgAt.new _ _ _ _ _ _ _
  have D13 : Hid (Below w12.heap.size w12 (w12.alloc (Obj.cells #[.int .i64 tt, .int .i64 sv, .slice qg L.length cq] 29))) := below_alloc _ _
  clear hb12 o12 U11 D11 M11 RW11 BW11
  have BW13 : Hid (BgAt (w12.alloc (Obj.cells #[.int .i64 tt, .int .i64 sv, .slice qg L.length cq] 29)) w7.heap.size tt sv qw L.length cw) := BW12.out.later D13.out
  obtain ⟨e0, e1, e2, _⟩ := BW13.out
  go_wp2_with fail
  (first | go_at_call 14 | skip)
  clear e0 e1 e2
  generalize w12.alloc (Obj.cells #[.int .i64 tt, .int .i64 sv, .slice qg L.length cq] 29) = w13 at *
  have B13 : Hid (Below w.heap.size w w13) := chain B12.out D13.out
  have U13 : Hid (UnP w13 w8.heap.size us) := U12.out.later D13.out
  have Dd13 : Hid (ReadsDl w13.heap.size w13 (some ⟨w9.heap.size, 0, none⟩) ds) := D12.out.later D13.out
  have M13 : Hid (DlMk w9.heap.size w11.heap.size w13 w9.heap.size ds.length (fun i => (ds.getD i zDl).arts.length)) := M12.out.later D13.out
  have RW13 : Hid (RowUs w6.heap.size w7.heap.size w13 qw L.length (fun i => L.getD i zUs)) := RW12.out.later D13.out
  have RG13 : Hid (RowUs w11.heap.size w12.heap.size w13 qg L.length (fun i => L.getD i zUs)) := RG12.out.later D13.out
  clear U12 D12 M12 RW12 BW12 RG12 D13
  refine (eqBg_any tt sv qg qw cq cw L pl POK.out w13 RG13.out.reads RW13.out.reads).mono ?_
  rintro e w14 ⟨rfl, hb14⟩
  have B14 : Hid (Below w.heap.size w w14) := chain B13.out hb14
  have U14 : Hid (UnP w14 w8.heap.size us) := U13.out.later hb14
  have Dd14 : Hid (ReadsDl w14.heap.size w14 (some ⟨w9.heap.size, 0, none⟩) ds) := Dd13.out.later hb14
  have M14 : Hid (DlMk w9.heap.size w11.heap.size w14 w9.heap.size ds.length (fun i => (ds.getD i zDl).arts.length)) := M13.out.later hb14
  have RW14 : Hid (RowUs w6.heap.size w7.heap.size w14 qw L.length (fun i => L.getD i zUs)) := RW13.out.later hb14
  have RG14 : Hid (RowUs w11.heap.size w12.heap.size w14 qg L.length (fun i => L.getD i zUs)) := RG13.out.later hb14
  have BW14 : Hid (BgAt w14 w7.heap.size tt sv qw L.length cw) := BW13.out.later hb14
  have BG14 : Hid (BgAt w14 w12.heap.size tt sv qg L.length cq) := BG13.out.later hb14
  clear hb14 U13 Dd13 M13 RW13 RG13 BW13 BG13
  go_wp2_with fail
  (first | go_at_call 12 | skip)
  refine (hTU.out w14 ((HR.out.below B14.out).mono B14.out.size)).mono ?_
  rintro e w15 ⟨rfl, hb15, hz15, hi15, hf15⟩
  have B15 : Hid (Below w.heap.size w w15) := chain B14.out hb15
  have V15 : Hid (UnP w15 w14.heap.size us) := ⟨hz15, hi15, hf15⟩
  have U15 : Hid (UnP w15 w8.heap.size us) := U14.out.later hb15
  have D15 : Hid (Below w14.heap.size w14 w15) := hb15
  clear hb15 hz15 hi15 hf15
  go_wp2_with fail
  (first | go_at_call 15 | skip)
  refine (eqUns_any _ _ _ _ us hlen w15 U15.out.reads V15.out.reads).mono ?_
  rintro e w16 ⟨rfl, hb16⟩
  have B16 : Hid (Below w.heap.size w w16) := chain B15.out hb16
  have D16 : Hid (Below w14.heap.size w14 w16) := chain D15.out hb16
  clear hb16 V15 U15 D15
  go_wp2_with fail
  (first | go_at_call 13 | skip)
  refine (hTD.out w16 (KR.out.later B16.out)).mono ?_
  rintro e w17 ⟨rfl, hb17, ho17⟩
  have B17 : Hid (Below w.heap.size w w17) := chain B16.out hb17
  have D17 : Hid (Below w14.heap.size w14 w17) := chain D16.out hb17
  have V17 : Hid (ReadsDl w17.heap.size w17 (some ⟨w16.heap.size, 0, none⟩) ds) := ho17.reads
  clear hb17 ho17 D16
  go_wp2_with fail
  (first | go_at_call 16 | skip)
  refine (eqDls_any _ _ _ _ ds hdlen KOK.out w17 (Dd14.out.later D17.out) V17.out).mono ?_
  rintro e w18 ⟨rfl, hb18⟩
  have B18 : Hid (Below w.heap.size w w18) := chain B17.out hb18
  have D18 : Hid (Below w14.heap.size w14 w18) := chain D17.out hb18
  clear hb18 V17 D17
  obtain ⟨w19, rfl⟩ : ∃ w19, w19 = w18 := ⟨_, rfl⟩
  have hb19 : Below w19.heap.size w19 w19 := Below.refl _ _
  have B19 : Hid (Below w.heap.size w w19) := chain B18.out hb19
  have D19 : Hid (Below w14.heap.size w14 w19) := chain D18.out hb19
  clear hb19 D18
  obtain ⟨w20, rfl⟩ : ∃ w20, w20 = w19 := ⟨_, rfl⟩
  have hb20 : Below w20.heap.size w20 w20 := Below.refl _ _
  have B20 : Hid (Below w.heap.size w w20) := chain B19.out hb20
  have D20 : Hid (Below w14.heap.size w14 w20) := chain D19.out hb20
  have U20 : Hid (UnP w20 w8.heap.size us) := U14.out.later D20.out
  have M20 : Hid (DlMk w9.heap.size w11.heap.size w20 w9.heap.size ds.length (fun i => (ds.getD i zDl).arts.length)) := M14.out.later D20.out
  have RW20 : Hid (RowUs w6.heap.size w7.heap.size w20 qw L.length (fun i => L.getD i zUs)) := RW14.out.later D20.out
  have RG20 : Hid (RowUs w11.heap.size w12.heap.size w20 qg L.length (fun i => L.getD i zUs)) := RG14.out.later D20.out
  have BW20 : Hid (BgAt w20 w7.heap.size tt sv qw L.length cw) := BW14.out.later D20.out
  have BG20 : Hid (BgAt w20 w12.heap.size tt sv qg L.length cq) := BG14.out.later D20.out
  clear hb20 D19 D20 U14 Dd14 M14 RW14 RG14 BW14 BG14
  go_wp2_with fail
  obtain ⟨k1, kD, kU, kL, hm1, hm2, hm3, hm4, hm5⟩ := marks_all us ds [] L hlen hdlen hdt KOK.out (by simp) (by unfold totU; simp) pl pt
  have HM1 : Hid _ := hm1
  have HM2 : Hid _ := hm2
  have HM3 : Hid _ := hm3
  have HM4 : Hid _ := hm4
  have HM5 : Hid _ := hm5
  clear hm1 hm2 hm3 hm4 hm5
  have p1 : ¬ ((kD : Int) < 0) := by omega
  have p2 : ¬ ((kL : Int) < 0) := by omega
  (first | go_at_call 17 | skip)
  refine (HM1.out w8.heap.size us.length w20 (Mk.start U20.out.1 (uns_some U20.out.2.1) U20.out.2.2)).mono ?_
  rintro e w21 ⟨rfl, hm21⟩
  have N21 : Hid (Span w8.heap.size w9.heap.size w20 w21) := Span.ofMk hm21 (Nat.le_refl _) s89
  have M21 : Hid (DlMk w9.heap.size w11.heap.size w21 w9.heap.size ds.length (fun i => (ds.getD i zDl).arts.length)) := M20.out.apart N21.out (Nat.le_refl _)
  clear hm21 M20 U20
  go_wp2_with fail
  (first | go_at_call 18 | skip)
  refine (HM2.out _ _ _ _ w21 M21.out).mono ?_
  rintro e w22 ⟨rfl, hm22⟩
  have N22 : Hid (Span w8.heap.size w11.heap.size w20 w22) := (N21.out.wide (Nat.le_refl _) s9a).trans (hm22.wide (Nat.le_of_lt s89) (Nat.le_refl _))
  clear hm22 M21 N21
  obtain ⟨w23, rfl⟩ : ∃ w23, w23 = w22 := ⟨_, rfl⟩
  have N23 : Hid (Span w8.heap.size w11.heap.size w20 w23) := N22.out
  have B23 : Hid (Below w.heap.size w w23) := B20.out.trans (N23.out.1.mono B8.out.size)
  have RW23 : Hid (RowUs w6.heap.size w7.heap.size w23 qw L.length (fun i => L.getD i zUs)) := RW20.out.below N23.out.1 (Nat.le_of_lt s78)
  have RG23 : Hid (RowUs w11.heap.size w12.heap.size w23 qg L.length (fun i => L.getD i zUs)) := RG20.out.apart N23.out (Nat.le_refl _)
  have BW23 : Hid (BgAt w23 w7.heap.size tt sv qw L.length cw) := BW20.out.low N23.out.1 s78
  have BG23 : Hid (BgAt w23 w12.heap.size tt sv qg L.length cq) := BG20.out.above N23.out sbc
  clear N22 N23 RW20 RG20 BW20 BG20
  obtain ⟨e0, e1, e2, _⟩ := BW23.out
  obtain ⟨f0, f1, f2, _⟩ := BG23.out
  go_wp2_with fail
  (first | go_at_call 14 | skip)
  clear e0 e1 e2 f0 f1 f2
  refine (eqBg_any tt sv qg qw cq cw L pl POK.out w23 RG23.out.reads RW23.out.reads).mono ?_
  rintro e w24 ⟨rfl, hb24⟩
  have B24 : Hid (Below w.heap.size w w24) := chain B23.out hb24
  have RW24 : Hid (RowUs w6.heap.size w7.heap.size w24 qw L.length (fun i => L.getD i zUs)) := RW23.out.later hb24
  have RG24 : Hid (RowUs w11.heap.size w12.heap.size w24 qg L.length (fun i => L.getD i zUs)) := RG23.out.later hb24
  have BW24 : Hid (BgAt w24 w7.heap.size tt sv qw L.length cw) := BW23.out.later hb24
  have BG24 : Hid (BgAt w24 w12.heap.size tt sv qg L.length cq) := BG23.out.later hb24
  clear hb24 RW23 RG23 BW23 BG23
  obtain ⟨f0, f1, f2, _⟩ := BG24.out
  go_wp2_with fail
  (first | go_at_call 19 | skip)
  clear f0 f1 f2
  refine (HM4.out _ _ _ _ _ _ w24 RG24.out (Nat.le_of_lt BG24.out.2.2.2) sbc).mono ?_
  rintro e w25 ⟨rfl, hm25, hr25⟩
  have B25 : Hid (Below w.heap.size w w25) := B24.out.trans (hm25.1.mono B11.out.size)
  have RW25 : Hid (RowUs w6.heap.size w7.heap.size w25 qw L.length (fun i => L.getD i zUs)) := RW24.out.below hm25.1 (by omega)
  have RG25 : Hid (RowUs w11.heap.size w12.heap.size w25 qg L.length (MK L)) := hr25
  have BW25 : Hid (BgAt w25 w7.heap.size tt sv qw L.length cw) := BW24.out.low hm25.1 (by omega)
  have BG25 : Hid (BgAt w25 w12.heap.size tt sv qg L.length cq) := BG24.out.above hm25 (Nat.le_refl _)
  clear hm25 hr25 RW24 RG24 BW24 BG24
  obtain ⟨f0, f1, f2, _⟩ := BG25.out
  go_wp2_with fail
  (first | go_at_call 20 | skip)
  clear f0 f1 f2
  refine (HM5.out _ _ _ _ _ _ w25 RG25.out (Nat.le_of_lt BG25.out.2.2.2)).mono ?_
  rintro e w26 ⟨rfl, hb26⟩
  have B26 : Hid (Below w.heap.size w w26) := chain B25.out hb26
  have RW26 : Hid (RowUs w6.heap.size w7.heap.size w26 qw L.length (fun i => L.getD i zUs)) := RW25.out.later hb26
  have RG26 : Hid (RowUs w11.heap.size w12.heap.size w26 qg L.length (MK L)) := RG25.out.later hb26
  have BW26 : Hid (BgAt w26 w7.heap.size tt sv qw L.length cw) := BW25.out.later hb26
  have BG26 : Hid (BgAt w26 w12.heap.size tt sv qg L.length cq) := BG25.out.later hb26
  clear hb26 RW25 RG25 BW25 BG25
  go_wp2_with fail
  (first | go_at_call 12 | skip)
  refine (hTU.out w26 ((HR.out.below B26.out).mono B26.out.size)).mono ?_
  rintro e w27 ⟨rfl, hb27, hz27, hi27, hf27⟩
  have B27 : Hid (Below w.heap.size w w27) := chain B26.out hb27
  have V27 : Hid (UnP w27 w26.heap.size us) := ⟨hz27, hi27, hf27⟩
  have D27 : Hid (Below w26.heap.size w26 w27) := hb27
  clear hb27 hz27 hi27 hf27
  go_wp2_with fail
  (first | go_at_call 13 | skip)
  refine (hTD.out w27 (KR.out.later B27.out)).mono ?_
  rintro e w28 ⟨rfl, hb28, ho28⟩
  have B28 : Hid (Below w.heap.size w w28) := chain B27.out hb28
  have D28 : Hid (Below w26.heap.size w26 w28) := chain D27.out hb28
  have U28 : Hid (UnP w28 w26.heap.size us) := V27.out.later hb28
  have V28 : Hid (ReadsDl w28.heap.size w28 (some ⟨w27.heap.size, 0, none⟩) ds) := ho28.reads
  clear hb28 ho28 D27 V27
  obtain ⟨w29, rfl⟩ : ∃ w29, w29 = w28 := ⟨_, rfl⟩
  have hb29 : Below w29.heap.size w29 w29 := Below.refl _ _
  have B29 : Hid (Below w.heap.size w w29) := chain B28.out hb29
  have D29 : Hid (Below w26.heap.size w26 w29) := chain D28.out hb29
  have U29 : Hid (UnP w29 w26.heap.size us) := U28.out.later hb29
  have V29 : Hid (ReadsDl w29.heap.size w29 (some ⟨w27.heap.size, 0, none⟩) ds) := V28.out.later hb29
  clear hb29 D28 U28 V28
  go_wp2_with fail
  (first | go_at_call 6 | skip)
  refine (hI.out _ _ _ _ w29 U29.out.reads V29.out).mono ?_
  rintro e w30 ⟨qh, ch, rfl, o30, hb30⟩
  have B30 : Hid (Below w.heap.size w w30) := chain B29.out hb30
  have D30 : Hid (Below w26.heap.size w26 w30) := chain D29.out hb30
  have RH30 : Hid (RowUs w29.heap.size w30.heap.size w30 qh L.length (fun i => L.getD i zUs)) := o30.rowUs
  clear hb30 o30 D29 U29 V29
  have BH31 : Hid (BgAt (w30.alloc (Obj.cells #[.int .i64 tt, .int .i64 sv, .slice qh L.length ch] 29)) w30.heap.size tt sv qh L.length ch) := BgAt.new _ _ _ _ _ _ _
  have A31 : Hid (Below w30.heap.size w30 (w30.alloc (Obj.cells #[.int .i64 tt, .int .i64 sv, .slice qh L.length ch] 29))) := below_alloc _ _
  have BW31 : Hid (BgAt (w30.alloc (Obj.cells #[.int .i64 tt, .int .i64 sv, .slice qh L.length ch] 29)) w7.heap.size tt sv qw L.length cw) := BW26.out.later (chain D30.out A31.out)
  obtain ⟨e0, e1, e2, _⟩ := BW31.out
  go_wp2_with fail
  (first | go_at_call 14 | skip)
  clear e0 e1 e2 BH31 BW31
  generalize w30.alloc (Obj.cells #[.int .i64 tt, .int .i64 sv, .slice qh L.length ch] 29) = w31 at *
  have B31 : Hid (Below w.heap.size w w31) := chain B30.out A31.out
  have D31 : Hid (Below w26.heap.size w26 w31) := chain D30.out A31.out
  have RH31 : Hid (RowUs w29.heap.size w30.heap.size w31 qh L.length (fun i => L.getD i zUs)) := RH30.out.later A31.out
  refine (eqBg_any tt sv qh qw ch cw L pl POK.out w31 RH31.out.reads (RW26.out.later D31.out).reads).mono ?_
  rintro e w32 ⟨rfl, hb32⟩
  have B32 : Hid (Below w.heap.size w w32) := chain B31.out hb32
  have D32 : Hid (Below w26.heap.size w26 w32) := chain D31.out hb32
  have RG32 : Hid (RowUs w11.heap.size w12.heap.size w32 qg L.length (MK L)) := RG26.out.later D32.out
  have BG32 : Hid (BgAt w32 w12.heap.size tt sv qg L.length cq) := BG26.out.later D32.out
  clear hb32 RH30 RH31 RW26 RG26 BW26 BG26 D30 D31 D32 A31
  obtain ⟨f0, f1, f2, _⟩ := BG32.out
  go_wp2_with fail
  (first | go_at_call 20 | skip)
  clear f0 f1 f2
  refine (HM5.out _ _ _ _ _ _ w32 RG32.out (Nat.le_of_lt BG32.out.2.2.2)).mono ?_
  rintro e w33 ⟨rfl, hb33⟩
  have B33 : Hid (Below w.heap.size w w33) := chain B32.out hb33
  clear hb33
  go_wp2
  go_ret
  exact ⟨rfl, B33.out⟩
end BestLaw
end Go.Proofs.Ytbijgoaanphojaa
