/- Contracts of text and parse. -/
import Derived.Test.YtflpfmkfjccmiaaGreatDoorJn
namespace Go.Proofs.YtflpfmkfjccmiaaGreatDoor
open Go.RowKit Go.Shelf

/-- The text of an integer, if it is not too large, and the error. -/
def okz (z : Int) : Bool := decide (z.natAbs < 10 ^ 200)
def outT (z : Int) : List UInt8 := if okz z = true then Lib.itoa z else []
def errT (z : Int) : Int := if okz z = true then 0 else 30
theorem neg_itoa {z : Int} (h : z < 0) : Lib.itoa z = 45 :: Lib.decDigits z.natAbs := by unfold Lib.itoa; rw [if_pos h]
theorem pos_itoa {z : Int} (h : ¬ z < 0) : Lib.itoa z = Lib.decDigits z.natAbs := by unfold Lib.itoa; rw [if_neg h, show z.toNat = z.natAbs by omega]
theorem valid_itoa (z : Int) (w : World) : Calls Tryz.prog 21 #[strOf (Lib.itoa z)] w fun e w' => e = .returned (.bool (okz z)) ∧ Below w.heap.size w w' := by
  have h := valid_any (Lib.itoa z) w
  rw [Im.vld_itoa] at h; exact h

set_option maxRecDepth 100000 in
set_option maxHeartbeats 1000000 in
theorem text_any (x : Value) (z : Int) (w : World) (hx : Num w x z) (ht : TabP w) (hl : (Im.grp z.natAbs).length ≤ 400) :
    Calls Tryz.prog 39 #[x] w fun e w' => e = .returned (.tuple #[strOf (outT z), .int .i64 (errT z)]) ∧ Below w.heap.size w w' := by
  obtain ⟨b, A, n, c, rfl, hb, hv⟩ := hx.parts
  obtain ⟨W, hW⟩ : ∃ W, w.alloc (.cells #[.bool b, .slice A n c] 47) = W := ⟨_, rfl⟩
  have hbw : Below w.heap.size w W := by rw [← hW]; exact (Below.refl _ _).alloc (Nat.le_refl _) _
  have hr : Row W w.heap.size 47 #[.bool b, .slice A n c] := by rw [← hW]; exact Row.new w _ _
  have hd := digits_any (.slice A n c) z.natAbs W (hv.next hbw) (ht.next hbw) hl
  have hva := fun u => valid_itoa z u
  obtain ⟨o, ho⟩ : ∃ o, strOf (outT z) = .string o := ⟨_, rfl⟩
  obtain ⟨er, her⟩ : ∃ er, errT z = er := ⟨_, rfl⟩
  have ho' : bs (outT z) = o := by injection ho
  unfold outT at ho'; unfold errT at her
  rw [ho, show errT z = er from her]
  obtain ⟨k, hk⟩ : ∃ k, okz z = k := ⟨_, rfl⟩
  rw [hk] at hva ho' her
  have HD := Lib.hid hd; have HW := Lib.hid hW; have HB := Lib.hid hbw; have HR := Lib.hid hr
  cases b with
  | true =>
    have hz : z < 0 := of_decide_eq_true hb.symm
    have hcat : (⟨#[45]⟩ : ByteArray) ++ bs (Lib.decDigits z.natAbs) = bs (Lib.itoa z) := by
      rw [neg_itoa hz, show (⟨#[45]⟩ : ByteArray) = bs [45] from rfl, bs_append]; rfl
    have hts : (bs (Lib.decDigits z.natAbs)).size ≤ 1600 := by
      rw [bs_size]; have := dd_short z.natAbs z.natAbs (Nat.le_refl _) (by omega); omega
    unfold strOf at HD hva
    cases k
    · rw [if_neg (by decide)] at ho' her
      subst her; subst ho'
      have HC := Lib.hid hcat; have HVA := Lib.hid hva
      generalize bs (Lib.itoa z) = S at *
      generalize bs (Lib.decDigits z.natAbs) = T at *
      have hts1 : ¬ ((⟨#[45]⟩ : ByteArray).size + T.size > 9223372036854775807) := by show ¬ (1 + T.size > _); omega
      have hts2 : ¬ (9223372036854775807 < 1 + T.size) := by omega
      clear hd hva hW hbw hr hcat hb hz hk hl hv hx ho
      go_enter Tryz.func39, Tryz.ntmps39
      go_wp2_with (first | (go_at_call 62; rw [HW.out]; refine HD.out.mono ?_; rintro e w1 ⟨rfl, hb1⟩; obtain ⟨k0, k1, f0, f1⟩ := box_facts (HR.out.below hb1 HR.out.lt); have HB1 := Lib.hid hb1; clear hb1) | (go_at_call 21; rw [HC.out]; refine (HVA.out _).mono ?_; rintro e w2 ⟨rfl, hb2⟩; have HB2 := Lib.hid hb2; clear hb2))
      go_ret2
      exact ⟨rfl, HB.out.trans ((below_to HB1.out HB2.out).mono HB.out.size)⟩
    · rw [if_pos rfl] at ho' her
      subst her; subst ho'
      have HC := Lib.hid hcat; have HVA := Lib.hid hva
      generalize bs (Lib.itoa z) = S at *
      generalize bs (Lib.decDigits z.natAbs) = T at *
      have hts1 : ¬ ((⟨#[45]⟩ : ByteArray).size + T.size > 9223372036854775807) := by show ¬ (1 + T.size > _); omega
      have hts2 : ¬ (9223372036854775807 < 1 + T.size) := by omega
      clear hd hva hW hbw hr hcat hb hz hk hl hv hx ho
      go_enter Tryz.func39, Tryz.ntmps39
      go_wp2_with (first | (go_at_call 62; rw [HW.out]; refine HD.out.mono ?_; rintro e w1 ⟨rfl, hb1⟩; obtain ⟨k0, k1, f0, f1⟩ := box_facts (HR.out.below hb1 HR.out.lt); have HB1 := Lib.hid hb1; clear hb1) | (go_at_call 21; rw [HC.out]; refine (HVA.out _).mono ?_; rintro e w2 ⟨rfl, hb2⟩; have HB2 := Lib.hid hb2; clear hb2))
      go_ret2
      exact ⟨by rw [← HC.out]; rfl, HB.out.trans ((below_to HB1.out HB2.out).mono HB.out.size)⟩
  | false =>
    have hz : ¬ z < 0 := of_decide_eq_false hb.symm
    have hcat : bs (Lib.decDigits z.natAbs) = bs (Lib.itoa z) := by rw [pos_itoa hz]
    unfold strOf at HD hva
    rw [hcat] at HD
    cases k
    · rw [if_neg (by decide)] at ho' her
      subst her; subst ho'
      have HVA := Lib.hid hva
      generalize bs (Lib.itoa z) = S at *
      clear hd hva hW hbw hr hcat hb hz hk hl hv hx ho
      go_enter Tryz.func39, Tryz.ntmps39
      go_wp2_with (first | (go_at_call 62; rw [HW.out]; refine HD.out.mono ?_; rintro e w1 ⟨rfl, hb1⟩; obtain ⟨k0, k1, f0, f1⟩ := box_facts (HR.out.below hb1 HR.out.lt); have HB1 := Lib.hid hb1; clear hb1) | (go_at_call 21; refine (HVA.out _).mono ?_; rintro e w2 ⟨rfl, hb2⟩; have HB2 := Lib.hid hb2; clear hb2))
      go_ret2
      exact ⟨rfl, HB.out.trans ((below_to HB1.out HB2.out).mono HB.out.size)⟩
    · rw [if_pos rfl] at ho' her
      subst her; subst ho'
      have HVA := Lib.hid hva
      generalize bs (Lib.itoa z) = S at *
      clear hd hva hW hbw hr hcat hb hz hk hl hv hx ho
      go_enter Tryz.func39, Tryz.ntmps39
      go_wp2_with (first | (go_at_call 62; rw [HW.out]; refine HD.out.mono ?_; rintro e w1 ⟨rfl, hb1⟩; obtain ⟨k0, k1, f0, f1⟩ := box_facts (HR.out.below hb1 HR.out.lt); have HB1 := Lib.hid hb1; clear hb1) | (go_at_call 21; refine (HVA.out _).mono ?_; rintro e w2 ⟨rfl, hb2⟩; have HB2 := Lib.hid hb2; clear hb2))
      go_ret2
      exact ⟨rfl, HB.out.trans ((below_to HB1.out HB2.out).mono HB.out.size)⟩

theorem results_num_tmp {fn : Func} {p u : Tmp} (h : fn.results = #[.cell p 47, .tmp u]) (tmps : Array Value) (w : World) (g : Nat) (b v : Value) (hp : tmps.getD p undef = .pointer (some ⟨g, 0, none⟩)) (hg : Row w g 47 #[b, v]) :
    (results fn tmps).run Tryz.prog w = .ok (.tuple #[.agg #[b, v], tmps.getD u undef]) w := by
  have hp' : tmps[p]?.getD undef = .pointer (some ⟨g, 0, none⟩) := by simpa using hp
  have e1 := run_loadVar_row (P := Tryz.prog) w g 47 47 #[b, v] (0, 0) _ hg Tryz.underlying47 rfl (by kernel_rfl)
  simp [results, h, hp', asAddr, e1]

/-- What parse returns: whether the string is valid, and the number if it is. -/
def ParsePost (l : List UInt8) (w : World) (e : Ending) (w' : World) : Prop :=
  ∃ f A n c, e = .returned (.tuple #[.agg #[.bool f, .slice A n c], .bool (Im.vld l)]) ∧ (∀ z, l = Lib.itoa z → Im.vld l = true → Num w' (.agg #[.bool f, .slice A n c]) z) ∧ Below w.heap.size w w'

set_option maxRecDepth 100000 in
set_option maxHeartbeats 1000000 in
theorem parse_any (l : List UInt8) (w : World) : Calls Tryz.prog 44 #[strOf l] w (ParsePost l w) := by
  obtain ⟨W, hW⟩ : ∃ W, w.alloc (.cells #[.bool false, .slice none 0 0] 47) = W := ⟨_, rfl⟩
  have hbw : Below w.heap.size w W := by rw [← hW]; exact (Below.refl _ _).alloc (Nat.le_refl _) _
  have hr : Row W w.heap.size 47 #[.bool false, .slice none 0 0] := by rw [← hW]; exact Row.new w _ _
  have HV := Lib.hid (valid_any l W)
  obtain ⟨k, hk⟩ : ∃ k, Im.vld l = k := ⟨_, rfl⟩
  unfold ParsePost
  rw [hk] at HV ⊢
  have HW := Lib.hid hW; have HB := Lib.hid hbw; have HR := Lib.hid hr
  cases k with
  | false =>
    clear hW hbw hr hk
    go_enter Tryz.func44, Tryz.ntmps44
    go_wp2_with (go_at_call 21; rw [HW.out]; refine HV.out.mono ?_; rintro e w1 ⟨rfl, hb1⟩; have hr1 := HR.out.below hb1 HR.out.lt; obtain ⟨k0, k1, f0, f1⟩ := box_facts hr1; have HR1 := Lib.hid hr1; have HB1 := Lib.hid hb1; clear hb1 hr1)
    refine bodyPost_ret (results_num_tmp rfl _ _ w.heap.size _ _ rfl (box_row HR1.out)) rfl ?_
    exact ⟨_, _, _, _, rfl, fun z _ h => (by cases h), ((HB.out.trans (HB1.out.mono HB.out.size)).setCell (by dsimp only; omega) _).setCell (by dsimp only; omega) _⟩
  | true =>
    obtain ⟨z, rfl, hz⟩ := Im.vld_of l hk
    have hst : Im.strip (Lib.itoa z) = Lib.decDigits z.natAbs := by
      by_cases hn : z < 0
      · rw [neg_itoa hn]; rfl
      · rw [pos_itoa hn, Im.strip_dd]
    have hT := trimP_any (Lib.itoa z)
    rw [hst] at hT
    have hdl : (Lib.decDigits z.natAbs).length ≤ 200 := (Im.dd_len _ 200 (by decide)).2 hz
    have hM := fun u => magOf_any (Lib.decDigits z.natAbs) u (Im.dd_digs _) hdl
    rw [Im.dd_dv] at hM
    have hlt : decide ((bs (Lib.decDigits z.natAbs)).size < (bs (Lib.itoa z)).size) = decide (z < 0) := by
      rw [bs_size, bs_size]
      by_cases hn : z < 0
      · rw [neg_itoa hn, decide_eq_true hn, decide_eq_true (by simp)]
      · rw [pos_itoa hn, decide_eq_false hn, decide_eq_false (by omega)]
    obtain ⟨b, hb⟩ : ∃ b, decide (z < 0) = b := ⟨_, rfl⟩
    rw [hb] at hlt
    have hsg := fun v u (hv : Mag u v z.natAbs) => signed_any b v _ u hv
    have hif : (if b = true then -(z.natAbs : Int) else (z.natAbs : Int)) = z := by
      by_cases hn : z < 0
      · rw [decide_eq_true hn] at hb; subst hb; rw [if_pos rfl]; omega
      · rw [decide_eq_false hn] at hb; subst hb; rw [if_neg (by decide)]; omega
    rw [hif] at hsg
    unfold strOf at HV hT ⊢
    have hinj : ∀ z', Lib.itoa z = Lib.itoa z' → z = z' := fun z' h => Im.itoa_inj h
    generalize Lib.itoa z = li at *
    generalize bs li = S at *
    generalize bs (Lib.decDigits z.natAbs) = D at *
    have HT := Lib.hid hT; have HM := Lib.hid hM; have HSG := Lib.hid hsg; have HINJ := Lib.hid hinj
    clear hW hbw hr hk hz hst hT hdl hM hb hsg hif hinj
    go_enter Tryz.func44, Tryz.ntmps44
    go_wp2_with (first | (go_at_call 21; rw [HW.out]; refine HV.out.mono ?_; rintro e w1 ⟨rfl, hb1⟩; have HR1 := Lib.hid (HR.out.below hb1 HR.out.lt); have HB1 := Lib.hid (HB.out.trans (hb1.mono HB.out.size)); clear hb1) | (go_at_call 50; refine (HT.out _).mono ?_; rintro e w2 ⟨rfl, rfl⟩) | (go_at_call 64; refine (HM.out _).mono ?_; unfold MagPost; rintro e w3 ⟨v, rfl, hm, hb3⟩; have HM3 := Lib.hid hm; have HR3 := Lib.hid (HR1.out.below hb3 HR1.out.lt); have HB3 := Lib.hid (HB1.out.trans (hb3.mono HB1.out.size)); clear hm hb3) | (go_at_call 45; refine (HSG.out _ _ HM3.out).mono ?_; unfold NumPost; rintro e w4 ⟨y, rfl, hn, hb4⟩; obtain ⟨b4, A4, n4, c4, rfl, hbe, hm⟩ := hn.parts; have hr4 := HR3.out.below hb4 HR3.out.lt; obtain ⟨k0, k1, f0, f1⟩ := box_facts hr4; have HR4 := Lib.hid hr4; have HB4 := Lib.hid (HB3.out.trans (hb4.mono HB3.out.size)); have HBE := Lib.hid hbe; have HM4 := Lib.hid hm; clear hn hm hb4 hbe hr4))
    refine bodyPost_ret (results_num_tmp rfl _ _ w.heap.size _ _ rfl (box_row HR4.out)) rfl ?_
    refine ⟨_, _, _, _, rfl, fun z' h _ => ?_, (HB4.out.setCell (by dsimp only; omega) _).setCell (by dsimp only; omega) _⟩
    have := HINJ.out z' h
    subst this
    exact num_of HBE.out rfl (mag_box HM4.out HR4.out)
end Go.Proofs.YtflpfmkfjccmiaaGreatDoor
