/- Contract of digits: the walk. -/
import Derived.Test.YtflpfmkfjccmiaaGreatDoorJl
namespace Go.Proofs.YtflpfmkfjccmiaaGreatDoor
open Go.RowKit Go.Shelf
attribute [local go_sem] Oper.semAt_some

set_option maxRecDepth 100000 in
set_option maxHeartbeats 2000000 in
theorem digits_any (v : Value) (n : Nat) (w : World) (hv : Mag w v n) (ht : TabP w) (hl : (Im.grp n).length ≤ 400) :
    Calls Tryz.prog 62 #[v] w fun e w' => e = .returned (strOf (Lib.decDigits n)) ∧ Below w.heap.size w w' := by
  have hz := fun u (hu : Mag u v n) => isZero_any v n u hu
  by_cases h0 : n = 0
  · subst h0
    obtain ⟨A, c, rfl, hc1, hc2⟩ := ints_form hv
    have HZ := Lib.hid (hz w hv)
    go_enter Tryz.func62, Tryz.ntmps62
    go_wp2_with (go_at_call 60; refine HZ.out.mono ?_; rintro e w1 ⟨rfl, rfl⟩)
    go_ret
    exact ⟨by rw [Im.dd_small 0 (by decide)]; rfl, Below.refl _ _⟩
  rw [decide_eq_false h0] at hz
  have hN0 : (Im.grp n).length ≠ 0 := fun e => h0 ((Im.grp_len0 n).1 e)
  have hds := fun m h => dd_short m n h h0
  have hgd := fun i => Im.grp_getD n i
  have hgt := Im.grp_lt n
  have hge := Im.grp_ge n h0
  obtain ⟨A, c, rfl, hc1, hc2⟩ := ints_form hv
  obtain ⟨N, hN⟩ : ∃ N, (Im.grp n).length = N := ⟨_, rfl⟩
  rw [hN] at hN0 hl hds hgt hge hc1
  obtain ⟨top, htop⟩ : ∃ top, N = top + 1 := ⟨N - 1, by omega⟩
  have hpre := ints_pre hv top (by omega)
  obtain ⟨g, off, hAe, hg, hcell⟩ := ints_at hv top (by omega)
  obtain ⟨l, hll⟩ : ∃ l, (Im.grp n).take top = l := ⟨_, rfl⟩
  have hlen : l.length = top := by rw [← hll, List.length_take]; omega
  have hqd : ∀ i, i < top → l.getD i 0 = ((n / 10000 ^ i % 10000 : Nat) : Int) := fun i hi => by
    rw [← Im.grp_getD, List.getD_eq_getElem?_getD, ← hll, List.getElem?_take_of_lt hi, List.getD_eq_getElem?_getD]
  rw [hll] at hpre
  have hxe := hgd top
  have hxl : n / 10000 ^ top < 10000 := Nat.div_lt_of_lt_mul (by rw [← Nat.pow_succ]; show n < 10000 ^ (top + 1); rw [← htop]; exact hgt)
  have hxp : 0 < n / 10000 ^ top := Nat.div_pos (by rw [show N - 1 = top by omega] at hge; exact hge) (Nat.pow_pos (by decide))
  rw [Nat.mod_eq_of_lt hxl] at hxe
  have c0 := hcell top (by omega)
  rw [hxe] at c0
  obtain ⟨x, hx⟩ : ∃ x, n / 10000 ^ top = x := ⟨_, rfl⟩
  rw [hx] at hxl hxp c0
  have hit := fun u (hu : TabP u) => itoa_any (x : Int) (by omega) (by omega) u hu
  rw [Lib.itoa_nonneg] at hit
  have hxd : (Lib.decDigits x).length ≤ 4 := (Im.dd_len x 4 (by decide)).2 hxl
  rw [hN] at hv hz ⊢
  have hqpos : ∀ k, k ≤ top → 0 < n / 10000 ^ k := fun k hk => Nat.div_pos (Nat.le_trans (Nat.pow_le_pow_right (by decide) (by omega)) hge) (Nat.pow_pos (by decide))
  have s1 : IntKind.i64.wrap ((N : Int) - 1) = (top : Int) := by rw [show (N : Int) - 1 = (top : Int) by omega]; exact IntWalk.i64_in _ (by omega)
  have i1 : (0 : Int) ≤ (top : Int) := by omega
  have i2 : (top : Int) < (N : Int) := by omega
  have i4 : (top : Int) ≤ (c : Int) := by omega
  have HAF : Hid (∀ j o, A = some ⟨j, o, none⟩ → j < w.heap.size) := Lib.hid (fun j o e => by
    subst hAe; injection e with e; injection e with e1 e2; omega)
  subst hAe
  have hzw := hz (w.alloc (.cells #[.pointer none, .slice none 0 0] 96)) (hv.next ((Below.refl _ _).alloc (Nat.le_refl _) _))
  have hz0 := hz w hv
  have hbb := (Below.refl w.heap.size w).alloc (Nat.le_refl _) (.cells #[.pointer none, .slice none 0 0] 96)
  have hwr := fun u (hb : Below (w.heap.size + 1) (w.alloc (.cells #[.pointer none, .slice none 0 0] 96)) u) => wstr_any w.heap.size w.heap.size [] (bs (Lib.decDigits x)) u
  have HTOP := Lib.hid htop
  have HZ := Lib.hid hz0; have HIT := Lib.hid hit; have HTW := Lib.hid ht; have HBB := Lib.hid hbb; have HPRE := Lib.hid hpre; have HLEN := Lib.hid hlen; have HQD := Lib.hid hqd; have HX := Lib.hid hx; have HQP := Lib.hid hqpos; have HDS := Lib.hid hds
  have HBF := Lib.hid (bat_fresh w)
  have hc0 := (hbb.cell (p := ⟨g, off + top, none⟩) hg).trans c0
  clear hwr hzw hz0 hz hit hbb hpre hlen hqd hx hqpos hds hll hxe hN hgd hgt hge hcell hv c0 hN0 hc1 htop
  refine (callsIn_wide (n := 3)).1 ?_
  refine callsIn_of_wp_marks Tryz.func62 rfl trivial ?_ rfl
  simp only [Tryz.ntmps62, List.size_toArray, List.length_cons, List.length_nil, Nat.reduceAdd, Nat.reduceSub, Array.replicate_succ, Array.replicate_zero, List.push_toArray, List.append_toArray, List.nil_append, List.cons_append]
  gi_wp2_with (first | (refine ⟨trivial, ?_⟩; gi_at_call 60; refine (callsIn_wide.2 HZ.out).mono ?_; rintro e w1 ⟨rfl, rfl⟩) | (refine ⟨trivial, ?_⟩; gi_at_call 54; refine (callsIn_wide.2 (HIT.out _ (HTW.out.next HBB.out))).mono ?_; rintro e w1 ⟨rfl, hb1⟩; have HB1 := Lib.hid hb1; clear hb1) | (refine ⟨trivial, ?_⟩; gi_at_call 82; refine (callsIn_wide.2 (wstr_any w.heap.size w.heap.size [] (bs (Lib.decDigits x)) _ (.inl (bat_next (HBF.out.elim id (fun h => by obtain ⟨_, v, h, _⟩ := h; have := (Row.new w 96 #[.pointer none, .slice none 0 0]).symm.trans h; simp at this)) HB1.out)) (by rw [bs_size]; simp; omega) (Nat.le_trans HBB.out.size HB1.out.size))).mono ?_; rintro e w2 ⟨rfl, hbd, hb2, hk2⟩; have HBD := Lib.hid hbd; have HB2 := Lib.hid hb2; clear hbd hb2 hk2) | (refine ⟨trivial, ?_⟩; gi_at_call 76; refine (back_in _ _ _ _ _).mono ?_; rintro e w' ⟨rfl, rfl⟩))
  obtain ⟨W0, hW0⟩ : ∃ W0, w2.alloc (.cells #[.slice (some ⟨g, off, none⟩) top c] 45) = W0 := ⟨_, rfl⟩
  have hbw2 : Below w.heap.size w w2 := (HBB.out.trans (HB1.out.mono HBB.out.size)).trans HB2.out
  have hb0 : Below w.heap.size w W0 := by rw [← hW0]; exact hbw2.alloc hbw2.size _
  have hs0 : W0.heap.size = w2.heap.size + 1 := by rw [← hW0]; simp
  have rb0 : Row W0 w2.heap.size 45 #[.slice (some ⟨g, off, none⟩) top c] := by rw [← hW0]; exact Row.new w2 _ _
  have hwlt : w.heap.size < w2.heap.size := HBD.out.lt
  have d0 : DigI w w2.heap.size W0.heap.size (some ⟨g, off, none⟩) top c n 0 W0 := by
    refine ⟨?_, ?_, rb0, hb0⟩
    · rw [Nat.sub_zero, HX.out]
      have := HBD.out
      rw [bsx_cells, List.nil_append] at this
      rw [← hW0]; exact this.alloc _
    · intro p v hv
      have hv2 : w2.heap[w.heap.size]? = some (.cells #[p, v] 96 (0, 0)) := by
        rw [← hW0, Below.heap_alloc _ _ _ hwlt] at hv; exact hv
      obtain ⟨_, v', hc, hown, _⟩ := HBD.out
      have ev : v' = v := by
        rw [hv2] at hc
        simp only [Option.some.injEq, Obj.cells.injEq, Array.mk.injEq, List.cons.injEq, and_true] at hc
        exact hc.2.symm
      subst ev
      refine ⟨fun e => ?_, fun e => ?_, fun e => ?_⟩
      · have := (hown.lt _ e).2; omega
      · have := (hown.lt _ e).2; omega
      · have := (hown.lt _ e).2; omega
  have htw : TabP W0 := HTW.out.next hb0
  rw [hW0]
  have hgv : GivesN Fence.wide (3 - 1) Tryz.prog 99 #[.pointer (some ⟨w2.heap.size, 0, none⟩)] (encB l) (fun X j => noB w.heap.size X j ∨ j = W0.heap.size ∨ j = W0.heap.size + 1) (fixB w2.heap.size (some ⟨g, off, none⟩)) l.length W0 :=
    back_gives (3 - 1) w2.heap.size c (some ⟨g, off, none⟩) l _ W0 (by rw [HLEN.out]; exact rb0) (by rw [HLEN.out]; exact HPRE.out.next hb0)
  have hfx : ∀ j, fixB w2.heap.size (some ⟨g, off, none⟩) j → j < W0.heap.size := by
    rintro j (rfl | ⟨o, e⟩)
    · omega
    · have := HAF.out j o e; omega
  have HD0 := Lib.hid d0; have HT0 := Lib.hid htw
  clear hW0 hb0 rb0 d0 htw hbw2 HB1 HB2 HBD HBB HBF HIT HZ
  rw [HLEN.out] at hgv
  have hDd : w.heap.size < W0.heap.size := by omega
  have hBD : w2.heap.size < W0.heap.size := by omega
  have HSZ := Lib.hid hs0
  clear hs0 hwlt hc0 s1 i1 i2 i4
  refine rangeFunc_m (F := Fence.wide) rfl (by decide) (gf := 99) (lb := #[.pointer (some ⟨w2.heap.size, 0, none⟩)]) rfl trivial (enters_of Tryz.func99 (by kernel_rfl) rfl)
    (no := noB w.heap.size) hgv
    (fun _ => rfl) hfx
    (fun k X => DigI w w2.heap.size W0.heap.size (some ⟨g, off, none⟩) top c n k X)
    (fun k X Y j h hb hj => h.no hDd HAF.out hb j hj)
    (fun k X o j h hj => noB_back (World.putObj_heap_other (by omega)) hj)
    (fun _ _ _ => False) (fun _ _ _ _ _ _ _ h => h)
    (fun k X Y h hb => h.below hb)
    (fun k X r o hr _ h => by rw [hr]; exact h.putLoop hDd hBD o)
    HD0.out
    (fun k a' _ => a' = { tmps := #[.slice (some ⟨g, off, none⟩) N c, undef, .string ⟨#[]⟩, .pointer (some ⟨w.heap.size, 0, none⟩), .int .i64 (top : Int), undef, .int .i64 (l.getD (l.length - 1 - k) 0), .slice (some ⟨g, off, none⟩) N c, .bool false, .slice (some ⟨g, off, none⟩) N c, .int .i64 (N : Int), .int .i64 (top : Int), .slice (some ⟨g, off, none⟩) N c, .int .i64 (top : Int), .pointer (some ⟨g, off + top, none⟩), .int .i64 (x : Int), .string ⟨(Lib.decDigits x).toArray⟩,
      .tuple #[.int .i64 ((bs (Lib.decDigits x)).size : Int), .nilIface], .slice (some ⟨g, off, none⟩) N c, .int .i64 (top : Int), .slice (some ⟨g, off, none⟩) top c, .func (.func 99) #[] #[.pointer (some ⟨w2.heap.size, 0, none⟩)],
      .int .i64 ((l.length : Int) - 1 - (k : Int)), .int .i64 (l.getD (l.length - 1 - k) 0), undef, undef, undef, undef, undef, undef], defers := [] })
    (fun _ _ _ _ _ _ _ h => h) ?assign ?body ?done ?stop
  case stop =>
    intro D c k W _ _ h _
    exact h.elim
  case assign =>
    intro y k W K hkn hsz hI hK
    unfold encB
    have HK := Lib.hid hK
    clear hK
    gi_wp2
    exact HK.out _ _ (Below.refl _ _) rfl
  case body =>
    rintro y k a' W hkn hsz hL hDf hI rfl
    have hx1 := HQD.out (top - 1 - k) (by omega)
    rw [HLEN.out, hx1]
    have hxb : n / 10000 ^ (top - 1 - k) % 10000 < 10000 := Nat.mod_lt _ (by decide)
    have hsh := Im.div_shift n (top - 1 - k)
    rw [show top - 1 - k + 1 = top - k by omega, show top - 1 - k = top - (k + 1) by omega] at hsh
    rw [show top - 1 - k = top - (k + 1) by omega] at hxb ⊢
    have hqp := HQP.out (top - k) (by omega)
    have hdl := HDS.out (n / 10000 ^ (top - k)) (Nat.div_le_self _ _)
    obtain ⟨z, hz⟩ : ∃ z, n / 10000 ^ (top - (k + 1)) % 10000 = z := ⟨_, rfl⟩
    rw [hz] at hsh hxb ⊢
    have s2 : IntKind.i64.wrap (10000 + (z : Int)) = 10000 + (z : Int) := IntWalk.i64_in _ (by omega)
    have hit := itoa_any (10000 + (z : Int)) (by omega) (by omega) W (HTW.out.next hI.bw)
    have hie : Lib.itoa (10000 + (z : Int)) = UInt8.ofNat 49 :: Im.dec4 z := by
      rw [show (10000 + (z : Int)) = ((10000 + z : Nat) : Int) by omega, Lib.itoa_nonneg, Im.dd_pad z hxb]
    rw [hie] at hit
    obtain ⟨S, hS⟩ : ∃ S : ByteArray, { data := (UInt8.ofNat 49 :: Im.dec4 z).toArray } = S := ⟨_, rfl⟩
    rw [hS] at hit
    have hsz5 : S.size = 5 := by rw [← hS]; exact bs_size (UInt8.ofNat 49 :: Im.dec4 z)
    have hcut : S.extract 1 5 = bs (Im.dec4 z) := by rw [← hS]; exact bsx_cut (UInt8.ofNat 49) (Im.dec4 z)
    have hsl : ∀ w, (Instr.slice 9 (.string S) (some (.int .i64 1)) none none).run Tryz.prog w = .ok (.string (bs (Im.dec4 z))) w := fun w => by
      rw [run_slice_string_l (P := Tryz.prog) w 9 S Tryz.underlying9 .i64 1 (by decide) (by rw [hsz5]; decide), hsz5]
      show Result.ok (Value.string (S.extract 1 5)) w = _
      rw [hcut]
    have hlb : (Lib.byteCells (Lib.decDigits (n / 10000 ^ (top - k)))).length + (bs (Im.dec4 z)).size ≤ 140737488355328 := by
      rw [Lib.byteCells_length, bs_size]
      have e4 : (Im.dec4 z).length = 4 := rfl
      omega
    have HII := Lib.hid hI; have HQ := Lib.hid (And.intro hqp (And.intro hxb hsh)); have HLL := Lib.hid (And.intro hL hDf); have HIT2 := Lib.hid hit; have HLB := Lib.hid hlb
    clear hI hqp hxb hsh hL hDf hit hlb hcut hS hie hx1 hz hdl
    gi_wp2_with (first | (refine ⟨trivial, ?_⟩; gi_at_call 54; refine (CallsIn.inRound y (callsIn_wide.2 HIT2.out)).mono ?_; rintro e w3 ⟨rfl, hb3⟩; have HB3 := Lib.hid hb3; clear hb3) | (refine ⟨trivial, ?_⟩; gi_at_call 82; refine (CallsIn.inRound y (callsIn_wide.2 (wstr_any w.heap.size w.heap.size _ (bs (Im.dec4 z)) _ (.inr (bat_next HII.out.bd HB3.out)) HLB.out (Nat.le_trans HII.out.bw.size HB3.out.size)))).mono ?_; rintro e w4 ⟨rfl, hbd, hb4, hk4⟩; have HS4 := Lib.hid (HII.out.step hDd (by omega) HLL.out.1 HLL.out.2 HB3.out hbd hb4 hk4 HQ.out.1 HQ.out.2.1 HQ.out.2.2); clear hbd hb4 hk4))
    exact HS4.out
  case done =>
    rintro D W hD hI hK
    have hbd := hI.bd
    rw [Nat.sub_self, Nat.pow_zero, Nat.div_one] at hbd
    have hst := Tryz.Builder_String_k w.heap.size w.heap.size (Lib.decDigits n) W (.inr hbd) (Im.dd_ne n)
    have HST := Lib.hid hst; have HII := Lib.hid hI
    clear hst hbd hI
    gi_wp2_with (refine ⟨trivial, ?_⟩; gi_at_call 83; refine (callsIn_wide.2 HST.out).mono ?_; rintro e w5 ⟨rfl, -, hb5, hk5⟩)
    have hK5 : w5.heap[D]? = some (.deferred (some [])) := hk5 D _ hK (by intro e; injection e; omega) (by intro c fz e; cases e)
    refine ⟨by simp, .inl ⟨_, _, rfl, run_takeDeferred hK5, ?_⟩⟩
    refine ⟨_, results_tmp rfl _ _ _, rfl, ?_⟩
    exact (HII.out.bw.trans hb5).trans (belowK_b (w := w) (Nat.le_refl _) w5 D _ _ (by omega) hK5 rfl rfl)
end Go.Proofs.YtflpfmkfjccmiaaGreatDoor
