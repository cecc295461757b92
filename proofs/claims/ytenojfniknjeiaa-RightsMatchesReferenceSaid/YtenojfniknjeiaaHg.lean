/- The search of canAssign for one use. -/
import Derived.Test.YtenojfniknjeiaaHf
import Derived.Deep.CutBlock
namespace Go.Proofs.Ytenojfniknjeiaa
open Go.RowKit
attribute [local go_sem ↓] append_appN

def plN (l : List Gr) : List Nat := l.map fun g => g.plays.toNat
theorem plN_len (l : List Gr) : (plN l).length = l.length := by simp [plN]
theorem plN_at {l : List Gr} {i : Nat} {g : Gr} (h : l[i]? = some g) (h0 : 0 ≤ g.plays) : ((plN l).getD i 0 : Int) = g.plays := by
  unfold plN
  rw [List.getD_eq_getElem?_getD, List.getElem?_map, h]
  simp only [Option.map_some, Option.getD_some]
  omega
/-- What a search leaves. -/
def GivePost (W0 : World) (k : KC) (l : List Gr) (ch : List (List Nat)) (use : Nat) (T : List Bool) (G : List (List Nat)) (xs : List Value) (e : Ending) (w' : World) : Prop :=
  ∃ b T' G' xs', e = .returned (.bool b) ∧ Step (plN l) ch use T G b T' G' ∧ KSt W0 k l T' G' xs' w' ∧ ∀ g, tr T g = true → xs'[g]? = xs[g]?
set_option maxRecDepth 100000 in
set_option maxHeartbeats 16000000 in
theorem give_any (W0 : World) (k : KC) (l : List Gr) (ch : List (List Nat)) (hP : ∀ g ∈ l, 0 ≤ g.plays ∧ g.plays ≤ 100) (h12 : l.length ≤ 12) (hch : ChOk (plN l) ch) (hc : ChAt W0 W0.heap.size (.slice k.Ac k.nc k.cc) ch) (hl : Recs encG 6 W0 W0.heap.size (.slice k.Al k.nl k.cl) l) :
    ∀ (n : Nat) (use : Nat) (T : List Bool) (G : List (List Nat)) (xs : List Value) (w : World), untr T < n → use < ch.length → GOk (plN l) ch G → KSt W0 k l T G xs w →
      Calls Try.prog 47 #[.int .i64 (use : Int), pt k.bc, pt k.bt, pt k.bg, pt k.bl, pt k.bv] w (GivePost W0 k l ch use T G xs) := by
  intro n
  induction n with
  | zero => intro use T G xs w h; omega
  | succ n ih =>
    intro use T G xs w hn huse hG hS
    have IH := Lib.hid ih
    have HUN := Lib.hid hn
    have HG := Lib.hid hG
    have HS := Lib.hid hS
    have HCH := Lib.hid hch
    have HPL := Lib.hid hP
    obtain ⟨L, hL⟩ : ∃ L, ch[use]? = some L := ⟨_, List.getElem?_eq_getElem huse⟩
    have HLe := Lib.hid (show ch.getD use [] = L by rw [List.getD_eq_getElem?_getD, hL]; rfl)
    obtain ⟨gc, oc, Au, nu, cu, hA, hgc, hcell, hrc⟩ := hc.at_ hL
    have HA := Lib.hid hA
    have HRC := Lib.hid hrc
    have hnu : nu = L.length := by have := recs_cap hrc; simpa [zi] using this.1
    have HNU := Lib.hid hnu
    have hnu9 : nu ≤ 9223372036854775807 := by have := recs_cap hrc; omega
    have hcap := hc.cap
    have HCU := Lib.hid hcell
    have HLL := Lib.hid hl
    have hlcap := recs_cap hl
    have hnl : k.nl = l.length := hlcap.1
    have u0 : (0 : Int) ≤ (use : Int) := by omega
    have u1 : (use : Int) < (k.nc : Int) := by omega
    have gc1 : gc < w.heap.size := by have := HS.out.b.size; omega
    have y_u : w.cell? ⟨gc, oc + use, none⟩ = some (.slice Au nu cu) := (HS.out.b.cell (p := ⟨gc, oc + use, none⟩) hgc).trans HCU.out
    have y_c : w.cell? ⟨k.bc, 0, none⟩ = some (.slice (some ⟨gc, oc, none⟩) k.nc k.cc) := by rw [← HA.out]; exact HS.out.rc.cell 0
    have z_c := HS.out.rc.lt
    have HNL := Lib.hid hnl
    have HGC := Lib.hid hgc
    have H12 := Lib.hid h12
    have HLC := Lib.hid hlcap
    clear ih hn hG hS hch hP hL hA hrc hnu hcap hcell hlcap hnl hc hl huse hgc h12
    go_enter Try.func47, Try.ntmps47
    go_wp2
    clear y_u y_c z_c gc1 u0 u1
    go_loopw [17] (fun j wr => ∃ q : Nat, j = .int .i64 (q : Int) ∧ q ≤ nu ∧ Hid (∃ Tk xsk, OutI (plN l) ch use q T G Tk ∧ KSt W0 k l Tk G xsk wr ∧ ∀ g, tr T g = true → xsk[g]? = xs[g]?)) (fun j _ => nu - (intOf j).toNat)
    case atStart => exact ⟨0, rfl, Nat.zero_le _, Lib.hid ⟨T, xs, OutI.start _ _ _ _ _, HS.out, fun _ _ => rfl⟩⟩
    case round =>
      clear HS
      obtain ⟨q, rfl, hq, HX⟩ := hrel
      obtain ⟨Tk, xsk, hO, hS, hxk⟩ := HX.out
      have HO := Lib.hid hO
      have HS := Lib.hid hS
      have HXK := Lib.hid hxk
      clear HX hO hS hxk
      by_cases hqn : q < nu
      · have hqL : q < L.length := by have := HNU.out; omega
        obtain ⟨ga, oa, hAu, hga, hcells⟩ := recs_at (HRC.out.below HS.out.b) q (by simpa [zi] using hqL)
        subst hAu
        obtain ⟨i, hi⟩ : ∃ i, L.getD q 0 = i := ⟨_, rfl⟩
        have HI := Lib.hid hi
        have HIM := Lib.hid (show i ∈ L by rw [← hi]; exact at_mem hqL)
        have y_i : wr.cell? ⟨ga, oa + q, none⟩ = some (.int .i64 (i : Int)) := by
          have h1 := cells1 hcells q (by simpa [zi] using hqL)
          have h2 : (zi L)[q]'(by simpa [zi] using hqL) = (i : Int) := by rw [← hi, at_eq hqL]; simp [zi]
          rw [h2] at h1
          exact h1
        have ga1 : ga < wr.heap.size := by have := HS.out.b.size; omega
        have hil : i < l.length := by
          have h1 := HCH.out use i (by rw [HLe.out]; exact HIM.out)
          rwa [plN_len] at h1
        have q0 : (0 : Int) ≤ (q : Int) := by omega
        have q1 : (q : Int) < (nu : Int) := by omega
        have i0 : (0 : Int) ≤ (i : Int) := by omega
        have i1 : (i : Int) < (l.length : Int) := by omega
        obtain ⟨bT, hbT⟩ : ∃ b, tr Tk i = b := ⟨_, rfl⟩
        have y_T : wr.cell? ⟨k.gT, i, none⟩ = some (.bool bT) := by rw [← hbT]; exact HS.out.tried hil
        have z_T := HS.out.tT.lt
        have f_T := HS.out.tT.free i
        have y_t : wr.cell? ⟨k.bt, 0, none⟩ = some (.slice (some ⟨k.gT, 0, none⟩) l.length l.length) := HS.out.rt.cell 0
        have z_t := HS.out.rt.lt
        have HBT := Lib.hid hbT
        have HQL := Lib.hid hqL
        clear hi hcells hbT hqL
        cases bT with
        | true =>
          go_wp2_with fail
          go_roundw
          case rel => exact ⟨q + 1, by go_num, by omega, Lib.hid ⟨Tk, xsk, HO.out.skip (by rw [HLe.out, HI.out]; exact HBT.out), HS.out, HXK.out⟩⟩
          case measure => simp [intOf]; omega
        | false =>
          go_upto_region 6 with fail
          obtain ⟨wm, hwm⟩ : ∃ wm, wr.setCell ⟨k.gT, i, none⟩ (.bool true) = wm := ⟨_, rfl⟩
          have HSM := Lib.hid (show KSt W0 k l (Tk.set i true) G xsk wm by rw [← hwm]; exact HS.out.mark i)
          rw [hwm]
          clear hwm y_i y_T z_T f_T y_t z_t ga1 HS
          obtain ⟨A, ng, cg, LG, hxi, hGi, hng, hngc, hcgm, hgcell, hgown⟩ := HSM.out.given hil
          obtain ⟨gr, hgr⟩ : ∃ g, l[i]? = some g := ⟨_, List.getElem?_eq_getElem hil⟩
          have hgp := HPL.out gr (List.mem_of_getElem? hgr)
          obtain ⟨gl, ol, hAl, hgl, hlc⟩ := recs_at (HLL.out.below HSM.out.b) i hil
          have HAL := Lib.hid hAl
          have y_p : wm.cell? ⟨gl, ol + i * 6 + 3, none⟩ = some (.int .i64 gr.plays) := hlc i gr hgr 3 _ rfl
          have gl1 : gl < wm.heap.size := by have := HSM.out.b.size; omega
          have y_G : wm.cell? ⟨k.gG, i, none⟩ = some (.slice A ng cg) := hgcell
          have z_G := HSM.out.tG.lt
          have n1 : (i : Int) < (k.nl : Int) := by have := HNL.out; omega
          have y_g : wm.cell? ⟨k.bg, 0, none⟩ = some (.slice (some ⟨k.gG, 0, none⟩) l.length l.length) := HSM.out.rg.cell 0
          have z_g := HSM.out.rg.lt
          have y_l : wm.cell? ⟨k.bl, 0, none⟩ = some (.slice (some ⟨gl, ol, none⟩) k.nl k.cl) := by rw [← HAL.out]; exact HSM.out.rl.cell 0
          have z_l := HSM.out.rl.lt
          have HPN := Lib.hid (plN_at hgr hgp.1)
          have hgp9 := Lib.hid hgp.2
          have HXI := Lib.hid hxi
          have HGI := Lib.hid hGi
          have HNG := Lib.hid hng
          have HGD := Lib.hid (show G.getD i [] = LG by rw [List.getD_eq_getElem?_getD, hGi]; rfl)
          have HIL := Lib.hid hil
          clear hxi hGi hng hgr hAl hgl hlc hgcell hgown hgp
          by_cases hfree : (ng : Int) < gr.plays
          · have d1 : decide ((ng : Int) < gr.plays) = true := decide_eq_true hfree
            have HNG9 := Lib.hid (show ng ≤ 1000 by have := HPL.out; have := HPN.out; have := hgp9.out; omega)
            go_quiet (fail)
            go_upto_region 7 with fail
            obtain ⟨wn, hwn⟩ : ∃ wn, wm.drewN nq = wn := ⟨_, rfl⟩
            have HSN := Lib.hid (show KSt W0 k l (Tk.set i true) G xsk wn by rw [← hwn]; exact HSM.out.drewN _)
            rw [hwn]
            clear hwn y_g z_g y_G z_G HSM y_p gl1 y_l z_l
            obtain ⟨A', c', w', hrun, p1, p2, p3, p4, p5, hK⟩ := (HSN.out.drewN 1).push HXI.out HGI.out HNG.out HNG9.out use
            have HK := Lib.hid hK
            have hrun2 : Sem.run Try.prog (appN #[26, 26] 26 #[.slice A ng cg, .slice (some ⟨wn.heap.size, 0, none⟩) 1 1]) (wn.alloc (.cells #[.int .i64 (use : Int)] 3)).drew = .ok (.slice A' (ng + 1) c') w' := hrun
            have y_g : wn.cell? ⟨k.bg, 0, none⟩ = some (.slice (some ⟨k.gG, 0, none⟩) l.length l.length) := HSN.out.rg.cell 0
            have z_g := HSN.out.rg.lt
            have y_G : wn.cell? ⟨k.gG, i, none⟩ = some (.slice A ng cg) := by rw [HSN.out.tG.cell i]; simpa using HXI.out
            have z_G := HSN.out.tG.lt
            clear hrun hK
            go_region
            obtain ⟨wf, hwf⟩ : ∃ wf, w'.setCell ⟨k.gG, i, none⟩ (.slice A' (ng + 1) c') = wf := ⟨_, rfl⟩
            have HKF := Lib.hid (show KSt W0 k l (Tk.set i true) (G.set i (LG ++ [use])) (xsk.set i (.slice A' (ng + 1) c')) wf by rw [← hwf]; exact HK.out)
            rw [hwf]
            clear hwf p1 p2 p3 p4 p5 hrun2 y_g z_g y_G z_G HK
            have HLT := Lib.hid (show T.length = (plN l).length by have h1 := HO.out.tlen; have h2 := HKF.out.lT; rw [List.length_set] at h2; rw [plN_len]; omega)
            have HFIN := Lib.hid (show Step (plN l) ch use T G true (Tk.set i true) (G.set i (LG ++ [use])) by
              have h1 := OutI.free HO.out HG.out HLT.out (i := i) (by rw [plN_len]; exact HIL.out) (by rw [HLe.out]; exact HIM.out) HBT.out (by rw [HGD.out]; have := HNG.out; have := HPN.out; omega)
              rw [HGD.out] at h1
              exact h1)
            go_wp2_with fail
            go_ret
            exact ⟨true, _, _, _, rfl, HFIN.out, HKF.out, fun g hg => by
              have h1 := HO.out.sub g hg
              rw [List.getElem?_set_ne (fun e => by rw [← e, HBT.out] at h1; cases h1)]
              exact HXK.out g hg⟩
          · have d1 : decide ((ng : Int) < gr.plays) = false := decide_eq_false hfree
            have HFULL := Lib.hid hfree
            go_quiet (fail)
            go_upto_region 9 with fail
            obtain ⟨wn, hwn⟩ : ∃ wn, wm.drewN nq = wn := ⟨_, rfl⟩
            have HSN := Lib.hid (show KSt W0 k l (Tk.set i true) G xsk wn by rw [← hwn]; exact HSM.out.drewN _)
            rw [hwn]
            clear hwn y_g z_g y_G z_G HSM y_p gl1 y_l z_l hfree
            have y_g : wn.cell? ⟨k.bg, 0, none⟩ = some (.slice (some ⟨k.gG, 0, none⟩) l.length l.length) := HSN.out.rg.cell 0
            have z_g := HSN.out.rg.lt
            have y_G : wn.cell? ⟨k.gG, i, none⟩ = some (.slice A ng cg) := by rw [HSN.out.tG.cell i]; simpa using HXI.out
            have z_G := HSN.out.tG.lt
            go_wp2
            clear y_g z_g y_G z_G
            go_loopw [54] (fun z wr2 => ∃ j : Nat, z = .int .i64 (j : Int) ∧ j ≤ ng ∧ Hid (∃ Tj xsj, InI (plN l) ch i j Tk G Tj ∧ KSt W0 k l Tj G xsj wr2 ∧ ∀ g, tr (Tk.set i true) g = true → xsj[g]? = xsk[g]?)) (fun z _ => ng - (intOf z).toNat)
            case atStart => exact ⟨0, rfl, Nat.zero_le _, Lib.hid ⟨Tk.set i true, xsk, InI.start _ _, HSN.out, fun _ _ => rfl⟩⟩
            case round =>
              clear HSN
              obtain ⟨j, rfl, hj, HX⟩ := hrel
              obtain ⟨Tj, xsj, hI, hS, hxj⟩ := HX.out
              have HLT := Lib.hid (show T.length = (plN l).length by have h1 := HO.out.tlen; have h2 := hI.tlen; have h3 := hS.lT; rw [plN_len]; omega)
              have HTS := Lib.hid (show tr (Tk.set i true) i = true by rw [tr_set (by have h1 := HO.out.tlen; have h2 := HLT.out; rw [plN_len] at h2; have := HIL.out; omega), if_pos rfl])
              have HXJ := Lib.hid ((hxj i HTS.out).trans HXI.out)
              have HIJ := Lib.hid hI
              have HS := Lib.hid hS
              have HXX := Lib.hid hxj
              clear HX hI hS hxj
              by_cases hjn : j < ng
              · obtain ⟨x, hx⟩ : ∃ x, LG[j]? = some x := ⟨_, List.getElem?_eq_getElem (by have := HNG.out; omega)⟩
                obtain ⟨gx, hAx, gx1, y_x, -, -⟩ := HS.out.repl HXJ.out HGI.out hx use
                subst hAx
                have HXG := Lib.hid hx
                have HXD := Lib.hid (show (G.getD i []).getD j 0 = x by rw [HGD.out, List.getD_eq_getElem?_getD, hx]; rfl)
                have hxc : x < ch.length := by
                  have h1 := HG.out.mem i x (by rw [HGD.out]; exact List.mem_of_getElem? hx)
                  rcases Nat.lt_or_ge x ch.length with h2 | h2
                  · exact h2
                  · rw [List.getD_eq_getElem?_getD, List.getElem?_eq_none h2] at h1; cases h1
                have hun : untr Tj < n := by
                  have h0 : i < Tk.length := by have h1 := HO.out.tlen; have h2 := HLT.out; rw [plN_len] at h2; have := HIL.out; omega
                  have h1 := untr_set h0 HBT.out
                  have h2 := untr_le (T := Tk.set i true) (T' := Tj) (by rw [List.length_set]; exact HIJ.out.tlen) HIJ.out.sub
                  have h3 := untr_le (T := T) (T' := Tk) HO.out.tlen HO.out.sub
                  have := HUN.out
                  omega
                have HCALL := Lib.hid (IH.out x Tj G xsj wr hun hxc HG.out HS.out)
                have y_v : wr.cell? ⟨k.bv, 0, none⟩ = some (.func (.func 47) #[] #[pt k.bc, pt k.bt, pt k.bg, pt k.bl, pt k.bv]) := HS.out.rv.cell 0
                have z_v := HS.out.rv.lt
                have j0 : (0 : Int) ≤ (j : Int) := by omega
                have j1 : (j : Int) < (ng : Int) := by omega
                clear hx hxc hun
                go_upto_if 61 with (go_at_call 47; (with_reducible refine Calls.mono HCALL.out ?_); rintro r u1 ⟨b, T', G', xs', rfl, hst, hk, hxs⟩; have HST := Lib.hid hst; have HK := Lib.hid hk; have HXS := Lib.hid hxs; clear hst hk hxs)
                clear y_x y_v z_v gx1
                cases b with
                | false =>
                  have HNX := Lib.hid (HIJ.out.next (by rw [HXD.out]; exact HST.out))
                  obtain rfl := HNX.out.1
                  go_wp2_with fail
                  go_roundw
                  case rel => exact ⟨j + 1, by go_num, by omega, Lib.hid ⟨T', xs', HNX.out.2, HK.out, fun g hg => (HXS.out g (HIJ.out.sub g hg)).trans (HXX.out g hg)⟩⟩
                  case measure => simp [intOf]; omega
                | true =>
                  have HFD := Lib.hid (InI.found HO.out HIJ.out HLT.out (by rw [plN_len]; exact HIL.out) (by rw [HLe.out]; exact HIM.out) HBT.out (by rw [HGD.out]; have := HNG.out; omega) (by rw [HXD.out]; exact HST.out))
                  have HXI2 := Lib.hid ((HXS.out i (HIJ.out.sub i HTS.out)).trans HXJ.out)
                  have hil2 : i < G'.length := by rw [HK.out.lG.2]; exact HIL.out
                  have HGI2 := Lib.hid (show G'[i]? = some LG by
                    have h1 := HFD.out.1
                    rw [HGD.out, List.getD_eq_getElem?_getD, List.getElem?_eq_getElem hil2] at h1
                    rw [List.getElem?_eq_getElem hil2]
                    exact congrArg some h1)
                  obtain ⟨gx2, hAx2, gx1, y_x, f_x, hKF⟩ := HK.out.repl HXI2.out HGI2.out HXG.out use
                  obtain rfl : gx = gx2 := by injection hAx2 with e; injection e
                  have HKF := Lib.hid hKF
                  have y_g : u1.cell? ⟨k.bg, 0, none⟩ = some (.slice (some ⟨k.gG, 0, none⟩) l.length l.length) := HK.out.rg.cell 0
                  have z_g := HK.out.rg.lt
                  have y_G : u1.cell? ⟨k.gG, i, none⟩ = some (.slice (some ⟨gx, 0, none⟩) ng cg) := by rw [HK.out.tG.cell i]; simpa using HXI2.out
                  have z_G := HK.out.tG.lt
                  clear hKF hAx2 hil2
                  go_upto_region 14 with fail
                  obtain ⟨wf, hwf⟩ : ∃ wf, u1.setCell ⟨gx, j, none⟩ (.int .i64 (use : Int)) = wf := ⟨_, rfl⟩
                  have HKF := Lib.hid (show KSt W0 k l T' (G'.set i (LG.set j use)) xs' wf by rw [← hwf]; exact HKF.out)
                  rw [hwf]
                  clear hwf y_g z_g y_G z_G gx1 y_x f_x
                  have HFIN := Lib.hid (show Step (plN l) ch use T G true T' (G'.set i (LG.set j use)) by
                    have h1 := HFD.out.2
                    rw [HFD.out.1, HGD.out] at h1
                    exact h1)
                  go_wp2_with fail
                  go_ret
                  exact ⟨true, _, _, _, rfl, HFIN.out, HKF.out, fun g hg => (HXS.out g (HIJ.out.sub g (tr_mono (by have h1 := HO.out.tlen; have h2 := HLT.out; rw [plN_len] at h2; have := HIL.out; omega) (HO.out.sub g hg)))).trans ((HXX.out g (tr_mono (by have h1 := HO.out.tlen; have h2 := HLT.out; rw [plN_len] at h2; have := HIL.out; omega) (HO.out.sub g hg))).trans (HXK.out g hg))⟩
              · have jx : ¬ (j : Int) < (ng : Int) := by omega
                have HJ := Lib.hid (show j = (G.getD i []).length by rw [HGD.out, ← HNG.out]; omega)
                have HOD := Lib.hid (InI.done HO.out (by rw [← HJ.out]; exact HIJ.out) HLT.out (by rw [plN_len]; exact HIL.out) (by rw [HLe.out]; exact HI.out) (by rw [HGD.out, ← HNG.out]; have := HPN.out; have := HFULL.out; omega))
                go_wp2_with fail
                go_roundw
                case rel => exact ⟨q + 1, by go_num, by omega, Lib.hid ⟨Tj, xsj, HOD.out, HS.out, fun g hg => (HXX.out g (tr_mono (by have h1 := HO.out.tlen; have h2 := HLT.out; rw [plN_len] at h2; have := HIL.out; omega) (HO.out.sub g hg))).trans (HXK.out g hg)⟩⟩
                case measure => simp [intOf]; omega
      · have q1 : ¬ (q : Int) < (nu : Int) := by omega
        have HQ := Lib.hid (show q = (ch.getD use []).length by rw [HLe.out, ← HNU.out]; omega)
        go_wp2_with fail
        go_ret
        exact ⟨false, Tk, G, xsk, rfl, OutI.done (by rw [← HQ.out]; exact HO.out) HG.out, HS.out, HXK.out⟩
end Go.Proofs.Ytenojfniknjeiaa
