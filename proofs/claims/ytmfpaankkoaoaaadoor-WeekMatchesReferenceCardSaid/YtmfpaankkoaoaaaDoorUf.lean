/- Contracts of In, and of the reference's In. -/
import Derived.Test.YtmfpaankkoaoaaaDoorUe
import Derived.Deep.RegionWith
namespace Go.Proofs.YtmfpaankkoaoaaaDoor
open Go.RowKit

/-- The hours of a day. -/
def hrs (l : List Int) (d : Nat) : Nat := (l[d]?.getD 0).toNat
/-- Does the week have the second? -/
def hasS (l : List Int) (t : Nat) : Bool := (hrs l (t / 86400 % 7)).testBit (t / 3600 % 24)
def inW (l : List Int) (t : Int) : Bool := validW l && isSec t && hasS l t.toNat
theorem hrs_at {l : List Int} (hv : validW l = true) {k : Nat} (hk : k < l.length) : l[k]? = some ((hrs l k : Nat) : Int) ∧ hrs l k ≤ 16777215 := by
  have h := List.getElem?_eq_getElem hk
  have hb := validW_at hv h
  have e : hrs l k = (l[k]).toNat := by simp [hrs, h]
  rw [e]
  exact ⟨by rw [h]; congr 1; omega, by omega⟩
theorem kept_row {wr w2 : World} {t : TypeId} {cs : Array Value} (hb : Below (wr.alloc (.cells cs t)).heap.size (wr.alloc (.cells cs t)) w2) :
    Below wr.heap.size wr w2 ∧ wr.heap.size < w2.heap.size ∧ Row w2 wr.heap.size t cs := by
  have h := (Row.new wr t cs).below hb (by simp)
  have hs := hb.size
  rw [World.size_alloc] at hs
  exact ⟨((Below.refl _ wr).alloc (Nat.le_refl _) _).trans (hb.mono (by simp)), by omega, h⟩
set_option maxRecDepth 100000 in
set_option maxHeartbeats 4000000 in
theorem in_any (l : List Int) (h7 : l.length = 7) (t : Int) (w : World) : Calls Tryd.prog 11 #[wv l, .int .i64 t] w fun e w' => e = .returned (.bool (inW l t)) ∧ Below w.heap.size w w' := by
  have HVA := Lib.hid (fun u => valid_any l h7 u)
  have HIS := Lib.hid (fun u => isSecond_any t u)
  have HC := Lib.hid (fun k => ints_get l k)
  have HAT := Lib.hid (fun (hv : validW l = true) k (hk : k < 7) => hrs_at hv (show k < l.length by omega))
  unfold inW
  obtain ⟨L, hL⟩ : ∃ L, l = L := ⟨_, rfl⟩
  obtain ⟨a, b, c, d, e, f, g, rfl⟩ := seven h7
  have hwv : wv L = .agg #[.int .i64 a, .int .i64 b, .int .i64 c, .int .i64 d, .int .i64 e, .int .i64 f, .int .i64 g] := by rw [← hL]; rfl
  have hin : ints L = #[.int .i64 a, .int .i64 b, .int .i64 c, .int .i64 d, .int .i64 e, .int .i64 f, .int .i64 g] := by rw [← hL]; rfl
  simp only [hL] at HVA HC HAT ⊢
  rw [hwv] at HVA ⊢
  rw [hin] at HC
  clear hwv hin h7 hL
  cases h1 : validW L with
  | false =>
    have HV := Lib.hid (fun u => h1 ▸ HVA.out u)
    clear HVA HIS HC HAT h1
    go_enter Tryd.func11, Tryd.ntmps11
    go_wp2_with (go_at_call 6; with_reducible refine Calls.mono (HV.out _) ?_; rintro e' w1 ⟨rfl, hb1⟩; obtain ⟨hk1, hs1, hr1⟩ := kept_row hb1; have HB1 := Lib.hid hk1; clear hb1 hk1 hr1)
    go_ret
    exact ⟨rfl, HB1.out⟩
  | true =>
    have HV := Lib.hid (fun u => h1 ▸ HVA.out u)
    cases h2 : isSec t with
    | false =>
      have HI := Lib.hid (fun u => h2 ▸ HIS.out u)
      clear HVA HIS HC HAT h1 h2
      go_enter Tryd.func11, Tryd.ntmps11
      go_wp2_with (first | (go_at_call 6; with_reducible refine Calls.mono (HV.out _) ?_; rintro e' w1 ⟨rfl, hb1⟩; obtain ⟨hk1, hs1, hr1⟩ := kept_row hb1; have HB1 := Lib.hid hk1; clear hb1 hk1 hr1) | (go_at_call 30; with_reducible refine Calls.mono (HI.out _) ?_; rintro e' w1 ⟨rfl, rfl⟩))
      go_ret
      exact ⟨rfl, HB1.out⟩
    | true =>
      have HI := Lib.hid (fun u => h2 ▸ HIS.out u)
      obtain ⟨t1, t2⟩ := (isSec_iff t).1 h2
      obtain ⟨n, rfl⟩ := Int.eq_ofNat_of_zero_le t1
      obtain ⟨D, hD⟩ : ∃ D, n / 86400 % 7 = D := ⟨_, rfl⟩
      obtain ⟨K, hK⟩ : ∃ K, n / 3600 % 24 = K := ⟨_, rfl⟩
      have hD7 : D < 7 := by omega
      have hK24 : K < 24 := by omega
      have q1 : ((n : Int)).tdiv 86400 = (n : Int) / 86400 := Int.tdiv_eq_ediv_of_nonneg (by omega)
      have q2 : ((n : Int) / 86400).tmod 7 = (D : Int) := by rw [Int.tmod_eq_emod_of_nonneg (by omega)]; omega
      have q3 : ((n : Int)).tmod 86400 = (n : Int) % 86400 := Int.tmod_eq_emod_of_nonneg (by omega)
      have q4 : ((n : Int) % 86400).tdiv 3600 = (K : Int) := by rw [Int.tdiv_eq_ediv_of_nonneg (by omega)]; omega
      obtain ⟨hx, hx2⟩ := HAT.out h1 D hD7
      have hcell := HC.out D
      rw [hx] at hcell
      have hres : (true && true && hasS L (n : Int).toNat) = (hrs L D).testBit K := by
        unfold hasS; rw [Int.toNat_natCast, hD, hK]; rfl
      rw [hres]
      obtain ⟨x, hxx⟩ : ∃ x, hrs L D = x := ⟨_, rfl⟩
      rw [hxx] at hx2 hcell ⊢
      have HH := Lib.hid (fun u => has_any x K hx2 (by omega) u)
      have i1 : (0 : Int) ≤ (D : Int) := by omega
      have i2 : (D : Int) < 7 := by omega
      obtain ⟨bb, hbb⟩ : ∃ bb, x.testBit K = bb := ⟨_, rfl⟩
      rw [hbb] at HH ⊢
      simp only [Option.map_some] at hcell
      clear HVA HIS HC HAT h1 h2 hD hK hx hres hxx hbb
      go_enter Tryd.func11, Tryd.ntmps11
      go_wp2_with (first | (go_at_call 6; with_reducible refine Calls.mono (HV.out _) ?_; rintro e' w1 ⟨rfl, hb1⟩; obtain ⟨hk1, hs1, hr1⟩ := kept_row hb1; have HB1 := Lib.hid hk1; have hc1 := (hr1.cell D).trans hcell; clear hb1 hk1 hr1) | (go_at_call 30; with_reducible refine Calls.mono (HI.out _) ?_; rintro e' w1 ⟨rfl, rfl⟩) | (go_at_call 33; with_reducible refine Calls.mono (HH.out _) ?_; rintro e' w2 ⟨rfl, rfl⟩))
      go_ret
      exact ⟨rfl, HB1.out⟩
end Go.Proofs.YtmfpaankkoaoaaaDoor
