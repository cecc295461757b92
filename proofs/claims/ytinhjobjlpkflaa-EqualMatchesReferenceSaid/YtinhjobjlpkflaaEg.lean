/- accounts' serve and appear. -/
import Derived.Test.YtinhjobjlpkflaaEf
namespace Go.Proofs.Ytinhjobjlpkflaa
open Go.RowKit
attribute [local go_sem ↓] append_appN

theorem serve_bound {l : List Cl} {w : Int} (h : ∀ c ∈ l, 0 < c.rest) (hw : 0 ≤ w) (k : Nat) : 0 ≤ (serveL (l.take k) w).2 ∧ (serveL (l.take k) w).2 ≤ w ∧ (serveL (l.take k) w).1.length ≤ k := by
  obtain ⟨_, a, b, _, _, c⟩ := serve_is (l := l.take k) (w := w) (fun c hc => h c (List.mem_of_mem_take hc)) hw
  refine ⟨a, b, ?_⟩
  rw [List.length_take] at c
  omega
/-- No row has the block p. -/
def Nb (p : Nat) (xs : List Value) : Prop := ∀ (i : Nat) (x : Value), xs[i]? = some x → x.ownBlock ≠ some p
theorem Nb.set {p : Nat} {xs : List Value} (h : Nb p xs) (j : Nat) {v : Value} (hv : v.ownBlock ≠ some p) : Nb p (xs.set j v) := fun i x hx => by
  rw [List.getElem?_set] at hx
  by_cases e : j = i
  · rw [if_pos e] at hx
    split at hx
    · rw [← Option.some.inj hx]; exact hv
    · simp at hx
  · rw [if_neg e] at hx
    exact h i x hx
set_option maxRecDepth 100000 in
set_option maxHeartbeats 8000000 in
theorem serve_any (w : World) (g n : Nat) (s : Ac) (xs : List Value) (w0 : World) (h : AcS w g n s xs w0) (c : Nat) (hc : c < 8) (wt : Int) (hp : ∀ d ∈ s.op.getD c [], 0 < d.rest ∧ d.rest ≤ 100000) (hl : (s.op.getD c []).length ≤ 1000) (hw : 0 ≤ wt ∧ wt ≤ 1000000) :
    Calls Try.prog 47 #[pt g, .int .i64 (c : Int), .int .i64 wt] w0 fun e w' => e = .returned (.int .i64 (serveL (s.op.getD c []) wt).2) ∧ (∃ xs', AcS w g n ⟨s.had, s.op.set c (serveL (s.op.getD c []) wt).1⟩ xs' w' ∧ ∀ p, p < w0.heap.size → Nb p xs → Nb p xs') ∧ FarG g w0 w' := by
  have HS := Lib.hid h
  obtain ⟨L, hL⟩ : ∃ L, s.op.getD c [] = L := ⟨_, rfl⟩
  have hLg : s.op[c]? = some L := by rw [← hL]; exact op_get h.lo hc
  obtain ⟨v, hv⟩ : ∃ v, xs[c]? = some v := ⟨_, List.getElem?_eq_getElem (by rw [h.lx]; exact hc)⟩
  have ho := h.own c v L hv hLg
  obtain ⟨Av, cv, rfl, -⟩ := own_slice ho
  have HR := Lib.hid (recs_of_ownE (enc := encC) (k := 4) (fun _ => rfl) ho rfl)
  have z0 := h.cellS hv
  have lg := h.row.lt
  rw [hL] at hp hl ⊢
  have HP := Lib.hid hp
  have HB := Lib.hid (fun k => serve_bound (fun d hd => (hp d hd).1) hw.1 k)
  have HV := Lib.hid hv
  have HLG := Lib.hid hLg
  have c0 : (0 : Int) ≤ (c : Int) := by omega
  have c1 : (c : Int) < 8 := by omega
  obtain ⟨fin, hfin⟩ : ∃ f, serveL L wt = f := ⟨_, rfl⟩
  rw [hfin]
  have HF := Lib.hid hfin
  clear h hv hLg ho hL hp hfin
  go_enter Try.func47, Try.ntmps47
  go_upto_region 3 with fail
  clear z0
  go_loopw [2, 7, 18] (fun u o z wi => ∃ k : Nat, z = .int .i64 (k : Int) ∧ k ≤ L.length ∧ u = .int .i64 (serveL (L.take k) wt).2 ∧ Hid (GatC w0 (serveL (L.take k) wt).1 o wi)) (fun _ _ z _ => L.length - (intOf z).toNat)
  case atStart => exact ⟨0, rfl, Nat.zero_le _, rfl, Lib.hid ⟨World.ownsRow_nil _ _ _ _, Below.refl _ _⟩⟩
  case round =>
    obtain ⟨k, rfl, hk, rfl, HG⟩ := hrel
    have k0 : (0 : Int) ≤ (k : Int) := by omega
    have e7 : IntKind.i64.wrap ((k : Int) + 1) = (k : Int) + 1 := IntWalk.i64_in _ (by omega)
    have hb := HB.out k
    by_cases hlt : k < L.length
    · have k1 : (k : Int) < (L.length : Int) := by omega
      obtain ⟨q, hq⟩ : ∃ q, L[k]? = some q := ⟨_, List.getElem?_eq_getElem hlt⟩
      have hpq := HP.out q (List.mem_of_getElem? hq)
      have HSN := Lib.hid (serve_step hq wt)
      obtain ⟨F, hF⟩ : ∃ F, (serveL (L.take k) wt).1 = F := ⟨_, rfl⟩
      obtain ⟨u, hu⟩ : ∃ u, (serveL (L.take k) wt).2 = u := ⟨_, rfl⟩
      obtain ⟨b, o, rfl, hg, hcell⟩ := recs_at (HR.out.below HG.out.b) k hlt
      have a0 : wr.cell? ⟨b, o + k * 4, none⟩ = some (.int .i64 q.cand) := hcell k q hq 0 _ rfl
      have a1 : wr.cell? ⟨b, o + k * 4 + 1, none⟩ = some (.int .i64 q.of_) := hcell k q hq 1 _ rfl
      have a2 : wr.cell? ⟨b, o + k * 4 + 2, none⟩ = some (.int .i64 q.rest) := hcell k q hq 2 _ rfl
      have a3 : wr.cell? ⟨b, o + k * 4 + 3, none⟩ = some (.int .i64 q.until_) := hcell k q hq 3 _ rfl
      have lw := HG.out.b.size
      have g9 : b < wr.heap.size := by omega
      obtain ⟨m, hm⟩ : ∃ m, min q.rest u = m := ⟨_, rfl⟩
      have MN := fun w : World => run_min2 (P := Try.prog) (w := w) #[3, 3] 3 .i64 .i64 q.rest u m hm
      have HSV := Lib.hid (show serveF (serveL (L.take k) wt) q = (if 0 < q.rest - m then F ++ [⟨q.cand, q.of_, q.rest - m, q.until_⟩] else F, u - m) by unfold serveF; rw [hF, hu, hm])
      rw [hF] at HG hb
      rw [hu] at hb ⊢
      rw [HSV.out] at HSN
      have m0 : 0 ≤ m ∧ m ≤ u ∧ m ≤ q.rest := by omega
      have HBX := Lib.hid (fun cs => HG.out.next ((Below.refl _ wr).alloc (Nat.le_refl _) (.cells cs 39)))
      obtain ⟨A5, c5, rfl, -⟩ := own_slice HG.out.own
      have hFl : F.length ≤ 1000 := by omega
      obtain ⟨z0, z1, z2, z3⟩ := q
      dsimp only at a0 a1 a2 a3 hm MN HSN m0 hpq
      clear hcell hq hF hu hm HSV lw
      by_cases hd : 0 < z2 - m
      · have HN := Lib.hid (show serveL (L.take (k + 1)) wt = (F ++ [⟨z0, z1, z2 - m, z3⟩], u - m) by rw [HSN.out, if_pos hd])
        obtain ⟨A6, c6, w6, hrun, hG⟩ := (HBX.out #[.int .i64 z0, .int .i64 z1, .int .i64 (z2 - m), .int .i64 z3]).push (by omega) ⟨z0, z1, z2 - m, z3⟩ (cs := #[.int .i64 z0, .int .i64 z1, .int .i64 (z2 - m), .int .i64 z3]) rfl
        have HG6 := Lib.hid hG
        rw [World.size_alloc] at hrun
        clear hG
        go_wp2
        go_roundw
        case rel => exact ⟨k + 1, by go_num, by omega, by rw [HN.out], by rw [HN.out]; exact HG6⟩
        case measure => simp [intOf]; omega
      · have HN := Lib.hid (show serveL (L.take (k + 1)) wt = (F, u - m) by rw [HSN.out, if_neg hd])
        have HG6 := Lib.hid (HBX.out #[.int .i64 z0, .int .i64 z1, .int .i64 (z2 - m), .int .i64 z3])
        go_wp2
        go_roundw
        case rel => exact ⟨k + 1, by go_num, by omega, by rw [HN.out], by rw [HN.out]; exact HG6⟩
        case measure => simp [intOf]; omega
    · have k1 : ¬ (k : Int) < (L.length : Int) := by omega
      have hse : serveL (L.take k) wt = fin := by rw [List.take_of_length_le (by omega)]; exact HF.out
      rw [hse] at HG ⊢
      obtain ⟨A5, c5, hoe, hloc⟩ := own_slice HG.out.own
      subst hoe
      have hS2 := HS.out.next HG.out.b
      have lg2 := hS2.row.lt
      have f2 := hS2.row.free (9 + c)
      have z2 := hS2.cellS HV.out
      have hlw := HG.out.b.size
      have hbs := HS.out.b.size
      have hown := own_lower HG.out.own hbs
      have HFIN := Lib.hid (AcS.setS hS2.row hS2.lx hS2.lh hS2.lo hS2.b hS2.hg hc (fun i x M _ hx hM => hS2.own i x M hx hM) (fun i j x y q hij _ _ hx hy e => hS2.ap i j x y q hij hx hy e) (fun i x _ hx => hS2.ng i x hx) hown (fun i x q _ hx e e2 => by
        have h1 := own_ge HG.out.own q e
        have hi : i < s.op.length := by rw [HS.out.lo, ← HS.out.lx]; exact (List.getElem?_eq_some_iff.1 hx).1
        have h2 := own_lt (HS.out.own i x _ hx (List.getElem?_eq_getElem hi)) q e2
        omega) (fun e => by
        have h1 := own_ge HG.out.own g e
        have := HS.out.row.lt
        omega))
      clear hse hS2 hown hloc
      go_wp2
      go_ret
      exact ⟨rfl, ⟨_, HFIN.out, fun p hp hN => hN.set c (fun e => by have := own_ge HG.out.own p e; omega)⟩, by simp; exact HG.out.b.size, fun k hk hne => (Below.heap_setCell wr ⟨g, 9 + c, none⟩ _ k hne).trans (HG.out.b.block k hk)⟩
end Go.Proofs.Ytinhjobjlpkflaa
