/- Contracts of above, quotientBounds and compare of magnitudes. -/
import Derived.Test.YtflpfmkfjccmiaaGreatDoorIh
import Derived.Test.YtflpfmkfjccmiaaGreatDoorIf
namespace Go.Proofs.YtflpfmkfjccmiaaGreatDoor
open Go.RowKit Go.Shelf
attribute [local go_sem] Oper.semAt_some

/-- Where a slice begins that is cut from place k on. -/
def slA (A : Option Addr) (c k : Nat) : Option Addr := if c = k then A else A.map (·.add k)
theorem slice_from (t : TypeId) (hu : Tryz.prog.underlying t = some (.slice 3)) (w : World) (A : Option Addr) (n c k : Nat) (hk : k ≤ n) :
    (Instr.slice t (.slice A n c) (some (.int .i64 (k : Int))) none none).run Tryz.prog w = .ok (.slice (slA A c k) (n - k) (c - k)) w := by
  have he : Tryz.prog.elem t = 3 := by simp [Program.elem, hu]
  rw [run_slice_l w t A n c (by rw [hu, he]) .i64 (k : Int) (by omega) (by omega), he]
  have hs : ∀ w, (sizeOf 3).run Tryz.prog w = .ok 1 w := fun _ => by kernel_rfl
  rw [hs]
  simp only [Result.andThen, sliced, Int.toNat_natCast, Nat.mul_one]
  rfl
theorem ints_from {w : World} {B n c : Nat} {A : Option Addr} {l : List Int} (h : Ints w B (.slice A n c) l) (k : Nat) (hk : k ≤ l.length) : Ints w B (.slice (slA A c k) (n - k) (c - k)) (l.drop k) := by
  have hcap := ints_cap h
  unfold slA
  by_cases e : c = k
  · subst e
    have : l.drop c = [] := List.drop_eq_nil_of_le (by omega)
    rw [this, if_pos rfl, Nat.sub_self]
    obtain ⟨A', c', h1, h2, h3, h4⟩ := h
    injection h1 with e1 e2 e3
    subst e1
    refine ⟨A, 0, by rw [show n - c = 0 by omega]; rfl, Nat.le_refl _, by decide, ?_⟩
    rcases h4 with ⟨h4, _⟩ | ⟨g, off, h4, hg, _⟩
    · exact .inl ⟨h4, rfl⟩
    · exact .inr ⟨g, off, h4, hg, fun j x hj => by simp at hj⟩
  · rw [if_neg e]
    cases A with
    | none =>
      obtain ⟨A', c', h1, h2, h3, h4⟩ := h
      injection h1 with e1 e2 e3
      subst e1; subst e3
      rcases h4 with ⟨_, rfl⟩ | ⟨g, off, h4, _⟩
      · obtain rfl : k = 0 := by simpa using hk
        exact ⟨none, c, by simp [e2], by simp, h3, .inl ⟨rfl, by simp⟩⟩
      · cases h4
    | some a =>
      obtain ⟨A', c', h1, h2, h3, h4⟩ := id h
      injection h1 with e1 e2 e3
      subst e1; subst e3
      rcases h4 with ⟨h4, _⟩ | ⟨g, off, h4, _⟩
      · cases h4
      · injection h4 with h4
        subst h4
        have := ints_suf h k hk
        rw [show Option.map (fun x => Addr.add x k) (some (⟨g, off, none⟩ : Addr)) = some ⟨g, off + k, none⟩ from by simp [Addr.add]]
        exact this

theorem above_step (q n k : Nat) (h : k < n) : 10000 * (q / 10000 ^ (n - k)) + q / 10000 ^ (n - 1 - k) % 10000 = q / 10000 ^ (n - (k + 1)) := by
  have := Im.div_shift q (n - 1 - k)
  rw [show n - 1 - k + 1 = n - k by omega] at this
  rw [show n - (k + 1) = n - 1 - k by omega]; omega

set_option maxRecDepth 100000 in
set_option maxHeartbeats 2000000 in
theorem above_any (v : Value) (n f : Nat) (w : World) (hv : Mag w v n) (hl : (Im.grp n).length ≤ f + 3) (_ : f ≤ 1000) :
    Calls Tryz.prog 101 #[v, .int .i64 (f : Int)] w fun e w' => e = .returned (.int .i64 ((n / 10000 ^ f : Nat) : Int)) ∧ Below w.heap.size w w' := by
  obtain ⟨A, c, rfl, hc1, hc2⟩ := ints_form hv
  obtain ⟨N, hN⟩ : ∃ N, (Im.grp n).length = N := ⟨_, rfl⟩
  obtain ⟨k0, hk0⟩ : ∃ k, min f N = k := ⟨_, rfl⟩
  have hsl := fun w => slice_from 45 Tryz.underlying45 w A N c k0 (by omega)
  have hvd := ints_from hv k0 (by omega)
  have hdrop : (Im.grp n).drop k0 = Im.grp (n / 10000 ^ f) := by
    by_cases h : f ≤ N
    · rw [← hk0, Nat.min_eq_left h, Im.grp_drop]
    · rw [← hk0, Nat.min_eq_right (by omega), List.drop_eq_nil_of_le (by omega)]
      have := Im.grp_drop n f
      rw [List.drop_eq_nil_of_le (by omega)] at this; exact this
  have hlen2 : (Im.grp (n / 10000 ^ f)).length = N - k0 := by rw [← hdrop, List.length_drop, hN]
  obtain ⟨q, hq⟩ : ∃ q, n / 10000 ^ f = q := ⟨_, rfl⟩
  rw [hdrop, hN, hq] at hvd
  rw [hq] at hlen2 ⊢
  have hq0 := Im.grp_lt q
  have hqd := fun i => Im.grp_getD q i
  rw [hN] at hc1 ⊢
  obtain ⟨l, hll⟩ : ∃ l, Im.grp q = l := ⟨_, rfl⟩
  rw [hll] at hvd hlen2 hq0 hqd
  obtain ⟨n2, hn2⟩ : ∃ n2, N - k0 = n2 := ⟨_, rfl⟩
  have hn3 : n2 ≤ 3 := by omega
  have hq1 : q < 1000000000000 := by
    have : 10000 ^ n2 ≤ 10000 ^ 3 := Nat.pow_le_pow_right (by decide) hn3
    rw [hlen2, hn2] at hq0
    exact Nat.lt_of_lt_of_le hq0 this
  rw [hlen2, hn2] at hq0
  rw [hn2] at hvd hsl hlen2
  obtain ⟨A2, hA2⟩ : ∃ A2, slA A c k0 = A2 := ⟨_, rfl⟩
  rw [hA2] at hvd hsl
  have hmn := fun (w : World) => run_min2 (P := Tryz.prog) (w := w) #[3, 3] 3 .i64 .i64 f N k0 (by omega)
  have HVD := Lib.hid hvd; have HL2 := Lib.hid hlen2; have HQD := Lib.hid hqd; have HQ0 := Lib.hid hq0; have HMN := Lib.hid hmn; have HSL := Lib.hid hsl
  clear hvd hdrop hlen2 hqd hq0 hv hN hk0 hA2 hn2 hq hll hmn hsl
  refine (callsIn_wide (n := 3)).1 ?_
  refine callsIn_of_wp_marks Tryz.func101 rfl trivial ?_ rfl
  simp only [Tryz.ntmps101, List.size_toArray, List.length_cons, List.length_nil, Nat.reduceAdd, Nat.reduceSub, Array.replicate_succ, Array.replicate_zero, List.push_toArray, List.append_toArray, List.nil_append, List.cons_append]
  have hmn := HMN.out; have hsl := HSL.out
  gi_wp2_with (refine ⟨trivial, ?_⟩; gi_at_call 76; refine (back_in _ _ _ _ _).mono ?_; rintro e w' ⟨rfl, rfl⟩)
  clear hmn hsl HMN HSL
  obtain ⟨W0, hW0⟩ : ∃ W0, (w.alloc (.cells #[.int .i64 0] 3)).alloc (.cells #[.slice A2 n2 (c - k0)] 45) = W0 := ⟨_, rfl⟩
  have hb0 : Below w.heap.size w W0 := by rw [← hW0]; exact ((Below.refl _ w).alloc (Nat.le_refl _) _).alloc (by simp) _
  have hs0 : W0.heap.size = w.heap.size + 2 := by rw [← hW0]; simp
  have rn0 : Row W0 w.heap.size 3 #[.int .i64 0] := by rw [← hW0]; exact (Row.new w _ _).alloc _
  have rb0 : Row W0 (w.heap.size + 1) 45 #[.slice A2 n2 (c - k0)] := by
    rw [← hW0]
    have := Row.new (w.alloc (.cells #[.int .i64 0] 3)) 45 #[.slice A2 n2 (c - k0)]
    rw [World.size_alloc] at this; exact this
  rw [hW0]
  clear hW0
  have hgv : GivesN Fence.wide (3 - 1) Tryz.prog 99 #[.pointer (some ⟨w.heap.size + 1, 0, none⟩)] (encB l) (fun X j => j = w.heap.size ∨ j = W0.heap.size ∨ j = W0.heap.size + 1) (fixB (w.heap.size + 1) A2) l.length W0 :=
    back_gives (3 - 1) (w.heap.size + 1) (c - k0) A2 l _ W0 (by rw [HL2.out]; exact rb0) (by rw [HL2.out]; exact HVD.out.next hb0)
  have hAf : ∀ j, fixB (w.heap.size + 1) A2 j → j < W0.heap.size ∧ j ≠ w.heap.size := by
    rintro j (rfl | ⟨off, rfl⟩)
    · omega
    · obtain ⟨A', c', h1, _, _, h4⟩ := HVD.out
      injection h1 with e1 e2 e3
      subst e1
      rcases h4 with ⟨h4, _⟩ | ⟨g, o, h4, h5, _⟩
      · cases h4
      · injection h4 with h4
        injection h4 with h6 h7
        subst h6; omega
  have HAF := Lib.hid hAf
  clear hAf
  have HRN := Lib.hid rn0; have HB0 := Lib.hid hb0
  rw [HL2.out] at hgv
  refine rangeFunc_n (F := Fence.wide) rfl (by decide) (gf := 99) (lb := #[.pointer (some ⟨w.heap.size + 1, 0, none⟩)]) rfl trivial (enters_of Tryz.func99 (by kernel_rfl) rfl)
    (no := fun _ j => j = w.heap.size) hgv
    (fun _ => rfl) (fun j h => (HAF.out j h).1)
    (fun k W => Row W w.heap.size 3 #[.int .i64 ((q / 10000 ^ (n2 - k) : Nat) : Int)] ∧ Below w.heap.size w W)
    (fun k X Y j h hb hj => by subst hj; exact ⟨rfl, h.1.lt, fun e => (HAF.out _ e).2 rfl, by omega, by omega⟩)
    (fun _ _ _ _ _ h => h)
    (fun _ _ _ => False) (fun _ _ _ _ _ _ _ h => h)
    (fun k X Y h hb => ⟨h.1.below hb h.1.lt, h.2.trans (hb.mono h.2.size)⟩)
    (fun k X r o hr _ h => ⟨(World.putObj_heap_other (by omega)).trans h.1, h.2.trans ⟨rfl, rfl, rfl, by simp, fun j hj => World.putObj_heap_other (by omega)⟩⟩)
    ⟨by rw [Nat.sub_zero, Nat.div_eq_of_lt HQ0.out]; exact HRN.out, HB0.out⟩
    (fun k a' _ => a' = { tmps := #[.slice A N c, .int .i64 (f : Int), undef, undef, .int .i64 0, .pointer (some ⟨w.heap.size, 0, none⟩), undef, .int .i64 (l.getD (l.length - 1 - k) 0), .slice A N c, .int .i64 (f : Int), .slice A N c, .int .i64 (N : Int), .int .i64 (k0 : Int), .slice A2 n2 (c - k0),
      .func (.func 99) #[] #[.pointer (some ⟨w.heap.size + 1, 0, none⟩)], .int .i64 ((l.length : Int) - 1 - (k : Int)), .int .i64 (l.getD (l.length - 1 - k) 0), undef, undef, undef, undef, undef], defers := [] })
    (fun _ _ _ _ _ _ _ h => h) ?assign ?body ?done ?stop
  case assign =>
    intro y k W K hkn hsz hI hK
    unfold encB
    have HK := Lib.hid hK
    clear hK
    gi_wp2
    exact HK.out _ _ (Below.refl _ _) rfl
  case body =>
    rintro y k a' W hkn hsz ⟨hr, hbw⟩ rfl
    have cn := hr.cell 0
    have fn := hr.free 0
    simp only [List.getElem?_toArray, List.getElem?_cons_zero] at cn
    have hx := HQD.out (n2 - 1 - k)
    rw [HL2.out, hx]
    have hst := above_step q n2 k hkn
    have hle : q / 10000 ^ (n2 - (k + 1)) ≤ q := Nat.div_le_self _ _
    have hlt : q / 10000 ^ (n2 - 1 - k) % 10000 < 10000 := Nat.mod_lt _ (by decide)
    obtain ⟨x, hxx⟩ : ∃ x, q / 10000 ^ (n2 - 1 - k) % 10000 = x := ⟨_, rfl⟩
    obtain ⟨t, htt⟩ : ∃ t, q / 10000 ^ (n2 - k) = t := ⟨_, rfl⟩
    obtain ⟨u, huu⟩ : ∃ t, q / 10000 ^ (n2 - (k + 1)) = t := ⟨_, rfl⟩
    rw [hxx, htt, huu] at hst; rw [huu] at hle; rw [hxx] at hlt ⊢; rw [htt] at cn
    have e1 : 10000 * (t : Int) + (x : Int) = (u : Int) := by omega
    have e2 : IntKind.i64.wrap (10000 * (t : Int)) = 10000 * (t : Int) := IntWalk.i64_in _ (by omega)
    have e3 : IntKind.i64.wrap (10000 * (t : Int) + (x : Int)) = (u : Int) := by rw [e1]; exact IntWalk.i64_in _ (by omega)
    have HR := Lib.hid hr; have HU := Lib.hid huu
    clear hx hst hxx htt huu hr
    have t1 : t ≤ 1000000000000 := by omega
    gi_wp2
    refine ⟨Keeps.setCell (no := fun j => j = w.heap.size) (p := ⟨w.heap.size, 0, none⟩) rfl _, ?_, hbw.setCell (Nat.le_refl _) _⟩
    have := HR.out.put 0 (.int .i64 (u : Int))
    rw [HU.out]; exact this
  case done =>
    rintro D W hD ⟨hr, hbw⟩ hK
    have cn := hr.cell 0
    simp only [List.getElem?_toArray, List.getElem?_cons_zero, Nat.sub_self, Nat.pow_zero, Nat.div_one] at cn
    gi_wp2
    refine ⟨by simp, .inl ⟨_, _, rfl, run_takeDeferred hK, ?_⟩⟩
    refine ⟨_, results_tmp rfl _ _ _, rfl, ?_⟩
    exact hbw.trans (belowK_b (w := w) (Nat.le_refl _) W D _ _ (by omega) hK rfl rfl)
  case stop =>
    intro D c k W _ _ h _
    exact h.elim
end Go.Proofs.YtflpfmkfjccmiaaGreatDoor
