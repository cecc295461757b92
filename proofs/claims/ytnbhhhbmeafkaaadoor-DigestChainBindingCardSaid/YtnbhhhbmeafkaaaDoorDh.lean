/- Contracts of blocks and sumOf: sumOf returns the digest of its strings joined, which the plain function sha of Dm says. -/
import Derived.Test.YtnbhhhbmeafkaaaDoorDg
namespace Go.Proofs.YtnbhhhbmeafkaaaDoor
open Go.RowKit Go.Shelf
attribute [local go_sem] Oper.semAt_some

theorem flat_at (xs : List Block) (j : Nat) (h : j < xs.length) : ((flat xs).drop (64 * j)).take 64 = xs[j].1 := by
  have e : flat xs = flat (xs.take j) ++ (xs[j].1 ++ flat (xs.drop (j + 1))) := by
    have h1 : xs = xs.take j ++ (xs[j] :: xs.drop (j + 1)) := by rw [← List.drop_eq_getElem_cons h, List.take_append_drop]
    have h2 : flat (xs.take j ++ (xs[j] :: xs.drop (j + 1))) = flat (xs.take j) ++ (xs[j].1 ++ flat (xs.drop (j + 1))) := by
      simp only [flat, List.map_append, List.map_cons, List.flatten_append, List.flatten_cons]
    rw [← h1] at h2; exact h2
  have hl : (flat (xs.take j)).length = 64 * j := by rw [flat_len, List.length_take, Nat.min_eq_left (by omega)]
  rw [e, List.drop_append_of_le_length (by omega), List.drop_of_length_le (by omega), List.nil_append, List.take_append_of_le_length (by rw [xs[j].2]; omega), List.take_of_length_le (by rw [xs[j].2]; omega)]
def mixB (xs : List Block) : Dm.St := xs.foldl (fun s x => Dm.mix s x.1) Dm.init
theorem mixB_snoc (xs : List Block) (x : Block) : mixB (xs ++ [x]) = Dm.mix (mixB xs) x.1 := by simp [mixB]
theorem mixB_ok (xs : List Block) : (mixB xs).ok := Dm.foldl_inv Dm.St.ok _ _ (fun _ _ _ => Dm.mix_ok _ _) _ Dm.init_ok
theorem mixes_flat (xs : List Block) : ∀ n, n ≤ xs.length → Dm.mixes n Dm.init (flat xs) = mixB (xs.take n) := by
  intro n
  induction n with
  | zero => intro _; rw [Dm.mixes_zero]; rfl
  | succ n ih => intro h; rw [Dm.mixes_snoc, ih (by omega), flat_at xs n (by omega), List.take_succ_eq_append_getElem (by omega), mixB_snoc]
theorem sha_flat (xs : List Block) (T : List UInt8) (h : flat xs = Dm.ext T) : Dm.sha T = Dm.out (mixB xs) := by
  unfold Dm.sha
  rw [← h, flat_len, Nat.mul_div_cancel_left _ (by decide), mixes_flat xs _ (Nat.le_refl _), List.take_length]

theorem storeIn_fresh {F : Fence} {n : Nat} {P : Program} {w : World} {ops : Array Oper} {rest : List Oper} {o : Oper} {a : Act} {Q : Exit → Act → World → Prop} (hgd : o.guard = none) (ty : TypeId) (x y : Operand) (ho : o.op = .store ty x y)
    (cells : Array Value) (hx : a.eval x = .pointer (some ⟨w.heap.size, 0, none⟩)) (hy : a.eval y = .agg cells)
    (t : TypeId) (old : Array Value) (hi : (P.info? ty).map (·.size) = some cells.size)
    (hold : old.size = cells.size) (h1 : cells.all (·.oneCell') = true)
    (h : ∀ w2, Row w2 w.heap.size t cells → Below w.heap.size w w2 → wpListIn F n P ops Q rest (a.put o.dst undef) w2) : wpListIn F n P ops Q (o :: rest) a (w.alloc (.cells old t)) :=
  wpListIn_store_all hgd ty x y ho w.heap.size cells hx hy t old (heap_alloc_new w _) hi hold h1
    (h _ (setRow_heap _ _ _ _ _ _ (heap_alloc_new w _)) (belowRow ((Below.refl _ _).alloc (Nat.le_refl _) _) (Nat.le_refl _) _))
theorem stA_size (s : Dm.St) : (stA s).size = 8 := rfl
theorem u8row_all (l : List UInt8) : (u8row l).all (·.oneCell') = true := by
  rw [Array.all_eq_true_iff_forall_mem]; intro x hx; simp [u8row] at hx; obtain ⟨y, _, rfl⟩ := hx; rfl

theorem blocks_in (m : Nat) (A : Option Addr) (k c : Nat) (w : World) :
    CallsIn Fence.wide m Tryd.prog 57 #[.slice A k c] w fun e w' => e = .returned (.func (.func 67) #[] #[.pointer (some ⟨w.heap.size, 0, none⟩)]) ∧ w' = w.alloc (.cells #[.slice A k c] 26) := by
  refine callsIn_of_wp Tryd.func57 rfl trivial ?_ rfl
  try simp only [Tryd.ntmps57, List.size_toArray, List.length_cons, List.length_nil, Nat.reduceAdd, Nat.reduceSub, Array.replicate_succ, Array.replicate_zero, List.push_toArray, List.append_toArray, List.nil_append, List.cons_append]
  gi_wp2
  go_ret
  exact ⟨rfl, rfl⟩

set_option maxRecDepth 100000 in
set_option maxHeartbeats 2000000 in
theorem sumOf_any (v : Value) (ps : List (List UInt8)) (hps : ps.flatten.length ≤ 1099511627776 - 200) (w : World) (hv : Strs w w.heap.size v ps) (ht : TabOk w) :
    Calls Tryd.prog 40 #[v] w fun e w' => e = .returned (strOf (Dm.sha ps.flatten)) ∧ Below w.heap.size w w' := by
  have hv0 := hv
  obtain ⟨A, c, rfl, hc1, hc2, hA⟩ := hv
  refine (callsIn_wide (n := 3)).1 ?_
  refine callsIn_of_wp_marks Tryd.func40 rfl trivial ?_ rfl
  simp only [Tryd.ntmps40, List.size_toArray, List.length_cons, List.length_nil, Nat.reduceAdd, Nat.reduceSub, Array.replicate_succ, Array.replicate_zero, List.push_toArray, List.append_toArray, List.nil_append, List.cons_append]
  gi_wp2_with (refine ⟨trivial, ?_⟩; gi_at_call 57; refine (blocks_in _ _ _ _ _).mono ?_; rintro e w' ⟨rfl, rfl⟩)
  obtain ⟨W0, hW0⟩ : ∃ W0, (w.alloc (.cells #[.int .u32 1779033703, .int .u32 3144134277, .int .u32 1013904242, .int .u32 2773480762, .int .u32 1359893119, .int .u32 2600822924, .int .u32 528734635, .int .u32 1541459225] 73)).alloc (.cells #[.slice A ps.length c] 26) = W0 := ⟨_, rfl⟩
  have hb0 : Below w.heap.size w W0 := by rw [← hW0]; exact ((Below.refl _ w).alloc (Nat.le_refl _) _).alloc (by simp) _
  have hs0 : W0.heap.size = w.heap.size + 2 := by rw [← hW0]; simp
  have rw0 : Row W0 w.heap.size 73 (stA (mixB [])) := by rw [← hW0]; exact (Row.new w 73 (stA Dm.init)).alloc _
  have rp0 : Row W0 (w.heap.size + 1) 26 #[.slice A ps.length c] := by
    rw [← hW0]
    have := Row.new (w.alloc (.cells #[.int .u32 1779033703, .int .u32 3144134277, .int .u32 1013904242, .int .u32 2773480762, .int .u32 1359893119, .int .u32 2600822924, .int .u32 528734635, .int .u32 1541459225] 73)) 26 #[.slice A ps.length c]
    rw [World.size_alloc] at this; exact this
  rw [hW0]
  clear hW0
  refine rangeFunc_all (F := Fence.wide) rfl (by decide) (gf := 67) (lb := #[.pointer (some ⟨w.heap.size + 1, 0, none⟩)]) rfl trivial (enters_of Tryd.func67 (by kernel_rfl) rfl)
    (no := fun k => k = w.heap.size) (encs := encB)
    (blocks1_all (3 - 1) _ (w.heap.size + 1) (.slice A ps.length c) ps hps W0 (by rintro k (rfl | rfl | rfl) <;> omega) ((hv0.below hb0).more (by omega))
      (fun A' n' c' g off e1 e2 => by
        cases e1
        rcases hA with ⟨rfl, _⟩ | ⟨g', off', rfl, hg, _⟩
        · cases e2
        · cases e2; rintro (e | e | e) <;> omega)
      rp0)
    (fun _ => rfl) (fun k e => by omega)
    (fun pre W => Row W w.heap.size 73 (stA (mixB pre)) ∧ TabOk W ∧ Below w.heap.size w W)
    (fun pre X Y h hb => ⟨h.1.below hb (by omega), h.2.1.below hb (by omega), h.2.2.trans (hb.mono (by omega))⟩)
    ⟨rw0, ht.next hb0, hb0⟩
    (fun x a' W => ∃ Bx, W0.heap.size + 2 ≤ Bx ∧ Row W Bx 77 (u8row x.1) ∧ a' = { tmps := #[.slice A ps.length c, undef, .string ⟨#[]⟩, .pointer (some ⟨w.heap.size, 0, none⟩), .pointer (some ⟨Bx, 0, none⟩), .agg #[.int .u32 1779033703, .int .u32 3144134277, .int .u32 1013904242, .int .u32 2773480762, .int .u32 1359893119, .int .u32 2600822924, .int .u32 528734635, .int .u32 1541459225], .slice A ps.length c, .func (.func 67) #[] #[.pointer (some ⟨w.heap.size + 1, 0, none⟩)], .agg (u8row x.1), undef, undef, undef, undef, undef], defers := [] })
    (fun x a' W r o h1 h2 ⟨Bx, h3, h4, h5⟩ => ⟨Bx, h3, (World.putObj_heap_other (by omega)).trans h4, h5⟩) ?assign ?body ?done
  case assign =>
    intro l pre x W K hsz hI hK
    have hxl : (u8row x.1).size = 64 := by rw [u8row_size, x.2]
    have hall := u8row_all x.1
    unfold encB
    obtain ⟨bl, hbl⟩ : ∃ y, u8row x.1 = y := ⟨_, rfl⟩
    rw [hbl] at hxl hall
    simp only [hbl] at hK ⊢
    have hi64 : (Tryd.prog.info? 77).map (·.size) = some bl.size := by rw [hxl]; kernel_rfl
    have HI := Lib.hid hi64; have HA := Lib.hid hall; have HX := Lib.hid hxl.symm; have HK := Lib.hid hK
    clear hi64 hall hxl hbl hK
    gi_wp2_with (refine storeIn_fresh rfl 77 (.tmp 4) (.tmp 8) rfl bl rfl rfl 77 _ HI.out HX.out HA.out ?_; intro w2 hr2 hb2)
    exact HK.out _ _ hb2 ⟨_, by omega, hr2, rfl⟩
  case body =>
    rintro l pre x a' W hsz ⟨i1, i2, i3⟩ ⟨Bx, h1, h2, rfl⟩
    have hm := fun w hh => mix_any (mixB pre) (mixB_ok pre) x.1 x.2 w hh
    have hxl : (u8row x.1).size = 64 := by rw [u8row_size, x.2]
    obtain ⟨bl, hbl⟩ : ∃ y, u8row x.1 = y := ⟨_, rfl⟩
    obtain ⟨sa, hsa⟩ : ∃ y, stA (mixB pre) = y := ⟨_, rfl⟩
    obtain ⟨sb, hsb⟩ : ∃ y, stA (Dm.mix (mixB pre) x.1) = y := ⟨_, rfl⟩
    rw [hbl] at hm hxl h2
    simp only [hbl]
    rw [hsa] at hm i1; rw [hsb] at hm
    have hi64 : (Tryd.prog.info? 77).map (·.size) = some bl.size := by rw [hxl]; kernel_rfl
    have hs8 : sa.size = 8 := by rw [← hsa, stA_size]
    have hs8b : sb.size = 8 := by rw [← hsb, stA_size]
    have hi8 : (Tryd.prog.info? 73).map (·.size) = some sa.size := by rw [hs8]; kernel_rfl
    have hi8b : (Tryd.prog.info? 73).map (·.size) = some sb.size := by rw [hs8b]; kernel_rfl
    have hss : sa.size = sb.size := by rw [hs8, hs8b]
    have hal := stA_all (Dm.mix (mixB pre) x.1)
    rw [hsb] at hal
    have I1 := Lib.hid i1; have I2 := Lib.hid i2; have I3 := Lib.hid i3; have H2 := Lib.hid h2; have HM := Lib.hid hm; have HI64 := Lib.hid hi64; have HI8 := Lib.hid hi8; have HI8B := Lib.hid hi8b; have HSS := Lib.hid hss; have HAL := Lib.hid hal; have HSB := Lib.hid hsb
    clear i1 i2 i3 h2 hm hi64 hi8 hi8b hss hal hsa hsb hbl hxl hs8 hs8b
    have hBw : w.heap.size < W.heap.size := I1.out.lt
    gi_wp2_with (first | (refine wpListIn_load_all rfl 73 (.tmp 3) rfl w.heap.size rfl 73 sa (0, 0) _ I1.out Tryd.underlying73 rfl HI8.out ?_) | (refine wpListIn_load_all rfl 77 (.tmp 4) rfl Bx rfl 77 bl (0, 0) _ H2.out Tryd.underlying77 rfl HI64.out ?_))
    refine ⟨trivial, (CallsIn.inRound l (callsIn_wide.2 (HM.out _ I2.out))).mono ?_⟩
    rintro e w2 ⟨rfl, hb2⟩
    have R2 := Lib.hid (I1.out.below hb2 hBw)
    gi_wp2_with (refine wpListIn_store_all rfl 73 (.tmp 3) (.tmp 11) rfl w.heap.size sb rfl rfl 73 sa R2.out HI8B.out HSS.out HAL.out ?_)
    have hfin : Below w.heap.size w (w2.setRow w.heap.size sb) := belowRow (I3.out.trans (hb2.mono (by omega))) (Nat.le_refl _) _
    refine ⟨(Keeps.of_below hb2).trans (Keeps.setRow (no := fun k => k = w.heap.size) rfl _), ?_, ht.next hfin, hfin⟩
    rw [mixB_snoc, HSB.out]
    exact setRow_heap _ _ _ _ _ _ R2.out
  case done =>
    rintro D xs W hD hS ⟨i1, i2, i3⟩ hK
    have hdg := fun w => digest_any (mixB xs) (mixB_ok xs) w
    rw [← sha_flat xs _ hS] at hdg
    obtain ⟨sa, hsa⟩ : ∃ y, stA (mixB xs) = y := ⟨_, rfl⟩
    rw [hsa] at hdg i1
    have hs8 : sa.size = 8 := by rw [← hsa, stA_size]
    have hi8 : (Tryd.prog.info? 73).map (·.size) = some sa.size := by rw [hs8]; kernel_rfl
    have I1 := Lib.hid i1; have HI8 := Lib.hid hi8; have HD := Lib.hid hdg
    have hDl : D < W.heap.size := (Array.getElem?_eq_some_iff.1 hK).1
    clear i1 hi8 hdg hs8 hsa
    gi_wp2_with (first | (refine wpListIn_load_all rfl 73 (.tmp 3) rfl w.heap.size rfl 73 sa (0, 0) _ I1.out Tryd.underlying73 rfl HI8.out ?_) | (refine ⟨trivial, ?_⟩; gi_at_call 59; refine (callsIn_wide.2 (HD.out _)).mono ?_; rintro e w2 ⟨rfl, hb2⟩; have hK2 := (hb2.block D hDl).trans hK))
    refine ⟨by simp, .inl ⟨_, _, rfl, run_takeDeferred hK2, ?_⟩⟩
    exact ⟨_, results_tmp rfl _ _ _, rfl, (i3.trans (hb2.mono i3.size)).trans (belowK_b (w := w) (Nat.le_refl _) w2 D _ _ (by omega) hK2 rfl rfl)⟩
end Go.Proofs.YtnbhhhbmeafkaaaDoor
