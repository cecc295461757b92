/- Contract of PutInt, whose groups come from a function that is ranged over: the string of the groups, for every integer in range; the error for every other. -/
import Derived.Test.YtihifbhfgdifeaaDoorWf
namespace Go.Proofs.YtihifbhfgdifeaaDoor
open Go.RowKit Go.Shelf
attribute [local go_sem] Oper.semAt_some

theorem groups_in (F : Fence) (n : Nat) (h5 : F.fn 23) (hro : F.round = none) (z : Int) (w : World) :
    CallsIn F n Tryd.prog 23 #[.int .u64 z] w fun e w' => e = .returned (.func (.func 29) #[] #[.pointer (some ⟨w.heap.size, 0, none⟩)]) ∧ w' = w.alloc (.cells #[.int .u64 z] 49) := by
  refine callsIn_of_wp Tryd.func23 rfl h5 ?_ hro
  try simp only [Tryd.ntmps23, List.size_toArray, List.length_cons, List.length_nil, Nat.reduceAdd, Nat.reduceSub, Array.replicate_succ, Array.replicate_zero, List.push_toArray, List.append_toArray, List.nil_append, List.cons_append]
  gi_wp2
  go_ret
  exact ⟨rfl, rfl⟩

theorem groups_stops (F : Fence) (n : Nat) (h6 : F.fn 29) (hro : F.round = none) (hn : 1 ≤ n) (Bn n₀ z : Nat) (hz : z < 9223372036854775808) (w : World) (hBn : Bn < w.heap.size)
    (hc : w.cell? ⟨Bn, 0, none⟩ = some (.int .u64 (z : Int))) :
    SeqStopsK F n Tryd.prog 29 #[.pointer (some ⟨Bn, 0, none⟩)] encG (Below n₀) (fun ys => ys = gl 9 z) (fun pre => pre <+: gl 9 z) 9 w := fun l J Jx W hW _ _ hY h0 =>
  groups1_in F n h6 hro hn l Bn n₀ z hz J Jx hY W ((hW.cell (p := ⟨Bn, 0, none⟩) hBn).trans hc) h0

def nine : Array Value := #[.int .u8 0, .int .u8 0, .int .u8 0, .int .u8 0, .int .u8 0, .int .u8 0, .int .u8 0, .int .u8 0, .int .u8 0]
theorem own_nine (w : World) (o : Obj) : ((w.alloc (.cells nine 5)).alloc o).ownsRow w.heap.size 5 1 (.slice (some ⟨w.heap.size, 0, none⟩) 0 9) 0 [] := by
  refine ⟨rfl, .inr ⟨w.heap.size, 9, nine, rfl, Nat.le_refl _, ?_, by omega, by unfold maxLen; omega, rfl, rfl⟩⟩
  exact ((World.grownBy_alloc (w.alloc _) o none).block w.heap.size (by simp) (by simp)).trans (World.alloc_heap_new w _)
theorem or128_u8 (b : UInt8) : bits .or .u8 (b.toNat : Int) 128 = (((b ||| 128 : UInt8).toNat : Nat) : Int) := by
  have h : ∀ n : Fin 256, bits .or .u8 ((n.val : Nat) : Int) 128 = (((UInt8.ofNat n.val ||| 128 : UInt8).toNat : Nat) : Int) := by decide +kernel
  have := h ⟨b.toNat, b.toNat_lt⟩
  simpa using this

set_option maxRecDepth 100000 in
set_option maxHeartbeats 400000 in
theorem put_in (n : Int) (w : World) (h1 : -4611686018427387903 ≤ n) (h2 : n ≤ 4611686018427387903) :
    Calls Tryd.prog 12 #[.int .i64 n] w fun e w' => e = .returned (.tuple #[strOf (Wm.enc (Wm.foldZ n)), .int .i64 0]) ∧ Below w.heap.size w w' := by
  have hz := Wm.fold_lt n h1 h2
  have hc := fun w => fold_any n w (by omega) (by omega)
  obtain ⟨z, hzz⟩ : ∃ z, Wm.foldZ n = z := ⟨_, rfl⟩
  rw [hzz] at hz hc ⊢
  clear hzz
  have HC := Lib.hid hc; clear hc
  obtain ⟨i0, hi, hz0, hz1, hz2⟩ := info_parts Tryd.infoU8
  have hmk : ∀ w, (Instr.makeSlice 38 (.int .i64 0) (.int .i64 9)).run Tryd.prog w = .ok (.slice (some ⟨w.heap.size, 0, none⟩) 0 9) (w.alloc (.cells nine 5)) := fun _ => by kernel_rfl
  have hb1 : decide (n < -4611686018427387903) = false := by simp; omega
  have hb2 : decide (4611686018427387903 < n) = false := by simp; omega
  refine (callsIn_wide (n := 3)).1 ?_
  refine callsIn_of_wp_marks Tryd.func12 rfl trivial ?_ rfl
  simp only [Tryd.ntmps12, List.size_toArray, List.length_cons, List.length_nil, Nat.reduceAdd, Nat.reduceSub, Array.replicate_succ, Array.replicate_zero, List.push_toArray, List.append_toArray, List.nil_append, List.cons_append]
  gi_wp2_with (first | (refine ⟨trivial, ?_⟩; gi_at_call 24; refine (callsIn_wide.2 (HC.out _)).mono ?_; rintro e w' ⟨rfl, rfl⟩) | (refine ⟨trivial, ?_⟩; gi_at_call 23; refine (groups_in Fence.wide _ trivial rfl _ _).mono ?_; rintro e w' ⟨rfl, rfl⟩))
  have bO := Boxed.new (w.alloc (.cells nine 5)) 38 (.slice (some ⟨w.heap.size, 0, none⟩) 0 9)
  have bN := Boxed.new ((w.alloc (.cells nine 5)).alloc (.cells #[.slice (some ⟨w.heap.size, 0, none⟩) 0 9] 38)) 49 (.int .u64 (z : Int))
  rw [World.size_alloc] at bO
  rw [World.size_alloc, World.size_alloc] at bN
  have hB0 : Below w.heap.size w (((w.alloc (.cells nine 5)).alloc (.cells #[.slice (some ⟨w.heap.size, 0, none⟩) 0 9] 38)).alloc (.cells #[.int .u64 (z : Int)] 49)) :=
    (((Below.refl _ w).alloc (Nat.le_refl _) _).alloc (by simp) _).alloc (by simp; omega) _
  refine wpIn_rangeFunc_ownG (F := Fence.wide) rfl (by decide) (gf := 29) (lb := #[.pointer (some ⟨w.heap.size + 1 + 1, 0, none⟩)]) rfl trivial (enters_of Tryd.func29 (by kernel_rfl) rfl)
    (groups_stops Fence.wide (3 - 1) trivial rfl (by decide) (w.heap.size + 1 + 1) w.heap.size z (by omega) _ (by simp) bN.cell) belowK_t (belowK_b (by simp; omega)) (Below.refl _ _) (fun _ => rfl)
    (fun pre W => (∃ v, Boxed W (w.heap.size + 1) 38 v ∧ W.ownsRow w.heap.size 5 1 v pre.length (byteCells (pre.map gb)) ∧ True) ∧ Below w.heap.size w W)
    (fun _ _ _ => False)
    (OwnFrom.and (Own.from (holdsRow_own w.heap.size (w.heap.size + 1) 38 5 1 (fun pre : List (UInt8 × Bool) => pre.length) (fun pre : List (UInt8 × Bool) => byteCells (pre.map gb)) (fun _ _ => True)) _) (ownFrom_below (Nat.le_refl _) (by simp; omega)))
    (fun _ _ _ _ _ hs _ _ => hs)
    ⟨⟨_, bO.alloc _, (own_nine w _).alloc _, trivial⟩, hB0⟩
    (fun x => { tmps := #[.int .i64 n, undef, .string ⟨#[]⟩, .int .i64 0, .pointer (some ⟨w.heap.size + 1, 0, none⟩), .int .u8 (x.1.toNat : Int), .bool x.2, .int .i64 n, .bool false, .bool false, .int .i64 n, .bool false, .bool false, .slice (some ⟨w.heap.size, 0, none⟩) 0 9, .int .i64 n, .int .u64 (z : Int), .func (.func 29) #[] #[.pointer (some ⟨w.heap.size + 1 + 1, 0, none⟩)], .int .u8 (x.1.toNat : Int), .bool x.2, undef, undef, undef, undef, undef, undef, undef, undef, undef, undef], defers := [] }) ?assign ?body ?done ?stop
  case assign =>
    intro l x W K hK
    gi_wp2
    exact hK
  case body =>
    rintro l pre ⟨b, last⟩ W ⟨⟨v, hv, hrow, _⟩, hB⟩ hlt
    have hc := hv.cell
    have hbb := b.toNat_lt
    cases last
    · have hor := or128_u8 b
      obtain ⟨q, hq⟩ : ∃ q, (b ||| 128 : UInt8).toNat = q := ⟨_, rfl⟩
      rw [hq] at hor
      have HQ := Lib.hid hq; clear hq
      gi_wp2_with (gi_at_builtin; refine wpListIn_append_own _ rfl _ _ 38 rfl w.heap.size 5 i0 (.int .u8 0) 1 1 Tryd.underlying38 hi hz0 hz1 hz2 rfl (by decide) _ _ _ rfl (hrow.alloc _) ⟨W.heap.size, 0, none⟩ 1 1 [.int .u8 (q : Int)] rfl rfl (cell_one_new _ _ _) (by simp [Value.oneCell']) (by unfold maxLen; omega) (by omega) (by have := hB.size; simp; omega) ?_; intro v' w1 hown' hgrow _; obtain ⟨g', cap', rfl⟩ := ownsRow_succ hown'; obtain ⟨hv1, hv2, hr2, hk2, hb2⟩ := hv.appended (by decide) hrow hB.size (by omega) hown' hgrow; have hc1 := hv1.cell; have hf1 := hv1.frozen)
      exact ⟨hk2.from _, hb2, ⟨_, hv2, by rw [List.map_append, List.map_singleton, byteCells_snoc, List.length_append, List.length_singleton, show gb (b, false) = b ||| 128 from rfl, HQ.out]; exact hr2, trivial⟩, hB.trans hb2⟩
    · gi_wp2_with (gi_at_builtin; refine wpListIn_append_own _ rfl _ _ 38 rfl w.heap.size 5 i0 (.int .u8 0) 1 1 Tryd.underlying38 hi hz0 hz1 hz2 rfl (by decide) _ _ _ rfl (hrow.alloc _) ⟨W.heap.size, 0, none⟩ 1 1 [.int .u8 (b.toNat : Int)] rfl rfl (cell_one_new _ _ _) (by simp [Value.oneCell']) (by unfold maxLen; omega) (by omega) (by have := hB.size; simp; omega) ?_; intro v' w1 hown' hgrow _; obtain ⟨g', cap', rfl⟩ := ownsRow_succ hown'; obtain ⟨hv1, hv2, hr2, hk2, hb2⟩ := hv.appended (by decide) hrow hB.size (by omega) hown' hgrow; have hc1 := hv1.cell; have hf1 := hv1.frozen)
      exact ⟨hk2.from _, hb2, ⟨_, hv2, by rw [List.map_append, List.map_singleton, byteCells_snoc, List.length_append, List.length_singleton, show gb (b, true) = b from rfl]; exact hr2, trivial⟩, hB.trans hb2⟩
  case done =>
    rintro D ys W hD rfl ⟨⟨v, hv, hrow, _⟩, hB⟩ hK
    have hc := hv.cell
    have hl : ∃ m, (gl 9 z).length = m + 1 := by
      have := congrArg List.length (gl_bytes 9 z)
      have h2 := Wm.enc_pos z
      unfold Wm.enc at h2
      rw [List.length_map] at this
      exact ⟨(gl 9 z).length - 1, by omega⟩
    obtain ⟨m, hm⟩ := hl
    have hrow2 := hrow
    rw [hm] at hrow2
    obtain ⟨g', cap', rfl⟩ := ownsRow_succ hrow2
    have hcv := own_string (Wm.enc z) hrow2 (by have := congrArg List.length (gl_bytes 9 z); rw [List.length_map] at this; unfold Wm.enc; omega) (by rw [gl_bytes]; rfl)
    clear hrow2 hm
    gi_wp2
    refine ⟨by simp, .inl ⟨_, _, rfl, run_takeDeferred hK, ?_⟩⟩
    exact ⟨_, results_tmp2 rfl _ _ _, rfl, hB.trans (belowK_b (w := w) (Nat.le_refl _) W D _ _ (by simp at hD; omega) hK rfl rfl)⟩
  case stop =>
    rintro D c pre W _ _ h _
    exact h.elim
end Go.Proofs.YtihifbhfgdifeaaDoor
