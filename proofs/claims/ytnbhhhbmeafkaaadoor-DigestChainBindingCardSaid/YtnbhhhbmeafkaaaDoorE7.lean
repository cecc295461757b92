/- Contract of heads. -/
import Derived.Test.YtnbhhhbmeafkaaaDoorE4
namespace Go.Proofs.YtnbhhhbmeafkaaaDoor
open Go.RowKit
attribute [local go_sem ↓] append_appN

def zero32 : List UInt8 := List.replicate 32 0
def c32 : Array Value := #[.int .u8 0, .int .u8 0, .int .u8 0, .int .u8 0, .int .u8 0, .int .u8 0, .int .u8 0, .int .u8 0, .int .u8 0, .int .u8 0, .int .u8 0, .int .u8 0, .int .u8 0, .int .u8 0, .int .u8 0, .int .u8 0,
  .int .u8 0, .int .u8 0, .int .u8 0, .int .u8 0, .int .u8 0, .int .u8 0, .int .u8 0, .int .u8 0, .int .u8 0, .int .u8 0, .int .u8 0, .int .u8 0, .int .u8 0, .int .u8 0, .int .u8 0, .int .u8 0]
theorem zero_conv (w : World) : Sem.run Tryd.prog (Go.convert 43 9 (.slice (some ⟨w.heap.size, 0, none⟩) 32 32)) (w.alloc (.cells c32 5)) = .ok (.string (bs zero32)) (w.alloc (.cells c32 5)) :=
  own_string (g := w.heap.size) (cap := 32) (n := 32) (base := w.heap.size) zero32 ⟨rfl, .inr ⟨w.heap.size, 32, c32, rfl, Nat.le_refl _, heap_alloc_new w _, Nat.le_refl _, by decide, rfl, rfl⟩⟩ rfl rfl
theorem rev_take (l : List (List UInt8)) (k : Nat) (h : k < l.length) : (l.take (k + 1)).reverse = l[k] :: (l.take k).reverse := by
  rw [List.take_succ_eq_append_getElem h, List.reverse_append]; rfl

set_option maxRecDepth 100000 in
set_option maxHeartbeats 2000000 in
theorem heads_any (l : List (List UInt8)) (v : Value) (w : World) (hv : Strs w w.heap.size v l) (hn : l.length ≤ 100) (hl : ∀ s ∈ l, s.length ≤ 1000) (ht : TabOk w) :
    Calls Tryd.prog 36 #[v] w (WayOut (Dm.headS zero32 l.reverse, Dm.headR zero32 l.reverse) w) := by
  obtain ⟨i0, hi0, hz0, hz1, hz2⟩ := info_parts Tryd.infoStr
  obtain ⟨A, c, rfl, hc1, hc2, hA⟩ := hv
  unfold maxLen at hc2
  obtain ⟨N, hN⟩ : ∃ N, l.length = N := ⟨_, rfl⟩
  rw [hN] at hc1 hn ⊢
  have HN := Lib.hid hN
  clear hN
  have hmk : ∀ w, (Instr.makeSlice 43 (.int .i64 32) (.int .i64 32)).run Tryd.prog w = .ok (.slice (some ⟨w.heap.size, 0, none⟩) 32 32) (w.alloc (.cells c32 5)) := fun _ => by kernel_rfl
  have hconv := zero_conv w
  go_enter Tryd.func36, Tryd.ntmps36
  go_wp2
  clear hmk hconv
  obtain ⟨w0, hw0⟩ : ∃ x, w.alloc (.cells c32 5) = x := ⟨_, rfl⟩
  have hb0 : Below w.heap.size w w0 := by rw [← hw0]; exact (Below.refl _ w).alloc (Nat.le_refl _) _
  rw [hw0]
  clear hw0
  go_loopw [4, 5, 6] (fun h o i wr => ∃ k : Nat, k ≤ N ∧ i = .int .i64 (k : Int) ∧ h = .string (bs (Dm.headR zero32 (l.take k).reverse)) ∧ wr.ownsRow w.heap.size 9 1 o (Dm.headS zero32 (l.take k).reverse).length (strCells (Dm.headS zero32 (l.take k).reverse)) ∧ Below w.heap.size w wr) (fun _ _ i _ => N - (intOf i).toNat)
  case atStart => exact ⟨0, by omega, rfl, rfl, World.ownsRow_nil _ _ _ _, hb0⟩
  case round =>
    obtain ⟨k, hk, rfl, rfl, hown, hbw⟩ := hrel
    by_cases hlt : k < N
    · have hkl : k < l.length := by have := HN.out; omega
      rcases hA with ⟨_, hp⟩ | ⟨g, off, rfl, hg, hcell⟩
      · rw [hp] at hkl; simp at hkl
      have cx0 := hcell k _ (List.getElem?_eq_getElem hkl)
      have hrt := rev_take l k hkl
      have hxl := hl l[k] (List.getElem_mem hkl)
      have hhl := Dm.headR_len zero32 (by simp [zero32]) (l.take k).reverse
      have hsl := Dm.headS_len zero32 (l.take k).reverse
      rw [List.length_reverse, List.length_take] at hsl
      obtain ⟨x, hx⟩ : ∃ x, l[k] = x := ⟨_, rfl⟩
      rw [hx] at cx0 hrt hxl
      obtain ⟨h, hh⟩ : ∃ h, Dm.headR zero32 (l.take k).reverse = h := ⟨_, rfl⟩
      obtain ⟨S, hS⟩ : ∃ S, Dm.headS zero32 (l.take k).reverse = S := ⟨_, rfl⟩
      have n1 : Dm.headR zero32 (l.take (k + 1)).reverse = Dm.chain h x := by rw [hrt, ← hh]; rfl
      have n2 : Dm.headS zero32 (l.take (k + 1)).reverse = (2 :: (h ++ x)) :: S := by rw [hrt, ← hh, ← hS]; rfl
      rw [hh] at hhl ⊢; rw [hS] at hown hsl
      obtain ⟨H, hH⟩ : ∃ H, bs h = H := ⟨_, rfl⟩
      obtain ⟨X, hX⟩ : ∃ X, bs x = X := ⟨_, rfl⟩
      have z1 : H.size ≤ 1000 := by rw [← hH, bs_size]; omega
      have z2 : X.size ≤ 1000 := by rw [← hX, bs_size]; omega
      have z3 : ((⟨#[2]⟩ : ByteArray) ++ H).size ≤ 1001 := by rw [ByteArray.size_append]; show 1 + _ ≤ _; omega
      have e2 : (⟨#[2]⟩ : ByteArray) ++ H ++ X = bs (2 :: (h ++ x)) := by rw [← hH, ← hX, bs_one, bs_append]; rfl
      obtain ⟨v2, w2, hrun, hown2, hb2⟩ := join_row (u := ((⟨#[2]⟩ : ByteArray) ++ H ++ X)) hi0 hz0 hz1 hz2 hown hbw (by omega)
      have hch := chain_any h x w2 (by omega) (ht.next hb2)
      unfold strOf at cx0 hch
      rw [hX] at cx0 hch; rw [hH] at hch ⊢
      have c1 := (hbw.cell (p := ⟨g, off + k, none⟩) hg).trans cx0
      have c2 := (hb2.cell (p := ⟨g, off + k, none⟩) hg).trans cx0
      have hgw : g < wr.heap.size := by have := hbw.size; omega
      have i1 : (k : Int) < (N : Int) := by omega
      have i2 : (0 : Int) ≤ (k : Int) := by omega
      have HE := Lib.hid e2; have N1 := Lib.hid n1; have N2 := Lib.hid n2; have HO := Lib.hid hown2; have HB := Lib.hid hb2; have HC := Lib.hid hch
      clear e2 n1 n2 hown2 hb2 hch hown hbw hx hh hS hH hX hrt hcell hl cx0 hhl hsl
      go_wp2_with (go_at_call 19; refine HC.out.mono ?_; rintro e w3 ⟨rfl, hb3⟩)
      go_roundw
      case rel =>
        have ho := own_below HO.out hb3 (own_lt HO.out)
        rw [HE.out, Nat.add_comm] at ho
        exact ⟨k + 1, by omega, by go_num, by rw [N1.out]; rfl, by rw [N2.out]; exact ho, HB.out.trans (hb3.mono HB.out.size)⟩
      case measure => simp [intOf]; omega
    · have hta : l.take k = l := List.take_of_length_le (by have := HN.out; omega)
      rw [hta] at hown ⊢
      have HO := Lib.hid hown; have HB := Lib.hid hbw
      clear hown hbw hta
      go_wp2
      go_ret2
      exact ⟨_, rfl, HO.out, HB.out⟩
end Go.Proofs.YtnbhhhbmeafkaaaDoor
