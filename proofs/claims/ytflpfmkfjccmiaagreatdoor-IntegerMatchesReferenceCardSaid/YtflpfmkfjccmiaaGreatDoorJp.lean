/- Contract of parseBoth. -/
import Derived.Test.YtflpfmkfjccmiaaGreatDoorJo
namespace Go.Proofs.YtflpfmkfjccmiaaGreatDoor
open Go.RowKit Go.Shelf

theorem results_nums_tmp {fn : Func} {p q t : Tmp} (h : fn.results = #[.cell p 47, .cell q 47, .tmp t]) (tmps : Array Value) (w : World) (g k : Nat) (b v c u : Value) (hp : tmps.getD p undef = .pointer (some ⟨g, 0, none⟩)) (hq : tmps.getD q undef = .pointer (some ⟨k, 0, none⟩)) (hg : Row w g 47 #[b, v]) (hk : Row w k 47 #[c, u]) :
    (results fn tmps).run Tryz.prog w = .ok (.tuple #[.agg #[b, v], .agg #[c, u], tmps.getD t undef]) w := by
  have hp' : tmps[p]?.getD undef = .pointer (some ⟨g, 0, none⟩) := by simpa using hp
  have hq' : tmps[q]?.getD undef = .pointer (some ⟨k, 0, none⟩) := by simpa using hq
  have e1 := run_loadVar_row (P := Tryz.prog) w g 47 47 #[b, v] (0, 0) _ hg Tryz.underlying47 rfl (by kernel_rfl)
  have e2 := run_loadVar_row (P := Tryz.prog) w k 47 47 #[c, u] (0, 0) _ hk Tryz.underlying47 rfl (by kernel_rfl)
  simp [results, h, hp', hq', asAddr, e1, e2]

def BothPost (l r : List UInt8) (w : World) (e : Ending) (w' : World) : Prop :=
  ∃ f A n c g B m d, e = .returned (.tuple #[.agg #[.bool f, .slice A n c], .agg #[.bool g, .slice B m d], .bool (Im.vld l && Im.vld r)]) ∧
    (∀ z, l = Lib.itoa z → Im.vld l = true → Num w' (.agg #[.bool f, .slice A n c]) z) ∧ (∀ z, r = Lib.itoa z → Im.vld r = true → Num w' (.agg #[.bool g, .slice B m d]) z) ∧ Below w.heap.size w w'

/-- Two result boxes at the base, then two boxes of numbers. -/
theorem both_fin {w W : World} {f g : Bool} {A B : Option Addr} {n c m d : Nat} (r0 : Row W w.heap.size 47 #[.bool false, .slice none 0 0]) (r1 : Row W (w.heap.size + 1) 47 #[.bool false, .slice none 0 0]) (hb : Below w.heap.size w W) :
    ∃ U, U = ((((W.setCell ⟨w.heap.size, 0, none⟩ (.bool f)).setCell ⟨w.heap.size, 1, none⟩ (.slice A n c)).setCell ⟨w.heap.size + 1, 0, none⟩ (.bool g)).setCell ⟨w.heap.size + 1, 1, none⟩ (.slice B m d)) ∧ Row U w.heap.size 47 #[.bool f, .slice A n c] ∧ Row U (w.heap.size + 1) 47 #[.bool g, .slice B m d] ∧ (∀ v k, Mag W v k → Mag U v k) ∧ Below w.heap.size w U := by
  refine ⟨_, rfl, ?_⟩
  have k2 := box_row (b' := f) (A' := A) (n' := n) (c' := c) r0
  have k3 := (r1.far (p := ⟨w.heap.size, 0, none⟩) (by dsimp only; omega) (.bool f)).far (p := ⟨w.heap.size, 1, none⟩) (by dsimp only; omega) (.slice A n c)
  refine ⟨(k2.far (p := ⟨w.heap.size + 1, 0, none⟩) (by dsimp only; omega) _).far (p := ⟨w.heap.size + 1, 1, none⟩) (by dsimp only; omega) _, box_row k3, fun v k hm => mag_box (mag_box hm r0) k3, ?_⟩
  exact (((hb.setCell (by dsimp only; omega) _).setCell (by dsimp only; omega) _).setCell (by dsimp only; omega) _).setCell (by dsimp only; omega) _
theorem num_any {W U : World} {f : Bool} {A : Option Addr} {n c : Nat} {z : Int} (h : Num W (.agg #[.bool f, .slice A n c]) z) (hU : ∀ v k, Mag W v k → Mag U v k) : Num U (.agg #[.bool f, .slice A n c]) z := by
  obtain ⟨b, X, m, d, e, hb, hm⟩ := h.parts
  obtain ⟨rfl, rfl, rfl, rfl⟩ : f = b ∧ A = X ∧ n = m ∧ c = d := by simpa using e
  exact num_of hb rfl (hU _ _ hm)

set_option maxRecDepth 100000 in
set_option maxHeartbeats 1000000 in
theorem both_any (l r : List UInt8) (w : World) : Calls Tryz.prog 36 #[strOf l, strOf r] w (BothPost l r w) := by
  obtain ⟨W, hW⟩ : ∃ W, (w.alloc (.cells #[.bool false, .slice none 0 0] 47)).alloc (.cells #[.bool false, .slice none 0 0] 47) = W := ⟨_, rfl⟩
  have hbw : Below w.heap.size w W := by rw [← hW]; exact ((Below.refl _ w).alloc (Nat.le_refl _) _).alloc (by simp) _
  have r0 : Row W w.heap.size 47 #[.bool false, .slice none 0 0] := by rw [← hW]; exact (Row.new w _ _).alloc _
  have r1 : Row W (w.heap.size + 1) 47 #[.bool false, .slice none 0 0] := by
    rw [← hW]
    have := Row.new (w.alloc (.cells #[.bool false, .slice none 0 0] 47)) 47 #[.bool false, .slice none 0 0]
    rw [World.size_alloc] at this; exact this
  have hp1 := parse_any l W
  have hp2 := fun u => parse_any r u
  unfold BothPost
  unfold ParsePost at hp1 hp2
  obtain ⟨p, hp⟩ : ∃ p, Im.vld l = p := ⟨_, rfl⟩
  obtain ⟨q, hq⟩ : ∃ p, Im.vld r = p := ⟨_, rfl⟩
  rw [hp] at hp1; rw [hq] at hp2; rw [hp, hq]
  unfold strOf at hp1 hp2 ⊢
  have HP1 := Lib.hid hp1; have HP2 := Lib.hid hp2; have HW := Lib.hid hW; have HB := Lib.hid hbw; have R0 := Lib.hid r0; have R1 := Lib.hid r1
  clear hp1 hp2 hW hbw r0 r1 hp hq
  cases p <;> cases q
  all_goals
    go_enter Tryz.func36, Tryz.ntmps36
    go_wp2_with (first | (go_at_call 44; rw [HW.out]; (with_reducible refine Calls.mono HP1.out ?_); rintro e w1 ⟨f, A, n, c, rfl, hn, hb⟩; have HN1 := Lib.hid hn; have HB1 := Lib.hid hb; clear hn hb) | (go_at_call 44; (with_reducible refine Calls.mono (HP2.out _) ?_); rintro e w2 ⟨g, B, m, d, rfl, hn, hb⟩; have HN2 := Lib.hid hn; have HB2 := Lib.hid hb; clear hn hb))
    obtain ⟨V, hV⟩ : ∃ V, w1.alloc (.cells #[.bool f, .slice A n c] 47) = V := ⟨_, rfl⟩
    have hbV : Below w1.heap.size w1 V := by rw [← hV]; exact (Below.refl _ _).alloc (Nat.le_refl _) _
    have rV : Row V w1.heap.size 47 #[.bool f, .slice A n c] := by rw [← hV]; exact Row.new w1 _ _
    have hb2 := HB2.out
    rw [hV] at hb2
    obtain ⟨X, hX⟩ : ∃ X, w2.alloc (.cells #[.bool g, .slice B m d] 47) = X := ⟨_, rfl⟩
    have hbX : Below w2.heap.size w2 X := by rw [← hX]; exact (Below.refl _ _).alloc (Nat.le_refl _) _
    have rX : Row X w2.heap.size 47 #[.bool g, .slice B m d] := by rw [← hX]; exact Row.new w2 _ _
    have hvx := below_to hb2 hbX
    have h1x := below_to hbV hvx
    have rA := rV.below hvx rV.lt
    have hwx := below_to HB1.out h1x
    have q0 := R0.out.below hwx R0.out.lt
    have q1 := R1.out.below hwx R1.out.lt
    rw [hX]
    obtain ⟨k0, k1, f0, f1⟩ := box_facts rA
    obtain ⟨k2, k3, f2, f3⟩ := box_facts rX
    obtain ⟨k4, k5, f4, f5⟩ := box_facts q0
    obtain ⟨k6, k7, f6, f7⟩ := box_facts q1
    have HF := Lib.hid (both_fin (f := f) (g := g) (A := A) (B := B) (n := n) (c := c) (m := m) (d := d) q0 q1 (HB.out.trans (hwx.mono HB.out.size)))
    have HNX1 := Lib.hid (fun z h1 h2 => (HN1.out z h1 h2).next h1x)
    have HNX2 := Lib.hid (fun z h1 h2 => (HN2.out z h1 h2).next hbX)
    have hz1 : w.heap.size + 2 ≤ w1.heap.size := by
      have h1 := HB1.out.size
      have h2 : W.heap.size = w.heap.size + 2 := by rw [← HW.out, World.size_alloc, World.size_alloc]
      omega
    have hz2 : w1.heap.size + 1 ≤ w2.heap.size := by
      have h1 := hb2.size
      have h2 : V.heap.size = w1.heap.size + 1 := by rw [← hV, World.size_alloc]
      omega
    have n1 : ¬ (w1.heap.size = w.heap.size) := by omega
    have n2 : ¬ (w1.heap.size = w.heap.size + 1) := by omega
    have n3 : ¬ (w2.heap.size = w.heap.size) := by omega
    have n4 : ¬ (w2.heap.size = w.heap.size + 1) := by omega
    have m1 : ¬ (w.heap.size = w1.heap.size) := by omega
    have m2 : ¬ (w.heap.size + 1 = w1.heap.size) := by omega
    have m3 : ¬ (w.heap.size = w2.heap.size) := by omega
    have m4 : ¬ (w.heap.size + 1 = w2.heap.size) := by omega
    clear hz1 hz2 hV hbV rV hb2 hX hbX hvx h1x rA hwx q0 q1 HB1 HB2 HN1 HN2 HP1 HP2 HW HB R0 R1
    go_region
    all_goals
      go_wp2
      obtain ⟨U, hU, s0, s1, hm, hbu⟩ := HF.out
      rw [← hU]
      refine bodyPost_ret (results_nums_tmp rfl _ _ w.heap.size (w.heap.size + 1) _ _ _ _ rfl rfl s0.drew s1.drew) rfl ?_
      exact ⟨_, _, _, _, _, _, _, _, rfl, fun z h1 h2 => (num_any (HNX1.out z h1 h2) hm).next (Below.refl _ _).drew, fun z h1 h2 => (num_any (HNX2.out z h1 h2) hm).next (Below.refl _ _).drew, hbu.drew⟩
end Go.Proofs.YtflpfmkfjccmiaaGreatDoor
