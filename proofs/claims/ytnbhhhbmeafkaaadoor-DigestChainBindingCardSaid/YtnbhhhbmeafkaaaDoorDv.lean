/- Contract of Verify. -/
import Derived.Test.YtnbhhhbmeafkaaaDoorDs
import Derived.StillTailTactics
namespace Go.Proofs.YtnbhhhbmeafkaaaDoor
open Go.RowKit

theorem digs_get (ps : List (List UInt8)) (h : Dm.digs ps = true) (k : Nat) (hk : k < ps.length) : ps[k].length = 32 := by
  have := List.all_eq_true.1 h ps[k] (List.getElem_mem hk)
  simpa using this
def vfyIn (root : List UInt8) (n i : Nat) (s : List UInt8) (ps : List (List UInt8)) : Bool := (Dm.forks 64 0 n i).length == ps.length && Dm.climb (Dm.forks 64 0 n i).reverse ps (Dm.leaf s) == root
def vfy (root : List UInt8) (n i : Int) (s : List UInt8) (ps : List (List UInt8)) : Bool := if i < 0 ∨ n ≤ i then false else Dm.digs ps && vfyIn root n.toNat i.toNat s ps

theorem climb_snoc (fs : List Dm.Fk) (ps : List (List UInt8)) (v : List UInt8) (k : Nat) (h1 : k < fs.length) (h2 : k < ps.length) :
    Dm.climb (fs.take (k + 1)) (ps.take (k + 1)) v = fs[k].join (Dm.climb (fs.take k) (ps.take k) v) ps[k] := by
  unfold Dm.climb
  rw [List.take_succ_eq_append_getElem h1, List.take_succ_eq_append_getElem h2, List.zip_append (by simp; omega), List.foldl_append]
  rfl
theorem join_len (f : Dm.Fk) (a b : List UInt8) : (f.join a b).length = 32 := by
  unfold Dm.Fk.join; split <;> exact Dm.node_len _ _
theorem climb_len (fs : List Dm.Fk) (ps : List (List UInt8)) (v : List UInt8) (hv : v.length = 32) : (Dm.climb fs ps v).length = 32 := by
  unfold Dm.climb
  exact Dm.foldl_inv (fun x : List UInt8 => x.length = 32) _ _ (fun b a _ => join_len _ _ _) v hv
theorem own_fk {w : World} {base : Nat} {fs : List Dm.Fk} {g c n : Nat} (h : w.ownsRow base 57 4 (.slice (some ⟨g, 0, none⟩) n c) n (fkCells fs)) (k r : Nat) (hr : r < 4) (hk : k < fs.length) (hn : fs.length = n) :
    w.cell? ⟨g, k * 4 + r, none⟩ = ([.int .i64 (fs[k].fr : Int), .int .i64 (fs[k].mid : Int), .int .i64 (fs[k].to : Int), .bool fs[k].sec] : List Value)[r]? := by
  rw [← fkCells_get fs k r hr hk, Nat.mul_comm k 4]
  exact h.cellAt (4 * k + r) (by omega)

theorem bs_toList (l : List UInt8) : (bs l).toList = l := by rw [ByteArray.toList_eq, bs_list]
theorem bs_eqb (a b : List UInt8) : ((bs a).toList == (bs b).toList) = (a == b) := by rw [bs_toList, bs_toList]
theorem ret_bool {a b : Bool} (h : a = b) : Ending.returned (.bool a) = .returned (.bool b) := by rw [h]
theorem own_slice {w : World} {base : Nat} {e : TypeId} {size n : Nat} {v : Value} {xs : List Value} (h : w.ownsRow base e size v n xs) : ∃ A c, v = .slice A n c := by
  rcases h.2 with ⟨rfl, rfl⟩ | ⟨g, cap, cur, rfl, _⟩
  · exact ⟨_, _, rfl⟩
  · exact ⟨_, _, rfl⟩

set_option maxRecDepth 100000 in
set_option maxHeartbeats 2000000 in
theorem vfy_out (root s : List UInt8) (n i : Int) (v : Value) (ps : List (List UInt8)) (w : World) (hv : Strs w w.heap.size v ps) (hl : ∀ s ∈ ps, s.length ≤ 1000) (h : i < 0 ∨ n ≤ i ∨ Dm.digs ps = false) :
    Calls Tryd.prog 29 #[strOf root, .int .i64 n, .int .i64 i, strOf s, v] w fun e w' => e = .returned (.bool false) ∧ Below w.heap.size w w' := by
  have ha := fun (hd : Dm.digs ps = false) => hd ▸ areDigs_any v ps w hv (fun s hs => by have := hl s hs; omega)
  by_cases h1 : i < 0
  · clear ha
    go_enter Tryd.func29, Tryd.ntmps29
    go_wp2
    go_ret
    exact ⟨rfl, Below.refl _ _⟩
  · by_cases h2 : n ≤ i
    · clear ha
      go_enter Tryd.func29, Tryd.ntmps29
      go_wp2
      go_ret
      exact ⟨rfl, Below.refl _ _⟩
    · have HA := Lib.hid (ha (h.elim (fun h => absurd h h1) (fun h => h.elim (fun h => absurd h h2) id)))
      clear ha h hv hl
      go_enter Tryd.func29, Tryd.ntmps29
      go_wp2_with (go_at_call 50; refine HA.out.mono ?_; rintro e w' ⟨rfl, rfl⟩)
      go_ret
      exact ⟨rfl, Below.refl _ _⟩
set_option maxRecDepth 100000 in
set_option maxHeartbeats 2000000 in
theorem vfy_in (root s : List UInt8) (n i : Nat) (v : Value) (ps : List (List UInt8)) (w : World) (hv : Strs w w.heap.size v ps) (hl : ∀ s ∈ ps, s.length ≤ 1000) (hs : s.length ≤ 1000) (hd : Dm.digs ps = true) (hin : i < n)
    (hn : n ≤ 9223372036854775807) (ht : TabOk w) :
    Calls Tryd.prog 29 #[strOf root, .int .i64 (n : Int), .int .i64 (i : Int), strOf s, v] w fun e w' => e = .returned (.bool (vfyIn root n i s ps)) ∧ Below w.heap.size w w' := by
  have ha := areDigs_any v ps w hv (fun s hs => by have := hl s hs; omega)
  rw [hd] at ha
  have hfk := (callsIn_wide.1 (forks_in 0 n i w)).mono (R' := fun e w' => e = .returned (.func (.func 62) #[] #[.pointer (some ⟨w.heap.size, 0, none⟩), .pointer (some ⟨w.heap.size + 1, 0, none⟩)]) ∧ (w.alloc (.cells #[.int .i64 (n : Int)] 3)).alloc (.cells #[.int .i64 (i : Int)] 3) = w') fun _ _ h => ⟨h.1, h.2.symm⟩
  obtain ⟨W1, hW1⟩ : ∃ W1, (w.alloc (.cells #[.int .i64 (n : Int)] 3)).alloc (.cells #[.int .i64 (i : Int)] 3) = W1 := ⟨_, rfl⟩
  have hb1 : Below w.heap.size w W1 := by rw [← hW1]; exact ((Below.refl _ w).alloc (Nat.le_refl _) _).alloc (by simp) _
  have rn1 : Row W1 w.heap.size 3 #[.int .i64 (n : Int)] := by rw [← hW1]; exact (Row.new w _ _).alloc _
  have ri1 : Row W1 (w.heap.size + 1) 3 #[.int .i64 (i : Int)] := by
    rw [← hW1]
    have := Row.new (w.alloc (.cells #[.int .i64 (n : Int)] 3)) 3 #[.int .i64 (i : Int)]
    rw [World.size_alloc] at this; exact this
  rw [hW1] at hfk
  have hco := collect_in n i w.heap.size (w.heap.size + 1) hn (by omega) W1 rn1 ri1
  have hfl := Dm.forks_len 64 0 n i
  have hvf : vfyIn root n i s ps = ((Dm.forks 64 0 n i).length == ps.length && Dm.climb (Dm.forks 64 0 n i).reverse ps (Dm.leaf s) == root) := rfl
  obtain ⟨fs, hfs⟩ : ∃ fs, Dm.forks 64 0 n i = fs := ⟨_, rfl⟩
  rw [hfs] at hco hfl hvf
  rw [hvf]
  have hs1 : w.heap.size + 2 = W1.heap.size := by rw [← hW1]; simp
  obtain ⟨A, c, rfl, hc1, hc2, hA⟩ := hv
  obtain ⟨k0, hk0⟩ : ∃ k, ps.length = k := ⟨_, rfl⟩
  rw [hk0] at ha hc1 ⊢
  have HA := Lib.hid ha; have HF := Lib.hid hfk; have HC := Lib.hid hco; have HS1 := Lib.hid hs1; have HB1 := Lib.hid hb1; have HK0 := Lib.hid hk0
  have hdi : decide (n ≤ i) = false := by simp; omega
  clear ha hfk hco hfs hvf hW1 rn1 ri1 hs1 hk0
  by_cases hlen : fs.length = k0
  · rw [show (fs.length == k0) = true from by simpa using hlen, Bool.true_and]
    subst hlen
    have hne : (((fs.length : Nat) : Int) != ((fs.length : Nat) : Int)) = false := by simp
    go_enter Tryd.func29, Tryd.ntmps29
    go_wp2_with (first | (go_at_call 50; refine HA.out.mono ?_; rintro e w' ⟨rfl, rfl⟩) | (go_at_call 43; refine HF.out.mono ?_; rintro e w' ⟨rfl, rfl⟩))
    refine HC.out.mono ?_
    rintro e w2 ⟨vv, rfl, hrow, hb2⟩
    have HRV := Lib.hid (revFk_own fs vv W1.heap.size (by omega) w2 hrow)
    have HB2 := Lib.hid (HB1.out.trans (hb2.mono HB1.out.size))
    have hge := own_ge hrow
    obtain ⟨A', c', rfl⟩ := own_slice hrow
    clear hrow hb2
    go_wp2_with fail
    refine HRV.out.mono ?_
    rintro e w3 ⟨rfl, hrow3, hk3⟩
    have hb3 : Below w.heap.size w w3 := HB2.out.trans (hk3.below (fun k hk => by have := hge k hk; have := HS1.out; omega) HB2.out.size)
    have HLF := Lib.hid (leaf_any s w3 (by omega) (ht.next hb3))
    have HB3 := Lib.hid hb3; have HROW3 := Lib.hid hrow3
    clear hrow3 hk3 hb3 hge
    go_wp2_with (go_at_call 15; refine HLF.out.mono ?_; rintro e w4 ⟨rfl, hb4⟩)
    have hrow4 : w4.ownsRow W1.heap.size 57 4 (.slice A' fs.length c') fs.length (fkCells fs.reverse) := own_below HROW3.out hb4 (own_lt HROW3.out)
    have hb40 : Below w.heap.size w w4 := HB3.out.trans (hb4.mono HB3.out.size)
    have HROW := Lib.hid hrow4; have HB4 := Lib.hid hb40
    clear hrow4 hb40 hb4
    go_loopw [12, 13, 14, 42] (fun val _ _ i wr => ∃ k : Nat, k ≤ fs.length ∧ i = .int .i64 (k : Int) ∧ val = strOf (Dm.climb (fs.reverse.take k) (ps.take k) (Dm.leaf s)) ∧ wr.ownsRow W1.heap.size 57 4 (.slice A' fs.length c') fs.length (fkCells fs.reverse) ∧ Below w.heap.size w wr)
      (fun _ _ _ i _ => fs.length - (intOf i).toNat)
    case atStart => exact ⟨0, by omega, rfl, rfl, HROW.out, HB4.out⟩
    case round =>
      obtain ⟨k, hk, rfl, rfl, hrw, hbw⟩ := hrel
      by_cases hlt : k < fs.length
      · obtain ⟨g, cap, cur, hve, _⟩ : ∃ g cap cur, Value.slice A' fs.length c' = .slice (some ⟨g, 0, none⟩) fs.length cap ∧ cur = (0 : Nat) := by
          rcases hrw.2 with ⟨_, h0⟩ | ⟨g, cap, cur, h, _⟩
          · omega
          · exact ⟨g, cap, 0, h, rfl⟩
        cases hve
        rcases hA with ⟨_, hp⟩ | ⟨gp, off, rfl, hgp, hcell⟩
        · have := HK0.out; rw [hp] at this; simp at this; omega
        have hkp : k < ps.length := by have := HK0.out; omega
        have hkr : k < fs.reverse.length := by simpa using hlt
        have hj := join_any fs.reverse[k] (Dm.climb (fs.reverse.take k) (ps.take k) (Dm.leaf s)) ps[k]
        have hsn := climb_snoc fs.reverse ps (Dm.leaf s) k hkr hkp
        have hvl := climb_len (fs.reverse.take k) (ps.take k) (Dm.leaf s) (Dm.leaf_len _)
        have hpl := digs_get ps hd k hkp
        obtain ⟨f, hf⟩ : ∃ f, fs.reverse[k] = f := ⟨_, rfl⟩
        obtain ⟨p, hp⟩ : ∃ p, ps[k] = p := ⟨_, rfl⟩
        obtain ⟨x, hx⟩ : ∃ x, Dm.climb (fs.reverse.take k) (ps.take k) (Dm.leaf s) = x := ⟨_, rfl⟩
        have c0 := own_fk hrw k 0 (by omega) hkr (by simp)
        have c1 := own_fk hrw k 1 (by omega) hkr (by simp)
        have c2 := own_fk hrw k 2 (by omega) hkr (by simp)
        have c3 := own_fk hrw k 3 (by omega) hkr (by simp)
        rw [hf] at c0 c1 c2 c3 hj hsn
        rw [hp] at hj hsn hpl
        rw [hx] at hj hsn hvl ⊢
        simp only [List.getElem?_cons_zero, List.getElem?_cons_succ, Nat.add_zero] at c0 c1 c2 c3
        have cp := hcell k p (by rw [List.getElem?_eq_getElem hkp, hp])
        replace cp := (hbw.cell (p := ⟨gp, off + k, none⟩) hgp).trans cp
        have hlw := own_lt hrw g rfl
        have hgw : gp < wr.heap.size := by have := hbw.size; omega
        have hbn : Below w.heap.size w (wr.alloc (.cells #[.int .i64 (f.fr : Int), .int .i64 (f.mid : Int), .int .i64 (f.to : Int), .bool f.sec] 57)) := hbw.alloc hbw.size _
        have hjn := hj (wr.alloc (.cells #[.int .i64 (f.fr : Int), .int .i64 (f.mid : Int), .int .i64 (f.to : Int), .bool f.sec] 57)).drew (by omega) (ht.next hbn.drew)
        have HJ := Lib.hid hjn; have HSN := Lib.hid hsn; have HRW := Lib.hid hrw; have HBW := Lib.hid hbw
        clear hj hjn hsn hrw hf hp hx hcell hvl hpl hbn hl
        have i1 : (k : Int) < (fs.length : Int) := by omega
        have i2 : (0 : Int) ≤ (k : Int) := by omega
        have rf := Row.new wr 57 #[.int .i64 (f.fr : Int), .int .i64 (f.mid : Int), .int .i64 (f.to : Int), .bool f.sec]
        have q0 := rf.cell 0; have q1 := rf.cell 1; have q2 := rf.cell 2; have q3 := rf.cell 3
        simp only [List.getElem?_toArray, List.getElem?_cons_zero, List.getElem?_cons_succ] at q0 q1 q2 q3
        have qp : (wr.alloc (.cells #[.int .i64 (f.fr : Int), .int .i64 (f.mid : Int), .int .i64 (f.to : Int), .bool f.sec] 57)).cell? ⟨gp, off + k, none⟩ = some (strOf p) := (World.cell?_alloc_lt _ _ _ hgw).trans cp
        have hwb : Below wr.heap.size wr (wr.alloc (.cells #[.int .i64 (f.fr : Int), .int .i64 (f.mid : Int), .int .i64 (f.to : Int), .bool f.sec] 57)) := (Below.refl _ _).alloc (Nat.le_refl _) _
        have HWB := Lib.hid hwb
        clear rf hwb
        go_wp2
        generalize wr.alloc (.cells #[.int .i64 (f.fr : Int), .int .i64 (f.mid : Int), .int .i64 (f.to : Int), .bool f.sec] 57) = wa at *
        clear c0 c1 c2 c3 cp
        go_still_tail 6, (by kernel_rfl)
        change wpList _ _ _ _ _ wa.drew
        go_wp2_with (go_at_call 53; refine HJ.out.mono ?_; rintro e w5 ⟨rfl, hb5⟩)
        go_roundw
        case rel =>
          have hb6 : Below wr.heap.size wr w5 := (HWB.out.drew).trans (hb5.mono HWB.out.size)
          exact ⟨k + 1, by omega, by go_num, by rw [HSN.out], own_below HRW.out hb6 (own_lt HRW.out), HBW.out.trans (hb6.mono HBW.out.size)⟩
        case measure => simp [intOf]; omega
      · have ht1 : fs.reverse.take k = fs.reverse := List.take_of_length_le (by simp; omega)
        have ht2 : ps.take k = ps := List.take_of_length_le (by have := HK0.out; omega)
        rw [ht1, ht2]
        obtain ⟨x, hx⟩ : ∃ x, Dm.climb fs.reverse ps (Dm.leaf s) = x := ⟨_, rfl⟩
        rw [hx]
        have HBW := Lib.hid hbw; have HX := Lib.hid hx
        clear hrw hbw hx ht1 ht2
        go_wp2
        go_ret
        exact ⟨ret_bool (by rw [HX.out]; exact bs_eqb _ _), HBW.out⟩
  · rw [show (fs.length == k0) = false from by simpa using hlen, Bool.false_and]
    have hne : (((fs.length : Nat) : Int) != (k0 : Int)) = true := by simp; omega
    go_enter Tryd.func29, Tryd.ntmps29
    go_wp2_with (first | (go_at_call 50; refine HA.out.mono ?_; rintro e w' ⟨rfl, rfl⟩) | (go_at_call 43; refine HF.out.mono ?_; rintro e w' ⟨rfl, rfl⟩) | (go_at_call 51; refine HC.out.mono ?_; rintro e w2 ⟨vv, rfl, hrow, hb2⟩; obtain ⟨A', c', rfl⟩ := own_slice hrow))
    go_ret
    exact ⟨rfl, HB1.out.trans (hb2.mono HB1.out.size)⟩
theorem vfy_any (root s : List UInt8) (n i : Int) (v : Value) (ps : List (List UInt8)) (w : World) (hv : Strs w w.heap.size v ps) (hl : ∀ s ∈ ps, s.length ≤ 1000) (hs : s.length ≤ 1000)
    (hn : n ≤ 9223372036854775807) (ht : TabOk w) :
    Calls Tryd.prog 29 #[strOf root, .int .i64 n, .int .i64 i, strOf s, v] w fun e w' => e = .returned (.bool (vfy root n i s ps)) ∧ Below w.heap.size w w' := by
  by_cases h1 : i < 0 ∨ n ≤ i
  · rw [vfy, if_pos h1]
    exact vfy_out root s n i v ps w hv hl (h1.elim .inl (fun h => .inr (.inl h)))
  · rw [vfy, if_neg h1]
    cases hd : Dm.digs ps with
    | false => rw [Bool.false_and]; exact vfy_out root s n i v ps w hv hl (.inr (.inr hd))
    | true =>
      rw [Bool.true_and]
      obtain ⟨m, rfl⟩ := Int.eq_ofNat_of_zero_le (by omega : 0 ≤ n)
      obtain ⟨j, rfl⟩ := Int.eq_ofNat_of_zero_le (by omega : 0 ≤ i)
      exact vfy_in root s m j v ps w hv hl hs hd (by omega) (by omega) ht
end Go.Proofs.YtnbhhhbmeafkaaaDoor
