/- Contract of few; a row of strings of the call's own reads as a slice of strings. -/
import Derived.Test.YtnbhhhbmeafkaaaDoorDy
import Derived.Stop.RegionWithIn
import Derived.Deep.RegionWith
import Derived.BigRegion
namespace Go.Proofs.YtnbhhhbmeafkaaaDoor
open Go.RowKit
attribute [local go_sem] Oper.semAt_some
attribute [local go_sem ↓] append_appN

theorem strs_of_own {w : World} {base : Nat} {v : Value} {n : Nat} {ps : List (List UInt8)} (h : w.ownsRow base 9 1 v n (strCells ps)) (hn : ps.length = n) : Strs w w.heap.size v ps := by
  subst hn
  rcases h.2 with ⟨rfl, h0⟩ | ⟨g, cap, cur, rfl, hb, hg, h1, h2, h3, h4⟩
  · have : ps = [] := List.eq_nil_of_length_eq_zero h0
    subst this
    exact ⟨none, 0, rfl, Nat.le_refl _, by decide, .inl ⟨rfl, rfl⟩⟩
  · refine ⟨_, cap, rfl, h1, h2, .inr ⟨g, 0, rfl, (Array.getElem?_eq_some_iff.1 hg).1, fun j s hj => ?_⟩⟩
    have hjl : j < ps.length := (List.getElem?_eq_some_iff.1 hj).1
    have := h.cellAt j (by omega)
    rw [Nat.zero_add, this]
    simp [strCells, List.getElem?_map, hj]
/-- At most n strings, each cut to 60 bytes. -/
def cut (n : Nat) (ps : List (List UInt8)) : List (List UInt8) := (ps.take n).map fun s => s.take 60
theorem cut_len (n : Nat) (ps : List (List UInt8)) : (cut n ps).length = min n ps.length := by unfold cut; rw [List.length_map, List.length_take]
theorem cut_small (n : Nat) (ps : List (List UInt8)) : ∀ s ∈ cut n ps, s.length ≤ 60 := by
  intro s hs
  obtain ⟨t, _, rfl⟩ := List.mem_map.1 hs
  rw [List.length_take]; omega
theorem cut_snoc (ps : List (List UInt8)) (k : Nat) (h : k < ps.length) : strCells (cut (k + 1) ps) = strCells (cut k ps) ++ [strOf (ps[k].take 60)] := by
  unfold cut strCells
  rw [List.take_succ_eq_append_getElem h, List.map_append, List.map_append]; rfl
theorem cut_all (n k : Nat) (ps : List (List UInt8)) (h : k ≤ n) (h2 : n ≤ k ∨ ps.length ≤ k) : cut k ps = cut n ps := by
  unfold cut
  congr 1
  rcases h2 with h2 | h2
  · rw [show k = n by omega]
  · rw [List.take_of_length_le h2, List.take_of_length_le (by omega)]
theorem bs_cut (l : List UInt8) (m : Nat) (h : m = min l.length 60) : (bs l).extract 0 m = bs (l.take 60) := by
  subst h
  apply ByteArray.ext
  rw [ByteArray.data_extract]
  simp only [bs]
  rw [List.extract_toArray]
  simp [Nat.min_comm]

def OwnStrs (ps : List (List UInt8)) (w : World) (e : Ending) (w' : World) : Prop := ∃ v, e = .returned v ∧ w'.ownsRow w.heap.size 9 1 v ps.length (strCells ps) ∧ Below w.heap.size w w'

set_option maxRecDepth 100000 in
set_option maxHeartbeats 1000000 in
theorem few_any (v : Value) (ps : List (List UInt8)) (n : Nat) (w : World) (hv : Strs w w.heap.size v ps) (hl : ∀ s ∈ ps, s.length ≤ maxLen) (hn : n ≤ 1000) :
    Calls Tryd.prog 21 #[v, .int .i64 (n : Int)] w (OwnStrs (cut n ps) w) := by
  obtain ⟨i0, hi0, hz0, hz1, hz2⟩ := info_parts Tryd.infoStr
  obtain ⟨A, c, rfl, hc1, hc2, hA⟩ := hv
  unfold maxLen at hc2 hl
  obtain ⟨N, hN⟩ : ∃ N, ps.length = N := ⟨_, rfl⟩
  rw [hN] at hc1 ⊢
  have HN := Lib.hid hN
  clear hN
  go_enter Tryd.func21, Tryd.ntmps21
  go_wp2
  go_loopw [5, 6] (fun o i wr => ∃ k : Nat, k ≤ n ∧ k ≤ N ∧ i = .int .i64 (k : Int) ∧ wr.ownsRow w.heap.size 9 1 o k (strCells (cut k ps)) ∧ Below w.heap.size w wr) (fun _ i _ => n - (intOf i).toNat)
  case atStart => exact ⟨0, by omega, by omega, rfl, World.ownsRow_nil _ _ _ _, Below.refl _ _⟩
  case round =>
    obtain ⟨k, hkn, hkN, rfl, hown, hbw⟩ := hrel
    by_cases hlt : k < n ∧ k < N
    · obtain ⟨h1, h2⟩ := hlt
      have hkp : k < ps.length := by have := HN.out; omega
      rcases hA with ⟨_, hp⟩ | ⟨g, off, rfl, hg, hcell⟩
      · rw [hp] at hkp; simp at hkp
      have hpk : ps[k]? = some ps[k] := List.getElem?_eq_getElem hkp
      have cp := (hbw.cell (p := ⟨g, off + k, none⟩) hg).trans (hcell k _ hpk)
      have hsl := hl ps[k] (List.getElem_mem hkp)
      have hsn := cut_snoc ps k hkp
      have hcu := bs_cut ps[k] (min (ps[k].length : Int) 60).toNat (by omega)
      obtain ⟨p, hp⟩ : ∃ p, ps[k] = p := ⟨_, rfl⟩
      rw [hp] at cp hsl hsn hcu
      obtain ⟨S, hS⟩ : ∃ S, bs p = S := ⟨_, rfl⟩
      have hSz : S.size = p.length := by rw [← hS, bs_size]
      rw [← hSz] at hcu hsl
      unfold strOf at cp
      rw [hS] at cp hcu
      obtain ⟨T, hT⟩ : ∃ T, bs (p.take 60) = T := ⟨_, rfl⟩
      unfold strOf at hsn
      rw [hT] at hsn hcu
      have hgw : g < wr.heap.size := by have := hbw.size; omega
      have hm0 : (0 : Int) ≤ min (S.size : Int) 60 := by omega
      have hm1 : min (S.size : Int) 60 ≤ (S.size : Int) := by omega
      have i1 : (k : Int) < (N : Int) := by omega
      have i2 : (k : Int) < (n : Int) := by omega
      have i3 : (0 : Int) ≤ (k : Int) := by omega
      have HSN := Lib.hid hsn; have HBW := Lib.hid hbw; have HOWN := Lib.hid hown
      clear hsn hbw hown hS hSz hT hp hpk hcell hl
      obtain ⟨vp, w6, hrun, hown6, hg6, _⟩ := run_append_own (P := Tryd.prog) (wr.alloc (.cells #[.string T] 9)).drew w.heap.size 26 26 9 i0 (.string ⟨#[]⟩) 1 16 Tryd.underlying26 hi0 hz0 hz1 hz2 rfl (by decide) _ k _ (HOWN.out.alloc _).drew ⟨wr.heap.size, 0, none⟩ 1 1 [.string T] rfl (fun j u h => cell_one_new _ _ _ j u h) (by simp [Value.oneCell']) (by unfold maxLen; omega) (by omega) (by have := HBW.out.size; simp; omega)
      have HN6 := Lib.hid hown6; have HG6 := Lib.hid hg6
      rw [append_appN] at hrun
      clear hown6 hg6
      go_wp2
      go_region
      go_wp2
      go_roundw
      case rel => exact ⟨k + 1, by omega, by omega, by go_num, by rw [HSN.out]; exact HN6.out, below_grown HBW.out HBW.out.size HOWN.out ((Below.refl _ _).drew) HG6.out⟩
      case measure => simp [intOf]; omega
    · have he := cut_all n k ps hkn (by have := HN.out; omega)
      have hcl := cut_len n ps
      rw [he] at hown
      have hk : k = (cut n ps).length := by rw [hcl]; have := HN.out; omega
      have HK := Lib.hid hk; have HOWN := Lib.hid hown; have HBW := Lib.hid hbw
      clear he hcl hk hown hbw
      by_cases h1 : k < N
      · have h2 : ¬ k < n := by omega
        go_wp2
        go_ret
        exact ⟨_, rfl, by rw [← HK.out]; exact HOWN.out, HBW.out⟩
      · go_wp2
        go_ret
        exact ⟨_, rfl, by rw [← HK.out]; exact HOWN.out, HBW.out⟩
/-- A slice of strings that came in: of an empty one nothing is known but its length. -/
def StrsA (w : World) (v : Value) (ps : List (List UInt8)) : Prop := Strs w w.heap.size v ps ∨ (ps = [] ∧ ∃ A c, v = .slice A 0 c)
theorem StrsA.next {w w' : World} {v : Value} {ps : List (List UInt8)} (h : StrsA w v ps) (hb : Below w.heap.size w w') : StrsA w' v ps := h.imp (fun h => h.next hb) id
set_option maxRecDepth 100000 in
set_option maxHeartbeats 400000 in
theorem few_nil (A : Option Addr) (c n : Nat) (w : World) (hn : n ≤ 1000) :
    Calls Tryd.prog 21 #[.slice A 0 c, .int .i64 (n : Int)] w (OwnStrs [] w) := by
  have _ := hn
  go_enter Tryd.func21, Tryd.ntmps21
  go_wp2
  refine wp_loop_rounds 1 ?_
  rw [rounds_succ]
  go_wp2
  go_ret
  exact ⟨_, rfl, World.ownsRow_nil _ _ _ _, Below.refl _ _⟩
theorem few_in (v : Value) (ps : List (List UInt8)) (n : Nat) (w : World) (hv : StrsA w v ps) (hl : ∀ s ∈ ps, s.length ≤ maxLen) (hn : n ≤ 1000) :
    Calls Tryd.prog 21 #[v, .int .i64 (n : Int)] w (OwnStrs (cut n ps) w) := by
  rcases hv with hv | ⟨rfl, A, c, rfl⟩
  · exact few_any v ps n w hv hl hn
  · have : cut n [] = [] := by simp [cut]
    rw [this]; exact few_nil A c n w hn
end Go.Proofs.YtnbhhhbmeafkaaaDoor
