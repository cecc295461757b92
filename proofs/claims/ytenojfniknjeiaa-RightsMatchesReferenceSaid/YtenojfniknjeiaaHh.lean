/- canAssign. -/
import Derived.Test.YtenojfniknjeiaaHg
import Derived.Laws.EntriesVeiled
namespace Go.Proofs.Ytenojfniknjeiaa
open Go.RowKit

theorem made_rep (z : Value) (n : Nat) : madeCells #[z] n = Array.replicate n z := by
  unfold madeCells
  apply Array.ext
  · simp
  · intro i h1 h2
    simp [Nat.mod_one]
theorem infoBool : (Try.prog.info? 4).map (fun i => (i.zero, i.size, i.bytes)) = some (some (.bool false), 1, 1) := by kernel_rfl
theorem make_rep {t e : TypeId} {z : Value} {by_ : Nat} (ht : Try.prog.underlying t = some (.slice e)) (hi : (Try.prog.info? e).map (fun i => (i.zero, i.size, i.bytes)) = some (some z, 1, by_)) (hz : z.cells = #[z]) (hby : by_ ≤ 1000) (n : Nat) (hn : n ≤ 100000) (w : World) :
    (Instr.makeSlice t (.int .i64 (n : Int)) (.int .i64 (n : Int))).run Try.prog w = .ok (.slice (some ⟨w.heap.size, 0, none⟩) n n) (w.alloc (.cells (Array.replicate n z) e)) := by
  obtain ⟨i0, hi0, hz0, hz1, hz2⟩ := info_parts hi
  have h := run_make (P := Try.prog) w t e i0 z ht hi0 hz0 .i64 .i64 (n : Int) (n : Int) (by omega) (Int.le_refl _) (by rw [hz2]; have : (by_ : Int) * n ≤ 1000 * 100000 := Int.mul_le_mul (by omega) (by omega) (by omega) (by omega); omega) (by omega)
  simp only [Int.toNat_natCast] at h
  rw [hz1, Nat.mul_one, hz, made_rep] at h
  exact h
/-- The state between two searches. -/
structure TSt (W0 : World) (k : KC) (l : List Gr) (G : List (List Nat)) (xs : List Value) (w : World) : Prop where
  b : Below W0.heap.size W0 w
  o : W0.heap.size ≤ k.bl ∧ k.bl < k.bc ∧ k.bc < k.gG ∧ k.gG < k.bg
  rl : Row w k.bl 22 #[.slice k.Al k.nl k.cl]
  rc : Row w k.bc 63 #[.slice k.Ac k.nc k.cc]
  tG : Row w k.gG 26 xs.toArray
  rg : Row w k.bg 63 #[.slice (some ⟨k.gG, 0, none⟩) l.length l.length]
  lG : xs.length = l.length ∧ G.length = l.length
  ow : ∀ (i : Nat) (x : Value) (L : List Nat), xs[i]? = some x → G[i]? = some L → w.ownsRow W0.heap.size 3 1 x L.length (iv1 (zi L))
  far : ∀ (i : Nat) (x : Value) (j : Nat), xs[i]? = some x → x.ownBlock = some j → j ≠ k.bl ∧ j ≠ k.bc ∧ j ≠ k.gG ∧ j ≠ k.bg
  apart : ∀ (i i' : Nat) (x x' : Value) (j : Nat), i ≠ i' → xs[i]? = some x → xs[i']? = some x' → x.ownBlock = some j → x'.ownBlock ≠ some j
abbrev kc0 (bl bc gG bg : Nat) (Ac : Option Addr) (nc cc : Nat) (Al : Option Addr) (n cl z : Nat) : KC := ⟨bl, bc, gG, bg, z, z + 1, z + 1 + 1, Ac, nc, cc, Al, n, cl⟩
theorem TSt.start (W0 : World) (Ac : Option Addr) (nc cc : Nat) (Al : Option Addr) (cl : Nat) (l : List Gr) :
    TSt W0 (kc0 W0.heap.size (W0.heap.size + 1) (W0.heap.size + 1 + 1) (W0.heap.size + 1 + 1 + 1) Ac nc cc Al l.length cl 0) l (List.replicate l.length []) (List.replicate l.length (.slice none 0 0)) ((((W0.alloc (.cells #[.slice Al l.length cl] 22)).alloc (.cells #[.slice Ac nc cc] 63)).alloc (.cells (Array.replicate l.length (.slice none 0 0)) 26)).alloc (.cells #[.slice (some ⟨W0.heap.size + 1 + 1, 0, none⟩) l.length l.length] 63)) := by
  refine ⟨((((Below.refl _ W0).alloc (Nat.le_refl _) _).alloc (by simp) _).alloc (by simp; omega) _).alloc (by simp; omega) _, ⟨Nat.le_refl _, by simp, by simp, by simp⟩, (((Row.new W0 _ _).alloc _).alloc _).alloc _, ?_, ?_, ?_, ⟨by simp, by simp⟩, fun i x L hx hL => ?_, fun i x j hx e => ?_, fun i i' x x' j _ hx _ e => ?_⟩
  · have h := Row.new (W0.alloc (.cells #[.slice Al l.length cl] 22)) 63 #[.slice Ac nc cc]
    rw [World.size_alloc] at h
    exact (h.alloc _).alloc _
  · have h := Row.new ((W0.alloc (.cells #[.slice Al l.length cl] 22)).alloc (.cells #[.slice Ac nc cc] 63)) 26 (Array.replicate l.length (.slice none 0 0))
    rw [World.size_alloc, World.size_alloc] at h
    rw [List.toArray_replicate]
    exact h.alloc _
  · have h := Row.new (((W0.alloc (.cells #[.slice Al l.length cl] 22)).alloc (.cells #[.slice Ac nc cc] 63)).alloc (.cells (Array.replicate l.length (.slice none 0 0)) 26)) 63 #[.slice (some ⟨W0.heap.size + 1 + 1, 0, none⟩) l.length l.length]
    rw [World.size_alloc, World.size_alloc, World.size_alloc] at h
    exact h
  · rw [List.getElem?_replicate] at hx hL
    split at hx
    · next hlt =>
      rw [if_pos hlt] at hL
      obtain rfl := Option.some.inj hx
      obtain rfl := Option.some.inj hL
      exact World.ownsRow_nil _ _ _ _
    · cases hx
  · rw [List.getElem?_replicate] at hx
    split at hx
    · obtain rfl := Option.some.inj hx
      cases e
    · cases hx
  · rw [List.getElem?_replicate] at hx
    split at hx
    · obtain rfl := Option.some.inj hx
      cases e
    · cases hx
abbrev rowT (n : Nat) : Obj := .cells (Array.replicate n (.bool false)) 4
theorem TSt.open_ {W0 : World} {bl bc gG bg : Nat} {Ac : Option Addr} {nc cc : Nat} {Al : Option Addr} {n cl : Nat} {l : List Gr} {G : List (List Nat)} {xs : List Value} {w : World} (h : TSt W0 (kc0 bl bc gG bg Ac nc cc Al n cl 0) l G xs w) :
    KSt W0 (kc0 bl bc gG bg Ac nc cc Al n cl w.heap.size) l (List.replicate l.length false) G xs (((w.alloc (rowT l.length)).alloc (.cells #[.slice (some ⟨w.heap.size, 0, none⟩) l.length l.length] 76)).alloc (.cells #[.func (.func 47) #[] #[pt bc, pt (w.heap.size + 1), pt bg, pt bl, pt (w.heap.size + 1 + 1)]] 77)) := by
  have hz := h.rg.lt
  obtain ⟨o1, o2, o3, o4⟩ := h.o
  refine ⟨((h.b.alloc h.b.size _).alloc (by have := h.b.size; simp; omega) _).alloc (by have := h.b.size; simp; omega) _, ⟨o1, o2, o3, o4, hz, by simp, by simp⟩, ((h.rl.alloc _).alloc _).alloc _, ((h.rc.alloc _).alloc _).alloc _, ((h.rg.alloc _).alloc _).alloc _, ?_, ?_, ?_, ((h.tG.alloc _).alloc _).alloc _, by simp, h.lG, fun i x L hx hL => ?_, fun i x j hx e => ?_, h.apart⟩
  · have h2 := Row.new (w.alloc (rowT l.length)) 76 #[.slice (some ⟨w.heap.size, 0, none⟩) l.length l.length]
    rw [World.size_alloc] at h2
    exact h2.alloc _
  · have h2 := Row.new ((w.alloc (rowT l.length)).alloc (.cells #[.slice (some ⟨w.heap.size, 0, none⟩) l.length l.length] 76)) 77 #[.func (.func 47) #[] #[pt bc, pt (w.heap.size + 1), pt bg, pt bl, pt (w.heap.size + 1 + 1)]]
    rw [World.size_alloc, World.size_alloc] at h2
    exact h2
  · rw [List.map_replicate, List.toArray_replicate]
    exact ((Row.new w _ _).alloc _).alloc _
  · exact own_below (h.ow i x L hx hL) ((((Below.refl _ w).alloc (Nat.le_refl _) _).alloc (by simp) _).alloc (by simp; omega) _)
  · have h1 := h.far i x j hx e
    have hi : i < G.length := by rw [h.lG.2, ← h.lG.1]; exact (List.getElem?_eq_some_iff.1 hx).1
    have h2 := own_lt (h.ow i x _ hx (List.getElem?_eq_getElem hi)) j e
    dsimp only at h1 ⊢
    omega
theorem KSt.shut {W0 : World} {bl bc gG bg : Nat} {Ac : Option Addr} {nc cc : Nat} {Al : Option Addr} {n cl z : Nat} {l : List Gr} {T : List Bool} {G : List (List Nat)} {xs : List Value} {w : World} (h : KSt W0 (kc0 bl bc gG bg Ac nc cc Al n cl z) l T G xs w) : TSt W0 (kc0 bl bc gG bg Ac nc cc Al n cl 0) l G xs w := by
  obtain ⟨o1, o2, o3, o4, -⟩ := h.o
  refine ⟨h.b, ⟨o1, o2, o3, o4⟩, h.rl, h.rc, h.tG, h.rg, h.lG, h.ow, fun i x j hx e => ?_, h.apart⟩
  obtain ⟨a, b, c, d, -⟩ := h.far i x j hx e
  exact ⟨a, b, c, d⟩
theorem tr_rep (n g : Nat) : tr (List.replicate n false) g = false := by
  unfold tr
  rw [List.getD_eq_getElem?_getD, List.getElem?_replicate]
  split <;> rfl
theorem untr_le_len (T : List Bool) : untr T ≤ T.length := List.countP_le_length
def CanPost (W0 : World) (l : List Gr) (ch : List (List Nat)) (e : Ending) (w' : World) : Prop := ∃ b, e = .returned (.bool b) ∧ (b = true → Can (plN l) ch) ∧ (b = false → ∃ S, LackS (plN l) ch S) ∧ Below W0.heap.size W0 w'
set_option maxRecDepth 100000 in
set_option maxHeartbeats 16000000 in
theorem canAssign_any (l : List Gr) (ch : List (List Nat)) (hP : ∀ g ∈ l, 0 ≤ g.plays ∧ g.plays ≤ 100) (h12 : l.length ≤ 12) (hch : ChOk (plN l) ch) (Al : Option Addr) (nl cl : Nat) (Ac : Option Addr) (nc cc : Nat) (W0 : World) (hc : ChAt W0 W0.heap.size (.slice Ac nc cc) ch) (hl : Recs encG 6 W0 W0.heap.size (.slice Al nl cl) l) :
    Calls Try.prog 36 #[.slice Al nl cl, .slice Ac nc cc] W0 (CanPost W0 l ch) := by
  obtain ⟨rfl, hl1, hl2⟩ := recs_cap hl
  obtain ⟨hnc, hc1, hc2⟩ := hc.cap
  have mk1 := fun w : World => make_rep (t := 63) Try.underlying63 infoInts rfl (by decide) l.length (by omega) w
  have mk2 := fun w : World => make_rep (t := 76) Try.underlying76 infoBool rfl (by decide) l.length (by omega) w
  have HNC := Lib.hid hnc
  have HGV : Hid (∀ (bl bc gG bg z n use : Nat) (T : List Bool) (G : List (List Nat)) (xs : List Value) (w : World), untr T < n → use < ch.length → GOk (plN l) ch G → KSt W0 (kc0 bl bc gG bg Ac nc cc Al l.length cl z) l T G xs w → Calls Try.prog 47 #[.int .i64 (use : Int), pt bc, pt (z + 1), pt bg, pt bl, pt (z + 1 + 1)] w (GivePost W0 (kc0 bl bc gG bg Ac nc cc Al l.length cl z) l ch use T G xs)) := by
    refine Lib.hid fun bl bc gG bg z n use T G xs w h1 h2 h3 h4 => ?_
    have h := give_any W0 (kc0 bl bc gG bg Ac nc cc Al l.length cl z) l ch hP h12 hch hc hl n use T G xs w h1 h2 h3 h4
    dsimp only at h
    exact h
  have nc9 : nc ≤ 9223372036854775807 := by omega
  have TS := Lib.hid (TSt.start W0 Ac nc cc Al cl l)
  clear hP hch hc hl hnc
  go_enter Try.func36, Try.ntmps36
  go_upto_region 2 with fail
  obtain ⟨gG, hgG⟩ : ∃ g, W0.heap.size + 1 + 1 = g := ⟨_, rfl⟩
  obtain ⟨bg, hbg⟩ : ∃ g, W0.heap.size + 1 + 1 + 1 = g := ⟨_, rfl⟩
  obtain ⟨bc, hbc⟩ : ∃ g, W0.heap.size + 1 = g := ⟨_, rfl⟩
  obtain ⟨W1, hW1⟩ : ∃ W, (((W0.alloc (.cells #[.slice Al l.length cl] 22)).alloc (.cells #[.slice Ac nc cc] 63)).alloc (.cells (Array.replicate l.length (.slice none 0 0)) 26)).alloc (.cells #[.slice (some ⟨W0.heap.size + 1 + 1, 0, none⟩) l.length l.length] 63) = W := ⟨_, rfl⟩
  rw [hW1] at TS ⊢
  rw [hbg, hgG, hbc] at TS ⊢
  clear hW1 hgG hbg hbc
  obtain ⟨bl, hbl⟩ : ∃ g, W0.heap.size = g := ⟨_, rfl⟩
  have HBL := Lib.hid hbl
  have TS := Lib.hid (show TSt W0 (kc0 bl bc gG bg Ac nc cc Al l.length cl 0) l (List.replicate l.length []) (List.replicate l.length (.slice none 0 0)) W1 by rw [← hbl]; exact TS.out)
  rw [hbl]
  clear hbl
  have y_c : W1.cell? ⟨bc, 0, none⟩ = some (.slice Ac nc cc) := TS.out.rc.cell 0
  have z_c := TS.out.rc.lt
  go_wp2
  clear y_c z_c
  go_loopw [14] (fun z wr => ∃ n : Nat, z = .int .i64 (n : Int) ∧ n ≤ nc ∧ Hid (∃ G xs, TopI (plN l) ch n G ∧ TSt W0 (kc0 bl bc gG bg Ac nc cc Al l.length cl 0) l G xs wr)) (fun z _ => nc - (intOf z).toNat)
  case atStart => exact ⟨0, rfl, Nat.zero_le _, Lib.hid ⟨_, _, by have := TopI.start (P := plN l) (ch := ch); rwa [plN_len] at this, TS.out⟩⟩
  case round =>
    clear TS
    obtain ⟨n, rfl, hn, HX⟩ := hrel
    obtain ⟨G, xs, hT, hS⟩ := HX.out
    have HT := Lib.hid hT
    have HS := Lib.hid hS
    clear HX hT hS
    by_cases hnn : n < nc
    · have n0 : (0 : Int) ≤ (n : Int) := by omega
      have n1 : (n : Int) < (nc : Int) := by omega
      have y_l : wr.cell? ⟨bl, 0, none⟩ = some (.slice Al l.length cl) := HS.out.rl.cell 0
      have z_l := HS.out.rl.lt
      go_upto_region 8 with fail
      obtain ⟨V, hV⟩ : ∃ V, ((wr.alloc (rowT l.length)).alloc (.cells #[.slice (some ⟨wr.heap.size, 0, none⟩) l.length l.length] 76)).alloc (.cells #[.func (.func 47) #[] #[pt bc, pt (wr.heap.size + 1), pt bg, pt bl, pt (wr.heap.size + 1 + 1)]] 77) = V := ⟨_, rfl⟩
      have HK := Lib.hid (show KSt W0 (kc0 bl bc gG bg Ac nc cc Al l.length cl wr.heap.size) l (List.replicate l.length false) G xs V by rw [← hV]; exact HS.out.open_)
      have hsz : wr.heap.size + 1 + 1 < V.heap.size := by rw [← hV]; simp
      have hV2 : ((wr.alloc (.cells (Array.replicate l.length (.bool false)) 4)).alloc (.cells #[.slice (some ⟨wr.heap.size, 0, none⟩) l.length l.length] 76)).alloc (.cells #[.func (.func 47) #[] #[.pointer (some ⟨bc, 0, none⟩), .pointer (some ⟨wr.heap.size + 1, 0, none⟩), .pointer (some ⟨bg, 0, none⟩), .pointer (some ⟨bl, 0, none⟩), .pointer (some ⟨wr.heap.size + 1 + 1, 0, none⟩)]] 77) = V := hV
      rw [hV2]
      have HSZ := Lib.hid hsz
      obtain ⟨z, hz⟩ : ∃ z, wr.heap.size = z := ⟨_, rfl⟩
      rw [hz] at HK HSZ ⊢
      clear hV hV2 hz hsz y_l z_l HS
      have HGC := Lib.hid (HGV.out bl bc gG bg z (l.length + 1) n (List.replicate l.length false) G xs V (by have := untr_le_len (List.replicate l.length false); rw [List.length_replicate] at this; omega) (by have := HNC.out; omega) HT.out.ok HK.out)
      have y_v : V.cell? ⟨z + 1 + 1, 0, none⟩ = some (.func (.func 47) #[] #[.pointer (some ⟨bc, 0, none⟩), .pointer (some ⟨z + 1, 0, none⟩), .pointer (some ⟨bg, 0, none⟩), .pointer (some ⟨bl, 0, none⟩), .pointer (some ⟨z + 1 + 1, 0, none⟩)]) := HK.out.rv.cell 0
      have z_v := HK.out.rv.lt
      go_upto_if 24 with (go_at_call 47; (with_reducible refine Calls.mono HGC.out ?_); rintro r u1 ⟨b, T', G', xs', rfl, hst, hk, -⟩; have HST := Lib.hid hst; have HKE := Lib.hid hk.shut; clear hst hk)
      clear y_v z_v
      cases b with
      | true =>
        have HTN := Lib.hid (HT.out.next HST.out)
        go_wp2_with fail
        go_roundw
        case rel => exact ⟨n + 1, by go_num, by omega, Lib.hid ⟨G', xs', HTN.out, HKE.out⟩⟩
        case measure => simp [intOf]; omega
      | false =>
        have HLK := Lib.hid (HT.out.lack (by have := HNC.out; omega) (fun g => tr_rep _ _) HST.out)
        go_wp2_with fail
        go_ret
        exact ⟨false, rfl, (fun e => by cases e), fun _ => HLK.out, HKE.out.b⟩
    · have nx : ¬ (n : Int) < (nc : Int) := by omega
      have HCAN := Lib.hid (show Can (plN l) ch from TopI.can (G := G) (by have h1 := HT.out; rwa [show n = ch.length by have := HNC.out; omega] at h1))
      go_wp2_with fail
      go_ret
      exact ⟨true, rfl, fun _ => HCAN.out, (fun e => by cases e), HS.out.b⟩
end Go.Proofs.Ytenojfniknjeiaa
