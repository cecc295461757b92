/- The blocks of a list of strings, as an iterator: it yields the blocks of the strings joined and extended. -/
import Derived.Test.YtnbhhhbmeafkaaaDoorDf
namespace Go.Proofs.YtnbhhhbmeafkaaaDoor
open Go.RowKit Go.Shelf
attribute [local go_sem] Oper.semAt_some

/-- A slice that reads as the strings ps, in blocks below B. -/
def Strs (w : World) (B : Nat) (v : Value) (ps : List (List UInt8)) : Prop :=
  ∃ A c, v = .slice A ps.length c ∧ ps.length ≤ c ∧ c ≤ maxLen ∧ (A = none ∧ ps = [] ∨ ∃ g off, A = some ⟨g, off, none⟩ ∧ g < B ∧ ∀ j s, ps[j]? = some s → w.cell? ⟨g, off + j, none⟩ = some (strOf s))
theorem Strs.keep {w w' : World} {B : Nat} {v : Value} {ps : List (List UInt8)} (h : Strs w B v ps) (hk : ∀ p : Addr, p.block < B → w'.cell? p = w.cell? p) : Strs w' B v ps := by
  obtain ⟨A, c, h1, h2, h3, h4⟩ := h
  refine ⟨A, c, h1, h2, h3, ?_⟩
  rcases h4 with h4 | ⟨g, off, h4, h5, h6⟩
  · exact .inl h4
  · exact .inr ⟨g, off, h4, h5, fun j s hj => (hk _ h5).trans (h6 j s hj)⟩
theorem Strs.below {w w' : World} {B : Nat} {v : Value} {ps : List (List UInt8)} (h : Strs w B v ps) (hb : Below B w w') : Strs w' B v ps := h.keep fun _ hp => hb.cell hp
theorem Strs.more {w : World} {B B' : Nat} {v : Value} {ps : List (List UInt8)} (h : Strs w B v ps) (hB : B ≤ B') : Strs w B' v ps := by
  obtain ⟨A, c, h1, h2, h3, h4⟩ := h
  refine ⟨A, c, h1, h2, h3, ?_⟩
  rcases h4 with h4 | ⟨g, off, h4, h5, h6⟩
  · exact .inl h4
  · exact .inr ⟨g, off, h4, by omega, h6⟩
theorem Strs.next {w w' : World} {v : Value} {ps : List (List UInt8)} (h : Strs w w.heap.size v ps) (hb : Below w.heap.size w w') : Strs w' w'.heap.size v ps := (h.below hb).more hb.size

theorem flat_len (pre : List Block) : (flat pre).length = 64 * pre.length := by
  induction pre with
  | nil => rfl
  | cons x pre ih =>
    have : flat (x :: pre) = x.1 ++ flat pre := by simp [flat]
    rw [this, List.length_append, x.2, ih]; simp; omega

set_option maxRecDepth 100000 in
set_option maxHeartbeats 2000000 in
theorem blocks1_all (m : Nat) (no : Nat → Prop) (Bp : Nat) (v : Value) (ps : List (List UInt8)) (hps : ps.flatten.length ≤ 1099511627776 - 200) (w : World) (hno : ∀ k, no k → k < w.heap.size + 2)
    (hv : Strs w w.heap.size v ps) (hv2 : ∀ A n c g off, v = .slice A n c → A = some ⟨g, off, none⟩ → ¬ no g) (hbp : Row w Bp 26 #[v]) :
    GivesAll Fence.wide m Tryd.prog 67 #[.pointer (some ⟨Bp, 0, none⟩)] encB no (fun xs => flat xs = Dm.ext ps.flatten) w := by
  intro l J W hb hs hl hJ hY h0
  refine callsIn_of_wp Tryd.func67 rfl trivial ?_ rfl
  simp only [Tryd.ntmps67, List.size_toArray, List.length_cons, List.length_nil, Nat.reduceAdd, Nat.reduceSub, Array.replicate_succ, Array.replicate_zero, List.push_toArray, List.append_toArray, List.nil_append, List.cons_append]
  have hbp' : Row W Bp 26 #[v] := hbp.below hb hbp.lt
  have hv' : Strs W w.heap.size v ps := hv.below hb
  obtain ⟨A, c, rfl, hc1, hc2, hA⟩ := hv'
  have cp := hbp'.cell 0
  simp only [List.getElem?_toArray, List.getElem?_cons_zero] at cp
  have hBp : Bp < W.heap.size := hbp'.lt
  have hBp1 : Bp < W.heap.size + 1 := by omega
  have hBp2 : Bp < W.heap.size + 1 + 1 := by omega
  have HS := Lib.hid hs; have HL := Lib.hid hl; have HBP := Lib.hid hbp'
  have hln : ps.length ≤ maxLen := by omega
  unfold maxLen at hln
  clear hs hl hbp hbp' hv hb
  gi_wp2
  gi_loopw [5, 8, 12] (fun z _ i wr => ∃ (k : Nat) (pre : List Block) (rest junk : List UInt8), k ≤ ps.length ∧ i = .int .i64 k ∧ z = .int .i64 ((ps.take k).flatten.length : Int) ∧
      PourSt wr (W.heap.size + 1) (W.heap.size + 1 + 1) W.heap.size l rest junk ∧ flat pre ++ rest = (ps.take k).flatten ∧ J pre wr ∧ Keeps (fun k => no k ∨ W.heap.size + 1 ≤ k) W wr)
    (fun _ _ i _ => ps.length - (intOf i).toNat)
  case atStart =>
    refine ⟨0, [], [], List.replicate 64 0, by omega, rfl, rfl, ⟨by simp, by decide, ?_, ?_, ?_⟩, rfl, ?_, ?_⟩
    · have := (Row.new (W.alloc (.cells #[.func (.yield l) #[] #[]] 87)) 77 (u8row (List.replicate 64 0))).alloc (.cells #[.int .i64 0] 3)
      rw [World.size_alloc] at this; exact this
    · have := Row.new ((W.alloc (.cells #[.func (.yield l) #[] #[]] 87)).alloc (.cells (u8row (List.replicate 64 0)) 77)) 3 #[.int .i64 0]
      rw [World.size_alloc, World.size_alloc] at this; exact this
    · exact ((Row.new W 87 #[.func (.yield l) #[] #[]]).alloc _).alloc _
    · exact hJ _ _ _ h0 ((((Below.refl _ W).alloc (Nat.le_refl _) _).alloc (by simp) _).alloc (by simp; omega) _)
    · exact Keeps.of_below ((((Below.refl _ W).alloc (Nat.le_refl _) _).alloc (by simp) _).alloc (by simp; omega) _)
  case round =>
    obtain ⟨k, pre, rest, junk, hk, rfl, rfl, hst, hE, hj, hkp⟩ := hrel
    have HSS := HS.out
    by_cases hlt : k < ps.length
    · rcases hA with ⟨rfl, rfl⟩ | ⟨g, off, rfl, hg, hcell⟩
      · simp at hlt
      obtain ⟨p, hp⟩ : ∃ p, ps[k] = p := ⟨_, rfl⟩
      have hpk : ps[k]? = some p := by rw [List.getElem?_eq_getElem hlt, hp]
      have hng : ¬ no g := hv2 _ _ _ g off rfl rfl
      have ck := hcell k p hpk
      rw [← World.cell?_of_block (w := W) (hkp.block g (by omega) (fun e => e.elim hng (fun e => by omega)))] at ck
      have htk : (ps.take (k + 1)).flatten = (ps.take k).flatten ++ p := by
        rw [List.take_succ_eq_append_getElem hlt, hp]; simp
      have hpl : (ps.take (k + 1)).flatten.length ≤ ps.flatten.length := by
        have := congrArg List.length (congrArg List.flatten (List.take_append_drop (k + 1) ps))
        rw [List.flatten_append, List.length_append] at this; omega
      have hsz : (ps.take (k + 1)).flatten.length = (ps.take k).flatten.length + p.length := by rw [htk, List.length_append]
      have hpo := pour_in no l (W.heap.size + 1) (W.heap.size + 1 + 1) W.heap.size W.heap.size (m - 1) J
        ⟨by omega, by omega, by omega, fun e => by have := hno _ e; omega, fun e => by have := hno _ e; omega, fun e => by have := hno _ e; omega⟩ hJ ⟨by omega, by omega⟩
        (fun pre x W1 h1 h2 => yield_any _ (hY pre x W1 h1 h2)) p (by omega) pre rest junk wr hst hj
      have hbs : (bs p).size = p.length := bs_size p
      obtain ⟨q, hq⟩ : ∃ q, (ps.take k).flatten.length = q := ⟨_, rfl⟩
      rw [hq] at hsz
      rw [hq]
      have HPO := Lib.hid hpo; have HE := Lib.hid hE; have HTK := Lib.hid htk; have HSZ := Lib.hid hsz; have HHS := Lib.hid HSS
      have hql : q + p.length ≤ 1099511627776 := by omega
      clear hpo hE htk hsz hq hp hpk HSS hpl hcell hst
      gi_wp2_with fail
      refine ⟨trivial, (fun h => absurd h (by decide)), HPO.out.mono ?_⟩
      rintro e w4 ⟨rfl, pre', rest', junk', hst', hE', hj', hk'⟩
      gi_wp2
      go_roundw
      case rel =>
        refine ⟨k + 1, pre', rest', junk', by omega, by go_num, by rw [HSZ.out]; go_num, hst', by rw [HTK.out, hE', HE.out], hj', hkp.trans ?_⟩
        exact ⟨hk'.os, hk'.tape, hk'.output, hk'.size, fun j hj hn => hk'.block j hj (fun e => hn (e.elim .inl (fun e => .inr (by omega))))⟩
      case measure => simp [intOf]; omega
    · have htk : ps.take k = ps := List.take_of_length_le (by omega)
      rw [htk] at hE ⊢
      obtain ⟨T, hT⟩ : ∃ T, ps.flatten = T := ⟨_, rfl⟩
      rw [hT] at hE hps ⊢
      have hpa := fun w => padding_any T.length w (by omega)
      have hpo := fun w' hst' hj' => pour_in no l (W.heap.size + 1) (W.heap.size + 1 + 1) W.heap.size W.heap.size (m - 1) J
        ⟨by omega, by omega, by omega, fun e => by have := hno _ e; omega, fun e => by have := hno _ e; omega, fun e => by have := hno _ e; omega⟩ hJ ⟨by omega, by omega⟩
        (fun pre x W1 h1 h2 => yield_any _ (hY pre x W1 h1 h2)) (Dm.pad T.length) (by rw [Dm.pad_len]; unfold Dm.zeros; omega) pre rest junk w' hst' hj'
      have HPA := Lib.hid hpa; have HPO := Lib.hid hpo; have HE := Lib.hid hE; have HST := Lib.hid hst
      have hsz : W.heap.size ≤ wr.heap.size := hkp.size
      clear hpa hpo hE htk hst HSS
      gi_wp2_with fail
      refine ⟨trivial, (fun h => absurd h (by decide)), (callsIn_wide.2 (HPA.out _)).mono ?_⟩
      rintro e w4 ⟨rfl, hb4⟩
      have st4 : PourSt w4 (W.heap.size + 1) (W.heap.size + 1 + 1) W.heap.size l rest junk :=
        ⟨HST.out.len, HST.out.lt, HST.out.blk.below hb4 HST.out.blk.lt, HST.out.cnt.below hb4 HST.out.cnt.lt, HST.out.yld.below hb4 HST.out.yld.lt⟩
      have j4 := hJ _ _ _ hj (hb4.mono hsz)
      have HPO4 := Lib.hid (HPO.out w4 st4 j4)
      clear st4 j4
      gi_wp2_with fail
      refine ⟨trivial, (fun h => absurd h (by decide)), HPO4.out.mono ?_⟩
      rintro e w5 ⟨rfl, pre', rest', junk', hst', hE', hj', hk'⟩
      gi_wp2
      go_end0
      refine ⟨⟨_, rfl⟩, pre', ?_, hj'⟩
      have hr0 : rest' = [] := by
        have h1 := congrArg List.length hE'
        have h2 := flat_len pre'
        have h3 := Dm.ext_len T
        rw [HE.out] at h1
        have h4 : (flat pre' ++ rest').length = (Dm.ext T).length := h1
        rw [List.length_append, h2] at h4
        have h5 := hst'.lt
        exact List.eq_nil_of_length_eq_zero (by omega)
      rw [hr0, List.append_nil, HE.out] at hE'
      exact hE'.trans (by rw [hT]; rfl)
end Go.Proofs.YtnbhhhbmeafkaaaDoor
