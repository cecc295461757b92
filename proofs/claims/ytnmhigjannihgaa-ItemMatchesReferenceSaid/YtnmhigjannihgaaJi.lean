/- putInts. -/
import Derived.Test.YtnmhigjannihgaaJh
import Derived.Test.YtnmhigjannihgaaWx
namespace Go.Proofs.Ytnmhigjannihgaa
open Go.RowKit Go.Shelf Wm

theorem ba_of (x y : List UInt8) : (⟨x.toArray⟩ : ByteArray) ++ ⟨y.toArray⟩ = ⟨(x ++ y).toArray⟩ := by
  apply ByteArray.ext
  simp
theorem numsE_snoc (l : List Int) (x : Int) : numsE (l ++ [x]) = numsE l ++ encZ x := by
  rw [numsE_append]
  show _ ++ (encZ x ++ []) = _
  rw [List.append_nil]
theorem numsE_len : ∀ (l : List Int), (numsE l).length ≤ 9 * l.length
  | [] => Nat.le_refl _
  | x :: l => by
    have h1 := numsE_len l
    have h2 := enc_le (foldZ x)
    show (encZ x ++ numsE l).length ≤ _
    rw [List.length_append, List.length_cons]
    unfold encZ
    omega
theorem putR_small {n : Int} (h : SmallZ n) : putR n = (encZ n, 0) := by
  unfold putR
  rw [if_neg (by have := h.1; have := h.2; omega)]
  rfl
set_option maxRecDepth 100000 in
set_option maxHeartbeats 4000000 in
theorem putInts_any (l : List Int) (hl : l.length ≤ 1000) (hs : ∀ x ∈ l, SmallZ x) (A : Option Addr) (n c : Nat) (w : World) (hr : Recs enc1 1 w w.heap.size (.slice A n c) l) :
    Calls Try.prog 49 #[.slice A n c] w fun e w' => e = .returned (.string ⟨(numsE l).toArray⟩) ∧ Below w.heap.size w w' := by
  obtain ⟨hn, hc1, hc2⟩ := recs_cap hr
  have HR := Lib.hid hr
  have HN := Lib.hid hn
  have HPU := Lib.hid (fun x (hx : x ∈ l) u => put_any x u (by have := hs x hx; unfold SmallZ at this; omega) (by have := hs x hx; unfold SmallZ at this; omega))
  have HPS := Lib.hid (fun x (hx : x ∈ l) => putR_small (hs x hx))
  have hn9 : n ≤ 1000 := by omega
  have HL := Lib.hid (fun k => (numsE_len (l.take k)))
  clear hr hn hs hl
  go_enter Try.func49, Try.ntmps49
  go_wp2
  go_loopw [3, 10] (fun o i wr => ∃ k : Nat, i = .int .i64 (k : Int) ∧ k ≤ n ∧ o = .string ⟨(numsE (l.take k)).toArray⟩ ∧ Hid (Below w.heap.size w wr)) (fun _ i _ => n - (intOf i).toNat)
  case atStart => exact ⟨0, rfl, Nat.zero_le _, rfl, Lib.hid (Below.refl _ _)⟩
  case round =>
    obtain ⟨k, rfl, hk, rfl, HB⟩ := hrel
    have i1 : (0 : Int) ≤ (k : Int) := by omega
    by_cases hlt : k < n
    · have i2 : (k : Int) < (n : Int) := by omega
      have hkl : k < l.length := by have := HN.out; omega
      obtain ⟨b, o, rfl, hb, hcell⟩ := recs_at (HR.out.next HB.out) k hkl
      have a0 := cells1 hcell k hkl
      have hm : l[k] ∈ l := List.getElem_mem hkl
      have P1 := Lib.hid (fun u => HPU.out _ hm u)
      have hz := HL.out k
      rw [List.length_take] at hz
      have HS := Lib.hid (show numsE (l.take (k + 1)) = numsE (l.take k) ++ encZ l[k] by rw [List.take_succ_eq_append_getElem hkl, numsE_snoc])
      rw [HPS.out _ hm] at P1
      have hz2 := enc_le (foldZ l[k])
      obtain ⟨x, hx⟩ : ∃ x, l[k] = x := ⟨_, rfl⟩
      rw [hx] at a0 P1 HS hz2
      obtain ⟨U, hU⟩ : ∃ U : ByteArray, (⟨(numsE (l.take k)).toArray⟩ : ByteArray) = U := ⟨_, rfl⟩
      obtain ⟨E, hE⟩ : ∃ E : ByteArray, (⟨(encZ x).toArray⟩ : ByteArray) = E := ⟨_, rfl⟩
      have HUE : Hid ((⟨(numsE (l.take (k + 1))).toArray⟩ : ByteArray) = U ++ E) := Lib.hid (by rw [← hU, ← hE, ba_of, HS.out])
      have zU : U.size ≤ 9000 := by rw [← hU]; show (List.toArray _).size ≤ _; rw [List.size_toArray]; omega
      have zE : E.size ≤ 9 := by rw [← hE]; show (List.toArray _).size ≤ _; rw [List.size_toArray]; exact hz2
      have P2 : Hid (∀ u, Calls Try.prog 69 #[.int .i64 x] u fun e w' => e = .returned (.tuple #[.string E, .int .i64 0]) ∧ Below u.heap.size u w') := Lib.hid (fun u => by have h := P1.out u; unfold tupS at h; rw [show bs (encZ x, (0 : Int)).1 = E from hE] at h; exact h)
      have y1 : ¬ 9223372036854775807 < U.size + E.size := by omega
      rw [hU]
      clear hcell hm hz hz2 hx hU hE P1 zU zE hkl
      go_wp2_with (go_at_call 69; (with_reducible refine Calls.mono (P2.out _) ?_); rintro e w1 ⟨rfl, h⟩; have HB2 := Lib.hid (below_to HB.out h); clear h)
      go_roundw
      case rel => exact ⟨k + 1, by go_num, by omega, by rw [HUE.out], HB2⟩
      case measure => simp [intOf]; omega
    · have i2 : ¬ (k : Int) < (n : Int) := by omega
      have HE := Lib.hid (show l.take k = l from List.take_of_length_le (by have := HN.out; omega))
      go_wp2
      go_ret
      exact ⟨by rw [HE.out]; rfl, HB.out⟩
end Go.Proofs.Ytnmhigjannihgaa
