/- The iterator sets. -/
import Derived.Test.YtenojfniknjeiaaHs
import Derived.Laws.EntriesVeiled
namespace Go.Proofs.Ytenojfniknjeiaa
open Go.RowKit Go.Shelf
attribute [local go_sem] Oper.semAt_some
attribute [local go_sem ↓] append_appN

set_option maxHeartbeats 400000 in
theorem sets_call (n : Nat) (w : World) : Calls Try.prog 40 #[.int .i64 (n : Int)] w fun e w' => e = .returned (.func (.func 48) #[] #[.pointer (some ⟨w.heap.size, 0, none⟩)]) ∧ w' = w.alloc (.cells #[.int .i64 (n : Int)] 3) := by
  go_enter Try.func40, Try.ntmps40
  go_wp2
  go_ret
  exact ⟨rfl, rfl⟩
set_option maxRecDepth 100000 in
set_option maxHeartbeats 8000000 in
theorem sets1_e (n : Nat) (hn9 : n ≤ 1000) (l bN : Nat) (no : World → Nat → Prop) (J Jx : List (List Nat) → World → Prop) {M : Nat} (W : World)
    (hJ : OwnNo no W.heap.size J) (hng : ∀ s X Y row k, J s X → X.grownBy Y row → Turns no W.heap.size X row → no Y k → no X k) (hlt : ∀ s X k, J s X → no X k → k < X.heap.size ∧ k ≠ bN)
    (hY : ∀ pre x vs W1, pre ++ [x] <+: setsL n → SetE W.heap.size W1 x vs → J pre W1 → YieldAt Fence.wide M Try.prog l vs W1 fun e W' =>
      (e = .returned (.bool true) ∧ RoundK no W1 W' ∧ J (pre ++ [x]) W') ∨ (e = .returned (.bool false) ∧ Keeps (no W1) W1 W' ∧ Jx (pre ++ [x]) W'))
    (hN : Row W bN 3 #[.int .i64 (n : Int)]) (h0 : J [] W) :
    Calls Try.prog 48 #[.func (.yield l) #[] #[], .pointer (some ⟨bN, 0, none⟩)] W fun e W' => (∃ v, e = .returned v) ∧ (J (setsL n) W' ∨ ∃ pre, pre <+: setsL n ∧ Jx pre W') := by
  obtain ⟨V, hV⟩ : ∃ V, (W.alloc (.cells #[.func (.yield l) #[] #[]] 78)).alloc (.cells #[.func (.func 49) #[] #[.pointer (some ⟨W.heap.size, 0, none⟩), .pointer (some ⟨bN, 0, none⟩), .pointer (some ⟨W.heap.size + 1, 0, none⟩)]] 79) = V := ⟨_, rfl⟩
  have hb : Below W.heap.size W V := by rw [← hV]; exact ((Below.refl _ W).alloc (Nat.le_refl _) _).alloc (by simp) _
  have hg := grown_below hb
  have hnV := fun k => hng [] W V none k h0 hg (fun r e => by cases e)
  have HS0 := Lib.hid (show SeIn n l W.heap.size W.heap.size (W.heap.size + 1) bN no J [] V from ⟨hJ [] W V none h0 hg (fun r e => by cases e), by rw [← hV]; exact (Row.new _ _ _).alloc _, by
    rw [← hV]
    have h := Row.new (W.alloc (.cells #[.func (.yield l) #[] #[]] 78)) 79 #[.func (.func 49) #[] #[.pointer (some ⟨W.heap.size, 0, none⟩), .pointer (some ⟨bN, 0, none⟩), .pointer (some ⟨W.heap.size + 1, 0, none⟩)]]
    rwa [World.size_alloc] at h, hN.below hb hN.lt, fun e => by have := (hlt [] W _ h0 (hnV _ e)).1; omega, fun e => by have := (hlt [] W _ h0 (hnV _ e)).1; omega, fun e => (hlt [] W _ h0 (hnV _ e)).2 rfl, hb.size, ⟨Nat.le_refl _, Nat.le_succ _, hN.lt⟩⟩)
  have HEX := Lib.hid (fun s pre rest X h1 h2 h3 => ext_any (l := l) (bY := W.heap.size) (bE := W.heap.size + 1) (bN := bN) (full := setsL n) hn9 hJ hng (fun s X k a b => (hlt s X k a b).1) hY s [] (.slice none 0 0) 0 pre rest X h1 (by simp) h2 h3 (World.ownsRow_nil _ _ _ _) (fun g e => by cases e))
  have HV := Lib.hid hV
  have nn9 : (n : Int) ≤ 1000 := by omega
  have hNc : W.cell? ⟨bN, 0, none⟩ = some (.int .i64 (n : Int)) := hN.cell 0
  have hNl := hN.lt
  clear hJ hng hlt hY hb hg hnV h0 hN
  refine (callsIn_wide (n := 3)).1 ?_
  refine callsIn_of_wp Try.func48 rfl trivial ?_ rfl
  simp only [Try.ntmps48, List.size_toArray, List.length_cons, List.length_nil, Nat.reduceAdd, Nat.reduceSub, Array.replicate_succ, Array.replicate_zero, List.push_toArray, List.append_toArray, List.nil_append, List.cons_append]
  gi_wp2
  clear hV hNc hNl
  gi_loopw [4] (fun z wr => ∃ s : Nat, z = .int .i64 (s : Int) ∧ 1 ≤ s ∧ s ≤ n + 1 ∧ Hid (SeIn n l W.heap.size W.heap.size (W.heap.size + 1) bN no J ((List.range' 1 (s - 1)).flatMap fun size => extL n size [] 0) wr)) (fun z _ => n + 1 - (intOf z).toNat)
  case atStart => exact ⟨1, rfl, Nat.le_refl _, by omega, HS0⟩
  case round =>
    clear HS0
    obtain ⟨s, rfl, hs1, hs2, HS⟩ := hrel
    have HK := Lib.hid (And.intro hs1 hs2)
    clear hs1 hs2
    have s9 : (s : Int) ≤ 2000 := by have := HK.out.2; omega
    have s8 : (1 : Int) ≤ (s : Int) := by have := HK.out.1; omega
    have y_n : wr.cell? ⟨bN, 0, none⟩ = some (.int .i64 (n : Int)) := HS.out.nn.cell 0
    have z_n := HS.out.nn.lt
    by_cases hsn : s ≤ n
    · have c1 : (s : Int) ≤ (n : Int) := by omega
      have hc := HEX.out s ((List.range' 1 (s - 1)).flatMap fun size => extL n size [] 0) ((List.range' (s + 1) (1 + n - (s + 1))).flatMap fun size => extL n size [] 0) wr (by simp; omega) (by
        unfold setsL
        rw [flat_split (f := fun size => extL n size [] 0) HK.out.1 (show s < 1 + n by omega), List.append_assoc]) HS.out
      rw [show ((0 : Nat) : Int) = 0 from rfl] at hc
      have HC := Lib.hid hc
      have e1 : IntKind.i64.wrap ((s : Int) + 1) = (s : Int) + 1 := IntWalk.i64_in _ (by omega)
      have HSN := Lib.hid (flat_snoc (f := fun size => extL n size [] 0) HK.out.1)
      have y_e : wr.cell? ⟨W.heap.size + 1, 0, none⟩ = some (.func (.func 49) #[] #[.pointer (some ⟨W.heap.size, 0, none⟩), .pointer (some ⟨bN, 0, none⟩), .pointer (some ⟨W.heap.size + 1, 0, none⟩)]) := HS.out.e.cell 0
      have z_e := HS.out.e.lt
      clear hc
      gi_wp2_with (refine ⟨trivial, ?_⟩; gi_at_call 49; ((with_reducible refine CallsIn.mono (callsIn_wide.2 HC.out) ?_); rintro e5 u5 ⟨b, rfl, hb5⟩; have HB5 := Lib.hid hb5; clear hb5))
      · rename_i hb
        have HT := Lib.hid (show ∃ pre', pre' <+: setsL n ∧ Jx pre' u5 by
          rcases HB5.out with ⟨h1, _⟩ | ⟨_, h1⟩
          · rw [h1] at hb; exact absurd hb (by decide)
          · exact h1)
        refine bodyPost_ret (results_none rfl _ _ _) rfl ?_
        exact ⟨⟨_, rfl⟩, .inr HT.out⟩
      · rename_i hb
        have HT := Lib.hid (show SeIn n l W.heap.size W.heap.size (W.heap.size + 1) bN no J ((List.range' 1 (s + 1 - 1)).flatMap fun size => extL n size [] 0) u5 by
          rcases HB5.out with ⟨_, h1, h2⟩ | ⟨h1, _⟩
          · rw [HSN.out]; exact h1
          · rw [h1] at hb; exact absurd hb (by decide))
        exact ⟨⟨s + 1, by go_num, by omega, by omega, HT⟩, by simp [intOf]; omega⟩
    · have c1 : ¬ (s : Int) ≤ (n : Int) := by omega
      have HF := Lib.hid (show J (setsL n) wr by
        have h := HS.out.j
        rw [show s - 1 = n by have := HK.out.2; omega] at h
        exact h)
      gi_wp2
      go_end0
      exact ⟨⟨_, rfl⟩, .inl HF.out⟩
end Go.Proofs.Ytenojfniknjeiaa
