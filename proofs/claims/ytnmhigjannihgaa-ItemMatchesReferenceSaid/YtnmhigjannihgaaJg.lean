/- extend. -/
import Derived.Test.YtnmhigjannihgaaJf
namespace Go.Proofs.Ytnmhigjannihgaa
open Go.RowKit Go.Shelf
attribute [local go_sem ↓] append_appN

theorem push_pair {w : World} {B n : Nat} {v : Value} {l : List (Int × Int)} (p q : Int) (hrow : w.ownsRow B 53 2 v n (flat2 l)) (hn : n ≤ 100000) (hB : B ≤ w.heap.size) :
    ∃ A c w', Sem.run Try.prog (appN #[22, 22] 22 #[v, .slice (some ⟨w.heap.size, 0, none⟩) 1 1]) (w.alloc (.cells #[.int .i64 p, .int .i64 q] 53)) = .ok (.slice A (n + 1) c) w' ∧
      w'.ownsRow B 53 2 (.slice A (n + 1) c) (n + 1) (flat2 (l ++ [(p, q)])) ∧ (w.alloc (.cells #[.int .i64 p, .int .i64 q] 53)).grownBy w' v.ownBlock ∧ ((Value.slice A (n + 1) c).ownBlock = v.ownBlock ∨ (Value.slice A (n + 1) c).ownBlock = some (w.heap.size + 1)) := by
  obtain ⟨i0, hi0, hz0, hz1, hz2⟩ := info_parts infoSpell
  have hnews : ∀ j u, (flat2 [(p, q)])[j]? = some u → (w.alloc (.cells #[.int .i64 p, .int .i64 q] 53)).cell? (Addr.add ⟨w.heap.size, 0, none⟩ j) = some u := fun j u hj => by
    have hc := (Row.new w 53 #[.int .i64 p, .int .i64 q]).cell j
    have ha : Addr.add ⟨w.heap.size, 0, none⟩ j = ⟨w.heap.size, j, none⟩ := by rw [Addr.add_lit, Nat.zero_add]
    rw [ha, hc]; simpa [flat2, enc2] using hj
  have hone : ∀ u ∈ flat2 [(p, q)], u.oneCell' = true := fun u hu => by
    simp only [flat2, List.mem_flatMap, enc2, List.mem_cons, List.not_mem_nil, or_false] at hu
    obtain ⟨x, _, rfl | rfl⟩ := hu <;> rfl
  obtain ⟨v', w', hrun, hown, hgr, -, hloc⟩ := run_append_own_at (P := Try.prog) (w := w.alloc (.cells #[.int .i64 p, .int .i64 q] 53)) B 22 22 53 i0 (.agg #[.int .i64 0, .int .i64 0]) 2 16 Try.underlying22 hi0 hz0 hz1 hz2 rfl (by decide)
    v n _ (hrow.alloc _) ⟨w.heap.size, 0, none⟩ 1 1 (flat2 [(p, q)]) rfl hnews hone (by unfold maxLen; omega) (by omega) (by simp; omega)
  obtain ⟨A, c, rfl, -⟩ := own_slice hown
  rw [World.size_alloc] at hloc
  exact ⟨A, c, w', hrun, by rw [flat2_append]; exact hown, hgr, hloc⟩
theorem flat2_set (o : List (Int × Int)) (q : Int × Int) (y : Int) : (flat2 (o ++ [q])).set (o.length * 2 + 1) (.int .i64 y) = flat2 (o ++ [(q.1, y)]) := by
  rw [flat2_append, flat2_append, List.set_append_right _ _ (by rw [flat2_len]; omega), flat2_len]
  rw [show o.length * 2 + 1 - o.length * 2 = 1 by omega]
  rfl
/-- The last spell's end, in a row of one's own. -/
theorem own_last {w : World} {B : Nat} {v : Value} {o : List (Int × Int)} {q : Int × Int} (h : w.ownsRow B 53 2 v (o.length + 1) (flat2 (o ++ [q]))) (y : Int) :
    ∃ g c, v = .slice (some ⟨g, 0, none⟩) (o.length + 1) c ∧ B ≤ g ∧ g < w.heap.size ∧ w.cell? ⟨g, o.length * 2 + 1, none⟩ = some (.int .i64 q.2) ∧ w.frozen? ⟨g, o.length * 2 + 1, none⟩ = false ∧
      ∀ u : World, u.heap[g]? = w.heap[g]? → (u.setCell ⟨g, o.length * 2 + 1, none⟩ (.int .i64 y)).ownsRow B 53 2 v (o.length + 1) (flat2 (o ++ [(q.1, y)])) := by
  have hget : (flat2 (o ++ [q]))[o.length * 2 + 1]? = some (.int .i64 q.2) := flat2_get (o ++ [q]) o.length 1 q _ (by simp) rfl
  have hsz : (flat2 (o ++ [q])).length = (o.length + 1) * 2 := by rw [flat2_len]; simp
  rcases h.2 with ⟨_, h0⟩ | ⟨g, c, cur, hv, hB, hh, h1, h2, h3, h4⟩
  · omega
  · have hrow : Row w g 53 cur := hh
    have hcur : cur[o.length * 2 + 1]? = some (.int .i64 q.2) := by
      rw [← hget, ← h4, List.getElem?_take, if_pos (by omega), Array.getElem?_toList]
    refine ⟨g, c, hv, hB, hrow.lt, (hrow.cell _).trans hcur, hrow.free _, fun u hu => ⟨by rw [flat2_len]; simp, .inr ⟨g, c, cur.setIfInBounds (o.length * 2 + 1) (.int .i64 y), hv, hB, ?_, h1, h2, by simpa using h3, ?_⟩⟩⟩
    · exact (show Row u g 53 cur from hu.trans hh).put _ _
    · rw [Array.toList_setIfInBounds, List.take_set, h4, flat2_set]

theorem own_drew {w : World} {B n : Nat} {v : Value} {e : TypeId} {k : Nat} {xs : List Value} (h : w.ownsRow B e k v n xs) (m : Nat) : (w.drewN m).ownsRow B e k v n xs := h
/-- What extend is handed: a row of its own, and its spell in a box. -/
structure ExAt (B : Nat) (u : World) (G : List (Int × Int)) (v : Value) (q : Int × Int) (W : World) : Prop where
  own : W.ownsRow B 53 2 v G.length (flat2 G)
  r : Row W u.heap.size 53 #[.int .i64 q.1, .int .i64 q.2]
  b : Below B u W
  hi : u.heap.size < W.heap.size
  k : ∀ j, j < u.heap.size → W.heap[j]? = u.heap[j]?
theorem ExAt.of {B : Nat} {u : World} {G : List (Int × Int)} {v : Value} {q : Int × Int} (h : u.ownsRow B 53 2 v G.length (flat2 G)) (hB : B ≤ u.heap.size) (n : Nat) : ExAt B u G v q ((u.alloc (.cells #[.int .i64 q.1, .int .i64 q.2] 53)).drewN n) :=
  ⟨own_drew (h.alloc _) n, (Row.new _ _ _).drewN n, belowN ((Below.refl B u).alloc hB _) n, by show u.heap.size < (u.alloc _).heap.size; simp, fun j hj => Below.heap_alloc u _ j hj⟩
set_option maxRecDepth 100000 in
set_option maxHeartbeats 4000000 in
theorem extend_any (G : List (Int × Int)) (q1 q2 : Int) (v : Value) (B : Nat) (u : World) (ho : u.ownsRow B 53 2 v G.length (flat2 G)) (hG : G.length ≤ 100000) (hB : B ≤ u.heap.size) :
    Calls Try.prog 56 #[v, .agg #[.int .i64 q1, .int .i64 q2]] u fun e w' => ∃ v', e = .returned v' ∧ w'.ownsRow B 53 2 v' (extL G (q1, q2)).length (flat2 (extL G (q1, q2))) ∧ Below B u w' ∧ ∀ j, j < u.heap.size → v.ownBlock ≠ some j → w'.heap[j]? = u.heap[j]? := by
  have HO := Lib.hid ho
  have HB := Lib.hid hB
  have HX : Hid (∀ n, ExAt B u G v (q1, q2) ((u.alloc (.cells #[.int .i64 q1, .int .i64 q2] 53)).drewN n)) := Lib.hid (fun n => ExAt.of (q := (q1, q2)) ho hB n)
  by_cases he : q1 = q2
  · have e1 : (q1 == q2) = true := by simp [he]
    have HE := Lib.hid (extL_none (out := G) (q := (q1, q2)) he)
    rw [HE.out]
    clear he hB ho
    go_enter Try.func56, Try.ntmps56
    go_wp2
    go_ret
    exact ⟨v, rfl, HO.out.alloc _, (Below.refl B u).alloc HB.out _, fun j hj _ => Below.heap_alloc u _ j hj⟩
  · have e1 : (q1 == q2) = false := by simp [he]
    rcases last_of G with rfl | ⟨o, p, rfl⟩
    · obtain ⟨A, c, rfl, -⟩ := own_slice ho
      have HE := Lib.hid (extL_nil (q := (q1, q2)) he)
      rw [HE.out]
      clear he hB ho
      go_enter Try.func56, Try.ntmps56
      go_upto_region 4 with (fail)
      go_quiet (fail)
      have hx := HX.out nq
      obtain ⟨W, hW⟩ : ∃ W, (u.alloc (.cells #[.int .i64 q1, .int .i64 q2] 53)).drewN nq = W := ⟨_, rfl⟩
      rw [hW] at hx ⊢
      obtain ⟨A2, c2, w2, hrun, hown, hgr, -⟩ := push_pair q1 q2 hx.own (by simp) (by have := HB.out; have := hx.hi; omega)
      simp only [List.length_nil] at hrun
      have c0 := hx.r.cell 0
      have c1 := hx.r.cell 1
      have l0 := hx.hi
      have HOW := Lib.hid hown
      have HBB := Lib.hid (own_below_grown hx.own (by have := HB.out; have := hx.hi; omega) hgr)
      have HXB := Lib.hid hx.b
      have HKP : Hid (∀ j, j < u.heap.size → (Value.slice A 0 c).ownBlock ≠ some j → w2.heap[j]? = u.heap[j]?) := Lib.hid (fun j hj hn => (hgr.block j (by have := hx.hi; simp; omega) (fun e => hn e.symm)).trans ((Below.heap_alloc W _ j (by have := hx.hi; omega)).trans (hx.k j hj)))
      clear hx hW hown hgr
      go_wp2
      go_ret
      exact ⟨_, rfl, HOW.out, HXB.out.trans HBB.out, HKP.out⟩
    · obtain ⟨p1, p2⟩ := p
      have hlen : (o ++ [(p1, p2)]).length = o.length + 1 := by simp
      have ho' := ho
      rw [hlen] at ho'
      obtain ⟨g, c, rfl, g1, g2, g3, g4, g5⟩ := own_last (q := (p1, p2)) ho' q2
      dsimp only at g3
      have hol : o.length ≤ 100000 := by omega
      obtain ⟨k, hk⟩ : ∃ k, o.length = k := ⟨_, rfl⟩
      rw [hk] at g3 g4 g5 hol hlen
      have HK := Lib.hid hk
      have HLEN := Lib.hid hlen
      have HG5 := Lib.hid g5
      have HG1 := Lib.hid g1
      have k1 : (0 : Int) ≤ (k : Int) := by omega
      have k2 : (k : Int) < (k : Int) + 1 := by omega
      first | rw [hlen] | rw [hk] | skip
      by_cases hj : p2 = q1
      · have e2 : (p2 == q1) = true := by simp [hj]
        have HE := Lib.hid (extL_join (o := o) (p := (p1, p2)) (q := (q1, q2)) he hj)
        rw [HE.out]
        clear he hB ho ho' hj hlen g1 g5 hk
        go_enter Try.func56, Try.ntmps56
        go_upto_region 4 with (fail)
        go_quiet (fail)
        go_wp2
        go_ret
        refine ⟨_, rfl, ?_, ?_, fun j hj hn => ?_⟩
        · have h := HG5.out ((u.alloc (.cells #[.int .i64 q1, .int .i64 q2] 53)).drewN nq) (Below.heap_alloc u _ g g2)
          first | (rw [HK.out]; exact h) | (rw [List.length_append, HK.out]; exact h)
        · exact ((HX.out nq).b).setCell (p := ⟨g, k * 2 + 1, none⟩) (by dsimp only; exact HG1.out) _
        · exact (Below.heap_setCell _ ⟨g, k * 2 + 1, none⟩ _ j (fun e => hn (by rw [e]; rfl))).trans (Below.heap_alloc u _ j hj)
      · have e2 : (p2 == q1) = false := by simp [hj]
        have HE := Lib.hid (extL_push (o := o) (p := (p1, p2)) (q := (q1, q2)) he hj)
        rw [HE.out]
        clear he hB ho ho' hj hlen g1 g5 hk
        go_enter Try.func56, Try.ntmps56
        go_upto_region 4 with (fail)
        go_quiet (fail)
        have hx := HX.out nq
        obtain ⟨W, hW⟩ : ∃ W, (u.alloc (.cells #[.int .i64 q1, .int .i64 q2] 53)).drewN nq = W := ⟨_, rfl⟩
        rw [hW] at hx ⊢
        obtain ⟨A2, c2, w2, hrun, hown, hgr, -⟩ := push_pair q1 q2 hx.own hG (by have := HB.out; have := hx.hi; omega)
        rw [HLEN.out] at hrun
        first | rw [HK.out] at hrun | skip
        have c0 := hx.r.cell 0
        have c1 := hx.r.cell 1
        have l0 := hx.hi
        have HOW := Lib.hid hown
        have HBB := Lib.hid (own_below_grown hx.own (by have := HB.out; have := hx.hi; omega) hgr)
        have HXB := Lib.hid hx.b
        have HKP : Hid (∀ j, j < u.heap.size → (Value.slice (some ⟨g, 0, none⟩) (k + 1) c).ownBlock ≠ some j → w2.heap[j]? = u.heap[j]?) := Lib.hid (fun j hj hn => (hgr.block j (by have := hx.hi; simp; omega) (fun e => hn e.symm)).trans ((Below.heap_alloc W _ j (by have := hx.hi; omega)).trans (hx.k j hj)))
        clear hx hW hown hgr
        go_wp2
        go_ret
        refine ⟨.slice A2 (k + 1 + 1) c2, rfl, ?_, HXB.out.trans HBB.out, HKP.out⟩
        have h := HOW.out
        rw [HLEN.out] at h
        rw [List.append_assoc] at h
        rw [HK.out]
        exact h
end Go.Proofs.Ytnmhigjannihgaa
