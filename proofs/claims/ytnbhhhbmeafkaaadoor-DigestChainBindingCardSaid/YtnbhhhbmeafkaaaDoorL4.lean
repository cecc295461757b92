/- The walk of DigestChainBinding: it returns true for every input. -/
import Derived.Test.YtnbhhhbmeafkaaaDoorL1
import Derived.Test.YtnbhhhbmeafkaaaDoorE7
import Derived.Test.YtnbhhhbmeafkaaaDoorE6
import Derived.Test.YtnbhhhbmeafkaaaDoorE11
namespace Go.Proofs.YtnbhhhbmeafkaaaDoor
open Go.RowKit

theorem zero_conv_drew (w : World) : Sem.run Tryd.prog (Go.convert 43 9 (.slice (some ⟨w.heap.size, 0, none⟩) 32 32)) (w.alloc (.cells c32 5)).drew = .ok (.string (bs zero32)) (w.alloc (.cells c32 5)).drew :=
  own_string (g := w.heap.size) (cap := 32) (n := 32) (base := w.heap.size) zero32 ⟨rfl, .inr ⟨w.heap.size, 32, c32, rfl, Nat.le_refl _, heap_alloc_new w _, Nat.le_refl _, by decide, rfl, rfl⟩⟩ rfl rfl
theorem zero_conv_next {w u v : World} (hu : u = w.alloc (.cells c32 5) ∨ u = (w.alloc (.cells c32 5)).drew) (hb : Below u.heap.size u v) :
    Sem.run Tryd.prog (Go.convert 43 9 (.slice (some ⟨w.heap.size, 0, none⟩) 32 32)) v = .ok (.string (bs zero32)) v := by
  have hs : u.heap.size = w.heap.size + 1 := by rcases hu with rfl | rfl <;> simp
  have h0 : u.heap[w.heap.size]? = some (.cells c32 5 (0, 0)) := by rcases hu with rfl | rfl <;> exact heap_alloc_new w _
  exact own_string (g := w.heap.size) (cap := 32) (n := 32) (base := w.heap.size) zero32 ⟨rfl, .inr ⟨w.heap.size, 32, c32, rfl, Nat.le_refl _, (hb.block w.heap.size (by omega)).trans h0, Nat.le_refl _, by decide, rfl, rfl⟩⟩ rfl rfl
theorem keep_alloc {w u : World} {p : Addr} {x : Value} {o : Obj} (hp : p.block < w.heap.size) (h : Below w.heap.size w u ∧ u.cell? p = some x) : Below w.heap.size w (u.alloc o) ∧ (u.alloc o).cell? p = some x :=
  ⟨h.1.alloc h.1.size _, (World.cell?_alloc_lt _ _ _ (by have := h.1.size; omega)).trans h.2⟩
theorem keep_call {w u v : World} {p : Addr} {x : Value} (hp : p.block < w.heap.size) (h : Below w.heap.size w u ∧ u.cell? p = some x) (hb : Below u.heap.size u v) : Below w.heap.size w v ∧ v.cell? p = some x :=
  ⟨h.1.trans (hb.mono h.1.size), (hb.cell (p := p) (by have := h.1.size; omega)).trans h.2⟩
theorem headS_small (z : List UInt8) (hz : z.length = 32) : ∀ l : List (List UInt8), (∀ s ∈ l, s.length ≤ 1000) → ∀ t ∈ Dm.headS z l, t.length ≤ 10000
  | [], _ => by intro t ht; cases ht
  | r :: rs, h => by
    intro t ht
    have hr := h r (by simp)
    rcases List.mem_cons.1 ht with rfl | ht
    · rw [List.length_cons, List.length_append, Dm.headR_len z hz]; omega
    · exact headS_small z hz rs (fun s hs => h s (by simp [hs])) t ht
/-- The longer one's first string beyond the shorter one. -/
theorem long_cell {u : World} {A : Option Addr} {n c k : Nat} {l : List (List UInt8)} (h : Strs u u.heap.size (.slice A n c) l) (hk : k < l.length) :
    ∃ g off, A = some ⟨g, off, none⟩ ∧ g < u.heap.size ∧ u.cell? ⟨g, off + k, none⟩ = some (strOf l[k]) := by
  obtain ⟨A', c', e, h1, h2, h3⟩ := h
  injection e with e1 e2 e3
  subst e1
  rcases h3 with ⟨_, h3⟩ | ⟨g, off, h3, hg, hc⟩
  · rw [h3] at hk; simp at hk
  · exact ⟨g, off, h3, hg, hc k _ (List.getElem?_eq_getElem hk)⟩

theorem zc_three {w : World} {t : TypeId} {cs : Array Value} : w.drew.alloc (.cells cs t) = w.alloc (.cells cs t) ∨ w.drew.alloc (.cells cs t) = (w.alloc (.cells cs t)).drew := .inr rfl
theorem if_min2 (p q : Int) : (if q < p then q else p) = min p q := by split <;> omega
theorem run_min2 {P : Program} {w : World} (ts : Array TypeId) (t : TypeId) (k k1 : IntKind) (x y n : Int) (h : min x y = n) :
    Sem.run P (Builtin.min_ ts t #[.int k x, .int k1 y]) w = .ok (.int k n) w := by
  rw [← h, ← if_min2]
  simp [Builtin.min_, Builtin.min2]
/-- How the statement ends. -/
theorem chain_end {c z : Bool} (h : c = true ∨ z = true) : (c || z) = true := by rcases h with rfl | rfl <;> simp
set_option maxRecDepth 100000 in
set_option maxHeartbeats 4000000 in
theorem chainBinding_walk (v1 : Value) (p : List (List UInt8)) (v2 : Value) (q : List (List UInt8)) (w : World) (ht : TabOk w)
    (hp : StrsA w v1 p) (hlp : ∀ s ∈ p, s.length ≤ maxLen) (hq : StrsA w v2 q) (hlq : ∀ s ∈ q, s.length ≤ maxLen) :
    Calls Tryd.prog 9 #[v1, v2] w (SanePost w) := by
  have c1 := sane_any w ht
  have c2 := fun u (hu : Below w.heap.size w u) => few_in v1 p 20 u (hp.next hu) hlp (by decide)
  have c3 := fun u (hu : Below w.heap.size w u) => few_in v2 q 20 u (hq.next hu) hlq (by decide)
  have hps := cut_small 20 p; have hqs := cut_small 20 q
  have hpl := cut_len 20 p; have hql := cut_len 20 q
  obtain ⟨P, hP⟩ : ∃ P, cut 20 p = P := ⟨_, rfl⟩
  obtain ⟨Q, hQ⟩ : ∃ Q, cut 20 q = Q := ⟨_, rfl⟩
  rw [hP] at c2 hps hpl; rw [hQ] at c3 hqs hql
  have T := fun u (hu : Below w.heap.size w u) => ht.next hu
  have C1 := Lib.hid c1; have C2 := Lib.hid c2; have C3 := Lib.hid c3; have TT := Lib.hid T
  have HPS := Lib.hid (show ∀ s ∈ P, s.length ≤ 1000 from fun s hs => by have := hps s hs; omega)
  have HQS := Lib.hid (show ∀ s ∈ Q, s.length ≤ 1000 from fun s hs => by have := hqs s hs; omega)
  have HPL := Lib.hid (show P.length ≤ 20 by omega); have HQL := Lib.hid (show Q.length ≤ 20 by omega)
  clear c1 c2 c3 T hps hqs hpl hql hP hQ hp hq hlp hlq
  go_enter Tryd.func9, Tryd.ntmps9
  go_wp2_with fail
  refine C1.out.mono ?_
  rintro e w1 ⟨rfl, k1⟩
  have K1 := Lib.hid k1
  clear k1
  go_wp2_with fail
  refine (C2.out _ K1.out).mono ?_
  rintro e w2 ⟨pv, rfl, hpo, b2⟩
  have sp := strs_of_own hpo rfl
  have HSP := Lib.hid (fun u (hu : Below w2.heap.size w2 u) => sp.next hu)
  have K2 := Lib.hid (below_to K1.out b2)
  clear hpo b2 sp
  go_wp2_with fail
  refine (C3.out _ K2.out).mono ?_
  rintro e w3 ⟨qv, rfl, hqo, b3⟩
  have sq := strs_of_own hqo rfl
  have HSQ := Lib.hid (fun u (hu : Below w3.heap.size w3 u) => sq.next hu)
  have K3 := Lib.hid (below_to K2.out b3); have D3 := Lib.hid b3
  clear hqo b3 sq
  have h1c := fun u (hu : Below w3.heap.size w3 u) => heads_any P pv u (HSP.out u (below_to D3.out hu)) (by have := HPL.out; omega) HPS.out (TT.out _ (below_to K3.out hu))
  have h2c := fun u (hu : Below w3.heap.size w3 u) => heads_any Q qv u (HSQ.out u hu) (by have := HQL.out; omega) HQS.out (TT.out _ (below_to K3.out hu))
  have hcb := Dm.chain_binding zero32 (by simp [zero32]) P.reverse Q.reverse
  have hxs := headS_small zero32 (by simp [zero32]) P.reverse (fun s hs => HPS.out s (List.mem_reverse.1 hs))
  have hys := headS_small zero32 (by simp [zero32]) Q.reverse (fun s hs => HQS.out s (List.mem_reverse.1 hs))
  have hxn := Dm.headS_len zero32 P.reverse; have hyn := Dm.headS_len zero32 Q.reverse
  have hl1 := Dm.headR_len zero32 (by simp [zero32]) P.reverse; have hl2 := Dm.headR_len zero32 (by simp [zero32]) Q.reverse
  rw [List.length_reverse] at hxn hyn
  have heq : P = Q → Dm.headR zero32 P.reverse = Dm.headR zero32 Q.reverse := fun h => by rw [h]
  obtain ⟨X, hX⟩ : ∃ X, Dm.headS zero32 P.reverse = X := ⟨_, rfl⟩
  obtain ⟨Y, hY⟩ : ∃ Y, Dm.headS zero32 Q.reverse = Y := ⟨_, rfl⟩
  obtain ⟨h, hh⟩ : ∃ h, Dm.headR zero32 P.reverse = h := ⟨_, rfl⟩
  obtain ⟨k, hk⟩ : ∃ k, Dm.headR zero32 Q.reverse = k := ⟨_, rfl⟩
  rw [hX] at h1c hcb hxs hxn; rw [hY] at h2c hcb hys hyn; rw [hh] at h1c hcb heq hl1; rw [hk] at h2c hcb heq hl2
  rw [List.length_reverse, List.length_reverse] at hcb
  obtain ⟨H, hH⟩ : ∃ H, bs h = H := ⟨_, rfl⟩
  obtain ⟨K, hK⟩ : ∃ K, bs k = K := ⟨_, rfl⟩
  have zH : H.size = 32 := by rw [← hH, bs_size, hl1]
  unfold WayOut strOf at h1c h2c
  rw [hH] at h1c; rw [hK] at h2c
  have C4 := Lib.hid h1c; have C5 := Lib.hid h2c; have HCB := Lib.hid hcb; have HXS := Lib.hid hxs; have HYS := Lib.hid hys; have HEQ := Lib.hid heq; have HH := Lib.hid hH; have HK := Lib.hid hK
  obtain ⟨nx, hnx⟩ : ∃ n, P.length = n := ⟨_, rfl⟩
  obtain ⟨ny, hny⟩ : ∃ n, Q.length = n := ⟨_, rfl⟩
  rw [hnx] at hxn; rw [hny] at hyn
  have NX := Lib.hid hxn; have NY := Lib.hid hyn; have NP := Lib.hid hnx; have NQ := Lib.hid hny
  have hb1 : nx ≤ 20 := by rw [← hnx]; exact HPL.out
  have hb2 : ny ≤ 20 := by rw [← hny]; exact HQL.out
  clear h1c h2c hcb hxs hys hxn hyn hl1 hl2 heq hX hY hh hk hH hK hnx hny
  go_wp2_with fail
  refine (C4.out _ (Below.refl _ _)).mono ?_
  rintro e w4 ⟨xv, rfl, hxo, b4⟩
  have sx := strs_of_own hxo rfl
  rw [NX.out] at hxo
  obtain ⟨Ax, cx, rfl⟩ := own_slice hxo
  have HSX := Lib.hid (fun u (hu : Below w4.heap.size w4 u) => sx.next hu)
  have K4 := Lib.hid (below_to K3.out b4); have D4 := Lib.hid b4
  clear hxo b4 sx
  go_wp2_with fail
  refine (C5.out _ D4.out).mono ?_
  rintro e w5 ⟨yv, rfl, hyo, b5⟩
  have sy := strs_of_own hyo rfl
  rw [NY.out] at hyo
  obtain ⟨Ay, cy, rfl⟩ := own_slice hyo
  have HSY := Lib.hid (fun u (hu : Below w5.heap.size w5 u) => sy.next hu)
  have K5 := Lib.hid (below_to K4.out b5); have D5 := Lib.hid (below_to D4.out b5); have E5 := Lib.hid b5
  clear hyo b5 sy
  have hsm := same_any pv qv P Q w5 (HSP.out _ (below_to D3.out D5.out)) (HSQ.out _ D5.out)
  obtain ⟨sm, hsme⟩ : ∃ b, (P == Q) = b := ⟨_, rfl⟩
  rw [hsme] at hsm
  have SM := Lib.hid hsm; have SME := Lib.hid hsme
  clear hsm hsme
  go_wp2_with fail
  refine SM.out.mono ?_
  rintro e w6 ⟨rfl, b6⟩
  have K6 := Lib.hid (below_to K5.out b6); have E6 := Lib.hid (below_to E5.out b6); have F6 := Lib.hid b6
  clear b6
  cases sm with
  | true =>
    have hpq : P = Q := by simpa using SME.out
    have hHK : K = H := by rw [← HH.out, ← HK.out, HEQ.out hpq]
    rw [hHK]
    clear hpq hHK
    go_wp2
    go_ret
    exact ⟨rfl, K6.out⟩
  | false =>
    have hpq : P ≠ Q := by simpa using SME.out
    by_cases hhk : h = k
    · have hHK : K = H := by rw [← HH.out, ← HK.out, hhk]
      have hres := HCB.out hhk (fun e => hpq (List.reverse_inj.1 e))
      rw [NP.out, NQ.out] at hres
      rw [hHK]
      have HRES := Lib.hid hres
      clear hpq hhk hHK hres
      rcases Nat.lt_trichotomy nx ny with hlt | hlt | hlt
      · have hd : decide (nx < ny) = true := by simpa using hlt
        obtain ⟨g, off, rfl, hg, hcell⟩ := long_cell (HSY.out _ F6.out) (k := nx) (by rw [NY.out]; omega)
        obtain ⟨s, hs⟩ : ∃ s, Y[nx]'(by rw [NY.out]; omega) = s := ⟨_, rfl⟩
        have hsl : s.length ≤ 10000 := by rw [← hs]; exact HYS.out _ (List.getElem_mem _)
        have hz : Dm.col X Y = true ∨ (Dm.sha s == zero32) = true := by
          rcases HRES.out with h | ⟨_, s', h1, h2⟩
          · exact .inl h
          · right
            rw [NX.out, NY.out, if_pos (by omega), Nat.min_eq_left (by omega), List.getElem?_eq_getElem (by rw [NY.out]; omega), hs] at h1
            injection h1 with h1
            subst h1
            simpa using h2
        rw [hs] at hcell
        have hsum := fun u (hu : Below w6.heap.size w6 u) => sum_any s u (by omega) (TT.out _ (below_to K6.out hu))
        obtain ⟨S, hS⟩ : ∃ S, bs s = S := ⟨_, rfl⟩
        obtain ⟨D, hD⟩ : ∃ D, bs (Dm.sha s) = D := ⟨_, rfl⟩
        obtain ⟨Z, hZ⟩ : ∃ Z, bs zero32 = Z := ⟨_, rfl⟩
        have heqv : (D.toList == Z.toList) = (Dm.sha s == zero32) := by rw [← hD, ← hZ, bs_eqb]
        obtain ⟨z, hz0⟩ : ∃ z, (Dm.sha s == zero32) = z := ⟨_, rfl⟩
        rw [hz0] at heqv hz
        unfold strOf at hcell hsum
        rw [hS] at hcell hsum; rw [hD] at hsum
        have HSUM := Lib.hid hsum; have HZ := Lib.hid hz
        have hmk : ∀ w, (Instr.makeSlice 43 (.int .i64 32) (.int .i64 32)).run Tryd.prog w = .ok (.slice (some ⟨w.heap.size, 0, none⟩) 32 32) (w.alloc (.cells c32 5)) := fun _ => by kernel_rfl
        have zc1 : ∀ w : World, Sem.run Tryd.prog (Go.convert 43 9 (.slice (some ⟨w.heap.size, 0, none⟩) 32 32)) (w.alloc (.cells c32 5)) = .ok (.string Z) (w.alloc (.cells c32 5)) := fun w => hZ ▸ zero_conv w
        have zc2 : ∀ w : World, Sem.run Tryd.prog (Go.convert 43 9 (.slice (some ⟨w.heap.size, 0, none⟩) 32 32)) (w.alloc (.cells c32 5)).drew = .ok (.string Z) (w.alloc (.cells c32 5)).drew := fun w => hZ ▸ zero_conv_drew w
        have hmin := fun (w : World) => run_min2 (P := Tryd.prog) (w := w) #[3, 3] 3 .i64 .i64 nx ny nx (by omega)
        have ZN := Lib.hid (show ∀ (w u v : World), (u = w.alloc (.cells c32 5) ∨ u = (w.alloc (.cells c32 5)).drew) → Below u.heap.size u v → Sem.run Tryd.prog (Go.convert 43 9 (.slice (some ⟨w.heap.size, 0, none⟩) 32 32)) v = .ok (.string Z) v from fun w u v hu hb => hZ ▸ zero_conv_next hu hb)
        have hne : ((nx : Int) != (ny : Int)) = true := by simp; omega
        have i1 : (0 : Int) ≤ (nx : Int) := by omega
        have i2 : (nx : Int) < (ny : Int) := by omega
        have hcl := fun u (hu : Below w6.heap.size w6 u) => col_any (.slice Ax nx cx) (.slice (some ⟨g, off, none⟩) ny cy) X Y u (HSX.out u (below_to E6.out hu)) (HSY.out u (below_to F6.out hu)) HXS.out HYS.out (TT.out _ (below_to K6.out hu))
        have hcz : Dm.col X Y = true ∨ (Dm.col X Y = false ∧ z = true) := by
          rcases hz with h | h
          · exact .inl h
          · cases e : Dm.col X Y with
            | true => exact .inl rfl
            | false => exact .inr ⟨rfl, h⟩
        obtain ⟨c, hc0⟩ : ∃ c, Dm.col X Y = c := ⟨_, rfl⟩
        rw [hc0] at hcl hcz
        have CL := Lib.hid hcl; have HCZ := Lib.hid hcz
        clear hsum hz hs hS hD hZ hz0 HZ hc0 hcl hcz HRES
        go_wp2
        refine wp_region_held_drew (S := fun w' => Below w6.heap.size w6 w' ∧ w'.cell? ⟨g, off + nx, none⟩ = some (.string S)) (by kernel_rfl) ⟨Below.drew (Below.refl _ _), hcell⟩ (fun hHeld => ?_)
        refine wpAnyH_take (i := 0) (oi := { dst := Option.some 61, op := Go.Op.move (Go.Operand.tmp 6), type := 26, pos := "law.go:201", after := #[], guard := Option.none }) (v := ?_) rfl (by kernel_rfl) (by kernel_rfl) (by kernel_rfl) (fun _ _ _ h => h) (Or.inl ⟨by rfl, ?_⟩) (by assumption) ?_
        rotate_left
        · (intro w hSw; (try dsimp only at hSw); go_simp; all_goals (with_reducible rfl))
        try simp only [Act.put, List.setIfInBounds_toArray, List.set_cons_zero, List.set_cons_succ]
        refine wpAnyH_take (i := 1) (oi := { dst := Option.some 62, op := Go.Op.call { callee := Go.Callee.builtin Go.Builtin.len, args := #[Go.Operand.tmp 61], argTypes := #[26] }, type := 3, pos := "law.go:201", after := #[{ on := 0, ground := Go.Ground.data }], guard := Option.none }) (v := ?_) rfl (by kernel_rfl) (by kernel_rfl) (by kernel_rfl) (fun _ _ _ h => h) (Or.inl ⟨by rfl, ?_⟩) (by assumption) ?_
        rotate_left
        · (intro w hSw; (try dsimp only at hSw); go_simp; all_goals (with_reducible rfl))
        try simp only [Act.put, List.setIfInBounds_toArray, List.set_cons_zero, List.set_cons_succ]
        refine wpAnyH_take (i := 2) (oi := { dst := Option.some 63, op := Go.Op.move (Go.Operand.tmp 8), type := 26, pos := "law.go:201", after := #[], guard := Option.none }) (v := ?_) rfl (by kernel_rfl) (by kernel_rfl) (by kernel_rfl) (fun _ _ _ h => h) (Or.inl ⟨by rfl, ?_⟩) (by assumption) ?_
        rotate_left
        · (intro w hSw; (try dsimp only at hSw); go_simp; all_goals (with_reducible rfl))
        try simp only [Act.put, List.setIfInBounds_toArray, List.set_cons_zero, List.set_cons_succ]
        refine wpAnyH_take (i := 3) (oi := { dst := Option.some 64, op := Go.Op.call { callee := Go.Callee.builtin Go.Builtin.len, args := #[Go.Operand.tmp 63], argTypes := #[26] }, type := 3, pos := "law.go:201", after := #[{ on := 2, ground := Go.Ground.data }], guard := Option.none }) (v := ?_) rfl (by kernel_rfl) (by kernel_rfl) (by kernel_rfl) (fun _ _ _ h => h) (Or.inl ⟨by rfl, ?_⟩) (by assumption) ?_
        rotate_left
        · (intro w hSw; (try dsimp only at hSw); go_simp; all_goals (with_reducible rfl))
        try simp only [Act.put, List.setIfInBounds_toArray, List.set_cons_zero, List.set_cons_succ]
        refine wpAnyH_take (i := 4) (oi := { dst := Option.some 65, op := Go.Op.binOp Go.BinOp.neq 3 (Go.Operand.tmp 62) (Go.Operand.tmp 64) 3, type := 4, pos := "law.go:201", after := #[{ on := 1, ground := Go.Ground.data }, { on := 3, ground := Go.Ground.data }], guard := Option.none }) (v := ?_) rfl (by kernel_rfl) (by kernel_rfl) (by kernel_rfl) (fun _ _ _ h => h) (Or.inl ⟨by rfl, ?_⟩) (by assumption) ?_
        rotate_left
        · (intro w hSw; (try dsimp only at hSw); go_simp; all_goals (with_reducible rfl))
        try simp only [Act.put, List.setIfInBounds_toArray, List.set_cons_zero, List.set_cons_succ]
        refine wpAnyH_take (i := 5) (oi := { dst := Option.some 66, op := Go.Op.move (Go.Operand.tmp 65), type := 4, pos := "law.go:201", after := #[{ on := 4, ground := Go.Ground.data }], guard := Option.none }) (v := ?_) rfl (by kernel_rfl) (by kernel_rfl) (by kernel_rfl) (fun _ _ _ h => h) (Or.inl ⟨by rfl, ?_⟩) (by assumption) ?_
        rotate_left
        · (intro w hSw; (try dsimp only at hSw); go_simp; all_goals (with_reducible rfl))
        try simp only [Act.put, List.setIfInBounds_toArray, List.set_cons_zero, List.set_cons_succ]
        refine wpAnyH_take (i := 6) (oi := { dst := Option.some 67, op := Go.Op.move (Go.Operand.tmp 11), type := 26, pos := "law.go:201", after := #[{ on := 5, ground := Go.Ground.guard }], guard := Option.some (5, Bool.true) }) (v := ?_) rfl (by kernel_rfl) (by kernel_rfl) (by kernel_rfl) (fun _ _ _ h => h) (Or.inl ⟨by rfl, ?_⟩) (by assumption) ?_
        rotate_left
        · (intro w hSw; (try dsimp only at hSw); go_simp; all_goals (with_reducible rfl))
        try simp only [Act.put, List.setIfInBounds_toArray, List.set_cons_zero, List.set_cons_succ]
        refine wpAnyH_take (i := 7) (oi := { dst := Option.some 68, op := Go.Op.move (Go.Operand.tmp 6), type := 26, pos := "law.go:201", after := #[{ on := 5, ground := Go.Ground.guard }], guard := Option.some (5, Bool.true) }) (v := ?_) rfl (by kernel_rfl) (by kernel_rfl) (by kernel_rfl) (fun _ _ _ h => h) (Or.inl ⟨by rfl, ?_⟩) (by assumption) ?_
        rotate_left
        · (intro w hSw; (try dsimp only at hSw); go_simp; all_goals (with_reducible rfl))
        try simp only [Act.put, List.setIfInBounds_toArray, List.set_cons_zero, List.set_cons_succ]
        refine wpAnyH_take (i := 8) (oi := { dst := Option.some 69, op := Go.Op.call { callee := Go.Callee.builtin Go.Builtin.len, args := #[Go.Operand.tmp 68], argTypes := #[26] }, type := 3, pos := "law.go:201", after := #[{ on := 7, ground := Go.Ground.data }, { on := 5, ground := Go.Ground.guard }], guard := Option.some (5, Bool.true) }) (v := ?_) rfl (by kernel_rfl) (by kernel_rfl) (by kernel_rfl) (fun _ _ _ h => h) (Or.inl ⟨by rfl, ?_⟩) (by assumption) ?_
        rotate_left
        · (intro w hSw; (try dsimp only at hSw); go_simp; all_goals (with_reducible rfl))
        try simp only [Act.put, List.setIfInBounds_toArray, List.set_cons_zero, List.set_cons_succ]
        refine wpAnyH_take (i := 9) (oi := { dst := Option.some 70, op := Go.Op.move (Go.Operand.tmp 8), type := 26, pos := "law.go:201", after := #[{ on := 5, ground := Go.Ground.guard }], guard := Option.some (5, Bool.true) }) (v := ?_) rfl (by kernel_rfl) (by kernel_rfl) (by kernel_rfl) (fun _ _ _ h => h) (Or.inl ⟨by rfl, ?_⟩) (by assumption) ?_
        rotate_left
        · (intro w hSw; (try dsimp only at hSw); go_simp; all_goals (with_reducible rfl))
        try simp only [Act.put, List.setIfInBounds_toArray, List.set_cons_zero, List.set_cons_succ]
        refine wpAnyH_take (i := 10) (oi := { dst := Option.some 71, op := Go.Op.call { callee := Go.Callee.builtin Go.Builtin.len, args := #[Go.Operand.tmp 70], argTypes := #[26] }, type := 3, pos := "law.go:201", after := #[{ on := 9, ground := Go.Ground.data }, { on := 5, ground := Go.Ground.guard }], guard := Option.some (5, Bool.true) }) (v := ?_) rfl (by kernel_rfl) (by kernel_rfl) (by kernel_rfl) (fun _ _ _ h => h) (Or.inl ⟨by rfl, ?_⟩) (by assumption) ?_
        rotate_left
        · (intro w hSw; (try dsimp only at hSw); go_simp; all_goals (with_reducible rfl))
        try simp only [Act.put, List.setIfInBounds_toArray, List.set_cons_zero, List.set_cons_succ]
        refine wpAnyH_ready (rs := [11, 15]) (by kernel_rfl) (by simp) ?_
        refine AllReadyH.cons (o := { dst := Option.some 72, op := Go.Op.call { callee := Go.Callee.builtin Go.Builtin.min, args := #[Go.Operand.tmp 69, Go.Operand.tmp 71], argTypes := #[3, 3] }, type := 3, pos := "law.go:201", after := #[{ on := 8, ground := Go.Ground.data }, { on := 10, ground := Go.Ground.data }, { on := 5, ground := Go.Ground.guard }], guard := Option.some (5, Bool.true) }) rfl (fun K hK => ?_) ?_
        · go_simp
          refine hK.out _ _ ?_ (fun hHeld => ?_)
          · (try dsimp only)
            first | assumption | (exact keep_alloc hg (by assumption)) | (exact keep_call hg (by assumption) b5)
          clear hK K
          try simp only [Act.put, List.setIfInBounds_toArray, List.set_cons_zero, List.set_cons_succ]
          refine wpAnyH_take (i := 12) (oi := { dst := Option.some 73, op := Go.Op.indexAddr 26 (Go.Operand.tmp 67) (Go.Operand.tmp 72), type := 0, pos := "law.go:201", after := #[{ on := 6, ground := Go.Ground.data }, { on := 11, ground := Go.Ground.data }, { on := 5, ground := Go.Ground.guard }], guard := Option.some (5, Bool.true) }) (v := ?_) rfl (by kernel_rfl) (by kernel_rfl) (by kernel_rfl) (fun _ _ _ h => h) (Or.inl ⟨by rfl, ?_⟩) (by assumption) ?_
          rotate_left
          · (intro w hSw; (try dsimp only at hSw); go_simp; all_goals (with_reducible rfl))
          try simp only [Act.put, List.setIfInBounds_toArray, List.set_cons_zero, List.set_cons_succ]
          refine wpAnyH_take (i := 13) (oi := { dst := Option.some 74, op := Go.Op.load 9 (Go.Operand.tmp 73), type := 9, pos := "law.go:201", after := #[{ on := 12, ground := Go.Ground.data }, { on := 5, ground := Go.Ground.guard }], guard := Option.some (5, Bool.true) }) (v := ?_) rfl (by kernel_rfl) (by kernel_rfl) (by kernel_rfl) (fun _ _ _ h => h) (Or.inl ⟨by rfl, ?_⟩) (by assumption) ?_
          rotate_left
          · (intro w hSw; (try dsimp only at hSw); go_simp; all_goals (with_reducible rfl))
          try simp only [Act.put, List.setIfInBounds_toArray, List.set_cons_zero, List.set_cons_succ]
          refine wpAnyH_ready (rs := [14, 15]) (by kernel_rfl) (by simp) ?_
          refine AllReadyH.cons (o := { dst := Option.some 75, op := Go.Op.call { callee := Go.Callee.value (Go.Operand.func 13), args := #[Go.Operand.tmp 74], argTypes := #[9] }, type := 9, pos := "law.go:201", after := #[{ on := 13, ground := Go.Ground.data }, { on := 5, ground := Go.Ground.chain }, { on := 5, ground := Go.Ground.guard }], guard := Option.some (5, Bool.true) }) rfl (fun K hK => ?_) ?_
          · go_simp
            ((go_at_call 13; ((with_reducible refine Calls.mono (HSUM.out _ ?hb1) ?_); (case hb1 => (first | assumption | exact (‹Below w6.heap.size w6 _ ∧ _›).1)); rintro e w7 ⟨rfl, b5⟩; (first | (have zc3 := ZN.out w6 _ _ (.inl rfl) b5) | (have zc3 := ZN.out w6 _ _ (.inr rfl) b5) | (have zc3 := ZN.out w6 _ _ zc_three b5) | skip))))
            go_wp2_with fail
            refine hK.out _ _ ?_ (fun hHeld => ?_)
            · (try dsimp only)
              first | assumption | (exact keep_alloc hg (by assumption)) | (exact keep_call hg (by assumption) b5)
            clear hK K
            try simp only [Act.put, List.setIfInBounds_toArray, List.set_cons_zero, List.set_cons_succ]
            refine wpAnyH_ready (rs := [15]) (by kernel_rfl) (by simp) ?_
            refine AllReadyH.cons (o := { dst := Option.some 76, op := Go.Op.makeSlice 43 (Go.Operand.const (Go.Value.int Go.IntKind.i64 32)) (Go.Operand.const (Go.Value.int Go.IntKind.i64 32)), type := 43, pos := "law.go:201", after := #[{ on := 5, ground := Go.Ground.guard }], guard := Option.some (5, Bool.true) }) rfl (fun K hK => ?_) ?_
            · go_simp
              refine hK.out _ _ ?_ (fun hHeld => ?_)
              · (try dsimp only)
                first | assumption | (exact keep_alloc hg (by assumption)) | (exact keep_call hg (by assumption) b5)
              clear hK K
              try simp only [Act.put, List.setIfInBounds_toArray, List.set_cons_zero, List.set_cons_succ]
              refine wpAnyH_ready (rs := [16]) (by kernel_rfl) (by simp) ?_
              refine AllReadyH.cons (o := { dst := Option.some 77, op := Go.Op.convert 43 9 (Go.Operand.tmp 76), type := 9, pos := "law.go:201", after := #[{ on := 15, ground := Go.Ground.data }, { on := 5, ground := Go.Ground.guard }], guard := Option.some (5, Bool.true) }) rfl (fun K hK => ?_) ?_
              · go_simp
                refine hK.out _ _ ?_ (fun hHeld => ?_)
                · (try dsimp only)
                  first | assumption | (exact keep_alloc hg (by assumption)) | (exact keep_call hg (by assumption) b5)
                clear hK K
                try simp only [Act.put, List.setIfInBounds_toArray, List.set_cons_zero, List.set_cons_succ]
                refine wpAnyH_take (i := 17) (oi := { dst := Option.some 78, op := Go.Op.binOp Go.BinOp.eql 9 (Go.Operand.tmp 75) (Go.Operand.tmp 77) 9, type := 4, pos := "law.go:201", after := #[{ on := 14, ground := Go.Ground.data }, { on := 16, ground := Go.Ground.data }, { on := 5, ground := Go.Ground.guard }], guard := Option.some (5, Bool.true) }) (v := ?_) rfl (by kernel_rfl) (by kernel_rfl) (by kernel_rfl) (fun _ _ _ h => h) (Or.inl ⟨by rfl, ?_⟩) (by assumption) ?_
                rotate_left
                · (intro w hSw; (try dsimp only at hSw); go_simp; all_goals (with_reducible rfl))
                try simp only [Act.put, List.setIfInBounds_toArray, List.set_cons_zero, List.set_cons_succ]
                refine wpAnyH_take (i := 18) (oi := { dst := Option.some 79, op := Go.Op.pick (Go.Operand.tmp 66) (Go.Operand.tmp 78) (Go.Operand.const (Go.Value.bool Bool.false)), type := 4, pos := "law.go:201", after := #[{ on := 5, ground := Go.Ground.data }, { on := 17, ground := Go.Ground.data }], guard := Option.none }) (v := ?_) rfl (by kernel_rfl) (by kernel_rfl) (by kernel_rfl) (fun _ _ _ h => h) (Or.inl ⟨by rfl, ?_⟩) (by assumption) ?_
                rotate_left
                · (intro w hSw; (try dsimp only at hSw); go_simp; all_goals (with_reducible rfl))
                try simp only [Act.put, List.setIfInBounds_toArray, List.set_cons_zero, List.set_cons_succ]
                refine wpAnyH_take (i := 19) (oi := { dst := Option.some 12, op := Go.Op.assign (Go.Operand.tmp 79), type := 4, pos := "law.go:201", after := #[{ on := 18, ground := Go.Ground.data }, { on := 14, ground := Go.Ground.chain }, { on := 0, ground := Go.Ground.phase }, { on := 1, ground := Go.Ground.phase }, { on := 2, ground := Go.Ground.phase }, { on := 3, ground := Go.Ground.phase }, { on := 4, ground := Go.Ground.phase }, { on := 5, ground := Go.Ground.phase }, { on := 6, ground := Go.Ground.phase }, { on := 7, ground := Go.Ground.phase }, { on := 8, ground := Go.Ground.phase }, { on := 9, ground := Go.Ground.phase }, { on := 10, ground := Go.Ground.phase }, { on := 11, ground := Go.Ground.phase }, { on := 12, ground := Go.Ground.phase }, { on := 13, ground := Go.Ground.phase }, { on := 14, ground := Go.Ground.phase }, { on := 15, ground := Go.Ground.phase }, { on := 16, ground := Go.Ground.phase }, { on := 17, ground := Go.Ground.phase }, { on := 18, ground := Go.Ground.phase }], guard := Option.none }) (v := ?_) rfl (by kernel_rfl) (by kernel_rfl) (by kernel_rfl) (fun _ _ _ h => h) (Or.inl ⟨by rfl, ?_⟩) (by assumption) ?_
                rotate_left
                · (intro w hSw; (try dsimp only at hSw); go_simp; all_goals (with_reducible rfl))
                try simp only [Act.put, List.setIfInBounds_toArray, List.set_cons_zero, List.set_cons_succ]
                refine wpAnyH_done (by kernel_rfl) ?_ _
                rcases HCZ.out with hc | ⟨hc, hz⟩
                · subst hc
                  go_wp2_with (go_at_call 35; refine (CL.out _ ?hb).mono ?_; (case hb => exact (‹Below w6.heap.size w6 _ ∧ _›).1); rintro e w9 ⟨rfl, b9⟩)
                  go_ret
                  exact ⟨rfl, below_to (fin_of K6.out (by assumption)) b9⟩
                · subst hc
                  subst hz
                  go_wp2_with (go_at_call 35; refine (CL.out _ ?hb).mono ?_; (case hb => exact (‹Below w6.heap.size w6 _ ∧ _›).1); rintro e w9 ⟨rfl, b9⟩)
                  go_ret
                  exact ⟨rfl, below_to (fin_of K6.out (by assumption)) b9⟩
              exact AllReadyH.nil
            exact AllReadyH.nil
          refine AllReadyH.cons (o := { dst := Option.some 76, op := Go.Op.makeSlice 43 (Go.Operand.const (Go.Value.int Go.IntKind.i64 32)) (Go.Operand.const (Go.Value.int Go.IntKind.i64 32)), type := 43, pos := "law.go:201", after := #[{ on := 5, ground := Go.Ground.guard }], guard := Option.some (5, Bool.true) }) rfl (fun K hK => ?_) ?_
          · go_simp
            refine hK.out _ _ ?_ (fun hHeld => ?_)
            · (try dsimp only)
              first | assumption | (exact keep_alloc hg (by assumption)) | (exact keep_call hg (by assumption) b5)
            clear hK K
            try simp only [Act.put, List.setIfInBounds_toArray, List.set_cons_zero, List.set_cons_succ]
            refine wpAnyH_ready (rs := [14, 16]) (by kernel_rfl) (by simp) ?_
            refine AllReadyH.cons (o := { dst := Option.some 75, op := Go.Op.call { callee := Go.Callee.value (Go.Operand.func 13), args := #[Go.Operand.tmp 74], argTypes := #[9] }, type := 9, pos := "law.go:201", after := #[{ on := 13, ground := Go.Ground.data }, { on := 5, ground := Go.Ground.chain }, { on := 5, ground := Go.Ground.guard }], guard := Option.some (5, Bool.true) }) rfl (fun K hK => ?_) ?_
            · go_simp
              ((go_at_call 13; ((with_reducible refine Calls.mono (HSUM.out _ ?hb1) ?_); (case hb1 => (first | assumption | exact (‹Below w6.heap.size w6 _ ∧ _›).1)); rintro e w7 ⟨rfl, b5⟩; (first | (have zc3 := ZN.out w6 _ _ (.inl rfl) b5) | (have zc3 := ZN.out w6 _ _ (.inr rfl) b5) | (have zc3 := ZN.out w6 _ _ zc_three b5) | skip))))
              go_wp2_with fail
              refine hK.out _ _ ?_ (fun hHeld => ?_)
              · (try dsimp only)
                first | assumption | (exact keep_alloc hg (by assumption)) | (exact keep_call hg (by assumption) b5)
              clear hK K
              try simp only [Act.put, List.setIfInBounds_toArray, List.set_cons_zero, List.set_cons_succ]
              refine wpAnyH_ready (rs := [16]) (by kernel_rfl) (by simp) ?_
              refine AllReadyH.cons (o := { dst := Option.some 77, op := Go.Op.convert 43 9 (Go.Operand.tmp 76), type := 9, pos := "law.go:201", after := #[{ on := 15, ground := Go.Ground.data }, { on := 5, ground := Go.Ground.guard }], guard := Option.some (5, Bool.true) }) rfl (fun K hK => ?_) ?_
              · go_simp
                refine hK.out _ _ ?_ (fun hHeld => ?_)
                · (try dsimp only)
                  first | assumption | (exact keep_alloc hg (by assumption)) | (exact keep_call hg (by assumption) b5)
                clear hK K
                try simp only [Act.put, List.setIfInBounds_toArray, List.set_cons_zero, List.set_cons_succ]
                refine wpAnyH_take (i := 17) (oi := { dst := Option.some 78, op := Go.Op.binOp Go.BinOp.eql 9 (Go.Operand.tmp 75) (Go.Operand.tmp 77) 9, type := 4, pos := "law.go:201", after := #[{ on := 14, ground := Go.Ground.data }, { on := 16, ground := Go.Ground.data }, { on := 5, ground := Go.Ground.guard }], guard := Option.some (5, Bool.true) }) (v := ?_) rfl (by kernel_rfl) (by kernel_rfl) (by kernel_rfl) (fun _ _ _ h => h) (Or.inl ⟨by rfl, ?_⟩) (by assumption) ?_
                rotate_left
                · (intro w hSw; (try dsimp only at hSw); go_simp; all_goals (with_reducible rfl))
                try simp only [Act.put, List.setIfInBounds_toArray, List.set_cons_zero, List.set_cons_succ]
                refine wpAnyH_take (i := 18) (oi := { dst := Option.some 79, op := Go.Op.pick (Go.Operand.tmp 66) (Go.Operand.tmp 78) (Go.Operand.const (Go.Value.bool Bool.false)), type := 4, pos := "law.go:201", after := #[{ on := 5, ground := Go.Ground.data }, { on := 17, ground := Go.Ground.data }], guard := Option.none }) (v := ?_) rfl (by kernel_rfl) (by kernel_rfl) (by kernel_rfl) (fun _ _ _ h => h) (Or.inl ⟨by rfl, ?_⟩) (by assumption) ?_
                rotate_left
                · (intro w hSw; (try dsimp only at hSw); go_simp; all_goals (with_reducible rfl))
                try simp only [Act.put, List.setIfInBounds_toArray, List.set_cons_zero, List.set_cons_succ]
                refine wpAnyH_take (i := 19) (oi := { dst := Option.some 12, op := Go.Op.assign (Go.Operand.tmp 79), type := 4, pos := "law.go:201", after := #[{ on := 18, ground := Go.Ground.data }, { on := 14, ground := Go.Ground.chain }, { on := 0, ground := Go.Ground.phase }, { on := 1, ground := Go.Ground.phase }, { on := 2, ground := Go.Ground.phase }, { on := 3, ground := Go.Ground.phase }, { on := 4, ground := Go.Ground.phase }, { on := 5, ground := Go.Ground.phase }, { on := 6, ground := Go.Ground.phase }, { on := 7, ground := Go.Ground.phase }, { on := 8, ground := Go.Ground.phase }, { on := 9, ground := Go.Ground.phase }, { on := 10, ground := Go.Ground.phase }, { on := 11, ground := Go.Ground.phase }, { on := 12, ground := Go.Ground.phase }, { on := 13, ground := Go.Ground.phase }, { on := 14, ground := Go.Ground.phase }, { on := 15, ground := Go.Ground.phase }, { on := 16, ground := Go.Ground.phase }, { on := 17, ground := Go.Ground.phase }, { on := 18, ground := Go.Ground.phase }], guard := Option.none }) (v := ?_) rfl (by kernel_rfl) (by kernel_rfl) (by kernel_rfl) (fun _ _ _ h => h) (Or.inl ⟨by rfl, ?_⟩) (by assumption) ?_
                rotate_left
                · (intro w hSw; (try dsimp only at hSw); go_simp; all_goals (with_reducible rfl))
                try simp only [Act.put, List.setIfInBounds_toArray, List.set_cons_zero, List.set_cons_succ]
                refine wpAnyH_done (by kernel_rfl) ?_ _
                rcases HCZ.out with hc | ⟨hc, hz⟩
                · subst hc
                  go_wp2_with (go_at_call 35; refine (CL.out _ ?hb).mono ?_; (case hb => exact (‹Below w6.heap.size w6 _ ∧ _›).1); rintro e w9 ⟨rfl, b9⟩)
                  go_ret
                  exact ⟨rfl, below_to (fin_of K6.out (by assumption)) b9⟩
                · subst hc
                  subst hz
                  go_wp2_with (go_at_call 35; refine (CL.out _ ?hb).mono ?_; (case hb => exact (‹Below w6.heap.size w6 _ ∧ _›).1); rintro e w9 ⟨rfl, b9⟩)
                  go_ret
                  exact ⟨rfl, below_to (fin_of K6.out (by assumption)) b9⟩
              exact AllReadyH.nil
            refine AllReadyH.cons (o := { dst := Option.some 77, op := Go.Op.convert 43 9 (Go.Operand.tmp 76), type := 9, pos := "law.go:201", after := #[{ on := 15, ground := Go.Ground.data }, { on := 5, ground := Go.Ground.guard }], guard := Option.some (5, Bool.true) }) rfl (fun K hK => ?_) ?_
            · go_simp
              refine hK.out _ _ ?_ (fun hHeld => ?_)
              · (try dsimp only)
                first | assumption | (exact keep_alloc hg (by assumption)) | (exact keep_call hg (by assumption) b5)
              clear hK K
              try simp only [Act.put, List.setIfInBounds_toArray, List.set_cons_zero, List.set_cons_succ]
              refine wpAnyH_ready (rs := [14]) (by kernel_rfl) (by simp) ?_
              refine AllReadyH.cons (o := { dst := Option.some 75, op := Go.Op.call { callee := Go.Callee.value (Go.Operand.func 13), args := #[Go.Operand.tmp 74], argTypes := #[9] }, type := 9, pos := "law.go:201", after := #[{ on := 13, ground := Go.Ground.data }, { on := 5, ground := Go.Ground.chain }, { on := 5, ground := Go.Ground.guard }], guard := Option.some (5, Bool.true) }) rfl (fun K hK => ?_) ?_
              · go_simp
                ((go_at_call 13; ((with_reducible refine Calls.mono (HSUM.out _ ?hb1) ?_); (case hb1 => (first | assumption | exact (‹Below w6.heap.size w6 _ ∧ _›).1)); rintro e w7 ⟨rfl, b5⟩; (first | (have zc3 := ZN.out w6 _ _ (.inl rfl) b5) | (have zc3 := ZN.out w6 _ _ (.inr rfl) b5) | (have zc3 := ZN.out w6 _ _ zc_three b5) | skip))))
                go_wp2_with fail
                refine hK.out _ _ ?_ (fun hHeld => ?_)
                · (try dsimp only)
                  first | assumption | (exact keep_alloc hg (by assumption)) | (exact keep_call hg (by assumption) b5)
                clear hK K
                try simp only [Act.put, List.setIfInBounds_toArray, List.set_cons_zero, List.set_cons_succ]
                refine wpAnyH_take (i := 17) (oi := { dst := Option.some 78, op := Go.Op.binOp Go.BinOp.eql 9 (Go.Operand.tmp 75) (Go.Operand.tmp 77) 9, type := 4, pos := "law.go:201", after := #[{ on := 14, ground := Go.Ground.data }, { on := 16, ground := Go.Ground.data }, { on := 5, ground := Go.Ground.guard }], guard := Option.some (5, Bool.true) }) (v := ?_) rfl (by kernel_rfl) (by kernel_rfl) (by kernel_rfl) (fun _ _ _ h => h) (Or.inl ⟨by rfl, ?_⟩) (by assumption) ?_
                rotate_left
                · (intro w hSw; (try dsimp only at hSw); go_simp; all_goals (with_reducible rfl))
                try simp only [Act.put, List.setIfInBounds_toArray, List.set_cons_zero, List.set_cons_succ]
                refine wpAnyH_take (i := 18) (oi := { dst := Option.some 79, op := Go.Op.pick (Go.Operand.tmp 66) (Go.Operand.tmp 78) (Go.Operand.const (Go.Value.bool Bool.false)), type := 4, pos := "law.go:201", after := #[{ on := 5, ground := Go.Ground.data }, { on := 17, ground := Go.Ground.data }], guard := Option.none }) (v := ?_) rfl (by kernel_rfl) (by kernel_rfl) (by kernel_rfl) (fun _ _ _ h => h) (Or.inl ⟨by rfl, ?_⟩) (by assumption) ?_
                rotate_left
                · (intro w hSw; (try dsimp only at hSw); go_simp; all_goals (with_reducible rfl))
                try simp only [Act.put, List.setIfInBounds_toArray, List.set_cons_zero, List.set_cons_succ]
                refine wpAnyH_take (i := 19) (oi := { dst := Option.some 12, op := Go.Op.assign (Go.Operand.tmp 79), type := 4, pos := "law.go:201", after := #[{ on := 18, ground := Go.Ground.data }, { on := 14, ground := Go.Ground.chain }, { on := 0, ground := Go.Ground.phase }, { on := 1, ground := Go.Ground.phase }, { on := 2, ground := Go.Ground.phase }, { on := 3, ground := Go.Ground.phase }, { on := 4, ground := Go.Ground.phase }, { on := 5, ground := Go.Ground.phase }, { on := 6, ground := Go.Ground.phase }, { on := 7, ground := Go.Ground.phase }, { on := 8, ground := Go.Ground.phase }, { on := 9, ground := Go.Ground.phase }, { on := 10, ground := Go.Ground.phase }, { on := 11, ground := Go.Ground.phase }, { on := 12, ground := Go.Ground.phase }, { on := 13, ground := Go.Ground.phase }, { on := 14, ground := Go.Ground.phase }, { on := 15, ground := Go.Ground.phase }, { on := 16, ground := Go.Ground.phase }, { on := 17, ground := Go.Ground.phase }, { on := 18, ground := Go.Ground.phase }], guard := Option.none }) (v := ?_) rfl (by kernel_rfl) (by kernel_rfl) (by kernel_rfl) (fun _ _ _ h => h) (Or.inl ⟨by rfl, ?_⟩) (by assumption) ?_
                rotate_left
                · (intro w hSw; (try dsimp only at hSw); go_simp; all_goals (with_reducible rfl))
                try simp only [Act.put, List.setIfInBounds_toArray, List.set_cons_zero, List.set_cons_succ]
                refine wpAnyH_done (by kernel_rfl) ?_ _
                rcases HCZ.out with hc | ⟨hc, hz⟩
                · subst hc
                  go_wp2_with (go_at_call 35; refine (CL.out _ ?hb).mono ?_; (case hb => exact (‹Below w6.heap.size w6 _ ∧ _›).1); rintro e w9 ⟨rfl, b9⟩)
                  go_ret
                  exact ⟨rfl, below_to (fin_of K6.out (by assumption)) b9⟩
                · subst hc
                  subst hz
                  go_wp2_with (go_at_call 35; refine (CL.out _ ?hb).mono ?_; (case hb => exact (‹Below w6.heap.size w6 _ ∧ _›).1); rintro e w9 ⟨rfl, b9⟩)
                  go_ret
                  exact ⟨rfl, below_to (fin_of K6.out (by assumption)) b9⟩
              exact AllReadyH.nil
            exact AllReadyH.nil
          exact AllReadyH.nil
        refine AllReadyH.cons (o := { dst := Option.some 76, op := Go.Op.makeSlice 43 (Go.Operand.const (Go.Value.int Go.IntKind.i64 32)) (Go.Operand.const (Go.Value.int Go.IntKind.i64 32)), type := 43, pos := "law.go:201", after := #[{ on := 5, ground := Go.Ground.guard }], guard := Option.some (5, Bool.true) }) rfl (fun K hK => ?_) ?_
        · go_simp
          refine hK.out _ _ ?_ (fun hHeld => ?_)
          · (try dsimp only)
            first | assumption | (exact keep_alloc hg (by assumption)) | (exact keep_call hg (by assumption) b5)
          clear hK K
          try simp only [Act.put, List.setIfInBounds_toArray, List.set_cons_zero, List.set_cons_succ]
          refine wpAnyH_ready (rs := [11, 16]) (by kernel_rfl) (by simp) ?_
          refine AllReadyH.cons (o := { dst := Option.some 72, op := Go.Op.call { callee := Go.Callee.builtin Go.Builtin.min, args := #[Go.Operand.tmp 69, Go.Operand.tmp 71], argTypes := #[3, 3] }, type := 3, pos := "law.go:201", after := #[{ on := 8, ground := Go.Ground.data }, { on := 10, ground := Go.Ground.data }, { on := 5, ground := Go.Ground.guard }], guard := Option.some (5, Bool.true) }) rfl (fun K hK => ?_) ?_
          · go_simp
            refine hK.out _ _ ?_ (fun hHeld => ?_)
            · (try dsimp only)
              first | assumption | (exact keep_alloc hg (by assumption)) | (exact keep_call hg (by assumption) b5)
            clear hK K
            try simp only [Act.put, List.setIfInBounds_toArray, List.set_cons_zero, List.set_cons_succ]
            refine wpAnyH_take (i := 12) (oi := { dst := Option.some 73, op := Go.Op.indexAddr 26 (Go.Operand.tmp 67) (Go.Operand.tmp 72), type := 0, pos := "law.go:201", after := #[{ on := 6, ground := Go.Ground.data }, { on := 11, ground := Go.Ground.data }, { on := 5, ground := Go.Ground.guard }], guard := Option.some (5, Bool.true) }) (v := ?_) rfl (by kernel_rfl) (by kernel_rfl) (by kernel_rfl) (fun _ _ _ h => h) (Or.inl ⟨by rfl, ?_⟩) (by assumption) ?_
            rotate_left
            · (intro w hSw; (try dsimp only at hSw); go_simp; all_goals (with_reducible rfl))
            try simp only [Act.put, List.setIfInBounds_toArray, List.set_cons_zero, List.set_cons_succ]
            refine wpAnyH_take (i := 13) (oi := { dst := Option.some 74, op := Go.Op.load 9 (Go.Operand.tmp 73), type := 9, pos := "law.go:201", after := #[{ on := 12, ground := Go.Ground.data }, { on := 5, ground := Go.Ground.guard }], guard := Option.some (5, Bool.true) }) (v := ?_) rfl (by kernel_rfl) (by kernel_rfl) (by kernel_rfl) (fun _ _ _ h => h) (Or.inl ⟨by rfl, ?_⟩) (by assumption) ?_
            rotate_left
            · (intro w hSw; (try dsimp only at hSw); go_simp; all_goals (with_reducible rfl))
            try simp only [Act.put, List.setIfInBounds_toArray, List.set_cons_zero, List.set_cons_succ]
            refine wpAnyH_ready (rs := [14, 16]) (by kernel_rfl) (by simp) ?_
            refine AllReadyH.cons (o := { dst := Option.some 75, op := Go.Op.call { callee := Go.Callee.value (Go.Operand.func 13), args := #[Go.Operand.tmp 74], argTypes := #[9] }, type := 9, pos := "law.go:201", after := #[{ on := 13, ground := Go.Ground.data }, { on := 5, ground := Go.Ground.chain }, { on := 5, ground := Go.Ground.guard }], guard := Option.some (5, Bool.true) }) rfl (fun K hK => ?_) ?_
            · go_simp
              ((go_at_call 13; ((with_reducible refine Calls.mono (HSUM.out _ ?hb1) ?_); (case hb1 => (first | assumption | exact (‹Below w6.heap.size w6 _ ∧ _›).1)); rintro e w7 ⟨rfl, b5⟩; (first | (have zc3 := ZN.out w6 _ _ (.inl rfl) b5) | (have zc3 := ZN.out w6 _ _ (.inr rfl) b5) | (have zc3 := ZN.out w6 _ _ zc_three b5) | skip))))
              go_wp2_with fail
              refine hK.out _ _ ?_ (fun hHeld => ?_)
              · (try dsimp only)
                first | assumption | (exact keep_alloc hg (by assumption)) | (exact keep_call hg (by assumption) b5)
              clear hK K
              try simp only [Act.put, List.setIfInBounds_toArray, List.set_cons_zero, List.set_cons_succ]
              refine wpAnyH_ready (rs := [16]) (by kernel_rfl) (by simp) ?_
              refine AllReadyH.cons (o := { dst := Option.some 77, op := Go.Op.convert 43 9 (Go.Operand.tmp 76), type := 9, pos := "law.go:201", after := #[{ on := 15, ground := Go.Ground.data }, { on := 5, ground := Go.Ground.guard }], guard := Option.some (5, Bool.true) }) rfl (fun K hK => ?_) ?_
              · go_simp
                refine hK.out _ _ ?_ (fun hHeld => ?_)
                · (try dsimp only)
                  first | assumption | (exact keep_alloc hg (by assumption)) | (exact keep_call hg (by assumption) b5)
                clear hK K
                try simp only [Act.put, List.setIfInBounds_toArray, List.set_cons_zero, List.set_cons_succ]
                refine wpAnyH_take (i := 17) (oi := { dst := Option.some 78, op := Go.Op.binOp Go.BinOp.eql 9 (Go.Operand.tmp 75) (Go.Operand.tmp 77) 9, type := 4, pos := "law.go:201", after := #[{ on := 14, ground := Go.Ground.data }, { on := 16, ground := Go.Ground.data }, { on := 5, ground := Go.Ground.guard }], guard := Option.some (5, Bool.true) }) (v := ?_) rfl (by kernel_rfl) (by kernel_rfl) (by kernel_rfl) (fun _ _ _ h => h) (Or.inl ⟨by rfl, ?_⟩) (by assumption) ?_
                rotate_left
                · (intro w hSw; (try dsimp only at hSw); go_simp; all_goals (with_reducible rfl))
                try simp only [Act.put, List.setIfInBounds_toArray, List.set_cons_zero, List.set_cons_succ]
                refine wpAnyH_take (i := 18) (oi := { dst := Option.some 79, op := Go.Op.pick (Go.Operand.tmp 66) (Go.Operand.tmp 78) (Go.Operand.const (Go.Value.bool Bool.false)), type := 4, pos := "law.go:201", after := #[{ on := 5, ground := Go.Ground.data }, { on := 17, ground := Go.Ground.data }], guard := Option.none }) (v := ?_) rfl (by kernel_rfl) (by kernel_rfl) (by kernel_rfl) (fun _ _ _ h => h) (Or.inl ⟨by rfl, ?_⟩) (by assumption) ?_
                rotate_left
                · (intro w hSw; (try dsimp only at hSw); go_simp; all_goals (with_reducible rfl))
                try simp only [Act.put, List.setIfInBounds_toArray, List.set_cons_zero, List.set_cons_succ]
                refine wpAnyH_take (i := 19) (oi := { dst := Option.some 12, op := Go.Op.assign (Go.Operand.tmp 79), type := 4, pos := "law.go:201", after := #[{ on := 18, ground := Go.Ground.data }, { on := 14, ground := Go.Ground.chain }, { on := 0, ground := Go.Ground.phase }, { on := 1, ground := Go.Ground.phase }, { on := 2, ground := Go.Ground.phase }, { on := 3, ground := Go.Ground.phase }, { on := 4, ground := Go.Ground.phase }, { on := 5, ground := Go.Ground.phase }, { on := 6, ground := Go.Ground.phase }, { on := 7, ground := Go.Ground.phase }, { on := 8, ground := Go.Ground.phase }, { on := 9, ground := Go.Ground.phase }, { on := 10, ground := Go.Ground.phase }, { on := 11, ground := Go.Ground.phase }, { on := 12, ground := Go.Ground.phase }, { on := 13, ground := Go.Ground.phase }, { on := 14, ground := Go.Ground.phase }, { on := 15, ground := Go.Ground.phase }, { on := 16, ground := Go.Ground.phase }, { on := 17, ground := Go.Ground.phase }, { on := 18, ground := Go.Ground.phase }], guard := Option.none }) (v := ?_) rfl (by kernel_rfl) (by kernel_rfl) (by kernel_rfl) (fun _ _ _ h => h) (Or.inl ⟨by rfl, ?_⟩) (by assumption) ?_
                rotate_left
                · (intro w hSw; (try dsimp only at hSw); go_simp; all_goals (with_reducible rfl))
                try simp only [Act.put, List.setIfInBounds_toArray, List.set_cons_zero, List.set_cons_succ]
                refine wpAnyH_done (by kernel_rfl) ?_ _
                rcases HCZ.out with hc | ⟨hc, hz⟩
                · subst hc
                  go_wp2_with (go_at_call 35; refine (CL.out _ ?hb).mono ?_; (case hb => exact (‹Below w6.heap.size w6 _ ∧ _›).1); rintro e w9 ⟨rfl, b9⟩)
                  go_ret
                  exact ⟨rfl, below_to (fin_of K6.out (by assumption)) b9⟩
                · subst hc
                  subst hz
                  go_wp2_with (go_at_call 35; refine (CL.out _ ?hb).mono ?_; (case hb => exact (‹Below w6.heap.size w6 _ ∧ _›).1); rintro e w9 ⟨rfl, b9⟩)
                  go_ret
                  exact ⟨rfl, below_to (fin_of K6.out (by assumption)) b9⟩
              exact AllReadyH.nil
            refine AllReadyH.cons (o := { dst := Option.some 77, op := Go.Op.convert 43 9 (Go.Operand.tmp 76), type := 9, pos := "law.go:201", after := #[{ on := 15, ground := Go.Ground.data }, { on := 5, ground := Go.Ground.guard }], guard := Option.some (5, Bool.true) }) rfl (fun K hK => ?_) ?_
            · go_simp
              refine hK.out _ _ ?_ (fun hHeld => ?_)
              · (try dsimp only)
                first | assumption | (exact keep_alloc hg (by assumption)) | (exact keep_call hg (by assumption) b5)
              clear hK K
              try simp only [Act.put, List.setIfInBounds_toArray, List.set_cons_zero, List.set_cons_succ]
              refine wpAnyH_ready (rs := [14]) (by kernel_rfl) (by simp) ?_
              refine AllReadyH.cons (o := { dst := Option.some 75, op := Go.Op.call { callee := Go.Callee.value (Go.Operand.func 13), args := #[Go.Operand.tmp 74], argTypes := #[9] }, type := 9, pos := "law.go:201", after := #[{ on := 13, ground := Go.Ground.data }, { on := 5, ground := Go.Ground.chain }, { on := 5, ground := Go.Ground.guard }], guard := Option.some (5, Bool.true) }) rfl (fun K hK => ?_) ?_
              · go_simp
                ((go_at_call 13; ((with_reducible refine Calls.mono (HSUM.out _ ?hb1) ?_); (case hb1 => (first | assumption | exact (‹Below w6.heap.size w6 _ ∧ _›).1)); rintro e w7 ⟨rfl, b5⟩; (first | (have zc3 := ZN.out w6 _ _ (.inl rfl) b5) | (have zc3 := ZN.out w6 _ _ (.inr rfl) b5) | (have zc3 := ZN.out w6 _ _ zc_three b5) | skip))))
                go_wp2_with fail
                refine hK.out _ _ ?_ (fun hHeld => ?_)
                · (try dsimp only)
                  first | assumption | (exact keep_alloc hg (by assumption)) | (exact keep_call hg (by assumption) b5)
                clear hK K
                try simp only [Act.put, List.setIfInBounds_toArray, List.set_cons_zero, List.set_cons_succ]
                refine wpAnyH_take (i := 17) (oi := { dst := Option.some 78, op := Go.Op.binOp Go.BinOp.eql 9 (Go.Operand.tmp 75) (Go.Operand.tmp 77) 9, type := 4, pos := "law.go:201", after := #[{ on := 14, ground := Go.Ground.data }, { on := 16, ground := Go.Ground.data }, { on := 5, ground := Go.Ground.guard }], guard := Option.some (5, Bool.true) }) (v := ?_) rfl (by kernel_rfl) (by kernel_rfl) (by kernel_rfl) (fun _ _ _ h => h) (Or.inl ⟨by rfl, ?_⟩) (by assumption) ?_
                rotate_left
                · (intro w hSw; (try dsimp only at hSw); go_simp; all_goals (with_reducible rfl))
                try simp only [Act.put, List.setIfInBounds_toArray, List.set_cons_zero, List.set_cons_succ]
                refine wpAnyH_take (i := 18) (oi := { dst := Option.some 79, op := Go.Op.pick (Go.Operand.tmp 66) (Go.Operand.tmp 78) (Go.Operand.const (Go.Value.bool Bool.false)), type := 4, pos := "law.go:201", after := #[{ on := 5, ground := Go.Ground.data }, { on := 17, ground := Go.Ground.data }], guard := Option.none }) (v := ?_) rfl (by kernel_rfl) (by kernel_rfl) (by kernel_rfl) (fun _ _ _ h => h) (Or.inl ⟨by rfl, ?_⟩) (by assumption) ?_
                rotate_left
                · (intro w hSw; (try dsimp only at hSw); go_simp; all_goals (with_reducible rfl))
                try simp only [Act.put, List.setIfInBounds_toArray, List.set_cons_zero, List.set_cons_succ]
                refine wpAnyH_take (i := 19) (oi := { dst := Option.some 12, op := Go.Op.assign (Go.Operand.tmp 79), type := 4, pos := "law.go:201", after := #[{ on := 18, ground := Go.Ground.data }, { on := 14, ground := Go.Ground.chain }, { on := 0, ground := Go.Ground.phase }, { on := 1, ground := Go.Ground.phase }, { on := 2, ground := Go.Ground.phase }, { on := 3, ground := Go.Ground.phase }, { on := 4, ground := Go.Ground.phase }, { on := 5, ground := Go.Ground.phase }, { on := 6, ground := Go.Ground.phase }, { on := 7, ground := Go.Ground.phase }, { on := 8, ground := Go.Ground.phase }, { on := 9, ground := Go.Ground.phase }, { on := 10, ground := Go.Ground.phase }, { on := 11, ground := Go.Ground.phase }, { on := 12, ground := Go.Ground.phase }, { on := 13, ground := Go.Ground.phase }, { on := 14, ground := Go.Ground.phase }, { on := 15, ground := Go.Ground.phase }, { on := 16, ground := Go.Ground.phase }, { on := 17, ground := Go.Ground.phase }, { on := 18, ground := Go.Ground.phase }], guard := Option.none }) (v := ?_) rfl (by kernel_rfl) (by kernel_rfl) (by kernel_rfl) (fun _ _ _ h => h) (Or.inl ⟨by rfl, ?_⟩) (by assumption) ?_
                rotate_left
                · (intro w hSw; (try dsimp only at hSw); go_simp; all_goals (with_reducible rfl))
                try simp only [Act.put, List.setIfInBounds_toArray, List.set_cons_zero, List.set_cons_succ]
                refine wpAnyH_done (by kernel_rfl) ?_ _
                rcases HCZ.out with hc | ⟨hc, hz⟩
                · subst hc
                  go_wp2_with (go_at_call 35; refine (CL.out _ ?hb).mono ?_; (case hb => exact (‹Below w6.heap.size w6 _ ∧ _›).1); rintro e w9 ⟨rfl, b9⟩)
                  go_ret
                  exact ⟨rfl, below_to (fin_of K6.out (by assumption)) b9⟩
                · subst hc
                  subst hz
                  go_wp2_with (go_at_call 35; refine (CL.out _ ?hb).mono ?_; (case hb => exact (‹Below w6.heap.size w6 _ ∧ _›).1); rintro e w9 ⟨rfl, b9⟩)
                  go_ret
                  exact ⟨rfl, below_to (fin_of K6.out (by assumption)) b9⟩
              exact AllReadyH.nil
            exact AllReadyH.nil
          refine AllReadyH.cons (o := { dst := Option.some 77, op := Go.Op.convert 43 9 (Go.Operand.tmp 76), type := 9, pos := "law.go:201", after := #[{ on := 15, ground := Go.Ground.data }, { on := 5, ground := Go.Ground.guard }], guard := Option.some (5, Bool.true) }) rfl (fun K hK => ?_) ?_
          · go_simp
            refine hK.out _ _ ?_ (fun hHeld => ?_)
            · (try dsimp only)
              first | assumption | (exact keep_alloc hg (by assumption)) | (exact keep_call hg (by assumption) b5)
            clear hK K
            try simp only [Act.put, List.setIfInBounds_toArray, List.set_cons_zero, List.set_cons_succ]
            refine wpAnyH_ready (rs := [11]) (by kernel_rfl) (by simp) ?_
            refine AllReadyH.cons (o := { dst := Option.some 72, op := Go.Op.call { callee := Go.Callee.builtin Go.Builtin.min, args := #[Go.Operand.tmp 69, Go.Operand.tmp 71], argTypes := #[3, 3] }, type := 3, pos := "law.go:201", after := #[{ on := 8, ground := Go.Ground.data }, { on := 10, ground := Go.Ground.data }, { on := 5, ground := Go.Ground.guard }], guard := Option.some (5, Bool.true) }) rfl (fun K hK => ?_) ?_
            · go_simp
              refine hK.out _ _ ?_ (fun hHeld => ?_)
              · (try dsimp only)
                first | assumption | (exact keep_alloc hg (by assumption)) | (exact keep_call hg (by assumption) b5)
              clear hK K
              try simp only [Act.put, List.setIfInBounds_toArray, List.set_cons_zero, List.set_cons_succ]
              refine wpAnyH_take (i := 12) (oi := { dst := Option.some 73, op := Go.Op.indexAddr 26 (Go.Operand.tmp 67) (Go.Operand.tmp 72), type := 0, pos := "law.go:201", after := #[{ on := 6, ground := Go.Ground.data }, { on := 11, ground := Go.Ground.data }, { on := 5, ground := Go.Ground.guard }], guard := Option.some (5, Bool.true) }) (v := ?_) rfl (by kernel_rfl) (by kernel_rfl) (by kernel_rfl) (fun _ _ _ h => h) (Or.inl ⟨by rfl, ?_⟩) (by assumption) ?_
              rotate_left
              · (intro w hSw; (try dsimp only at hSw); go_simp; all_goals (with_reducible rfl))
              try simp only [Act.put, List.setIfInBounds_toArray, List.set_cons_zero, List.set_cons_succ]
              refine wpAnyH_take (i := 13) (oi := { dst := Option.some 74, op := Go.Op.load 9 (Go.Operand.tmp 73), type := 9, pos := "law.go:201", after := #[{ on := 12, ground := Go.Ground.data }, { on := 5, ground := Go.Ground.guard }], guard := Option.some (5, Bool.true) }) (v := ?_) rfl (by kernel_rfl) (by kernel_rfl) (by kernel_rfl) (fun _ _ _ h => h) (Or.inl ⟨by rfl, ?_⟩) (by assumption) ?_
              rotate_left
              · (intro w hSw; (try dsimp only at hSw); go_simp; all_goals (with_reducible rfl))
              try simp only [Act.put, List.setIfInBounds_toArray, List.set_cons_zero, List.set_cons_succ]
              refine wpAnyH_ready (rs := [14]) (by kernel_rfl) (by simp) ?_
              refine AllReadyH.cons (o := { dst := Option.some 75, op := Go.Op.call { callee := Go.Callee.value (Go.Operand.func 13), args := #[Go.Operand.tmp 74], argTypes := #[9] }, type := 9, pos := "law.go:201", after := #[{ on := 13, ground := Go.Ground.data }, { on := 5, ground := Go.Ground.chain }, { on := 5, ground := Go.Ground.guard }], guard := Option.some (5, Bool.true) }) rfl (fun K hK => ?_) ?_
              · go_simp
                ((go_at_call 13; ((with_reducible refine Calls.mono (HSUM.out _ ?hb1) ?_); (case hb1 => (first | assumption | exact (‹Below w6.heap.size w6 _ ∧ _›).1)); rintro e w7 ⟨rfl, b5⟩; (first | (have zc3 := ZN.out w6 _ _ (.inl rfl) b5) | (have zc3 := ZN.out w6 _ _ (.inr rfl) b5) | (have zc3 := ZN.out w6 _ _ zc_three b5) | skip))))
                go_wp2_with fail
                refine hK.out _ _ ?_ (fun hHeld => ?_)
                · (try dsimp only)
                  first | assumption | (exact keep_alloc hg (by assumption)) | (exact keep_call hg (by assumption) b5)
                clear hK K
                try simp only [Act.put, List.setIfInBounds_toArray, List.set_cons_zero, List.set_cons_succ]
                refine wpAnyH_take (i := 17) (oi := { dst := Option.some 78, op := Go.Op.binOp Go.BinOp.eql 9 (Go.Operand.tmp 75) (Go.Operand.tmp 77) 9, type := 4, pos := "law.go:201", after := #[{ on := 14, ground := Go.Ground.data }, { on := 16, ground := Go.Ground.data }, { on := 5, ground := Go.Ground.guard }], guard := Option.some (5, Bool.true) }) (v := ?_) rfl (by kernel_rfl) (by kernel_rfl) (by kernel_rfl) (fun _ _ _ h => h) (Or.inl ⟨by rfl, ?_⟩) (by assumption) ?_
                rotate_left
                · (intro w hSw; (try dsimp only at hSw); go_simp; all_goals (with_reducible rfl))
                try simp only [Act.put, List.setIfInBounds_toArray, List.set_cons_zero, List.set_cons_succ]
                refine wpAnyH_take (i := 18) (oi := { dst := Option.some 79, op := Go.Op.pick (Go.Operand.tmp 66) (Go.Operand.tmp 78) (Go.Operand.const (Go.Value.bool Bool.false)), type := 4, pos := "law.go:201", after := #[{ on := 5, ground := Go.Ground.data }, { on := 17, ground := Go.Ground.data }], guard := Option.none }) (v := ?_) rfl (by kernel_rfl) (by kernel_rfl) (by kernel_rfl) (fun _ _ _ h => h) (Or.inl ⟨by rfl, ?_⟩) (by assumption) ?_
                rotate_left
                · (intro w hSw; (try dsimp only at hSw); go_simp; all_goals (with_reducible rfl))
                try simp only [Act.put, List.setIfInBounds_toArray, List.set_cons_zero, List.set_cons_succ]
                refine wpAnyH_take (i := 19) (oi := { dst := Option.some 12, op := Go.Op.assign (Go.Operand.tmp 79), type := 4, pos := "law.go:201", after := #[{ on := 18, ground := Go.Ground.data }, { on := 14, ground := Go.Ground.chain }, { on := 0, ground := Go.Ground.phase }, { on := 1, ground := Go.Ground.phase }, { on := 2, ground := Go.Ground.phase }, { on := 3, ground := Go.Ground.phase }, { on := 4, ground := Go.Ground.phase }, { on := 5, ground := Go.Ground.phase }, { on := 6, ground := Go.Ground.phase }, { on := 7, ground := Go.Ground.phase }, { on := 8, ground := Go.Ground.phase }, { on := 9, ground := Go.Ground.phase }, { on := 10, ground := Go.Ground.phase }, { on := 11, ground := Go.Ground.phase }, { on := 12, ground := Go.Ground.phase }, { on := 13, ground := Go.Ground.phase }, { on := 14, ground := Go.Ground.phase }, { on := 15, ground := Go.Ground.phase }, { on := 16, ground := Go.Ground.phase }, { on := 17, ground := Go.Ground.phase }, { on := 18, ground := Go.Ground.phase }], guard := Option.none }) (v := ?_) rfl (by kernel_rfl) (by kernel_rfl) (by kernel_rfl) (fun _ _ _ h => h) (Or.inl ⟨by rfl, ?_⟩) (by assumption) ?_
                rotate_left
                · (intro w hSw; (try dsimp only at hSw); go_simp; all_goals (with_reducible rfl))
                try simp only [Act.put, List.setIfInBounds_toArray, List.set_cons_zero, List.set_cons_succ]
                refine wpAnyH_done (by kernel_rfl) ?_ _
                rcases HCZ.out with hc | ⟨hc, hz⟩
                · subst hc
                  go_wp2_with (go_at_call 35; refine (CL.out _ ?hb).mono ?_; (case hb => exact (‹Below w6.heap.size w6 _ ∧ _›).1); rintro e w9 ⟨rfl, b9⟩)
                  go_ret
                  exact ⟨rfl, below_to (fin_of K6.out (by assumption)) b9⟩
                · subst hc
                  subst hz
                  go_wp2_with (go_at_call 35; refine (CL.out _ ?hb).mono ?_; (case hb => exact (‹Below w6.heap.size w6 _ ∧ _›).1); rintro e w9 ⟨rfl, b9⟩)
                  go_ret
                  exact ⟨rfl, below_to (fin_of K6.out (by assumption)) b9⟩
              exact AllReadyH.nil
            exact AllReadyH.nil
          exact AllReadyH.nil
        exact AllReadyH.nil
      · have hcz : Dm.col X Y = true := HRES.out.elim id (fun h => absurd hlt h.1)
        have hcl := fun u (hu : Below w6.heap.size w6 u) => col_any (.slice Ax nx cx) (.slice Ay ny cy) X Y u (HSX.out u (below_to E6.out hu)) (HSY.out u (below_to F6.out hu)) HXS.out HYS.out (TT.out _ (below_to K6.out hu))
        rw [hcz] at hcl
        have CL := Lib.hid hcl
        clear HRES hcz hcl
        subst hlt
        have hd : decide (nx < nx) = false := by simp
        have hd0 : decide ((nx : Int) < (nx : Int)) = false := by simp
        have hne : ((nx : Int) != (nx : Int)) = false := by simp
        go_wp2
        go_quiet (fail)
        go_wp2_with (go_at_call 35; refine (CL.out _ ?hb).mono ?_; (case hb => exact belowN (Below.refl _ _) _); rintro e w9 ⟨rfl, b9⟩)
        go_ret
        exact ⟨rfl, below_to (belowN K6.out _) b9⟩
      · have hd : decide (nx < ny) = false := by simp; omega
        have hd0 : decide ((nx : Int) < (ny : Int)) = false := by simp; omega
        obtain ⟨g, off, rfl, hg, hcell⟩ := long_cell (HSX.out _ E6.out) (k := ny) (by rw [NX.out]; omega)
        obtain ⟨s, hs⟩ : ∃ s, X[ny]'(by rw [NX.out]; omega) = s := ⟨_, rfl⟩
        have hsl : s.length ≤ 10000 := by rw [← hs]; exact HXS.out _ (List.getElem_mem _)
        have hz : Dm.col X Y = true ∨ (Dm.sha s == zero32) = true := by
          rcases HRES.out with h | ⟨_, s', h1, h2⟩
          · exact .inl h
          · right
            rw [NX.out, NY.out, if_neg (by omega), Nat.min_eq_right (by omega), List.getElem?_eq_getElem (by rw [NX.out]; omega), hs] at h1
            injection h1 with h1
            subst h1
            simpa using h2
        rw [hs] at hcell
        have hsum := fun u (hu : Below w6.heap.size w6 u) => sum_any s u (by omega) (TT.out _ (below_to K6.out hu))
        obtain ⟨S, hS⟩ : ∃ S, bs s = S := ⟨_, rfl⟩
        obtain ⟨D, hD⟩ : ∃ D, bs (Dm.sha s) = D := ⟨_, rfl⟩
        obtain ⟨Z, hZ⟩ : ∃ Z, bs zero32 = Z := ⟨_, rfl⟩
        have heqv : (D.toList == Z.toList) = (Dm.sha s == zero32) := by rw [← hD, ← hZ, bs_eqb]
        obtain ⟨z, hz0⟩ : ∃ z, (Dm.sha s == zero32) = z := ⟨_, rfl⟩
        rw [hz0] at heqv hz
        unfold strOf at hcell hsum
        rw [hS] at hcell hsum; rw [hD] at hsum
        have HSUM := Lib.hid hsum; have HZ := Lib.hid hz
        have hmk : ∀ w, (Instr.makeSlice 43 (.int .i64 32) (.int .i64 32)).run Tryd.prog w = .ok (.slice (some ⟨w.heap.size, 0, none⟩) 32 32) (w.alloc (.cells c32 5)) := fun _ => by kernel_rfl
        have zc1 : ∀ w : World, Sem.run Tryd.prog (Go.convert 43 9 (.slice (some ⟨w.heap.size, 0, none⟩) 32 32)) (w.alloc (.cells c32 5)) = .ok (.string Z) (w.alloc (.cells c32 5)) := fun w => hZ ▸ zero_conv w
        have zc2 : ∀ w : World, Sem.run Tryd.prog (Go.convert 43 9 (.slice (some ⟨w.heap.size, 0, none⟩) 32 32)) (w.alloc (.cells c32 5)).drew = .ok (.string Z) (w.alloc (.cells c32 5)).drew := fun w => hZ ▸ zero_conv_drew w
        have hmin := fun (w : World) => run_min2 (P := Tryd.prog) (w := w) #[3, 3] 3 .i64 .i64 nx ny ny (by omega)
        have ZN := Lib.hid (show ∀ (w u v : World), (u = w.alloc (.cells c32 5) ∨ u = (w.alloc (.cells c32 5)).drew) → Below u.heap.size u v → Sem.run Tryd.prog (Go.convert 43 9 (.slice (some ⟨w.heap.size, 0, none⟩) 32 32)) v = .ok (.string Z) v from fun w u v hu hb => hZ ▸ zero_conv_next hu hb)
        have hne : ((nx : Int) != (ny : Int)) = true := by simp; omega
        have i1 : (0 : Int) ≤ (ny : Int) := by omega
        have i2 : (ny : Int) < (nx : Int) := by omega
        have hcl := fun u (hu : Below w6.heap.size w6 u) => col_any (.slice (some ⟨g, off, none⟩) nx cx) (.slice Ay ny cy) X Y u (HSX.out u (below_to E6.out hu)) (HSY.out u (below_to F6.out hu)) HXS.out HYS.out (TT.out _ (below_to K6.out hu))
        have hcz : Dm.col X Y = true ∨ (Dm.col X Y = false ∧ z = true) := by
          rcases hz with h | h
          · exact .inl h
          · cases e : Dm.col X Y with
            | true => exact .inl rfl
            | false => exact .inr ⟨rfl, h⟩
        obtain ⟨c, hc0⟩ : ∃ c, Dm.col X Y = c := ⟨_, rfl⟩
        rw [hc0] at hcl hcz
        have CL := Lib.hid hcl; have HCZ := Lib.hid hcz
        clear hsum hz hs hS hD hZ hz0 HZ hc0 hcl hcz HRES
        go_wp2
        refine wp_region_held_drew (S := fun w' => Below w6.heap.size w6 w' ∧ w'.cell? ⟨g, off + ny, none⟩ = some (.string S)) (by kernel_rfl) ⟨Below.drew (Below.refl _ _), hcell⟩ (fun hHeld => ?_)
        refine wpAnyH_take (i := 0) (oi := { dst := Option.some 61, op := Go.Op.move (Go.Operand.tmp 6), type := 26, pos := "law.go:201", after := #[], guard := Option.none }) (v := ?_) rfl (by kernel_rfl) (by kernel_rfl) (by kernel_rfl) (fun _ _ _ h => h) (Or.inl ⟨by rfl, ?_⟩) (by assumption) ?_
        rotate_left
        · (intro w hSw; (try dsimp only at hSw); go_simp; all_goals (with_reducible rfl))
        try simp only [Act.put, List.setIfInBounds_toArray, List.set_cons_zero, List.set_cons_succ]
        refine wpAnyH_take (i := 1) (oi := { dst := Option.some 62, op := Go.Op.call { callee := Go.Callee.builtin Go.Builtin.len, args := #[Go.Operand.tmp 61], argTypes := #[26] }, type := 3, pos := "law.go:201", after := #[{ on := 0, ground := Go.Ground.data }], guard := Option.none }) (v := ?_) rfl (by kernel_rfl) (by kernel_rfl) (by kernel_rfl) (fun _ _ _ h => h) (Or.inl ⟨by rfl, ?_⟩) (by assumption) ?_
        rotate_left
        · (intro w hSw; (try dsimp only at hSw); go_simp; all_goals (with_reducible rfl))
        try simp only [Act.put, List.setIfInBounds_toArray, List.set_cons_zero, List.set_cons_succ]
        refine wpAnyH_take (i := 2) (oi := { dst := Option.some 63, op := Go.Op.move (Go.Operand.tmp 8), type := 26, pos := "law.go:201", after := #[], guard := Option.none }) (v := ?_) rfl (by kernel_rfl) (by kernel_rfl) (by kernel_rfl) (fun _ _ _ h => h) (Or.inl ⟨by rfl, ?_⟩) (by assumption) ?_
        rotate_left
        · (intro w hSw; (try dsimp only at hSw); go_simp; all_goals (with_reducible rfl))
        try simp only [Act.put, List.setIfInBounds_toArray, List.set_cons_zero, List.set_cons_succ]
        refine wpAnyH_take (i := 3) (oi := { dst := Option.some 64, op := Go.Op.call { callee := Go.Callee.builtin Go.Builtin.len, args := #[Go.Operand.tmp 63], argTypes := #[26] }, type := 3, pos := "law.go:201", after := #[{ on := 2, ground := Go.Ground.data }], guard := Option.none }) (v := ?_) rfl (by kernel_rfl) (by kernel_rfl) (by kernel_rfl) (fun _ _ _ h => h) (Or.inl ⟨by rfl, ?_⟩) (by assumption) ?_
        rotate_left
        · (intro w hSw; (try dsimp only at hSw); go_simp; all_goals (with_reducible rfl))
        try simp only [Act.put, List.setIfInBounds_toArray, List.set_cons_zero, List.set_cons_succ]
        refine wpAnyH_take (i := 4) (oi := { dst := Option.some 65, op := Go.Op.binOp Go.BinOp.neq 3 (Go.Operand.tmp 62) (Go.Operand.tmp 64) 3, type := 4, pos := "law.go:201", after := #[{ on := 1, ground := Go.Ground.data }, { on := 3, ground := Go.Ground.data }], guard := Option.none }) (v := ?_) rfl (by kernel_rfl) (by kernel_rfl) (by kernel_rfl) (fun _ _ _ h => h) (Or.inl ⟨by rfl, ?_⟩) (by assumption) ?_
        rotate_left
        · (intro w hSw; (try dsimp only at hSw); go_simp; all_goals (with_reducible rfl))
        try simp only [Act.put, List.setIfInBounds_toArray, List.set_cons_zero, List.set_cons_succ]
        refine wpAnyH_take (i := 5) (oi := { dst := Option.some 66, op := Go.Op.move (Go.Operand.tmp 65), type := 4, pos := "law.go:201", after := #[{ on := 4, ground := Go.Ground.data }], guard := Option.none }) (v := ?_) rfl (by kernel_rfl) (by kernel_rfl) (by kernel_rfl) (fun _ _ _ h => h) (Or.inl ⟨by rfl, ?_⟩) (by assumption) ?_
        rotate_left
        · (intro w hSw; (try dsimp only at hSw); go_simp; all_goals (with_reducible rfl))
        try simp only [Act.put, List.setIfInBounds_toArray, List.set_cons_zero, List.set_cons_succ]
        refine wpAnyH_take (i := 6) (oi := { dst := Option.some 67, op := Go.Op.move (Go.Operand.tmp 11), type := 26, pos := "law.go:201", after := #[{ on := 5, ground := Go.Ground.guard }], guard := Option.some (5, Bool.true) }) (v := ?_) rfl (by kernel_rfl) (by kernel_rfl) (by kernel_rfl) (fun _ _ _ h => h) (Or.inl ⟨by rfl, ?_⟩) (by assumption) ?_
        rotate_left
        · (intro w hSw; (try dsimp only at hSw); go_simp; all_goals (with_reducible rfl))
        try simp only [Act.put, List.setIfInBounds_toArray, List.set_cons_zero, List.set_cons_succ]
        refine wpAnyH_take (i := 7) (oi := { dst := Option.some 68, op := Go.Op.move (Go.Operand.tmp 6), type := 26, pos := "law.go:201", after := #[{ on := 5, ground := Go.Ground.guard }], guard := Option.some (5, Bool.true) }) (v := ?_) rfl (by kernel_rfl) (by kernel_rfl) (by kernel_rfl) (fun _ _ _ h => h) (Or.inl ⟨by rfl, ?_⟩) (by assumption) ?_
        rotate_left
        · (intro w hSw; (try dsimp only at hSw); go_simp; all_goals (with_reducible rfl))
        try simp only [Act.put, List.setIfInBounds_toArray, List.set_cons_zero, List.set_cons_succ]
        refine wpAnyH_take (i := 8) (oi := { dst := Option.some 69, op := Go.Op.call { callee := Go.Callee.builtin Go.Builtin.len, args := #[Go.Operand.tmp 68], argTypes := #[26] }, type := 3, pos := "law.go:201", after := #[{ on := 7, ground := Go.Ground.data }, { on := 5, ground := Go.Ground.guard }], guard := Option.some (5, Bool.true) }) (v := ?_) rfl (by kernel_rfl) (by kernel_rfl) (by kernel_rfl) (fun _ _ _ h => h) (Or.inl ⟨by rfl, ?_⟩) (by assumption) ?_
        rotate_left
        · (intro w hSw; (try dsimp only at hSw); go_simp; all_goals (with_reducible rfl))
        try simp only [Act.put, List.setIfInBounds_toArray, List.set_cons_zero, List.set_cons_succ]
        refine wpAnyH_take (i := 9) (oi := { dst := Option.some 70, op := Go.Op.move (Go.Operand.tmp 8), type := 26, pos := "law.go:201", after := #[{ on := 5, ground := Go.Ground.guard }], guard := Option.some (5, Bool.true) }) (v := ?_) rfl (by kernel_rfl) (by kernel_rfl) (by kernel_rfl) (fun _ _ _ h => h) (Or.inl ⟨by rfl, ?_⟩) (by assumption) ?_
        rotate_left
        · (intro w hSw; (try dsimp only at hSw); go_simp; all_goals (with_reducible rfl))
        try simp only [Act.put, List.setIfInBounds_toArray, List.set_cons_zero, List.set_cons_succ]
        refine wpAnyH_take (i := 10) (oi := { dst := Option.some 71, op := Go.Op.call { callee := Go.Callee.builtin Go.Builtin.len, args := #[Go.Operand.tmp 70], argTypes := #[26] }, type := 3, pos := "law.go:201", after := #[{ on := 9, ground := Go.Ground.data }, { on := 5, ground := Go.Ground.guard }], guard := Option.some (5, Bool.true) }) (v := ?_) rfl (by kernel_rfl) (by kernel_rfl) (by kernel_rfl) (fun _ _ _ h => h) (Or.inl ⟨by rfl, ?_⟩) (by assumption) ?_
        rotate_left
        · (intro w hSw; (try dsimp only at hSw); go_simp; all_goals (with_reducible rfl))
        try simp only [Act.put, List.setIfInBounds_toArray, List.set_cons_zero, List.set_cons_succ]
        refine wpAnyH_ready (rs := [11, 15]) (by kernel_rfl) (by simp) ?_
        refine AllReadyH.cons (o := { dst := Option.some 72, op := Go.Op.call { callee := Go.Callee.builtin Go.Builtin.min, args := #[Go.Operand.tmp 69, Go.Operand.tmp 71], argTypes := #[3, 3] }, type := 3, pos := "law.go:201", after := #[{ on := 8, ground := Go.Ground.data }, { on := 10, ground := Go.Ground.data }, { on := 5, ground := Go.Ground.guard }], guard := Option.some (5, Bool.true) }) rfl (fun K hK => ?_) ?_
        · go_simp
          refine hK.out _ _ ?_ (fun hHeld => ?_)
          · (try dsimp only)
            first | assumption | (exact keep_alloc hg (by assumption)) | (exact keep_call hg (by assumption) b5)
          clear hK K
          try simp only [Act.put, List.setIfInBounds_toArray, List.set_cons_zero, List.set_cons_succ]
          refine wpAnyH_take (i := 12) (oi := { dst := Option.some 73, op := Go.Op.indexAddr 26 (Go.Operand.tmp 67) (Go.Operand.tmp 72), type := 0, pos := "law.go:201", after := #[{ on := 6, ground := Go.Ground.data }, { on := 11, ground := Go.Ground.data }, { on := 5, ground := Go.Ground.guard }], guard := Option.some (5, Bool.true) }) (v := ?_) rfl (by kernel_rfl) (by kernel_rfl) (by kernel_rfl) (fun _ _ _ h => h) (Or.inl ⟨by rfl, ?_⟩) (by assumption) ?_
          rotate_left
          · (intro w hSw; (try dsimp only at hSw); go_simp; all_goals (with_reducible rfl))
          try simp only [Act.put, List.setIfInBounds_toArray, List.set_cons_zero, List.set_cons_succ]
          refine wpAnyH_take (i := 13) (oi := { dst := Option.some 74, op := Go.Op.load 9 (Go.Operand.tmp 73), type := 9, pos := "law.go:201", after := #[{ on := 12, ground := Go.Ground.data }, { on := 5, ground := Go.Ground.guard }], guard := Option.some (5, Bool.true) }) (v := ?_) rfl (by kernel_rfl) (by kernel_rfl) (by kernel_rfl) (fun _ _ _ h => h) (Or.inl ⟨by rfl, ?_⟩) (by assumption) ?_
          rotate_left
          · (intro w hSw; (try dsimp only at hSw); go_simp; all_goals (with_reducible rfl))
          try simp only [Act.put, List.setIfInBounds_toArray, List.set_cons_zero, List.set_cons_succ]
          refine wpAnyH_ready (rs := [14, 15]) (by kernel_rfl) (by simp) ?_
          refine AllReadyH.cons (o := { dst := Option.some 75, op := Go.Op.call { callee := Go.Callee.value (Go.Operand.func 13), args := #[Go.Operand.tmp 74], argTypes := #[9] }, type := 9, pos := "law.go:201", after := #[{ on := 13, ground := Go.Ground.data }, { on := 5, ground := Go.Ground.chain }, { on := 5, ground := Go.Ground.guard }], guard := Option.some (5, Bool.true) }) rfl (fun K hK => ?_) ?_
          · go_simp
            ((go_at_call 13; ((with_reducible refine Calls.mono (HSUM.out _ ?hb1) ?_); (case hb1 => (first | assumption | exact (‹Below w6.heap.size w6 _ ∧ _›).1)); rintro e w7 ⟨rfl, b5⟩; (first | (have zc3 := ZN.out w6 _ _ (.inl rfl) b5) | (have zc3 := ZN.out w6 _ _ (.inr rfl) b5) | (have zc3 := ZN.out w6 _ _ zc_three b5) | skip))))
            go_wp2_with fail
            refine hK.out _ _ ?_ (fun hHeld => ?_)
            · (try dsimp only)
              first | assumption | (exact keep_alloc hg (by assumption)) | (exact keep_call hg (by assumption) b5)
            clear hK K
            try simp only [Act.put, List.setIfInBounds_toArray, List.set_cons_zero, List.set_cons_succ]
            refine wpAnyH_ready (rs := [15]) (by kernel_rfl) (by simp) ?_
            refine AllReadyH.cons (o := { dst := Option.some 76, op := Go.Op.makeSlice 43 (Go.Operand.const (Go.Value.int Go.IntKind.i64 32)) (Go.Operand.const (Go.Value.int Go.IntKind.i64 32)), type := 43, pos := "law.go:201", after := #[{ on := 5, ground := Go.Ground.guard }], guard := Option.some (5, Bool.true) }) rfl (fun K hK => ?_) ?_
            · go_simp
              refine hK.out _ _ ?_ (fun hHeld => ?_)
              · (try dsimp only)
                first | assumption | (exact keep_alloc hg (by assumption)) | (exact keep_call hg (by assumption) b5)
              clear hK K
              try simp only [Act.put, List.setIfInBounds_toArray, List.set_cons_zero, List.set_cons_succ]
              refine wpAnyH_ready (rs := [16]) (by kernel_rfl) (by simp) ?_
              refine AllReadyH.cons (o := { dst := Option.some 77, op := Go.Op.convert 43 9 (Go.Operand.tmp 76), type := 9, pos := "law.go:201", after := #[{ on := 15, ground := Go.Ground.data }, { on := 5, ground := Go.Ground.guard }], guard := Option.some (5, Bool.true) }) rfl (fun K hK => ?_) ?_
              · go_simp
                refine hK.out _ _ ?_ (fun hHeld => ?_)
                · (try dsimp only)
                  first | assumption | (exact keep_alloc hg (by assumption)) | (exact keep_call hg (by assumption) b5)
                clear hK K
                try simp only [Act.put, List.setIfInBounds_toArray, List.set_cons_zero, List.set_cons_succ]
                refine wpAnyH_take (i := 17) (oi := { dst := Option.some 78, op := Go.Op.binOp Go.BinOp.eql 9 (Go.Operand.tmp 75) (Go.Operand.tmp 77) 9, type := 4, pos := "law.go:201", after := #[{ on := 14, ground := Go.Ground.data }, { on := 16, ground := Go.Ground.data }, { on := 5, ground := Go.Ground.guard }], guard := Option.some (5, Bool.true) }) (v := ?_) rfl (by kernel_rfl) (by kernel_rfl) (by kernel_rfl) (fun _ _ _ h => h) (Or.inl ⟨by rfl, ?_⟩) (by assumption) ?_
                rotate_left
                · (intro w hSw; (try dsimp only at hSw); go_simp; all_goals (with_reducible rfl))
                try simp only [Act.put, List.setIfInBounds_toArray, List.set_cons_zero, List.set_cons_succ]
                refine wpAnyH_take (i := 18) (oi := { dst := Option.some 79, op := Go.Op.pick (Go.Operand.tmp 66) (Go.Operand.tmp 78) (Go.Operand.const (Go.Value.bool Bool.false)), type := 4, pos := "law.go:201", after := #[{ on := 5, ground := Go.Ground.data }, { on := 17, ground := Go.Ground.data }], guard := Option.none }) (v := ?_) rfl (by kernel_rfl) (by kernel_rfl) (by kernel_rfl) (fun _ _ _ h => h) (Or.inl ⟨by rfl, ?_⟩) (by assumption) ?_
                rotate_left
                · (intro w hSw; (try dsimp only at hSw); go_simp; all_goals (with_reducible rfl))
                try simp only [Act.put, List.setIfInBounds_toArray, List.set_cons_zero, List.set_cons_succ]
                refine wpAnyH_take (i := 19) (oi := { dst := Option.some 12, op := Go.Op.assign (Go.Operand.tmp 79), type := 4, pos := "law.go:201", after := #[{ on := 18, ground := Go.Ground.data }, { on := 14, ground := Go.Ground.chain }, { on := 0, ground := Go.Ground.phase }, { on := 1, ground := Go.Ground.phase }, { on := 2, ground := Go.Ground.phase }, { on := 3, ground := Go.Ground.phase }, { on := 4, ground := Go.Ground.phase }, { on := 5, ground := Go.Ground.phase }, { on := 6, ground := Go.Ground.phase }, { on := 7, ground := Go.Ground.phase }, { on := 8, ground := Go.Ground.phase }, { on := 9, ground := Go.Ground.phase }, { on := 10, ground := Go.Ground.phase }, { on := 11, ground := Go.Ground.phase }, { on := 12, ground := Go.Ground.phase }, { on := 13, ground := Go.Ground.phase }, { on := 14, ground := Go.Ground.phase }, { on := 15, ground := Go.Ground.phase }, { on := 16, ground := Go.Ground.phase }, { on := 17, ground := Go.Ground.phase }, { on := 18, ground := Go.Ground.phase }], guard := Option.none }) (v := ?_) rfl (by kernel_rfl) (by kernel_rfl) (by kernel_rfl) (fun _ _ _ h => h) (Or.inl ⟨by rfl, ?_⟩) (by assumption) ?_
                rotate_left
                · (intro w hSw; (try dsimp only at hSw); go_simp; all_goals (with_reducible rfl))
                try simp only [Act.put, List.setIfInBounds_toArray, List.set_cons_zero, List.set_cons_succ]
                refine wpAnyH_done (by kernel_rfl) ?_ _
                rcases HCZ.out with hc | ⟨hc, hz⟩
                · subst hc
                  go_wp2_with (go_at_call 35; refine (CL.out _ ?hb).mono ?_; (case hb => exact (‹Below w6.heap.size w6 _ ∧ _›).1); rintro e w9 ⟨rfl, b9⟩)
                  go_ret
                  exact ⟨rfl, below_to (fin_of K6.out (by assumption)) b9⟩
                · subst hc
                  subst hz
                  go_wp2_with (go_at_call 35; refine (CL.out _ ?hb).mono ?_; (case hb => exact (‹Below w6.heap.size w6 _ ∧ _›).1); rintro e w9 ⟨rfl, b9⟩)
                  go_ret
                  exact ⟨rfl, below_to (fin_of K6.out (by assumption)) b9⟩
              exact AllReadyH.nil
            exact AllReadyH.nil
          refine AllReadyH.cons (o := { dst := Option.some 76, op := Go.Op.makeSlice 43 (Go.Operand.const (Go.Value.int Go.IntKind.i64 32)) (Go.Operand.const (Go.Value.int Go.IntKind.i64 32)), type := 43, pos := "law.go:201", after := #[{ on := 5, ground := Go.Ground.guard }], guard := Option.some (5, Bool.true) }) rfl (fun K hK => ?_) ?_
          · go_simp
            refine hK.out _ _ ?_ (fun hHeld => ?_)
            · (try dsimp only)
              first | assumption | (exact keep_alloc hg (by assumption)) | (exact keep_call hg (by assumption) b5)
            clear hK K
            try simp only [Act.put, List.setIfInBounds_toArray, List.set_cons_zero, List.set_cons_succ]
            refine wpAnyH_ready (rs := [14, 16]) (by kernel_rfl) (by simp) ?_
            refine AllReadyH.cons (o := { dst := Option.some 75, op := Go.Op.call { callee := Go.Callee.value (Go.Operand.func 13), args := #[Go.Operand.tmp 74], argTypes := #[9] }, type := 9, pos := "law.go:201", after := #[{ on := 13, ground := Go.Ground.data }, { on := 5, ground := Go.Ground.chain }, { on := 5, ground := Go.Ground.guard }], guard := Option.some (5, Bool.true) }) rfl (fun K hK => ?_) ?_
            · go_simp
              ((go_at_call 13; ((with_reducible refine Calls.mono (HSUM.out _ ?hb1) ?_); (case hb1 => (first | assumption | exact (‹Below w6.heap.size w6 _ ∧ _›).1)); rintro e w7 ⟨rfl, b5⟩; (first | (have zc3 := ZN.out w6 _ _ (.inl rfl) b5) | (have zc3 := ZN.out w6 _ _ (.inr rfl) b5) | (have zc3 := ZN.out w6 _ _ zc_three b5) | skip))))
              go_wp2_with fail
              refine hK.out _ _ ?_ (fun hHeld => ?_)
              · (try dsimp only)
                first | assumption | (exact keep_alloc hg (by assumption)) | (exact keep_call hg (by assumption) b5)
              clear hK K
              try simp only [Act.put, List.setIfInBounds_toArray, List.set_cons_zero, List.set_cons_succ]
              refine wpAnyH_ready (rs := [16]) (by kernel_rfl) (by simp) ?_
              refine AllReadyH.cons (o := { dst := Option.some 77, op := Go.Op.convert 43 9 (Go.Operand.tmp 76), type := 9, pos := "law.go:201", after := #[{ on := 15, ground := Go.Ground.data }, { on := 5, ground := Go.Ground.guard }], guard := Option.some (5, Bool.true) }) rfl (fun K hK => ?_) ?_
              · go_simp
                refine hK.out _ _ ?_ (fun hHeld => ?_)
                · (try dsimp only)
                  first | assumption | (exact keep_alloc hg (by assumption)) | (exact keep_call hg (by assumption) b5)
                clear hK K
                try simp only [Act.put, List.setIfInBounds_toArray, List.set_cons_zero, List.set_cons_succ]
                refine wpAnyH_take (i := 17) (oi := { dst := Option.some 78, op := Go.Op.binOp Go.BinOp.eql 9 (Go.Operand.tmp 75) (Go.Operand.tmp 77) 9, type := 4, pos := "law.go:201", after := #[{ on := 14, ground := Go.Ground.data }, { on := 16, ground := Go.Ground.data }, { on := 5, ground := Go.Ground.guard }], guard := Option.some (5, Bool.true) }) (v := ?_) rfl (by kernel_rfl) (by kernel_rfl) (by kernel_rfl) (fun _ _ _ h => h) (Or.inl ⟨by rfl, ?_⟩) (by assumption) ?_
                rotate_left
                · (intro w hSw; (try dsimp only at hSw); go_simp; all_goals (with_reducible rfl))
                try simp only [Act.put, List.setIfInBounds_toArray, List.set_cons_zero, List.set_cons_succ]
                refine wpAnyH_take (i := 18) (oi := { dst := Option.some 79, op := Go.Op.pick (Go.Operand.tmp 66) (Go.Operand.tmp 78) (Go.Operand.const (Go.Value.bool Bool.false)), type := 4, pos := "law.go:201", after := #[{ on := 5, ground := Go.Ground.data }, { on := 17, ground := Go.Ground.data }], guard := Option.none }) (v := ?_) rfl (by kernel_rfl) (by kernel_rfl) (by kernel_rfl) (fun _ _ _ h => h) (Or.inl ⟨by rfl, ?_⟩) (by assumption) ?_
                rotate_left
                · (intro w hSw; (try dsimp only at hSw); go_simp; all_goals (with_reducible rfl))
                try simp only [Act.put, List.setIfInBounds_toArray, List.set_cons_zero, List.set_cons_succ]
                refine wpAnyH_take (i := 19) (oi := { dst := Option.some 12, op := Go.Op.assign (Go.Operand.tmp 79), type := 4, pos := "law.go:201", after := #[{ on := 18, ground := Go.Ground.data }, { on := 14, ground := Go.Ground.chain }, { on := 0, ground := Go.Ground.phase }, { on := 1, ground := Go.Ground.phase }, { on := 2, ground := Go.Ground.phase }, { on := 3, ground := Go.Ground.phase }, { on := 4, ground := Go.Ground.phase }, { on := 5, ground := Go.Ground.phase }, { on := 6, ground := Go.Ground.phase }, { on := 7, ground := Go.Ground.phase }, { on := 8, ground := Go.Ground.phase }, { on := 9, ground := Go.Ground.phase }, { on := 10, ground := Go.Ground.phase }, { on := 11, ground := Go.Ground.phase }, { on := 12, ground := Go.Ground.phase }, { on := 13, ground := Go.Ground.phase }, { on := 14, ground := Go.Ground.phase }, { on := 15, ground := Go.Ground.phase }, { on := 16, ground := Go.Ground.phase }, { on := 17, ground := Go.Ground.phase }, { on := 18, ground := Go.Ground.phase }], guard := Option.none }) (v := ?_) rfl (by kernel_rfl) (by kernel_rfl) (by kernel_rfl) (fun _ _ _ h => h) (Or.inl ⟨by rfl, ?_⟩) (by assumption) ?_
                rotate_left
                · (intro w hSw; (try dsimp only at hSw); go_simp; all_goals (with_reducible rfl))
                try simp only [Act.put, List.setIfInBounds_toArray, List.set_cons_zero, List.set_cons_succ]
                refine wpAnyH_done (by kernel_rfl) ?_ _
                rcases HCZ.out with hc | ⟨hc, hz⟩
                · subst hc
                  go_wp2_with (go_at_call 35; refine (CL.out _ ?hb).mono ?_; (case hb => exact (‹Below w6.heap.size w6 _ ∧ _›).1); rintro e w9 ⟨rfl, b9⟩)
                  go_ret
                  exact ⟨rfl, below_to (fin_of K6.out (by assumption)) b9⟩
                · subst hc
                  subst hz
                  go_wp2_with (go_at_call 35; refine (CL.out _ ?hb).mono ?_; (case hb => exact (‹Below w6.heap.size w6 _ ∧ _›).1); rintro e w9 ⟨rfl, b9⟩)
                  go_ret
                  exact ⟨rfl, below_to (fin_of K6.out (by assumption)) b9⟩
              exact AllReadyH.nil
            refine AllReadyH.cons (o := { dst := Option.some 77, op := Go.Op.convert 43 9 (Go.Operand.tmp 76), type := 9, pos := "law.go:201", after := #[{ on := 15, ground := Go.Ground.data }, { on := 5, ground := Go.Ground.guard }], guard := Option.some (5, Bool.true) }) rfl (fun K hK => ?_) ?_
            · go_simp
              refine hK.out _ _ ?_ (fun hHeld => ?_)
              · (try dsimp only)
                first | assumption | (exact keep_alloc hg (by assumption)) | (exact keep_call hg (by assumption) b5)
              clear hK K
              try simp only [Act.put, List.setIfInBounds_toArray, List.set_cons_zero, List.set_cons_succ]
              refine wpAnyH_ready (rs := [14]) (by kernel_rfl) (by simp) ?_
              refine AllReadyH.cons (o := { dst := Option.some 75, op := Go.Op.call { callee := Go.Callee.value (Go.Operand.func 13), args := #[Go.Operand.tmp 74], argTypes := #[9] }, type := 9, pos := "law.go:201", after := #[{ on := 13, ground := Go.Ground.data }, { on := 5, ground := Go.Ground.chain }, { on := 5, ground := Go.Ground.guard }], guard := Option.some (5, Bool.true) }) rfl (fun K hK => ?_) ?_
              · go_simp
                ((go_at_call 13; ((with_reducible refine Calls.mono (HSUM.out _ ?hb1) ?_); (case hb1 => (first | assumption | exact (‹Below w6.heap.size w6 _ ∧ _›).1)); rintro e w7 ⟨rfl, b5⟩; (first | (have zc3 := ZN.out w6 _ _ (.inl rfl) b5) | (have zc3 := ZN.out w6 _ _ (.inr rfl) b5) | (have zc3 := ZN.out w6 _ _ zc_three b5) | skip))))
                go_wp2_with fail
                refine hK.out _ _ ?_ (fun hHeld => ?_)
                · (try dsimp only)
                  first | assumption | (exact keep_alloc hg (by assumption)) | (exact keep_call hg (by assumption) b5)
                clear hK K
                try simp only [Act.put, List.setIfInBounds_toArray, List.set_cons_zero, List.set_cons_succ]
                refine wpAnyH_take (i := 17) (oi := { dst := Option.some 78, op := Go.Op.binOp Go.BinOp.eql 9 (Go.Operand.tmp 75) (Go.Operand.tmp 77) 9, type := 4, pos := "law.go:201", after := #[{ on := 14, ground := Go.Ground.data }, { on := 16, ground := Go.Ground.data }, { on := 5, ground := Go.Ground.guard }], guard := Option.some (5, Bool.true) }) (v := ?_) rfl (by kernel_rfl) (by kernel_rfl) (by kernel_rfl) (fun _ _ _ h => h) (Or.inl ⟨by rfl, ?_⟩) (by assumption) ?_
                rotate_left
                · (intro w hSw; (try dsimp only at hSw); go_simp; all_goals (with_reducible rfl))
                try simp only [Act.put, List.setIfInBounds_toArray, List.set_cons_zero, List.set_cons_succ]
                refine wpAnyH_take (i := 18) (oi := { dst := Option.some 79, op := Go.Op.pick (Go.Operand.tmp 66) (Go.Operand.tmp 78) (Go.Operand.const (Go.Value.bool Bool.false)), type := 4, pos := "law.go:201", after := #[{ on := 5, ground := Go.Ground.data }, { on := 17, ground := Go.Ground.data }], guard := Option.none }) (v := ?_) rfl (by kernel_rfl) (by kernel_rfl) (by kernel_rfl) (fun _ _ _ h => h) (Or.inl ⟨by rfl, ?_⟩) (by assumption) ?_
                rotate_left
                · (intro w hSw; (try dsimp only at hSw); go_simp; all_goals (with_reducible rfl))
                try simp only [Act.put, List.setIfInBounds_toArray, List.set_cons_zero, List.set_cons_succ]
                refine wpAnyH_take (i := 19) (oi := { dst := Option.some 12, op := Go.Op.assign (Go.Operand.tmp 79), type := 4, pos := "law.go:201", after := #[{ on := 18, ground := Go.Ground.data }, { on := 14, ground := Go.Ground.chain }, { on := 0, ground := Go.Ground.phase }, { on := 1, ground := Go.Ground.phase }, { on := 2, ground := Go.Ground.phase }, { on := 3, ground := Go.Ground.phase }, { on := 4, ground := Go.Ground.phase }, { on := 5, ground := Go.Ground.phase }, { on := 6, ground := Go.Ground.phase }, { on := 7, ground := Go.Ground.phase }, { on := 8, ground := Go.Ground.phase }, { on := 9, ground := Go.Ground.phase }, { on := 10, ground := Go.Ground.phase }, { on := 11, ground := Go.Ground.phase }, { on := 12, ground := Go.Ground.phase }, { on := 13, ground := Go.Ground.phase }, { on := 14, ground := Go.Ground.phase }, { on := 15, ground := Go.Ground.phase }, { on := 16, ground := Go.Ground.phase }, { on := 17, ground := Go.Ground.phase }, { on := 18, ground := Go.Ground.phase }], guard := Option.none }) (v := ?_) rfl (by kernel_rfl) (by kernel_rfl) (by kernel_rfl) (fun _ _ _ h => h) (Or.inl ⟨by rfl, ?_⟩) (by assumption) ?_
                rotate_left
                · (intro w hSw; (try dsimp only at hSw); go_simp; all_goals (with_reducible rfl))
                try simp only [Act.put, List.setIfInBounds_toArray, List.set_cons_zero, List.set_cons_succ]
                refine wpAnyH_done (by kernel_rfl) ?_ _
                rcases HCZ.out with hc | ⟨hc, hz⟩
                · subst hc
                  go_wp2_with (go_at_call 35; refine (CL.out _ ?hb).mono ?_; (case hb => exact (‹Below w6.heap.size w6 _ ∧ _›).1); rintro e w9 ⟨rfl, b9⟩)
                  go_ret
                  exact ⟨rfl, below_to (fin_of K6.out (by assumption)) b9⟩
                · subst hc
                  subst hz
                  go_wp2_with (go_at_call 35; refine (CL.out _ ?hb).mono ?_; (case hb => exact (‹Below w6.heap.size w6 _ ∧ _›).1); rintro e w9 ⟨rfl, b9⟩)
                  go_ret
                  exact ⟨rfl, below_to (fin_of K6.out (by assumption)) b9⟩
              exact AllReadyH.nil
            exact AllReadyH.nil
          exact AllReadyH.nil
        refine AllReadyH.cons (o := { dst := Option.some 76, op := Go.Op.makeSlice 43 (Go.Operand.const (Go.Value.int Go.IntKind.i64 32)) (Go.Operand.const (Go.Value.int Go.IntKind.i64 32)), type := 43, pos := "law.go:201", after := #[{ on := 5, ground := Go.Ground.guard }], guard := Option.some (5, Bool.true) }) rfl (fun K hK => ?_) ?_
        · go_simp
          refine hK.out _ _ ?_ (fun hHeld => ?_)
          · (try dsimp only)
            first | assumption | (exact keep_alloc hg (by assumption)) | (exact keep_call hg (by assumption) b5)
          clear hK K
          try simp only [Act.put, List.setIfInBounds_toArray, List.set_cons_zero, List.set_cons_succ]
          refine wpAnyH_ready (rs := [11, 16]) (by kernel_rfl) (by simp) ?_
          refine AllReadyH.cons (o := { dst := Option.some 72, op := Go.Op.call { callee := Go.Callee.builtin Go.Builtin.min, args := #[Go.Operand.tmp 69, Go.Operand.tmp 71], argTypes := #[3, 3] }, type := 3, pos := "law.go:201", after := #[{ on := 8, ground := Go.Ground.data }, { on := 10, ground := Go.Ground.data }, { on := 5, ground := Go.Ground.guard }], guard := Option.some (5, Bool.true) }) rfl (fun K hK => ?_) ?_
          · go_simp
            refine hK.out _ _ ?_ (fun hHeld => ?_)
            · (try dsimp only)
              first | assumption | (exact keep_alloc hg (by assumption)) | (exact keep_call hg (by assumption) b5)
            clear hK K
            try simp only [Act.put, List.setIfInBounds_toArray, List.set_cons_zero, List.set_cons_succ]
            refine wpAnyH_take (i := 12) (oi := { dst := Option.some 73, op := Go.Op.indexAddr 26 (Go.Operand.tmp 67) (Go.Operand.tmp 72), type := 0, pos := "law.go:201", after := #[{ on := 6, ground := Go.Ground.data }, { on := 11, ground := Go.Ground.data }, { on := 5, ground := Go.Ground.guard }], guard := Option.some (5, Bool.true) }) (v := ?_) rfl (by kernel_rfl) (by kernel_rfl) (by kernel_rfl) (fun _ _ _ h => h) (Or.inl ⟨by rfl, ?_⟩) (by assumption) ?_
            rotate_left
            · (intro w hSw; (try dsimp only at hSw); go_simp; all_goals (with_reducible rfl))
            try simp only [Act.put, List.setIfInBounds_toArray, List.set_cons_zero, List.set_cons_succ]
            refine wpAnyH_take (i := 13) (oi := { dst := Option.some 74, op := Go.Op.load 9 (Go.Operand.tmp 73), type := 9, pos := "law.go:201", after := #[{ on := 12, ground := Go.Ground.data }, { on := 5, ground := Go.Ground.guard }], guard := Option.some (5, Bool.true) }) (v := ?_) rfl (by kernel_rfl) (by kernel_rfl) (by kernel_rfl) (fun _ _ _ h => h) (Or.inl ⟨by rfl, ?_⟩) (by assumption) ?_
            rotate_left
            · (intro w hSw; (try dsimp only at hSw); go_simp; all_goals (with_reducible rfl))
            try simp only [Act.put, List.setIfInBounds_toArray, List.set_cons_zero, List.set_cons_succ]
            refine wpAnyH_ready (rs := [14, 16]) (by kernel_rfl) (by simp) ?_
            refine AllReadyH.cons (o := { dst := Option.some 75, op := Go.Op.call { callee := Go.Callee.value (Go.Operand.func 13), args := #[Go.Operand.tmp 74], argTypes := #[9] }, type := 9, pos := "law.go:201", after := #[{ on := 13, ground := Go.Ground.data }, { on := 5, ground := Go.Ground.chain }, { on := 5, ground := Go.Ground.guard }], guard := Option.some (5, Bool.true) }) rfl (fun K hK => ?_) ?_
            · go_simp
              ((go_at_call 13; ((with_reducible refine Calls.mono (HSUM.out _ ?hb1) ?_); (case hb1 => (first | assumption | exact (‹Below w6.heap.size w6 _ ∧ _›).1)); rintro e w7 ⟨rfl, b5⟩; (first | (have zc3 := ZN.out w6 _ _ (.inl rfl) b5) | (have zc3 := ZN.out w6 _ _ (.inr rfl) b5) | (have zc3 := ZN.out w6 _ _ zc_three b5) | skip))))
              go_wp2_with fail
              refine hK.out _ _ ?_ (fun hHeld => ?_)
              · (try dsimp only)
                first | assumption | (exact keep_alloc hg (by assumption)) | (exact keep_call hg (by assumption) b5)
              clear hK K
              try simp only [Act.put, List.setIfInBounds_toArray, List.set_cons_zero, List.set_cons_succ]
              refine wpAnyH_ready (rs := [16]) (by kernel_rfl) (by simp) ?_
              refine AllReadyH.cons (o := { dst := Option.some 77, op := Go.Op.convert 43 9 (Go.Operand.tmp 76), type := 9, pos := "law.go:201", after := #[{ on := 15, ground := Go.Ground.data }, { on := 5, ground := Go.Ground.guard }], guard := Option.some (5, Bool.true) }) rfl (fun K hK => ?_) ?_
              · go_simp
                refine hK.out _ _ ?_ (fun hHeld => ?_)
                · (try dsimp only)
                  first | assumption | (exact keep_alloc hg (by assumption)) | (exact keep_call hg (by assumption) b5)
                clear hK K
                try simp only [Act.put, List.setIfInBounds_toArray, List.set_cons_zero, List.set_cons_succ]
                refine wpAnyH_take (i := 17) (oi := { dst := Option.some 78, op := Go.Op.binOp Go.BinOp.eql 9 (Go.Operand.tmp 75) (Go.Operand.tmp 77) 9, type := 4, pos := "law.go:201", after := #[{ on := 14, ground := Go.Ground.data }, { on := 16, ground := Go.Ground.data }, { on := 5, ground := Go.Ground.guard }], guard := Option.some (5, Bool.true) }) (v := ?_) rfl (by kernel_rfl) (by kernel_rfl) (by kernel_rfl) (fun _ _ _ h => h) (Or.inl ⟨by rfl, ?_⟩) (by assumption) ?_
                rotate_left
                · (intro w hSw; (try dsimp only at hSw); go_simp; all_goals (with_reducible rfl))
                try simp only [Act.put, List.setIfInBounds_toArray, List.set_cons_zero, List.set_cons_succ]
                refine wpAnyH_take (i := 18) (oi := { dst := Option.some 79, op := Go.Op.pick (Go.Operand.tmp 66) (Go.Operand.tmp 78) (Go.Operand.const (Go.Value.bool Bool.false)), type := 4, pos := "law.go:201", after := #[{ on := 5, ground := Go.Ground.data }, { on := 17, ground := Go.Ground.data }], guard := Option.none }) (v := ?_) rfl (by kernel_rfl) (by kernel_rfl) (by kernel_rfl) (fun _ _ _ h => h) (Or.inl ⟨by rfl, ?_⟩) (by assumption) ?_
                rotate_left
                · (intro w hSw; (try dsimp only at hSw); go_simp; all_goals (with_reducible rfl))
                try simp only [Act.put, List.setIfInBounds_toArray, List.set_cons_zero, List.set_cons_succ]
                refine wpAnyH_take (i := 19) (oi := { dst := Option.some 12, op := Go.Op.assign (Go.Operand.tmp 79), type := 4, pos := "law.go:201", after := #[{ on := 18, ground := Go.Ground.data }, { on := 14, ground := Go.Ground.chain }, { on := 0, ground := Go.Ground.phase }, { on := 1, ground := Go.Ground.phase }, { on := 2, ground := Go.Ground.phase }, { on := 3, ground := Go.Ground.phase }, { on := 4, ground := Go.Ground.phase }, { on := 5, ground := Go.Ground.phase }, { on := 6, ground := Go.Ground.phase }, { on := 7, ground := Go.Ground.phase }, { on := 8, ground := Go.Ground.phase }, { on := 9, ground := Go.Ground.phase }, { on := 10, ground := Go.Ground.phase }, { on := 11, ground := Go.Ground.phase }, { on := 12, ground := Go.Ground.phase }, { on := 13, ground := Go.Ground.phase }, { on := 14, ground := Go.Ground.phase }, { on := 15, ground := Go.Ground.phase }, { on := 16, ground := Go.Ground.phase }, { on := 17, ground := Go.Ground.phase }, { on := 18, ground := Go.Ground.phase }], guard := Option.none }) (v := ?_) rfl (by kernel_rfl) (by kernel_rfl) (by kernel_rfl) (fun _ _ _ h => h) (Or.inl ⟨by rfl, ?_⟩) (by assumption) ?_
                rotate_left
                · (intro w hSw; (try dsimp only at hSw); go_simp; all_goals (with_reducible rfl))
                try simp only [Act.put, List.setIfInBounds_toArray, List.set_cons_zero, List.set_cons_succ]
                refine wpAnyH_done (by kernel_rfl) ?_ _
                rcases HCZ.out with hc | ⟨hc, hz⟩
                · subst hc
                  go_wp2_with (go_at_call 35; refine (CL.out _ ?hb).mono ?_; (case hb => exact (‹Below w6.heap.size w6 _ ∧ _›).1); rintro e w9 ⟨rfl, b9⟩)
                  go_ret
                  exact ⟨rfl, below_to (fin_of K6.out (by assumption)) b9⟩
                · subst hc
                  subst hz
                  go_wp2_with (go_at_call 35; refine (CL.out _ ?hb).mono ?_; (case hb => exact (‹Below w6.heap.size w6 _ ∧ _›).1); rintro e w9 ⟨rfl, b9⟩)
                  go_ret
                  exact ⟨rfl, below_to (fin_of K6.out (by assumption)) b9⟩
              exact AllReadyH.nil
            refine AllReadyH.cons (o := { dst := Option.some 77, op := Go.Op.convert 43 9 (Go.Operand.tmp 76), type := 9, pos := "law.go:201", after := #[{ on := 15, ground := Go.Ground.data }, { on := 5, ground := Go.Ground.guard }], guard := Option.some (5, Bool.true) }) rfl (fun K hK => ?_) ?_
            · go_simp
              refine hK.out _ _ ?_ (fun hHeld => ?_)
              · (try dsimp only)
                first | assumption | (exact keep_alloc hg (by assumption)) | (exact keep_call hg (by assumption) b5)
              clear hK K
              try simp only [Act.put, List.setIfInBounds_toArray, List.set_cons_zero, List.set_cons_succ]
              refine wpAnyH_ready (rs := [14]) (by kernel_rfl) (by simp) ?_
              refine AllReadyH.cons (o := { dst := Option.some 75, op := Go.Op.call { callee := Go.Callee.value (Go.Operand.func 13), args := #[Go.Operand.tmp 74], argTypes := #[9] }, type := 9, pos := "law.go:201", after := #[{ on := 13, ground := Go.Ground.data }, { on := 5, ground := Go.Ground.chain }, { on := 5, ground := Go.Ground.guard }], guard := Option.some (5, Bool.true) }) rfl (fun K hK => ?_) ?_
              · go_simp
                ((go_at_call 13; ((with_reducible refine Calls.mono (HSUM.out _ ?hb1) ?_); (case hb1 => (first | assumption | exact (‹Below w6.heap.size w6 _ ∧ _›).1)); rintro e w7 ⟨rfl, b5⟩; (first | (have zc3 := ZN.out w6 _ _ (.inl rfl) b5) | (have zc3 := ZN.out w6 _ _ (.inr rfl) b5) | (have zc3 := ZN.out w6 _ _ zc_three b5) | skip))))
                go_wp2_with fail
                refine hK.out _ _ ?_ (fun hHeld => ?_)
                · (try dsimp only)
                  first | assumption | (exact keep_alloc hg (by assumption)) | (exact keep_call hg (by assumption) b5)
                clear hK K
                try simp only [Act.put, List.setIfInBounds_toArray, List.set_cons_zero, List.set_cons_succ]
                refine wpAnyH_take (i := 17) (oi := { dst := Option.some 78, op := Go.Op.binOp Go.BinOp.eql 9 (Go.Operand.tmp 75) (Go.Operand.tmp 77) 9, type := 4, pos := "law.go:201", after := #[{ on := 14, ground := Go.Ground.data }, { on := 16, ground := Go.Ground.data }, { on := 5, ground := Go.Ground.guard }], guard := Option.some (5, Bool.true) }) (v := ?_) rfl (by kernel_rfl) (by kernel_rfl) (by kernel_rfl) (fun _ _ _ h => h) (Or.inl ⟨by rfl, ?_⟩) (by assumption) ?_
                rotate_left
                · (intro w hSw; (try dsimp only at hSw); go_simp; all_goals (with_reducible rfl))
                try simp only [Act.put, List.setIfInBounds_toArray, List.set_cons_zero, List.set_cons_succ]
                refine wpAnyH_take (i := 18) (oi := { dst := Option.some 79, op := Go.Op.pick (Go.Operand.tmp 66) (Go.Operand.tmp 78) (Go.Operand.const (Go.Value.bool Bool.false)), type := 4, pos := "law.go:201", after := #[{ on := 5, ground := Go.Ground.data }, { on := 17, ground := Go.Ground.data }], guard := Option.none }) (v := ?_) rfl (by kernel_rfl) (by kernel_rfl) (by kernel_rfl) (fun _ _ _ h => h) (Or.inl ⟨by rfl, ?_⟩) (by assumption) ?_
                rotate_left
                · (intro w hSw; (try dsimp only at hSw); go_simp; all_goals (with_reducible rfl))
                try simp only [Act.put, List.setIfInBounds_toArray, List.set_cons_zero, List.set_cons_succ]
                refine wpAnyH_take (i := 19) (oi := { dst := Option.some 12, op := Go.Op.assign (Go.Operand.tmp 79), type := 4, pos := "law.go:201", after := #[{ on := 18, ground := Go.Ground.data }, { on := 14, ground := Go.Ground.chain }, { on := 0, ground := Go.Ground.phase }, { on := 1, ground := Go.Ground.phase }, { on := 2, ground := Go.Ground.phase }, { on := 3, ground := Go.Ground.phase }, { on := 4, ground := Go.Ground.phase }, { on := 5, ground := Go.Ground.phase }, { on := 6, ground := Go.Ground.phase }, { on := 7, ground := Go.Ground.phase }, { on := 8, ground := Go.Ground.phase }, { on := 9, ground := Go.Ground.phase }, { on := 10, ground := Go.Ground.phase }, { on := 11, ground := Go.Ground.phase }, { on := 12, ground := Go.Ground.phase }, { on := 13, ground := Go.Ground.phase }, { on := 14, ground := Go.Ground.phase }, { on := 15, ground := Go.Ground.phase }, { on := 16, ground := Go.Ground.phase }, { on := 17, ground := Go.Ground.phase }, { on := 18, ground := Go.Ground.phase }], guard := Option.none }) (v := ?_) rfl (by kernel_rfl) (by kernel_rfl) (by kernel_rfl) (fun _ _ _ h => h) (Or.inl ⟨by rfl, ?_⟩) (by assumption) ?_
                rotate_left
                · (intro w hSw; (try dsimp only at hSw); go_simp; all_goals (with_reducible rfl))
                try simp only [Act.put, List.setIfInBounds_toArray, List.set_cons_zero, List.set_cons_succ]
                refine wpAnyH_done (by kernel_rfl) ?_ _
                rcases HCZ.out with hc | ⟨hc, hz⟩
                · subst hc
                  go_wp2_with (go_at_call 35; refine (CL.out _ ?hb).mono ?_; (case hb => exact (‹Below w6.heap.size w6 _ ∧ _›).1); rintro e w9 ⟨rfl, b9⟩)
                  go_ret
                  exact ⟨rfl, below_to (fin_of K6.out (by assumption)) b9⟩
                · subst hc
                  subst hz
                  go_wp2_with (go_at_call 35; refine (CL.out _ ?hb).mono ?_; (case hb => exact (‹Below w6.heap.size w6 _ ∧ _›).1); rintro e w9 ⟨rfl, b9⟩)
                  go_ret
                  exact ⟨rfl, below_to (fin_of K6.out (by assumption)) b9⟩
              exact AllReadyH.nil
            exact AllReadyH.nil
          refine AllReadyH.cons (o := { dst := Option.some 77, op := Go.Op.convert 43 9 (Go.Operand.tmp 76), type := 9, pos := "law.go:201", after := #[{ on := 15, ground := Go.Ground.data }, { on := 5, ground := Go.Ground.guard }], guard := Option.some (5, Bool.true) }) rfl (fun K hK => ?_) ?_
          · go_simp
            refine hK.out _ _ ?_ (fun hHeld => ?_)
            · (try dsimp only)
              first | assumption | (exact keep_alloc hg (by assumption)) | (exact keep_call hg (by assumption) b5)
            clear hK K
            try simp only [Act.put, List.setIfInBounds_toArray, List.set_cons_zero, List.set_cons_succ]
            refine wpAnyH_ready (rs := [11]) (by kernel_rfl) (by simp) ?_
            refine AllReadyH.cons (o := { dst := Option.some 72, op := Go.Op.call { callee := Go.Callee.builtin Go.Builtin.min, args := #[Go.Operand.tmp 69, Go.Operand.tmp 71], argTypes := #[3, 3] }, type := 3, pos := "law.go:201", after := #[{ on := 8, ground := Go.Ground.data }, { on := 10, ground := Go.Ground.data }, { on := 5, ground := Go.Ground.guard }], guard := Option.some (5, Bool.true) }) rfl (fun K hK => ?_) ?_
            · go_simp
              refine hK.out _ _ ?_ (fun hHeld => ?_)
              · (try dsimp only)
                first | assumption | (exact keep_alloc hg (by assumption)) | (exact keep_call hg (by assumption) b5)
              clear hK K
              try simp only [Act.put, List.setIfInBounds_toArray, List.set_cons_zero, List.set_cons_succ]
              refine wpAnyH_take (i := 12) (oi := { dst := Option.some 73, op := Go.Op.indexAddr 26 (Go.Operand.tmp 67) (Go.Operand.tmp 72), type := 0, pos := "law.go:201", after := #[{ on := 6, ground := Go.Ground.data }, { on := 11, ground := Go.Ground.data }, { on := 5, ground := Go.Ground.guard }], guard := Option.some (5, Bool.true) }) (v := ?_) rfl (by kernel_rfl) (by kernel_rfl) (by kernel_rfl) (fun _ _ _ h => h) (Or.inl ⟨by rfl, ?_⟩) (by assumption) ?_
              rotate_left
              · (intro w hSw; (try dsimp only at hSw); go_simp; all_goals (with_reducible rfl))
              try simp only [Act.put, List.setIfInBounds_toArray, List.set_cons_zero, List.set_cons_succ]
              refine wpAnyH_take (i := 13) (oi := { dst := Option.some 74, op := Go.Op.load 9 (Go.Operand.tmp 73), type := 9, pos := "law.go:201", after := #[{ on := 12, ground := Go.Ground.data }, { on := 5, ground := Go.Ground.guard }], guard := Option.some (5, Bool.true) }) (v := ?_) rfl (by kernel_rfl) (by kernel_rfl) (by kernel_rfl) (fun _ _ _ h => h) (Or.inl ⟨by rfl, ?_⟩) (by assumption) ?_
              rotate_left
              · (intro w hSw; (try dsimp only at hSw); go_simp; all_goals (with_reducible rfl))
              try simp only [Act.put, List.setIfInBounds_toArray, List.set_cons_zero, List.set_cons_succ]
              refine wpAnyH_ready (rs := [14]) (by kernel_rfl) (by simp) ?_
              refine AllReadyH.cons (o := { dst := Option.some 75, op := Go.Op.call { callee := Go.Callee.value (Go.Operand.func 13), args := #[Go.Operand.tmp 74], argTypes := #[9] }, type := 9, pos := "law.go:201", after := #[{ on := 13, ground := Go.Ground.data }, { on := 5, ground := Go.Ground.chain }, { on := 5, ground := Go.Ground.guard }], guard := Option.some (5, Bool.true) }) rfl (fun K hK => ?_) ?_
              · go_simp
                ((go_at_call 13; ((with_reducible refine Calls.mono (HSUM.out _ ?hb1) ?_); (case hb1 => (first | assumption | exact (‹Below w6.heap.size w6 _ ∧ _›).1)); rintro e w7 ⟨rfl, b5⟩; (first | (have zc3 := ZN.out w6 _ _ (.inl rfl) b5) | (have zc3 := ZN.out w6 _ _ (.inr rfl) b5) | (have zc3 := ZN.out w6 _ _ zc_three b5) | skip))))
                go_wp2_with fail
                refine hK.out _ _ ?_ (fun hHeld => ?_)
                · (try dsimp only)
                  first | assumption | (exact keep_alloc hg (by assumption)) | (exact keep_call hg (by assumption) b5)
                clear hK K
                try simp only [Act.put, List.setIfInBounds_toArray, List.set_cons_zero, List.set_cons_succ]
                refine wpAnyH_take (i := 17) (oi := { dst := Option.some 78, op := Go.Op.binOp Go.BinOp.eql 9 (Go.Operand.tmp 75) (Go.Operand.tmp 77) 9, type := 4, pos := "law.go:201", after := #[{ on := 14, ground := Go.Ground.data }, { on := 16, ground := Go.Ground.data }, { on := 5, ground := Go.Ground.guard }], guard := Option.some (5, Bool.true) }) (v := ?_) rfl (by kernel_rfl) (by kernel_rfl) (by kernel_rfl) (fun _ _ _ h => h) (Or.inl ⟨by rfl, ?_⟩) (by assumption) ?_
                rotate_left
                · (intro w hSw; (try dsimp only at hSw); go_simp; all_goals (with_reducible rfl))
                try simp only [Act.put, List.setIfInBounds_toArray, List.set_cons_zero, List.set_cons_succ]
                refine wpAnyH_take (i := 18) (oi := { dst := Option.some 79, op := Go.Op.pick (Go.Operand.tmp 66) (Go.Operand.tmp 78) (Go.Operand.const (Go.Value.bool Bool.false)), type := 4, pos := "law.go:201", after := #[{ on := 5, ground := Go.Ground.data }, { on := 17, ground := Go.Ground.data }], guard := Option.none }) (v := ?_) rfl (by kernel_rfl) (by kernel_rfl) (by kernel_rfl) (fun _ _ _ h => h) (Or.inl ⟨by rfl, ?_⟩) (by assumption) ?_
                rotate_left
                · (intro w hSw; (try dsimp only at hSw); go_simp; all_goals (with_reducible rfl))
                try simp only [Act.put, List.setIfInBounds_toArray, List.set_cons_zero, List.set_cons_succ]
                refine wpAnyH_take (i := 19) (oi := { dst := Option.some 12, op := Go.Op.assign (Go.Operand.tmp 79), type := 4, pos := "law.go:201", after := #[{ on := 18, ground := Go.Ground.data }, { on := 14, ground := Go.Ground.chain }, { on := 0, ground := Go.Ground.phase }, { on := 1, ground := Go.Ground.phase }, { on := 2, ground := Go.Ground.phase }, { on := 3, ground := Go.Ground.phase }, { on := 4, ground := Go.Ground.phase }, { on := 5, ground := Go.Ground.phase }, { on := 6, ground := Go.Ground.phase }, { on := 7, ground := Go.Ground.phase }, { on := 8, ground := Go.Ground.phase }, { on := 9, ground := Go.Ground.phase }, { on := 10, ground := Go.Ground.phase }, { on := 11, ground := Go.Ground.phase }, { on := 12, ground := Go.Ground.phase }, { on := 13, ground := Go.Ground.phase }, { on := 14, ground := Go.Ground.phase }, { on := 15, ground := Go.Ground.phase }, { on := 16, ground := Go.Ground.phase }, { on := 17, ground := Go.Ground.phase }, { on := 18, ground := Go.Ground.phase }], guard := Option.none }) (v := ?_) rfl (by kernel_rfl) (by kernel_rfl) (by kernel_rfl) (fun _ _ _ h => h) (Or.inl ⟨by rfl, ?_⟩) (by assumption) ?_
                rotate_left
                · (intro w hSw; (try dsimp only at hSw); go_simp; all_goals (with_reducible rfl))
                try simp only [Act.put, List.setIfInBounds_toArray, List.set_cons_zero, List.set_cons_succ]
                refine wpAnyH_done (by kernel_rfl) ?_ _
                rcases HCZ.out with hc | ⟨hc, hz⟩
                · subst hc
                  go_wp2_with (go_at_call 35; refine (CL.out _ ?hb).mono ?_; (case hb => exact (‹Below w6.heap.size w6 _ ∧ _›).1); rintro e w9 ⟨rfl, b9⟩)
                  go_ret
                  exact ⟨rfl, below_to (fin_of K6.out (by assumption)) b9⟩
                · subst hc
                  subst hz
                  go_wp2_with (go_at_call 35; refine (CL.out _ ?hb).mono ?_; (case hb => exact (‹Below w6.heap.size w6 _ ∧ _›).1); rintro e w9 ⟨rfl, b9⟩)
                  go_ret
                  exact ⟨rfl, below_to (fin_of K6.out (by assumption)) b9⟩
              exact AllReadyH.nil
            exact AllReadyH.nil
          exact AllReadyH.nil
        exact AllReadyH.nil
    · have hHK : (H.toList == K.toList) = false := by rw [← HH.out, ← HK.out, bs_eqb]; simpa using hhk
      have hHK2 : (H.toList != K.toList) = true := by rw [bne, hHK]; rfl
      clear hpq hhk
      go_wp2
      go_ret
      exact ⟨rfl, K6.out⟩
end Go.Proofs.YtnbhhhbmeafkaaaDoor
