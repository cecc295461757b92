/- A region whose order is drawn, inside a round of a loop over an iterator, by the plain walk of all orders; appending a text; writeRuns. -/
import Derived.OrdersHeld
import Derived.OrdersIn
import Derived.RangeFuncCalls
import Derived.Test.YtmfpaankkoaoaaaDoorVh
namespace Go.Proofs.YtmfpaankkoaoaaaDoor
open Go.RowKit Go.Shelf
attribute [local go_sem] Oper.semAt_some
attribute [local go_sem ↓] append_appN

theorem upon_round {l n : Nat} {P : Program} {o : Oper} {a : Act} {next next' : Act → World → Prop} {Q : Exit → Act → World → Prop} {r : Result Next} (hn : ∀ a w, next a w → next' a w) (h : o.upon P a next Q r) : o.uponIn (Fence.wide.inRound l) n P a next' Q r := by
  cases r with
  | ok x w =>
    cases x with
    | value v => exact hn _ _ h
    | skip => exact hn _ _ h
    | defer d => exact hn _ _ h
    | enter f args =>
      refine ⟨(fun e => by cases e), CallsIn.inRound l (callsIn_wide.2 (Calls.mono h ?_))⟩
      intro e w' h'
      cases e with
      | returned v => exact hn _ _ h'
      | panicked c => exact h'
      | outgrown => exact h'
    | row r args =>
      refine ⟨(fun e => by cases e), fun c cs _ => ?_⟩
      obtain ⟨v, w', h1, h2⟩ := h c cs
      exact ⟨v, w', hn _ _ h1, stepsIn_wide.2 h2⟩
    | _ => exact False.elim h
  | halt x w =>
    cases x with
    | panic v => exact h
    | _ => exact False.elim h
def noDefer (ops : Array Oper) : Bool := ops.all fun o => match o.op with
  | .defer _ => false
  | _ => true
theorem noDefer_spec {ops : Array Oper} (h : noDefer ops = true) (i : Nat) (o : Oper) (ho : ops[i]? = some o) : ∀ c, o.op ≠ .defer c := by
  intro c e
  obtain ⟨hi, rfl⟩ := Array.getElem?_eq_some_iff.1 ho
  have := Array.all_eq_true.1 h i hi
  rw [e] at this
  cases this
theorem ops_round {l n : Nat} {P : Program} {ops : Array Oper} {Q : Exit → Act → World → Prop} (hd : noDefer ops = true) (hQ : ¬ LetsOut Q) : ∀ (order : List Nat) (a : Act) (w : World), wpOps P ops Q order a w → wpOpsIn (Fence.wide.inRound l) n P ops Q order a w
  | [], _, _, h => h
  | i :: rest, a, w, h => by
    unfold wpOps at h
    unfold wpOpsIn
    cases ho : ops[i]? with
    | none => rw [ho] at h; exact ops_round hd hQ rest a w h
    | some o =>
      rw [ho] at h
      dsimp only at h ⊢
      split
      · rename_i hw
        rw [if_pos hw] at h
        rcases h with h | ⟨_, h⟩
        · refine ⟨fun _ _ => trivial, ?_⟩
          rw [Oper.semAt_eq _ _ _ (noDefer_spec hd i o ho)]
          exact upon_round (ops_round hd hQ rest) h
        · exact absurd h hQ
      · rename_i hw
        rw [if_neg hw] at h
        exact ⟨fun _ _ => trivial, ops_round hd hQ rest _ w h⟩
theorem region_round {l n id : Nat} {P : Program} {ops : Array Oper} {S : World → Prop} {Q : Exit → Act → World → Prop} {a : Act} {w : World} (hm : P.follows .mixedOrders = true) (hd : noDefer ops = true) (hQ : ¬ LetsOut Q) (hS : S w.drew)
    (h : S w.drew → wpAnyH P .any ops Q S ops.size (Array.replicate ops.size false) a w.drew) : (Code.region id ops true).wpIn (Fence.wide.inRound l) n P Q a w :=
  wpIn_region_draw fun t => by
    simp only [Region.schedule, hm, Bool.true_or, if_true]
    exact ops_round hd hQ _ _ _ (wpAny_sound ops.size t _ a _ (wpAny_of_held _ _ _ _ (h hS)))

theorem infoStr : (Tryd.prog.info? 9).map (fun i => (i.zero, i.size, i.bytes)) = some (some (.string ⟨#[]⟩), 1, 16) := by kernel_rfl
theorem push_str {w : World} {B n : Nat} {v : Value} {xs : List Value} (x : ByteArray) (hrow : w.ownsRow B 9 1 v n xs) (hn : n ≤ 100000) (hB : B ≤ w.heap.size) :
    ∃ A c w', Sem.run Tryd.prog (appN #[49, 49] 49 #[v, .slice (some ⟨w.heap.size, 0, none⟩) 1 1]) (w.alloc (.cells #[.string x] 9)) = .ok (.slice A (n + 1) c) w' ∧
      w'.ownsRow B 9 1 (.slice A (n + 1) c) (n + 1) (xs ++ [.string x]) ∧ (w.alloc (.cells #[.string x] 9)).grownBy w' v.ownBlock ∧ ((Value.slice A (n + 1) c).ownBlock = v.ownBlock ∨ (Value.slice A (n + 1) c).ownBlock = some (w.heap.size + 1)) := by
  obtain ⟨i0, hi0, hz0, hz1, hz2⟩ := info_parts infoStr
  have hnews : ∀ j u, [Value.string x][j]? = some u → (w.alloc (.cells #[.string x] 9)).cell? (Addr.add ⟨w.heap.size, 0, none⟩ j) = some u := fun j u hj => by
    have hc := (Row.new w 9 #[.string x]).cell j
    have ha : Addr.add ⟨w.heap.size, 0, none⟩ j = ⟨w.heap.size, j, none⟩ := by rw [Addr.add_lit, Nat.zero_add]
    rw [ha, hc]; simpa using hj
  obtain ⟨v', w', hrun, hown, hgr, -, hloc⟩ := run_append_own_at (P := Tryd.prog) (w := w.alloc (.cells #[.string x] 9)) B 49 49 9 i0 (.string ⟨#[]⟩) 1 16 Tryd.underlying49 hi0 hz0 hz1 hz2 rfl (by decide)
    v n _ (hrow.alloc _) ⟨w.heap.size, 0, none⟩ 1 1 [.string x] rfl hnews (fun u hu => by simp at hu; subst hu; rfl) (by unfold maxLen; omega) (by omega) (by simp; omega)
  obtain ⟨A, c, rfl, -⟩ := own_slice hown
  rw [World.size_alloc] at hloc
  exact ⟨A, c, w', hrun, hown, hgr, hloc⟩
/-- What the texts of a set's runs are, put together. -/
def wrRuns (sep : List UInt8) (wr : Nat → Nat → ByteArray) (s : Nat) : ByteArray := ⟨(Lib.join (((rl 25 s 0).map fun r => wr r.1 r.2).map (·.data.toList)) sep).toArray⟩
theorem join_len (sep : List UInt8) (hs : sep.length ≤ 10) : ∀ (l : List (List UInt8)), (∀ x ∈ l, x.length ≤ 100) → (Lib.join l sep).length ≤ 110 * l.length
  | [], _ => by simp [Lib.join]
  | [x], h => by rw [Lib.join_one]; have := h x (by simp); simp; omega
  | x :: y :: l, h => by
    have ih := join_len sep hs (y :: l) (fun z hz => h z (by simp [hz]))
    have hx := h x (by simp)
    have e : Lib.join (x :: y :: l) sep = x ++ sep ++ Lib.join (y :: l) sep := by simp [Lib.join, List.intercalate]
    rw [e]
    simp only [List.length_append, List.length_cons] at ih ⊢
    omega
theorem rl_len (f s : Nat) : ∀ e, (rl f s e).length ≤ f := by
  induction f with
  | zero => intro e; simp [rl]
  | succ f ih => intro e; unfold rl; split <;> simp; exact ih _
/-- The blocks that a loop that collects texts writes: the box at Bt and the row that the slice in it owns. -/
def NoT (Bt : Nat) (X : World) (k : Nat) : Prop := k = Bt ∨ ∃ v, X.cell? ⟨Bt, 0, none⟩ = some v ∧ v.ownBlock = some k
structure TInv (w : World) (Bt Bf n0 : Nat) (fv : Value) (pre : List ByteArray) (Y : World) : Prop where
  row : ∃ v, Row Y Bt 49 #[v] ∧ Y.ownsRow n0 9 1 v pre.length (pre.map Value.string)
  f : Row Y Bf 83 #[fv]
  b : Below w.heap.size w Y
  s : n0 ≤ Y.heap.size
theorem own_turn {W W' : World} {B0 base size n : Nat} {e : TypeId} {v : Value} {xs : List Value} {row : Option Nat} (h : W.ownsRow base e size v n xs) (hg : W.grownBy W' row) (hr : Turns B0 W row) : W'.ownsRow base e size v n xs :=
  ⟨h.1, h.2.imp id fun ⟨g, cap, cur, e1, e2, e3, e4⟩ => ⟨g, cap, cur, e1, e2, (hg.block g (Array.getElem?_eq_some_iff.1 e3).1 (fun e => by
    obtain ⟨-, o, ho, hc⟩ := hr g e.symm
    rw [e3] at ho; cases ho; cases hc)).trans e3, e4⟩⟩
theorem own_cells {W : World} {base size n : Nat} {e : TypeId} {v : Value} {xs : List Value} (h : W.ownsRow base e size v n xs) {k : Nat} (hk : v.ownBlock = some k) : base ≤ k ∧ k < W.heap.size ∧ ∃ o : Obj, W.heap[k]? = some o ∧ o.isCells = true := by
  rcases h.2 with ⟨rfl, _⟩ | ⟨g, cap, cur, rfl, hb, hh, _⟩
  · cases hk
  · cases hk; exact ⟨hb, (Array.getElem?_eq_some_iff.1 hh).1, _, hh, rfl⟩
theorem TInv.turn {w Y Z : World} {Bt Bf n0 B0 : Nat} {fv : Value} {pre : List ByteArray} {row : Option Nat} (h : TInv w Bt Bf n0 fv pre Y) (hg : Y.grownBy Z row) (hr : Turns B0 Y row) (hB : w.heap.size ≤ B0) : TInv w Bt Bf n0 fv pre Z := by
  obtain ⟨⟨v, h1, h2⟩, h3, h4, h5⟩ := h
  exact ⟨⟨v, h1.turn hg hr, own_turn h2 hg hr⟩, h3.turn hg hr, h4.grown hg h4.size (fun k e => Nat.le_trans hB (hr k e).1), Nat.le_trans h5 hg.size⟩
theorem TInv.no {w Y : World} {Bt Bf n0 : Nat} {fv : Value} {pre : List ByteArray} (h : TInv w Bt Bf n0 fv pre Y) {k : Nat} (hk : NoT Bt Y k) : k = Bt ∨ (n0 ≤ k ∧ k < Y.heap.size ∧ ∃ o : Obj, Y.heap[k]? = some o ∧ o.isCells = true) := by
  obtain ⟨⟨v, h1, h2⟩, h3, h4, h5⟩ := h
  rcases hk with rfl | ⟨v', hv', hk⟩
  · exact .inl rfl
  · rw [h1.cell 0] at hv'; cases hv'
    exact .inr (own_cells h2 hk)
theorem NoT.turn {w Y Z : World} {Bt Bf n0 B0 : Nat} {fv : Value} {pre : List ByteArray} {row : Option Nat} {k : Nat} (h : TInv w Bt Bf n0 fv pre Y) (hg : Y.grownBy Z row) (hr : Turns B0 Y row) (hk : NoT Bt Z k) : NoT Bt Y k := by
  obtain ⟨⟨v, h1, h2⟩, h3, h4, h5⟩ := h
  refine hk.imp id ?_
  rintro ⟨v', hv', hk⟩
  rw [(h1.turn hg hr).cell 0] at hv'
  exact ⟨v', by rw [h1.cell 0]; exact hv', hk⟩
theorem cell_alloc_lt {w : World} {g i : Nat} {o : Obj} (h : g < w.heap.size) : (w.alloc o).cell? ⟨g, i, none⟩ = w.cell? ⟨g, i, none⟩ := by
  unfold World.cell?; rw [Below.heap_alloc w o g h]
theorem cell_set_far {w : World} {g i : Nat} {p : Addr} {u : Value} (h : g ≠ p.block) : (w.setCell p u).cell? ⟨g, i, none⟩ = w.cell? ⟨g, i, none⟩ := by
  unfold World.cell?; rw [Below.heap_setCell w p u g h]
/-- A round that has appended a text. -/
theorem texts_round {w Y w5 w6 : World} {Bt Bf n0 sz c : Nat} {fv v : Value} {A : Option Addr} {pre : List ByteArray} {x : ByteArray} (h1 : Bt < n0) (h2 : Bf < n0) (h4 : Bf ≠ Bt) (h5 : w.heap.size ≤ Bt) (hrt : Row Y Bt 49 #[v]) (hrf : Row Y Bf 83 #[fv]) (hb : Below w.heap.size w Y) (hs : n0 ≤ Y.heap.size) (h3 : sz ≤ Y.heap.size)
    (hb5 : Below Y.drew.heap.size Y.drew w5) (own5 : w5.ownsRow n0 9 1 v pre.length (pre.map Value.string)) (hown6 : w6.ownsRow n0 9 1 (.slice A (pre.length + 1) c) (pre.length + 1) (pre.map Value.string ++ [.string x])) (hgr6 : (w5.alloc (.cells #[.string x] 9)).grownBy w6 v.ownBlock) (hloc6 : (Value.slice A (pre.length + 1) c).ownBlock = v.ownBlock ∨ (Value.slice A (pre.length + 1) c).ownBlock = some (w5.heap.size + 1)) :
    RoundK (NoT Bt) Y (w6.setCell ⟨Bt, 0, none⟩ (.slice A (pre.length + 1) c)) ∧ TInv w Bt Bf n0 fv (pre ++ [x]) (w6.setCell ⟨Bt, 0, none⟩ (.slice A (pre.length + 1) c)) ∧ sz ≤ (w6.setCell ⟨Bt, 0, none⟩ (.slice A (pre.length + 1) c)).heap.size := by
  have hY5 : Below Y.heap.size Y w5 := (Below.refl _ Y).drew.trans hb5
  have hs5 := hY5.size
  have hs6 := hgr6.size
  simp only [World.size_alloc] at hs6
  have hlow : ∀ r, v.ownBlock = some r → n0 ≤ r := fun r e => (own_cells own5 e).1
  have hrt6 : Row w6 Bt 49 #[v] := ((hrt.below hY5 hrt.lt).alloc _).grown hgr6 (fun r e => Nat.lt_of_lt_of_le h1 (hlow r e))
  have hrf6 : Row w6 Bf 83 #[fv] := ((hrf.below hY5 hrf.lt).alloc _).grown hgr6 (fun r e => Nat.lt_of_lt_of_le h2 (hlow r e))
  have hrow := hrt6.put 0 (.slice A (pre.length + 1) c)
  have hb6 : Below w.heap.size w w6 := ((hb.trans (hY5.mono hb.size)).alloc (Nat.le_trans hb.size hs5) _).grown hgr6 (by have := hb.size; simp; omega) (fun r e => by have := hlow r e; omega)
  have hk : Keeps (NoT Bt Y) Y w6 := ((Keeps.of_below hY5).trans (Keeps.of_below ((Below.refl _ w5).alloc (Nat.le_refl _) _))).trans (Keeps.of_grown hgr6 (fun r e => .inr ⟨v, hrt.cell 0, e⟩))
  refine ⟨⟨hk.trans (Keeps.setCell (p := ⟨Bt, 0, none⟩) (.inl rfl) _), fun k hkk => ?_⟩, ⟨⟨_, hrow, ?_⟩, hrf6.far (p := ⟨Bt, 0, none⟩) h4 _, hb6.setCell (p := ⟨Bt, 0, none⟩) h5 _, by simp [World.setCell]; omega⟩, by simp [World.setCell]; omega⟩
  · rcases hkk with rfl | ⟨v', hv', hkk⟩
    · exact .inl (.inl rfl)
    · rw [hrow.cell 0] at hv'
      have e : v' = .slice A (pre.length + 1) c := (Option.some.inj hv').symm
      subst e
      rcases hloc6 with h | h
      · rw [h] at hkk; exact .inl (.inr ⟨v, hrt.cell 0, hkk⟩)
      · rw [h] at hkk; cases hkk; exact .inr (by omega)
  · rw [List.length_append, List.map_append]
    exact own_keep hown6 fun k e => Below.heap_setCell _ _ _ _ (by have := (own_cells hown6 e).1; dsimp only; omega)
theorem join_any (sep : ByteArray) (xs : List ByteArray) (Y : World) {g base N c : Nat} (hown : Y.ownsRow base 9 1 (.slice (some ⟨g, 0, none⟩) N c) xs.length (xs.map Value.string)) (hsep : sep.size ≤ 10) (hl : xs.length ≤ 25) (hx : ∀ x ∈ xs, x.size ≤ 100) :
    Calls Tryd.prog 42 #[.slice (some ⟨g, 0, none⟩) xs.length c, .string sep] Y fun e w' => e = .returned (.string ⟨(Lib.join (xs.map (·.data.toList)) sep.data.toList).toArray⟩) ∧ Below Y.heap.size Y w' := by
  have hlen := join_len sep.data.toList (by simpa using hsep) (xs.map (·.data.toList)) (fun x h => by obtain ⟨y, hy, rfl⟩ := List.mem_map.1 h; simpa using hx y hy)
  rw [List.length_map] at hlen
  obtain ⟨A', c', e, hc1, hc2, hA⟩ := own_slice hown
  injection e with e1 e2 e3
  subst e3
  refine Tryd.strings_Join g 0 c xs sep Y (fun j x hj => ?_) (own_cells hown rfl).2.1 (by omega) hc1 (by omega)
  have hj2 : (xs.map Value.string)[j]? = some (.string x) := by rw [List.getElem?_map, hj]; rfl
  have := World.ownsRow.cellAt (by rw [e2] at hown; exact hown) j (by have := (List.getElem?_eq_some_iff.1 hj).1; omega)
  rw [Nat.zero_add, this, hj2]
def wrH (a b : Nat) : ByteArray := itoaB a ++ ⟨#[45]⟩ ++ itoaB b

set_option maxRecDepth 100000 in
set_option maxHeartbeats 8000000 in
theorem writeRunsH (s : Nat) (hs : s ≤ 16777215) (hs0 : s ≠ 0) (sep : ByteArray) (hsep : sep.size ≤ 10) (w : World) (hw0 : ∀ p ∈ rl 25 s 0, (wrH p.1 p.2).size ≤ 100)
    (HW : ∀ p ∈ rl 25 s 0, ∀ u, Below w.heap.size w u → Calls Tryd.prog 59 #[.int .i64 (p.1 : Int), .int .i64 (p.2 : Int)] u fun e w' => e = .returned (.string (wrH p.1 p.2)) ∧ Below u.heap.size u w') (hT : TzT w) (h2 : tzG < w.heap.size) :
    Calls Tryd.prog 57 #[.int .i64 (s : Int), .string sep, .func (.func 59) #[] #[]] w fun e w' => e = .returned (.string (wrRuns sep.data.toList wrH s)) ∧ Below w.heap.size w w' := by
  have HT := Lib.hid hT
  have HWW := Lib.hid HW
  have HW0 := Lib.hid hw0
  clear hT HW hw0
  refine (callsIn_wide (n := 12)).1 ?_
  refine callsIn_of_wp_marks Tryd.func57 rfl trivial ?_ rfl
  simp only [Tryd.ntmps57, List.size_toArray, List.length_cons, List.length_nil, Nat.reduceAdd, Nat.reduceSub, Array.replicate_succ, Array.replicate_zero, List.push_toArray, List.append_toArray, List.nil_append, List.cons_append]
  gi_wp2_with (refine ⟨trivial, ?_⟩; gi_at_call 55; ((with_reducible refine CallsIn.mono (callsIn_wide.2 (runs_call _ _)) ?_); rintro e' w3 ⟨rfl, rfl⟩))
  obtain ⟨X, hX⟩ : ∃ X, (((w.alloc (.cells #[.func (.func 59) #[] #[]] 83)).alloc (.cells #[.slice none 0 0] 49)).alloc (.cells #[.int .i64 (s : Int)] 3)) = X := ⟨_, rfl⟩
  have hsX : X.heap.size = w.heap.size + 1 + 1 + 1 := by rw [← hX]; simp
  have HXF : Hid (Row X w.heap.size 83 #[.func (.func 59) #[] #[]]) := Lib.hid (by rw [← hX]; exact ((Row.new _ _ _).alloc _).alloc _)
  have HXT : Hid (Row X (w.heap.size + 1) 49 #[.slice none 0 0]) := Lib.hid (by
    rw [← hX]
    have := Row.new (w.alloc (.cells #[.func (.func 59) #[] #[]] 83)) 49 #[.slice none 0 0]
    rw [World.size_alloc] at this
    exact this.alloc _)
  have HXN : Hid (Row X (w.heap.size + 1 + 1) 3 #[.int .i64 (s : Int)]) := Lib.hid (by
    rw [← hX]
    have := Row.new ((w.alloc (.cells #[.func (.func 59) #[] #[]] 83)).alloc (.cells #[.slice none 0 0] 49)) 3 #[.int .i64 (s : Int)]
    simp only [World.size_alloc] at this
    exact this)
  have HXL : Hid (Below w.heap.size w X) := Lib.hid (by rw [← hX]; exact (((Below.refl _ w).alloc (Nat.le_refl _) _).alloc (by simp) _).alloc (by simp; omega) _)
  have HXZ : Hid (TzT X) := Lib.hid (HT.out.keep HXL.out h2)
  have HX0 : Hid (TInv w (w.heap.size + 1) w.heap.size (w.heap.size + 1 + 1 + 1) (.func (.func 59) #[] #[]) [] X) := Lib.hid ⟨⟨_, HXT.out, World.ownsRow_nil X _ _ _⟩, HXF.out, HXL.out, by omega⟩
  rw [hX]
  clear hX
  refine rangeFunc_p (F := Fence.wide) rfl (by decide) (gf := 74) (lb := #[.pointer (some ⟨w.heap.size + 1 + 1, 0, none⟩)]) rfl trivial (enters_of Tryd.func74 (by kernel_rfl) rfl)
    (runs_p 11 (by decide) (w.heap.size + 1 + 1) s hs (fun Y k => NoT (w.heap.size + 1) Y k ∨ k = X.heap.size + 1) X (by omega) (by omega) (HXN.out.cell 0) HXZ.out) (fun _ => rfl) (fun k hk => by rcases hk with rfl | rfl <;> omega)
    (fun rp Y => TInv w (w.heap.size + 1) w.heap.size (w.heap.size + 1 + 1 + 1) (.func (.func 59) #[] #[]) (rp.map fun p => wrH p.1 p.2) Y ∧ X.heap.size ≤ Y.heap.size)
    (fun _ _ _ => False) ?oI (fun _ _ _ _ _ hs _ _ => hs) ⟨HX0.out, Nat.le_refl _⟩ ?hno ?hng
    (fun _ x a' _ => ∃ (z0 z1 z2 z3 z4 z6 z10 z11 z12 z13 z14 z15 z16 z17 z18 z19 z20 z21 z22 z23 : Value), a' = { tmps := #[z0, z1, z2, z3, z4, .pointer (some ⟨w.heap.size, 0, none⟩), z6, .pointer (some ⟨w.heap.size + 1, 0, none⟩), .int .i64 (x.1 : Int), .int .i64 (x.2 : Int), z10, z11, z12, z13, z14, z15, z16, z17, z18, z19, z20, z21, z22, z23], defers := [] }) (fun _ _ _ _ _ _ _ hs _ _ => hs) ?assign ?body ?done (fun _ _ _ _ _ _ h _ => h.elim)
  case oI =>
    rintro pre Y Z row ⟨h1, h3⟩ hg hr
    exact ⟨h1.turn hg hr (by omega), Nat.le_trans h3 hg.size⟩
  case hno =>
    rintro pre Y k ⟨h1, h3⟩ hk
    rcases h1.no hk with rfl | ⟨g1, g2, g3⟩
    · exact ⟨by omega, fun h => by rcases h with h | h <;> omega, .inr (by omega)⟩
    · exact ⟨g2, fun h => by rcases h with h | h <;> omega, .inl g3⟩
  case hng =>
    rintro pre Y Z row k ⟨h1, h3⟩ hg hr hk
    exact NoT.turn h1 hg hr hk
  case assign =>
    rintro l' pre x Y K hpre hi hK
    gi_wp2
    exact hK _ _ (RoundK.refl _ _) hi ⟨_, _, _, _, _, _, _, _, _, _, _, _, _, _, _, _, _, _, _, _, rfl⟩
  case body =>
    rintro l' pre0 x a' Y hl hr hpre ⟨h1, h3⟩ ⟨z0, z1, z2, z3, z4, z6, z10, z11, z12, z13, z14, z15, z16, z17, z18, z19, z20, z21, z22, z23, rfl⟩
    have hmem : x ∈ rl 25 s 0 := by obtain ⟨t, ht⟩ := hpre; rw [← ht]; simp
    have hln : pre0.length ≤ 25 := by
      have := hpre.length_le
      have := rl_len 25 s 0
      simp at *; omega
    obtain ⟨pre, hpp⟩ : ∃ pre, (pre0.map fun p => wrH p.1 p.2) = pre := ⟨_, rfl⟩
    have hpp2 : ((pre0 ++ [x]).map fun p => wrH p.1 p.2) = pre ++ [wrH x.1 x.2] := by rw [List.map_append, hpp]; rfl
    have HLEN : Hid (pre.length ≤ 25) := Lib.hid (by rw [← hpp]; simpa using hln)
    rw [hpp] at h1
    have HPP := Lib.hid hpp2
    have HWC := Lib.hid (fun u hu => HWW.out x hmem u hu)
    have HBY := Lib.hid h1.b
    obtain ⟨⟨v, hrt, hown⟩, hrf, hbb, hss⟩ := h1
    have HRT := Lib.hid hrt; have HOW := Lib.hid hown; have HSZ := Lib.hid hss
    have kf := hrf.cell 0
    have kt := hrt.cell 0
    have HLB := Lib.hid (And.intro hrf.lt hrt.lt)
    have HFI := Lib.hid (fun w5 A c w6 (hb5 : Below Y.drew.heap.size Y.drew w5) (own5 : w5.ownsRow (w.heap.size + 1 + 1 + 1) 9 1 v pre.length (pre.map Value.string)) (hown6 : w6.ownsRow (w.heap.size + 1 + 1 + 1) 9 1 (.slice A (pre.length + 1) c) (pre.length + 1) (pre.map Value.string ++ [.string (wrH x.1 x.2)])) (hgr6 : (w5.alloc (.cells #[.string (wrH x.1 x.2)] 9)).grownBy w6 v.ownBlock) (hloc6 : (Value.slice A (pre.length + 1) c).ownBlock = v.ownBlock ∨ (Value.slice A (pre.length + 1) c).ownBlock = some (w5.heap.size + 1)) => texts_round (w := w) (sz := X.heap.size) (by omega) (by omega) (by omega) (by omega) hrt hrf hbb hss h3 hb5 own5 hown6 hgr6 hloc6)
    have HH3 := Lib.hid h3
    obtain ⟨xa, xb⟩ := x
    dsimp only at HWC HPP HFI
    clear hmem hln hpp hpp2 hrt hown hrf hbb hss hpre h3 hs hs0 hsep h2
    gi_wp2
    refine region_round (S := fun u => u.cell? ⟨w.heap.size, 0, none⟩ = some (.func (.func 59) #[] #[])) (by kernel_rfl) (by kernel_rfl) (fun ⟨_, _, h⟩ => h) kf (fun hHeld => ?_)
    refine wpAnyH_take (i := 1) (oi := _) (v := ?_) rfl (by kernel_rfl) (by kernel_rfl) (by kernel_rfl) (fun _ _ _ h => h) (Or.inl ⟨by rfl, ?_⟩) (by assumption) ?_
    rotate_left
    · (intro w hSw; (try dsimp only at hSw); go_simp; all_goals (with_reducible rfl))
    (try simp only [Act.put])
    refine wpAnyH_take (i := 2) (oi := _) (v := ?_) rfl (by kernel_rfl) (by kernel_rfl) (by kernel_rfl) (fun _ _ _ h => h) (Or.inl ⟨by rfl, ?_⟩) (by assumption) ?_
    rotate_left
    · (intro w hSw; (try dsimp only at hSw); go_simp; all_goals (with_reducible rfl))
    (try simp only [Act.put])
    refine wpAnyH_take (i := 3) (oi := _) (v := ?_) rfl (by kernel_rfl) (by kernel_rfl) (by kernel_rfl) (fun _ _ _ h => h) (Or.inl ⟨by rfl, ?_⟩) (by assumption) ?_
    rotate_left
    · (intro w hSw; (try dsimp only at hSw); go_simp; all_goals (with_reducible rfl))
    (try simp only [Act.put])
    refine wpAnyH_ready (rs := [0, 4]) (by kernel_rfl) (by simp) ?_
    refine AllReadyH.cons (o := _) rfl (fun K hK => ?_) ?_
    · go_simp
      refine hK.out _ _ ?_ (fun hHeld => ?_)
      · (try dsimp only)
        first | assumption | exact kf | exact kf5 | exact kf6 | (exact (cell_alloc_lt lb50).trans kf5) | (exact (cell_set_far (by dsimp only; omega)).trans kf6)
      clear hK K
      (try simp only [Act.put, List.setIfInBounds_toArray, List.set_cons_zero, List.set_cons_succ])
      refine wpAnyH_ready (rs := [4]) (by kernel_rfl) (by simp) ?_
      refine AllReadyH.cons (o := _) rfl (fun K hK => ?_) ?_
      · go_simp
        (go_at_call 59; ((with_reducible refine Calls.mono (HWC.out _ HBY.out.drew) ?_); rintro e w5 ⟨rfl, hb5⟩))
        have l5 := hb5.size
        have kf5 : w5.cell? ⟨w.heap.size, 0, none⟩ = some (.func (.func 59) #[] #[]) := (hb5.cell (p := ⟨w.heap.size, 0, none⟩) HLB.out.1).trans kf
        have kt5 : w5.cell? ⟨w.heap.size + 1, 0, none⟩ = some v := (hb5.cell (p := ⟨w.heap.size + 1, 0, none⟩) HLB.out.2).trans kt
        have fz5 := ((show Row Y.drew _ _ _ from HRT.out).below hb5 HLB.out.2).free 0
        have own5 : w5.ownsRow (w.heap.size + 1 + 1 + 1) 9 1 v pre.length (pre.map Value.string) := own_below (w := Y.drew) HOW.out hb5
        obtain ⟨A6, c6, w6, hrun, hown6, hgr6, hloc6⟩ := push_str (wrH xa xb) own5 (by have := HLEN.out; omega) (by have h := HSZ.out; have h2 : Y.drew.heap.size = Y.heap.size := rfl; omega)
        have H5 := Lib.hid (And.intro hb5 (And.intro own5 (And.intro hown6 (And.intro hgr6 hloc6))))
        have hs6 := hgr6.size
        simp only [World.size_alloc] at hs6
        have kt6 : w6.cell? ⟨w.heap.size + 1, 0, none⟩ = some v := by
          have e : w6.heap[w.heap.size + 1]? = (w5.alloc (.cells #[.string (wrH xa xb)] 9)).heap[w.heap.size + 1]? := hgr6.block _ (by have := HLB.out.2; have h2 : Y.drew.heap.size = Y.heap.size := rfl; simp; omega) (fun e => by have := (own_cells own5 e.symm).1; omega)
          have e2 : w5.heap.size > w.heap.size + 1 := by have := HLB.out.2; have h2 : Y.drew.heap.size = Y.heap.size := rfl; omega
          unfold World.cell? at kt5 ⊢
          rw [e, Below.heap_alloc _ _ _ e2]; exact kt5
        have kf6 : w6.cell? ⟨w.heap.size, 0, none⟩ = some (.func (.func 59) #[] #[]) := by
          have e : w6.heap[w.heap.size]? = (w5.alloc (.cells #[.string (wrH xa xb)] 9)).heap[w.heap.size]? := hgr6.block _ (by have := HLB.out.2; have h2 : Y.drew.heap.size = Y.heap.size := rfl; simp; omega) (fun e => by have := (own_cells own5 e.symm).1; omega)
          have e2 : w5.heap.size > w.heap.size := by have := HLB.out.2; have h2 : Y.drew.heap.size = Y.heap.size := rfl; omega
          unfold World.cell? at kf5 ⊢
          rw [e, Below.heap_alloc _ _ _ e2]; exact kf5
        have fz6 : w6.frozen? ⟨w.heap.size + 1, 0, none⟩ = false := by
          have e : w6.heap[w.heap.size + 1]? = (w5.alloc (.cells #[.string (wrH xa xb)] 9)).heap[w.heap.size + 1]? := hgr6.block _ (by have := HLB.out.2; have h2 : Y.drew.heap.size = Y.heap.size := rfl; simp; omega) (fun e => by have := (own_cells own5 e.symm).1; omega)
          have e2 : w5.heap.size > w.heap.size + 1 := by have := HLB.out.2; have h2 : Y.drew.heap.size = Y.heap.size := rfl; omega
          unfold World.frozen? at fz5 ⊢
          rw [e, Below.heap_alloc _ _ _ e2]; exact fz5
        have lb5 : w.heap.size + 1 < w5.heap.size := by have := HLB.out.2; have h2 : Y.drew.heap.size = Y.heap.size := rfl; omega
        have lb50 : w.heap.size < w5.heap.size := by omega
        clear hb5 own5 hown6 hgr6 hloc6
        refine hK.out _ _ ?_ (fun hHeld => ?_)
        · (try dsimp only)
          first | assumption | exact kf | exact kf5 | exact kf6 | (exact (cell_alloc_lt lb50).trans kf5) | (exact (cell_set_far (by dsimp only; omega)).trans kf6)
        clear hK K
        (try simp only [Act.put, List.setIfInBounds_toArray, List.set_cons_zero, List.set_cons_succ])
        refine wpAnyH_ready (rs := [5]) (by kernel_rfl) (by simp) ?_
        refine AllReadyH.cons (o := _) rfl (fun K hK => ?_) ?_
        · go_simp
          refine hK.out _ _ ?_ (fun hHeld => ?_)
          · (try dsimp only)
            first | assumption | exact kf | exact kf5 | exact kf6 | (exact (cell_alloc_lt lb50).trans kf5) | (exact (cell_set_far (by dsimp only; omega)).trans kf6)
          clear hK K
          (try simp only [Act.put, List.setIfInBounds_toArray, List.set_cons_zero, List.set_cons_succ])
          refine wpAnyH_ready (rs := [6]) (by kernel_rfl) (by simp) ?_
          refine AllReadyH.cons (o := _) rfl (fun K hK => ?_) ?_
          · go_simp
            refine hK.out _ _ ?_ (fun hHeld => ?_)
            · (try dsimp only)
              first | assumption | exact kf | exact kf5 | exact kf6 | (exact (cell_alloc_lt lb50).trans kf5) | (exact (cell_set_far (by dsimp only; omega)).trans kf6)
            clear hK K
            (try simp only [Act.put, List.setIfInBounds_toArray, List.set_cons_zero, List.set_cons_succ])
            refine wpAnyH_ready (rs := [7]) (by kernel_rfl) (by simp) ?_
            refine AllReadyH.cons (o := _) rfl (fun K hK => ?_) ?_
            · go_simp
              refine hK.out _ _ ?_ (fun hHeld => ?_)
              · (try dsimp only)
                first | assumption | exact kf | exact kf5 | exact kf6 | (exact (cell_alloc_lt lb50).trans kf5) | (exact (cell_set_far (by dsimp only; omega)).trans kf6)
              clear hK K
              (try simp only [Act.put, List.setIfInBounds_toArray, List.set_cons_zero, List.set_cons_succ])
              refine wpAnyH_done (by kernel_rfl) ?_ _
              gi_wp2
              obtain ⟨hb5, own5, hown6, hgr6, hloc6⟩ := H5.out
              obtain ⟨g1, g2, g3⟩ := HFI.out _ _ _ _ hb5 own5 hown6 hgr6 hloc6
              exact ⟨g1, (by rw [HPP.out]; exact g2), g3⟩
            exact AllReadyH.nil
          exact AllReadyH.nil
        exact AllReadyH.nil
      exact AllReadyH.nil
    refine AllReadyH.cons (o := _) rfl (fun K hK => ?_) ?_
    · go_simp
      (go_at_call 59; ((with_reducible refine Calls.mono (HWC.out _ HBY.out.drew) ?_); rintro e w5 ⟨rfl, hb5⟩))
      have l5 := hb5.size
      have kf5 : w5.cell? ⟨w.heap.size, 0, none⟩ = some (.func (.func 59) #[] #[]) := (hb5.cell (p := ⟨w.heap.size, 0, none⟩) HLB.out.1).trans kf
      have kt5 : w5.cell? ⟨w.heap.size + 1, 0, none⟩ = some v := (hb5.cell (p := ⟨w.heap.size + 1, 0, none⟩) HLB.out.2).trans kt
      have fz5 := ((show Row Y.drew _ _ _ from HRT.out).below hb5 HLB.out.2).free 0
      have own5 : w5.ownsRow (w.heap.size + 1 + 1 + 1) 9 1 v pre.length (pre.map Value.string) := own_below (w := Y.drew) HOW.out hb5
      obtain ⟨A6, c6, w6, hrun, hown6, hgr6, hloc6⟩ := push_str (wrH xa xb) own5 (by have := HLEN.out; omega) (by have h := HSZ.out; have h2 : Y.drew.heap.size = Y.heap.size := rfl; omega)
      have H5 := Lib.hid (And.intro hb5 (And.intro own5 (And.intro hown6 (And.intro hgr6 hloc6))))
      have hs6 := hgr6.size
      simp only [World.size_alloc] at hs6
      have kt6 : w6.cell? ⟨w.heap.size + 1, 0, none⟩ = some v := by
        have e : w6.heap[w.heap.size + 1]? = (w5.alloc (.cells #[.string (wrH xa xb)] 9)).heap[w.heap.size + 1]? := hgr6.block _ (by have := HLB.out.2; have h2 : Y.drew.heap.size = Y.heap.size := rfl; simp; omega) (fun e => by have := (own_cells own5 e.symm).1; omega)
        have e2 : w5.heap.size > w.heap.size + 1 := by have := HLB.out.2; have h2 : Y.drew.heap.size = Y.heap.size := rfl; omega
        unfold World.cell? at kt5 ⊢
        rw [e, Below.heap_alloc _ _ _ e2]; exact kt5
      have kf6 : w6.cell? ⟨w.heap.size, 0, none⟩ = some (.func (.func 59) #[] #[]) := by
        have e : w6.heap[w.heap.size]? = (w5.alloc (.cells #[.string (wrH xa xb)] 9)).heap[w.heap.size]? := hgr6.block _ (by have := HLB.out.2; have h2 : Y.drew.heap.size = Y.heap.size := rfl; simp; omega) (fun e => by have := (own_cells own5 e.symm).1; omega)
        have e2 : w5.heap.size > w.heap.size := by have := HLB.out.2; have h2 : Y.drew.heap.size = Y.heap.size := rfl; omega
        unfold World.cell? at kf5 ⊢
        rw [e, Below.heap_alloc _ _ _ e2]; exact kf5
      have fz6 : w6.frozen? ⟨w.heap.size + 1, 0, none⟩ = false := by
        have e : w6.heap[w.heap.size + 1]? = (w5.alloc (.cells #[.string (wrH xa xb)] 9)).heap[w.heap.size + 1]? := hgr6.block _ (by have := HLB.out.2; have h2 : Y.drew.heap.size = Y.heap.size := rfl; simp; omega) (fun e => by have := (own_cells own5 e.symm).1; omega)
        have e2 : w5.heap.size > w.heap.size + 1 := by have := HLB.out.2; have h2 : Y.drew.heap.size = Y.heap.size := rfl; omega
        unfold World.frozen? at fz5 ⊢
        rw [e, Below.heap_alloc _ _ _ e2]; exact fz5
      have lb5 : w.heap.size + 1 < w5.heap.size := by have := HLB.out.2; have h2 : Y.drew.heap.size = Y.heap.size := rfl; omega
      have lb50 : w.heap.size < w5.heap.size := by omega
      clear hb5 own5 hown6 hgr6 hloc6
      refine hK.out _ _ ?_ (fun hHeld => ?_)
      · (try dsimp only)
        first | assumption | exact kf | exact kf5 | exact kf6 | (exact (cell_alloc_lt lb50).trans kf5) | (exact (cell_set_far (by dsimp only; omega)).trans kf6)
      clear hK K
      (try simp only [Act.put, List.setIfInBounds_toArray, List.set_cons_zero, List.set_cons_succ])
      refine wpAnyH_ready (rs := [0, 5]) (by kernel_rfl) (by simp) ?_
      refine AllReadyH.cons (o := _) rfl (fun K hK => ?_) ?_
      · go_simp
        refine hK.out _ _ ?_ (fun hHeld => ?_)
        · (try dsimp only)
          first | assumption | exact kf | exact kf5 | exact kf6 | (exact (cell_alloc_lt lb50).trans kf5) | (exact (cell_set_far (by dsimp only; omega)).trans kf6)
        clear hK K
        (try simp only [Act.put, List.setIfInBounds_toArray, List.set_cons_zero, List.set_cons_succ])
        refine wpAnyH_ready (rs := [5]) (by kernel_rfl) (by simp) ?_
        refine AllReadyH.cons (o := _) rfl (fun K hK => ?_) ?_
        · go_simp
          refine hK.out _ _ ?_ (fun hHeld => ?_)
          · (try dsimp only)
            first | assumption | exact kf | exact kf5 | exact kf6 | (exact (cell_alloc_lt lb50).trans kf5) | (exact (cell_set_far (by dsimp only; omega)).trans kf6)
          clear hK K
          (try simp only [Act.put, List.setIfInBounds_toArray, List.set_cons_zero, List.set_cons_succ])
          refine wpAnyH_ready (rs := [6]) (by kernel_rfl) (by simp) ?_
          refine AllReadyH.cons (o := _) rfl (fun K hK => ?_) ?_
          · go_simp
            refine hK.out _ _ ?_ (fun hHeld => ?_)
            · (try dsimp only)
              first | assumption | exact kf | exact kf5 | exact kf6 | (exact (cell_alloc_lt lb50).trans kf5) | (exact (cell_set_far (by dsimp only; omega)).trans kf6)
            clear hK K
            (try simp only [Act.put, List.setIfInBounds_toArray, List.set_cons_zero, List.set_cons_succ])
            refine wpAnyH_ready (rs := [7]) (by kernel_rfl) (by simp) ?_
            refine AllReadyH.cons (o := _) rfl (fun K hK => ?_) ?_
            · go_simp
              refine hK.out _ _ ?_ (fun hHeld => ?_)
              · (try dsimp only)
                first | assumption | exact kf | exact kf5 | exact kf6 | (exact (cell_alloc_lt lb50).trans kf5) | (exact (cell_set_far (by dsimp only; omega)).trans kf6)
              clear hK K
              (try simp only [Act.put, List.setIfInBounds_toArray, List.set_cons_zero, List.set_cons_succ])
              refine wpAnyH_done (by kernel_rfl) ?_ _
              gi_wp2
              obtain ⟨hb5, own5, hown6, hgr6, hloc6⟩ := H5.out
              obtain ⟨g1, g2, g3⟩ := HFI.out _ _ _ _ hb5 own5 hown6 hgr6 hloc6
              exact ⟨g1, (by rw [HPP.out]; exact g2), g3⟩
            exact AllReadyH.nil
          exact AllReadyH.nil
        exact AllReadyH.nil
      refine AllReadyH.cons (o := _) rfl (fun K hK => ?_) ?_
      · go_simp
        refine hK.out _ _ ?_ (fun hHeld => ?_)
        · (try dsimp only)
          first | assumption | exact kf | exact kf5 | exact kf6 | (exact (cell_alloc_lt lb50).trans kf5) | (exact (cell_set_far (by dsimp only; omega)).trans kf6)
        clear hK K
        (try simp only [Act.put, List.setIfInBounds_toArray, List.set_cons_zero, List.set_cons_succ])
        refine wpAnyH_ready (rs := [0]) (by kernel_rfl) (by simp) ?_
        refine AllReadyH.cons (o := _) rfl (fun K hK => ?_) ?_
        · go_simp
          refine hK.out _ _ ?_ (fun hHeld => ?_)
          · (try dsimp only)
            first | assumption | exact kf | exact kf5 | exact kf6 | (exact (cell_alloc_lt lb50).trans kf5) | (exact (cell_set_far (by dsimp only; omega)).trans kf6)
          clear hK K
          (try simp only [Act.put, List.setIfInBounds_toArray, List.set_cons_zero, List.set_cons_succ])
          refine wpAnyH_ready (rs := [6]) (by kernel_rfl) (by simp) ?_
          refine AllReadyH.cons (o := _) rfl (fun K hK => ?_) ?_
          · go_simp
            refine hK.out _ _ ?_ (fun hHeld => ?_)
            · (try dsimp only)
              first | assumption | exact kf | exact kf5 | exact kf6 | (exact (cell_alloc_lt lb50).trans kf5) | (exact (cell_set_far (by dsimp only; omega)).trans kf6)
            clear hK K
            (try simp only [Act.put, List.setIfInBounds_toArray, List.set_cons_zero, List.set_cons_succ])
            refine wpAnyH_ready (rs := [7]) (by kernel_rfl) (by simp) ?_
            refine AllReadyH.cons (o := _) rfl (fun K hK => ?_) ?_
            · go_simp
              refine hK.out _ _ ?_ (fun hHeld => ?_)
              · (try dsimp only)
                first | assumption | exact kf | exact kf5 | exact kf6 | (exact (cell_alloc_lt lb50).trans kf5) | (exact (cell_set_far (by dsimp only; omega)).trans kf6)
              clear hK K
              (try simp only [Act.put, List.setIfInBounds_toArray, List.set_cons_zero, List.set_cons_succ])
              refine wpAnyH_done (by kernel_rfl) ?_ _
              gi_wp2
              obtain ⟨hb5, own5, hown6, hgr6, hloc6⟩ := H5.out
              obtain ⟨g1, g2, g3⟩ := HFI.out _ _ _ _ hb5 own5 hown6 hgr6 hloc6
              exact ⟨g1, (by rw [HPP.out]; exact g2), g3⟩
            exact AllReadyH.nil
          exact AllReadyH.nil
        exact AllReadyH.nil
      exact AllReadyH.nil
    exact AllReadyH.nil
  case done =>
    rintro D Y rfl ⟨⟨⟨v, hrt, hown⟩, hrf, hbb, hss⟩, h3⟩ hD
    have hne : (rl 25 s 0) ≠ [] := by
      intro h
      have h9 := rl_cons 25 s 0 (by rw [Nat.pow_zero, Nat.div_one]; exact hs0) (by decide)
      rw [h] at h9
      cases h9
    obtain ⟨TX, hTX⟩ : ∃ TX, ((rl 25 s 0).map fun p => wrH p.1 p.2) = TX := ⟨_, rfl⟩
    have h25 : TX.length ≤ 25 := by rw [← hTX, List.length_map]; exact rl_len 25 s 0
    have h100 : ∀ x ∈ TX, x.size ≤ 100 := by
      intro x hx
      rw [← hTX] at hx
      obtain ⟨p, hp, rfl⟩ := List.mem_map.1 hx
      exact HW0.out p hp
    have hpos : 0 < TX.length := by rw [← hTX, List.length_map]; exact List.length_pos_iff.2 hne
    have HQ := Lib.hid (show wrRuns sep.data.toList wrH s = ⟨(Lib.join (TX.map (·.data.toList)) sep.data.toList).toArray⟩ by unfold wrRuns; rw [hTX])
    rw [hTX] at hown
    clear hTX hne
    obtain ⟨A, c, rfl, hc1, hc2, hA⟩ := own_slice hown
    obtain ⟨g, rfl, hg1, hg2⟩ : ∃ g, A = some ⟨g, 0, none⟩ ∧ w.heap.size + 1 + 1 + 1 ≤ g ∧ g < Y.heap.size := by
      rcases hA with ⟨-, h0⟩ | h
      · omega
      · exact h
    have HJ := Lib.hid (join_any sep TX Y hown hsep h25 h100)
    obtain ⟨res, hres⟩ : ∃ r : ByteArray, ⟨(Lib.join (TX.map (·.data.toList)) sep.data.toList).toArray⟩ = r := ⟨_, rfl⟩
    rw [hres] at HJ
    have HRES := Lib.hid (HQ.out.trans hres)
    have kt := hrt.cell 0
    have HBB := Lib.hid hbb
    have HDD := Lib.hid hD
    obtain ⟨N, hN⟩ : ∃ N, TX.length = N := ⟨_, rfl⟩
    rw [hN] at HJ kt
    clear hrt hown hrf hbb hss hA hpos hc1 hc2 HQ hres hN hD h25 h100
    gi_wp2_with (refine ⟨trivial, ?_⟩; gi_at_call 42; ((with_reducible refine CallsIn.mono (callsIn_wide.2 HJ.out) ?_); rintro e' w7 ⟨rfl, hb7⟩))
    have hD7 := (hb7.block X.heap.size (Array.getElem?_eq_some_iff.1 HDD.out).1).trans HDD.out
    rw [hsX] at hD7
    refine ⟨by simp, .inl ⟨_, _, rfl, run_takeDeferred hD7, ?_⟩⟩
    exact ⟨_, results_tmp rfl _ _ _, (by rw [HRES.out]; rfl), (below_to HBB.out hb7).trans (belowK_b (w := w) (Nat.le_refl _) _ _ _ _ (by omega) hD7 rfl rfl)⟩

set_option maxRecDepth 100000 in
set_option maxHeartbeats 8000000 in
theorem writeRunsD (s : Nat) (hs : s ≤ 16777215) (hs0 : s ≠ 0) (sep : ByteArray) (hsep : sep.size ≤ 10) (w : World) (hw0 : ∀ p ∈ rl 25 s 0, (wrD p.1 p.2).size ≤ 100)
    (HW : ∀ p ∈ rl 25 s 0, ∀ u, Below w.heap.size w u → Calls Tryd.prog 58 #[.int .i64 (p.1 : Int), .int .i64 (p.2 : Int)] u fun e w' => e = .returned (.string (wrD p.1 p.2)) ∧ Below u.heap.size u w') (hT : TzT w) (h2 : tzG < w.heap.size) :
    Calls Tryd.prog 57 #[.int .i64 (s : Int), .string sep, .func (.func 58) #[] #[]] w fun e w' => e = .returned (.string (wrRuns sep.data.toList wrD s)) ∧ Below w.heap.size w w' := by
  have HT := Lib.hid hT
  have HWW := Lib.hid HW
  have HW0 := Lib.hid hw0
  clear hT HW hw0
  refine (callsIn_wide (n := 12)).1 ?_
  refine callsIn_of_wp_marks Tryd.func57 rfl trivial ?_ rfl
  simp only [Tryd.ntmps57, List.size_toArray, List.length_cons, List.length_nil, Nat.reduceAdd, Nat.reduceSub, Array.replicate_succ, Array.replicate_zero, List.push_toArray, List.append_toArray, List.nil_append, List.cons_append]
  gi_wp2_with (refine ⟨trivial, ?_⟩; gi_at_call 55; ((with_reducible refine CallsIn.mono (callsIn_wide.2 (runs_call _ _)) ?_); rintro e' w3 ⟨rfl, rfl⟩))
  obtain ⟨X, hX⟩ : ∃ X, (((w.alloc (.cells #[.func (.func 58) #[] #[]] 83)).alloc (.cells #[.slice none 0 0] 49)).alloc (.cells #[.int .i64 (s : Int)] 3)) = X := ⟨_, rfl⟩
  have hsX : X.heap.size = w.heap.size + 1 + 1 + 1 := by rw [← hX]; simp
  have HXF : Hid (Row X w.heap.size 83 #[.func (.func 58) #[] #[]]) := Lib.hid (by rw [← hX]; exact ((Row.new _ _ _).alloc _).alloc _)
  have HXT : Hid (Row X (w.heap.size + 1) 49 #[.slice none 0 0]) := Lib.hid (by
    rw [← hX]
    have := Row.new (w.alloc (.cells #[.func (.func 58) #[] #[]] 83)) 49 #[.slice none 0 0]
    rw [World.size_alloc] at this
    exact this.alloc _)
  have HXN : Hid (Row X (w.heap.size + 1 + 1) 3 #[.int .i64 (s : Int)]) := Lib.hid (by
    rw [← hX]
    have := Row.new ((w.alloc (.cells #[.func (.func 58) #[] #[]] 83)).alloc (.cells #[.slice none 0 0] 49)) 3 #[.int .i64 (s : Int)]
    simp only [World.size_alloc] at this
    exact this)
  have HXL : Hid (Below w.heap.size w X) := Lib.hid (by rw [← hX]; exact (((Below.refl _ w).alloc (Nat.le_refl _) _).alloc (by simp) _).alloc (by simp; omega) _)
  have HXZ : Hid (TzT X) := Lib.hid (HT.out.keep HXL.out h2)
  have HX0 : Hid (TInv w (w.heap.size + 1) w.heap.size (w.heap.size + 1 + 1 + 1) (.func (.func 58) #[] #[]) [] X) := Lib.hid ⟨⟨_, HXT.out, World.ownsRow_nil X _ _ _⟩, HXF.out, HXL.out, by omega⟩
  rw [hX]
  clear hX
  refine rangeFunc_p (F := Fence.wide) rfl (by decide) (gf := 74) (lb := #[.pointer (some ⟨w.heap.size + 1 + 1, 0, none⟩)]) rfl trivial (enters_of Tryd.func74 (by kernel_rfl) rfl)
    (runs_p 11 (by decide) (w.heap.size + 1 + 1) s hs (fun Y k => NoT (w.heap.size + 1) Y k ∨ k = X.heap.size + 1) X (by omega) (by omega) (HXN.out.cell 0) HXZ.out) (fun _ => rfl) (fun k hk => by rcases hk with rfl | rfl <;> omega)
    (fun rp Y => TInv w (w.heap.size + 1) w.heap.size (w.heap.size + 1 + 1 + 1) (.func (.func 58) #[] #[]) (rp.map fun p => wrD p.1 p.2) Y ∧ X.heap.size ≤ Y.heap.size)
    (fun _ _ _ => False) ?oI (fun _ _ _ _ _ hs _ _ => hs) ⟨HX0.out, Nat.le_refl _⟩ ?hno ?hng
    (fun _ x a' _ => ∃ (z0 z1 z2 z3 z4 z6 z10 z11 z12 z13 z14 z15 z16 z17 z18 z19 z20 z21 z22 z23 : Value), a' = { tmps := #[z0, z1, z2, z3, z4, .pointer (some ⟨w.heap.size, 0, none⟩), z6, .pointer (some ⟨w.heap.size + 1, 0, none⟩), .int .i64 (x.1 : Int), .int .i64 (x.2 : Int), z10, z11, z12, z13, z14, z15, z16, z17, z18, z19, z20, z21, z22, z23], defers := [] }) (fun _ _ _ _ _ _ _ hs _ _ => hs) ?assign ?body ?done (fun _ _ _ _ _ _ h _ => h.elim)
  case oI =>
    rintro pre Y Z row ⟨h1, h3⟩ hg hr
    exact ⟨h1.turn hg hr (by omega), Nat.le_trans h3 hg.size⟩
  case hno =>
    rintro pre Y k ⟨h1, h3⟩ hk
    rcases h1.no hk with rfl | ⟨g1, g2, g3⟩
    · exact ⟨by omega, fun h => by rcases h with h | h <;> omega, .inr (by omega)⟩
    · exact ⟨g2, fun h => by rcases h with h | h <;> omega, .inl g3⟩
  case hng =>
    rintro pre Y Z row k ⟨h1, h3⟩ hg hr hk
    exact NoT.turn h1 hg hr hk
  case assign =>
    rintro l' pre x Y K hpre hi hK
    gi_wp2
    exact hK _ _ (RoundK.refl _ _) hi ⟨_, _, _, _, _, _, _, _, _, _, _, _, _, _, _, _, _, _, _, _, rfl⟩
  case body =>
    rintro l' pre0 x a' Y hl hr hpre ⟨h1, h3⟩ ⟨z0, z1, z2, z3, z4, z6, z10, z11, z12, z13, z14, z15, z16, z17, z18, z19, z20, z21, z22, z23, rfl⟩
    have hmem : x ∈ rl 25 s 0 := by obtain ⟨t, ht⟩ := hpre; rw [← ht]; simp
    have hln : pre0.length ≤ 25 := by
      have := hpre.length_le
      have := rl_len 25 s 0
      simp at *; omega
    obtain ⟨pre, hpp⟩ : ∃ pre, (pre0.map fun p => wrD p.1 p.2) = pre := ⟨_, rfl⟩
    have hpp2 : ((pre0 ++ [x]).map fun p => wrD p.1 p.2) = pre ++ [wrD x.1 x.2] := by rw [List.map_append, hpp]; rfl
    have HLEN : Hid (pre.length ≤ 25) := Lib.hid (by rw [← hpp]; simpa using hln)
    rw [hpp] at h1
    have HPP := Lib.hid hpp2
    have HWC := Lib.hid (fun u hu => HWW.out x hmem u hu)
    have HBY := Lib.hid h1.b
    obtain ⟨⟨v, hrt, hown⟩, hrf, hbb, hss⟩ := h1
    have HRT := Lib.hid hrt; have HOW := Lib.hid hown; have HSZ := Lib.hid hss
    have kf := hrf.cell 0
    have kt := hrt.cell 0
    have HLB := Lib.hid (And.intro hrf.lt hrt.lt)
    have HFI := Lib.hid (fun w5 A c w6 (hb5 : Below Y.drew.heap.size Y.drew w5) (own5 : w5.ownsRow (w.heap.size + 1 + 1 + 1) 9 1 v pre.length (pre.map Value.string)) (hown6 : w6.ownsRow (w.heap.size + 1 + 1 + 1) 9 1 (.slice A (pre.length + 1) c) (pre.length + 1) (pre.map Value.string ++ [.string (wrD x.1 x.2)])) (hgr6 : (w5.alloc (.cells #[.string (wrD x.1 x.2)] 9)).grownBy w6 v.ownBlock) (hloc6 : (Value.slice A (pre.length + 1) c).ownBlock = v.ownBlock ∨ (Value.slice A (pre.length + 1) c).ownBlock = some (w5.heap.size + 1)) => texts_round (w := w) (sz := X.heap.size) (by omega) (by omega) (by omega) (by omega) hrt hrf hbb hss h3 hb5 own5 hown6 hgr6 hloc6)
    have HH3 := Lib.hid h3
    obtain ⟨xa, xb⟩ := x
    dsimp only at HWC HPP HFI
    clear hmem hln hpp hpp2 hrt hown hrf hbb hss hpre h3 hs hs0 hsep h2
    gi_wp2
    refine region_round (S := fun u => u.cell? ⟨w.heap.size, 0, none⟩ = some (.func (.func 58) #[] #[])) (by kernel_rfl) (by kernel_rfl) (fun ⟨_, _, h⟩ => h) kf (fun hHeld => ?_)
    refine wpAnyH_take (i := 1) (oi := _) (v := ?_) rfl (by kernel_rfl) (by kernel_rfl) (by kernel_rfl) (fun _ _ _ h => h) (Or.inl ⟨by rfl, ?_⟩) (by assumption) ?_
    rotate_left
    · (intro w hSw; (try dsimp only at hSw); go_simp; all_goals (with_reducible rfl))
    (try simp only [Act.put])
    refine wpAnyH_take (i := 2) (oi := _) (v := ?_) rfl (by kernel_rfl) (by kernel_rfl) (by kernel_rfl) (fun _ _ _ h => h) (Or.inl ⟨by rfl, ?_⟩) (by assumption) ?_
    rotate_left
    · (intro w hSw; (try dsimp only at hSw); go_simp; all_goals (with_reducible rfl))
    (try simp only [Act.put])
    refine wpAnyH_take (i := 3) (oi := _) (v := ?_) rfl (by kernel_rfl) (by kernel_rfl) (by kernel_rfl) (fun _ _ _ h => h) (Or.inl ⟨by rfl, ?_⟩) (by assumption) ?_
    rotate_left
    · (intro w hSw; (try dsimp only at hSw); go_simp; all_goals (with_reducible rfl))
    (try simp only [Act.put])
    refine wpAnyH_ready (rs := [0, 4]) (by kernel_rfl) (by simp) ?_
    refine AllReadyH.cons (o := _) rfl (fun K hK => ?_) ?_
    · go_simp
      refine hK.out _ _ ?_ (fun hHeld => ?_)
      · (try dsimp only)
        first | assumption | exact kf | exact kf5 | exact kf6 | (exact (cell_alloc_lt lb50).trans kf5) | (exact (cell_set_far (by dsimp only; omega)).trans kf6)
      clear hK K
      (try simp only [Act.put, List.setIfInBounds_toArray, List.set_cons_zero, List.set_cons_succ])
      refine wpAnyH_ready (rs := [4]) (by kernel_rfl) (by simp) ?_
      refine AllReadyH.cons (o := _) rfl (fun K hK => ?_) ?_
      · go_simp
        (go_at_call 58; ((with_reducible refine Calls.mono (HWC.out _ HBY.out.drew) ?_); rintro e w5 ⟨rfl, hb5⟩))
        have l5 := hb5.size
        have kf5 : w5.cell? ⟨w.heap.size, 0, none⟩ = some (.func (.func 58) #[] #[]) := (hb5.cell (p := ⟨w.heap.size, 0, none⟩) HLB.out.1).trans kf
        have kt5 : w5.cell? ⟨w.heap.size + 1, 0, none⟩ = some v := (hb5.cell (p := ⟨w.heap.size + 1, 0, none⟩) HLB.out.2).trans kt
        have fz5 := ((show Row Y.drew _ _ _ from HRT.out).below hb5 HLB.out.2).free 0
        have own5 : w5.ownsRow (w.heap.size + 1 + 1 + 1) 9 1 v pre.length (pre.map Value.string) := own_below (w := Y.drew) HOW.out hb5
        obtain ⟨A6, c6, w6, hrun, hown6, hgr6, hloc6⟩ := push_str (wrD xa xb) own5 (by have := HLEN.out; omega) (by have h := HSZ.out; have h2 : Y.drew.heap.size = Y.heap.size := rfl; omega)
        have H5 := Lib.hid (And.intro hb5 (And.intro own5 (And.intro hown6 (And.intro hgr6 hloc6))))
        have hs6 := hgr6.size
        simp only [World.size_alloc] at hs6
        have kt6 : w6.cell? ⟨w.heap.size + 1, 0, none⟩ = some v := by
          have e : w6.heap[w.heap.size + 1]? = (w5.alloc (.cells #[.string (wrD xa xb)] 9)).heap[w.heap.size + 1]? := hgr6.block _ (by have := HLB.out.2; have h2 : Y.drew.heap.size = Y.heap.size := rfl; simp; omega) (fun e => by have := (own_cells own5 e.symm).1; omega)
          have e2 : w5.heap.size > w.heap.size + 1 := by have := HLB.out.2; have h2 : Y.drew.heap.size = Y.heap.size := rfl; omega
          unfold World.cell? at kt5 ⊢
          rw [e, Below.heap_alloc _ _ _ e2]; exact kt5
        have kf6 : w6.cell? ⟨w.heap.size, 0, none⟩ = some (.func (.func 58) #[] #[]) := by
          have e : w6.heap[w.heap.size]? = (w5.alloc (.cells #[.string (wrD xa xb)] 9)).heap[w.heap.size]? := hgr6.block _ (by have := HLB.out.2; have h2 : Y.drew.heap.size = Y.heap.size := rfl; simp; omega) (fun e => by have := (own_cells own5 e.symm).1; omega)
          have e2 : w5.heap.size > w.heap.size := by have := HLB.out.2; have h2 : Y.drew.heap.size = Y.heap.size := rfl; omega
          unfold World.cell? at kf5 ⊢
          rw [e, Below.heap_alloc _ _ _ e2]; exact kf5
        have fz6 : w6.frozen? ⟨w.heap.size + 1, 0, none⟩ = false := by
          have e : w6.heap[w.heap.size + 1]? = (w5.alloc (.cells #[.string (wrD xa xb)] 9)).heap[w.heap.size + 1]? := hgr6.block _ (by have := HLB.out.2; have h2 : Y.drew.heap.size = Y.heap.size := rfl; simp; omega) (fun e => by have := (own_cells own5 e.symm).1; omega)
          have e2 : w5.heap.size > w.heap.size + 1 := by have := HLB.out.2; have h2 : Y.drew.heap.size = Y.heap.size := rfl; omega
          unfold World.frozen? at fz5 ⊢
          rw [e, Below.heap_alloc _ _ _ e2]; exact fz5
        have lb5 : w.heap.size + 1 < w5.heap.size := by have := HLB.out.2; have h2 : Y.drew.heap.size = Y.heap.size := rfl; omega
        have lb50 : w.heap.size < w5.heap.size := by omega
        clear hb5 own5 hown6 hgr6 hloc6
        refine hK.out _ _ ?_ (fun hHeld => ?_)
        · (try dsimp only)
          first | assumption | exact kf | exact kf5 | exact kf6 | (exact (cell_alloc_lt lb50).trans kf5) | (exact (cell_set_far (by dsimp only; omega)).trans kf6)
        clear hK K
        (try simp only [Act.put, List.setIfInBounds_toArray, List.set_cons_zero, List.set_cons_succ])
        refine wpAnyH_ready (rs := [5]) (by kernel_rfl) (by simp) ?_
        refine AllReadyH.cons (o := _) rfl (fun K hK => ?_) ?_
        · go_simp
          refine hK.out _ _ ?_ (fun hHeld => ?_)
          · (try dsimp only)
            first | assumption | exact kf | exact kf5 | exact kf6 | (exact (cell_alloc_lt lb50).trans kf5) | (exact (cell_set_far (by dsimp only; omega)).trans kf6)
          clear hK K
          (try simp only [Act.put, List.setIfInBounds_toArray, List.set_cons_zero, List.set_cons_succ])
          refine wpAnyH_ready (rs := [6]) (by kernel_rfl) (by simp) ?_
          refine AllReadyH.cons (o := _) rfl (fun K hK => ?_) ?_
          · go_simp
            refine hK.out _ _ ?_ (fun hHeld => ?_)
            · (try dsimp only)
              first | assumption | exact kf | exact kf5 | exact kf6 | (exact (cell_alloc_lt lb50).trans kf5) | (exact (cell_set_far (by dsimp only; omega)).trans kf6)
            clear hK K
            (try simp only [Act.put, List.setIfInBounds_toArray, List.set_cons_zero, List.set_cons_succ])
            refine wpAnyH_ready (rs := [7]) (by kernel_rfl) (by simp) ?_
            refine AllReadyH.cons (o := _) rfl (fun K hK => ?_) ?_
            · go_simp
              refine hK.out _ _ ?_ (fun hHeld => ?_)
              · (try dsimp only)
                first | assumption | exact kf | exact kf5 | exact kf6 | (exact (cell_alloc_lt lb50).trans kf5) | (exact (cell_set_far (by dsimp only; omega)).trans kf6)
              clear hK K
              (try simp only [Act.put, List.setIfInBounds_toArray, List.set_cons_zero, List.set_cons_succ])
              refine wpAnyH_done (by kernel_rfl) ?_ _
              gi_wp2
              obtain ⟨hb5, own5, hown6, hgr6, hloc6⟩ := H5.out
              obtain ⟨g1, g2, g3⟩ := HFI.out _ _ _ _ hb5 own5 hown6 hgr6 hloc6
              exact ⟨g1, (by rw [HPP.out]; exact g2), g3⟩
            exact AllReadyH.nil
          exact AllReadyH.nil
        exact AllReadyH.nil
      exact AllReadyH.nil
    refine AllReadyH.cons (o := _) rfl (fun K hK => ?_) ?_
    · go_simp
      (go_at_call 58; ((with_reducible refine Calls.mono (HWC.out _ HBY.out.drew) ?_); rintro e w5 ⟨rfl, hb5⟩))
      have l5 := hb5.size
      have kf5 : w5.cell? ⟨w.heap.size, 0, none⟩ = some (.func (.func 58) #[] #[]) := (hb5.cell (p := ⟨w.heap.size, 0, none⟩) HLB.out.1).trans kf
      have kt5 : w5.cell? ⟨w.heap.size + 1, 0, none⟩ = some v := (hb5.cell (p := ⟨w.heap.size + 1, 0, none⟩) HLB.out.2).trans kt
      have fz5 := ((show Row Y.drew _ _ _ from HRT.out).below hb5 HLB.out.2).free 0
      have own5 : w5.ownsRow (w.heap.size + 1 + 1 + 1) 9 1 v pre.length (pre.map Value.string) := own_below (w := Y.drew) HOW.out hb5
      obtain ⟨A6, c6, w6, hrun, hown6, hgr6, hloc6⟩ := push_str (wrD xa xb) own5 (by have := HLEN.out; omega) (by have h := HSZ.out; have h2 : Y.drew.heap.size = Y.heap.size := rfl; omega)
      have H5 := Lib.hid (And.intro hb5 (And.intro own5 (And.intro hown6 (And.intro hgr6 hloc6))))
      have hs6 := hgr6.size
      simp only [World.size_alloc] at hs6
      have kt6 : w6.cell? ⟨w.heap.size + 1, 0, none⟩ = some v := by
        have e : w6.heap[w.heap.size + 1]? = (w5.alloc (.cells #[.string (wrD xa xb)] 9)).heap[w.heap.size + 1]? := hgr6.block _ (by have := HLB.out.2; have h2 : Y.drew.heap.size = Y.heap.size := rfl; simp; omega) (fun e => by have := (own_cells own5 e.symm).1; omega)
        have e2 : w5.heap.size > w.heap.size + 1 := by have := HLB.out.2; have h2 : Y.drew.heap.size = Y.heap.size := rfl; omega
        unfold World.cell? at kt5 ⊢
        rw [e, Below.heap_alloc _ _ _ e2]; exact kt5
      have kf6 : w6.cell? ⟨w.heap.size, 0, none⟩ = some (.func (.func 58) #[] #[]) := by
        have e : w6.heap[w.heap.size]? = (w5.alloc (.cells #[.string (wrD xa xb)] 9)).heap[w.heap.size]? := hgr6.block _ (by have := HLB.out.2; have h2 : Y.drew.heap.size = Y.heap.size := rfl; simp; omega) (fun e => by have := (own_cells own5 e.symm).1; omega)
        have e2 : w5.heap.size > w.heap.size := by have := HLB.out.2; have h2 : Y.drew.heap.size = Y.heap.size := rfl; omega
        unfold World.cell? at kf5 ⊢
        rw [e, Below.heap_alloc _ _ _ e2]; exact kf5
      have fz6 : w6.frozen? ⟨w.heap.size + 1, 0, none⟩ = false := by
        have e : w6.heap[w.heap.size + 1]? = (w5.alloc (.cells #[.string (wrD xa xb)] 9)).heap[w.heap.size + 1]? := hgr6.block _ (by have := HLB.out.2; have h2 : Y.drew.heap.size = Y.heap.size := rfl; simp; omega) (fun e => by have := (own_cells own5 e.symm).1; omega)
        have e2 : w5.heap.size > w.heap.size + 1 := by have := HLB.out.2; have h2 : Y.drew.heap.size = Y.heap.size := rfl; omega
        unfold World.frozen? at fz5 ⊢
        rw [e, Below.heap_alloc _ _ _ e2]; exact fz5
      have lb5 : w.heap.size + 1 < w5.heap.size := by have := HLB.out.2; have h2 : Y.drew.heap.size = Y.heap.size := rfl; omega
      have lb50 : w.heap.size < w5.heap.size := by omega
      clear hb5 own5 hown6 hgr6 hloc6
      refine hK.out _ _ ?_ (fun hHeld => ?_)
      · (try dsimp only)
        first | assumption | exact kf | exact kf5 | exact kf6 | (exact (cell_alloc_lt lb50).trans kf5) | (exact (cell_set_far (by dsimp only; omega)).trans kf6)
      clear hK K
      (try simp only [Act.put, List.setIfInBounds_toArray, List.set_cons_zero, List.set_cons_succ])
      refine wpAnyH_ready (rs := [0, 5]) (by kernel_rfl) (by simp) ?_
      refine AllReadyH.cons (o := _) rfl (fun K hK => ?_) ?_
      · go_simp
        refine hK.out _ _ ?_ (fun hHeld => ?_)
        · (try dsimp only)
          first | assumption | exact kf | exact kf5 | exact kf6 | (exact (cell_alloc_lt lb50).trans kf5) | (exact (cell_set_far (by dsimp only; omega)).trans kf6)
        clear hK K
        (try simp only [Act.put, List.setIfInBounds_toArray, List.set_cons_zero, List.set_cons_succ])
        refine wpAnyH_ready (rs := [5]) (by kernel_rfl) (by simp) ?_
        refine AllReadyH.cons (o := _) rfl (fun K hK => ?_) ?_
        · go_simp
          refine hK.out _ _ ?_ (fun hHeld => ?_)
          · (try dsimp only)
            first | assumption | exact kf | exact kf5 | exact kf6 | (exact (cell_alloc_lt lb50).trans kf5) | (exact (cell_set_far (by dsimp only; omega)).trans kf6)
          clear hK K
          (try simp only [Act.put, List.setIfInBounds_toArray, List.set_cons_zero, List.set_cons_succ])
          refine wpAnyH_ready (rs := [6]) (by kernel_rfl) (by simp) ?_
          refine AllReadyH.cons (o := _) rfl (fun K hK => ?_) ?_
          · go_simp
            refine hK.out _ _ ?_ (fun hHeld => ?_)
            · (try dsimp only)
              first | assumption | exact kf | exact kf5 | exact kf6 | (exact (cell_alloc_lt lb50).trans kf5) | (exact (cell_set_far (by dsimp only; omega)).trans kf6)
            clear hK K
            (try simp only [Act.put, List.setIfInBounds_toArray, List.set_cons_zero, List.set_cons_succ])
            refine wpAnyH_ready (rs := [7]) (by kernel_rfl) (by simp) ?_
            refine AllReadyH.cons (o := _) rfl (fun K hK => ?_) ?_
            · go_simp
              refine hK.out _ _ ?_ (fun hHeld => ?_)
              · (try dsimp only)
                first | assumption | exact kf | exact kf5 | exact kf6 | (exact (cell_alloc_lt lb50).trans kf5) | (exact (cell_set_far (by dsimp only; omega)).trans kf6)
              clear hK K
              (try simp only [Act.put, List.setIfInBounds_toArray, List.set_cons_zero, List.set_cons_succ])
              refine wpAnyH_done (by kernel_rfl) ?_ _
              gi_wp2
              obtain ⟨hb5, own5, hown6, hgr6, hloc6⟩ := H5.out
              obtain ⟨g1, g2, g3⟩ := HFI.out _ _ _ _ hb5 own5 hown6 hgr6 hloc6
              exact ⟨g1, (by rw [HPP.out]; exact g2), g3⟩
            exact AllReadyH.nil
          exact AllReadyH.nil
        exact AllReadyH.nil
      refine AllReadyH.cons (o := _) rfl (fun K hK => ?_) ?_
      · go_simp
        refine hK.out _ _ ?_ (fun hHeld => ?_)
        · (try dsimp only)
          first | assumption | exact kf | exact kf5 | exact kf6 | (exact (cell_alloc_lt lb50).trans kf5) | (exact (cell_set_far (by dsimp only; omega)).trans kf6)
        clear hK K
        (try simp only [Act.put, List.setIfInBounds_toArray, List.set_cons_zero, List.set_cons_succ])
        refine wpAnyH_ready (rs := [0]) (by kernel_rfl) (by simp) ?_
        refine AllReadyH.cons (o := _) rfl (fun K hK => ?_) ?_
        · go_simp
          refine hK.out _ _ ?_ (fun hHeld => ?_)
          · (try dsimp only)
            first | assumption | exact kf | exact kf5 | exact kf6 | (exact (cell_alloc_lt lb50).trans kf5) | (exact (cell_set_far (by dsimp only; omega)).trans kf6)
          clear hK K
          (try simp only [Act.put, List.setIfInBounds_toArray, List.set_cons_zero, List.set_cons_succ])
          refine wpAnyH_ready (rs := [6]) (by kernel_rfl) (by simp) ?_
          refine AllReadyH.cons (o := _) rfl (fun K hK => ?_) ?_
          · go_simp
            refine hK.out _ _ ?_ (fun hHeld => ?_)
            · (try dsimp only)
              first | assumption | exact kf | exact kf5 | exact kf6 | (exact (cell_alloc_lt lb50).trans kf5) | (exact (cell_set_far (by dsimp only; omega)).trans kf6)
            clear hK K
            (try simp only [Act.put, List.setIfInBounds_toArray, List.set_cons_zero, List.set_cons_succ])
            refine wpAnyH_ready (rs := [7]) (by kernel_rfl) (by simp) ?_
            refine AllReadyH.cons (o := _) rfl (fun K hK => ?_) ?_
            · go_simp
              refine hK.out _ _ ?_ (fun hHeld => ?_)
              · (try dsimp only)
                first | assumption | exact kf | exact kf5 | exact kf6 | (exact (cell_alloc_lt lb50).trans kf5) | (exact (cell_set_far (by dsimp only; omega)).trans kf6)
              clear hK K
              (try simp only [Act.put, List.setIfInBounds_toArray, List.set_cons_zero, List.set_cons_succ])
              refine wpAnyH_done (by kernel_rfl) ?_ _
              gi_wp2
              obtain ⟨hb5, own5, hown6, hgr6, hloc6⟩ := H5.out
              obtain ⟨g1, g2, g3⟩ := HFI.out _ _ _ _ hb5 own5 hown6 hgr6 hloc6
              exact ⟨g1, (by rw [HPP.out]; exact g2), g3⟩
            exact AllReadyH.nil
          exact AllReadyH.nil
        exact AllReadyH.nil
      exact AllReadyH.nil
    exact AllReadyH.nil
  case done =>
    rintro D Y rfl ⟨⟨⟨v, hrt, hown⟩, hrf, hbb, hss⟩, h3⟩ hD
    have hne : (rl 25 s 0) ≠ [] := by
      intro h
      have h9 := rl_cons 25 s 0 (by rw [Nat.pow_zero, Nat.div_one]; exact hs0) (by decide)
      rw [h] at h9
      cases h9
    obtain ⟨TX, hTX⟩ : ∃ TX, ((rl 25 s 0).map fun p => wrD p.1 p.2) = TX := ⟨_, rfl⟩
    have h25 : TX.length ≤ 25 := by rw [← hTX, List.length_map]; exact rl_len 25 s 0
    have h100 : ∀ x ∈ TX, x.size ≤ 100 := by
      intro x hx
      rw [← hTX] at hx
      obtain ⟨p, hp, rfl⟩ := List.mem_map.1 hx
      exact HW0.out p hp
    have hpos : 0 < TX.length := by rw [← hTX, List.length_map]; exact List.length_pos_iff.2 hne
    have HQ := Lib.hid (show wrRuns sep.data.toList wrD s = ⟨(Lib.join (TX.map (·.data.toList)) sep.data.toList).toArray⟩ by unfold wrRuns; rw [hTX])
    rw [hTX] at hown
    clear hTX hne
    obtain ⟨A, c, rfl, hc1, hc2, hA⟩ := own_slice hown
    obtain ⟨g, rfl, hg1, hg2⟩ : ∃ g, A = some ⟨g, 0, none⟩ ∧ w.heap.size + 1 + 1 + 1 ≤ g ∧ g < Y.heap.size := by
      rcases hA with ⟨-, h0⟩ | h
      · omega
      · exact h
    have HJ := Lib.hid (join_any sep TX Y hown hsep h25 h100)
    obtain ⟨res, hres⟩ : ∃ r : ByteArray, ⟨(Lib.join (TX.map (·.data.toList)) sep.data.toList).toArray⟩ = r := ⟨_, rfl⟩
    rw [hres] at HJ
    have HRES := Lib.hid (HQ.out.trans hres)
    have kt := hrt.cell 0
    have HBB := Lib.hid hbb
    have HDD := Lib.hid hD
    obtain ⟨N, hN⟩ : ∃ N, TX.length = N := ⟨_, rfl⟩
    rw [hN] at HJ kt
    clear hrt hown hrf hbb hss hA hpos hc1 hc2 HQ hres hN hD h25 h100
    gi_wp2_with (refine ⟨trivial, ?_⟩; gi_at_call 42; ((with_reducible refine CallsIn.mono (callsIn_wide.2 HJ.out) ?_); rintro e' w7 ⟨rfl, hb7⟩))
    have hD7 := (hb7.block X.heap.size (Array.getElem?_eq_some_iff.1 HDD.out).1).trans HDD.out
    rw [hsX] at hD7
    refine ⟨by simp, .inl ⟨_, _, rfl, run_takeDeferred hD7, ?_⟩⟩
    exact ⟨_, results_tmp rfl _ _ _, (by rw [HRES.out]; rfl), (below_to HBB.out hb7).trans (belowK_b (w := w) (Nat.le_refl _) _ _ _ _ (by omega) hD7 rfl rfl)⟩
end Go.Proofs.YtmfpaankkoaoaaaDoor
