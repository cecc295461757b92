/- The iterator cuts, handed to any loop. -/
import Derived.Test.YtnmhigjannihgaaKb
namespace Go.Proofs.Ytnmhigjannihgaa
open Go.RowKit Go.Shelf
attribute [local go_sem] Oper.semAt_some
attribute [local go_sem ↓] append_appN

theorem RoundInn.anyDepth {F : Fence} (hd : F.depth = none) {m m' : Nat} {P : Program} {l : Nat} {f : FuncId} {tmps : Array Value} {assign body : Code} {w : World} {R : Ending → World → Prop}
    (h : RoundIn F m P l f tmps assign body w R) : RoundIn F m' P l f tmps assign body w R := ⟨h.1, fun c cs _ => h.2 c cs (fun d e => by rw [hd] at e; cases e)⟩
theorem YieldAt.any {F : Fence} (hd : F.depth = none) {m : Nat} (m' : Nat) {P : Program} {l : Nat} {args : Array Value} {W : World} {R : Ending → World → Prop} (h : YieldAt F m P l args W R) : YieldAt F m' P l args W R := by
  obtain ⟨fn, tmps, assign, body, hy, hR⟩ := h
  exact ⟨fn, tmps, assign, body, hy, RoundInn.anyDepth hd hR⟩
/-- The least number that p has. -/
theorem least_of {p : Nat → Prop} : ∀ n, p n → ∃ m, p m ∧ ∀ k, k < m → ¬ p k := by
  intro n
  induction n using Nat.strongRecOn with
  | ind n ih =>
    intro h
    by_cases c : ∃ k, k < n ∧ p k
    · obtain ⟨k, hk, hp⟩ := c
      exact ih k hk hp
    · exact ⟨n, h, fun k hk hp => c ⟨k, hk, hp⟩⟩
open Classical in
noncomputable def leastN (p : Nat → Prop) : Nat := if h : ∃ m, p m ∧ ∀ k, k < m → ¬ p k then h.choose else 0
theorem leastN_spec {p : Nat → Prop} {n : Nat} (h : p n) : p (leastN p) ∧ leastN p ≤ n := by
  have h1 := least_of n h
  unfold leastN
  rw [dif_pos h1]
  obtain ⟨a, b⟩ := h1.choose_spec
  refine ⟨a, ?_⟩
  rcases Nat.lt_or_ge n h1.choose with c | c
  · exact absurd h (b n c)
  · exact c
theorem cuts_small : ∀ n : Fin 5, ∀ c ∈ cutsL n.val, c.length ≤ 4 ∧ ∀ k ∈ c, k < 4 := by decide +kernel
theorem long_len (n : Nat) (c : List Nat) : (longL n c).length ≤ n := by unfold longL; rw [List.length_map, List.length_range]; omega
/-- What is handed over: a cut, and the length. -/
def CutE (B : Nat) (i : ItemP) (W : World) (c : List Nat) (vs : Array Value) : Prop := ∃ A cp, vs = #[.slice A c.length cp, .int .i64 (lengthV i (zi c)).1] ∧ W.ownsRow B 3 1 (.slice A c.length cp) c.length (iv1 (zi c))
/-- What the iterator knows between its rounds. -/
structure CtIn (B0 Bi Bq : Nat) (i : ItemP) (A1 : Option Addr) (n1 c1 : Nat) (A2 : Option Addr) (n2 c2 : Nat) (no : World → Nat → Prop) (A : Option Addr) (b off c : Nat) (q : List (List Nat)) (xs : List Value) (X : World) : Prop where
  qa : QAt X A b off q.length c xs
  cs : QCuts Bq X b xs (q.map zi)
  ge : Bq ≤ b
  nb : ¬ no X b
  nc : ∀ x ∈ xs, ∀ g, x.ownBlock = some g → ¬ no X g
  box : Row X Bi 24 #[.int .i64 i.id, .int .i64 i.kind, .int .i64 i.len, .slice A1 n1 c1, .slice A2 n2 c2, .int .i64 i.artist, .int .i64 i.tempo, .int .i64 i.lang]
  it : ItAt i A1 n1 c1 A2 n2 c2 B0 X
  low : B0 ≤ Bq ∧ Bq ≤ X.heap.size
theorem CtIn.more {B0 Bi Bq : Nat} {i : ItemP} {A1 : Option Addr} {n1 c1 : Nat} {A2 : Option Addr} {n2 c2 : Nat} {no : World → Nat → Prop} {A : Option Addr} {b off c : Nat} {q : List (List Nat)} {xs : List Value} {X Y : World}
    (h : CtIn B0 Bi Bq i A1 n1 c1 A2 n2 c2 no A b off c q xs X) (hs : X.heap.size ≤ Y.heap.size) (hk : ∀ k, k < X.heap.size → ¬ no X k → Y.heap[k]? = X.heap[k]?) (hn : ∀ k, k < X.heap.size → no Y k → no X k) (hfix : ∀ k, (k = Bi ∨ k < B0) → ¬ no X k) :
    CtIn B0 Bi Bq i A1 n1 c1 A2 n2 c2 no A b off c q xs Y := by
  have hcell : ∀ p : Addr, p.block < B0 → Y.cell? p = X.cell? p := fun p hp => World.cell?_of_block (hk p.block (by have := h.low; omega) (hfix _ (.inr hp)))
  exact ⟨h.qa.keep hs (hk b h.qa.lt h.nb), h.cs.keep (fun x hx g e => hk g (h.cs.lt x hx g e).2.1 (h.nc x hx g e)), h.ge, fun e => h.nb (hn b h.qa.lt e), fun x hx g e k => h.nc x hx g e (hn g (h.cs.lt x hx g e).2.1 k),
    (hk Bi h.box.lt (hfix _ (.inl rfl))).trans h.box, ⟨h.it.t.keep hcell, h.it.k.keep hcell⟩, ⟨h.low.1, by have := h.low; omega⟩⟩
theorem CtIn.below {B0 Bi Bq : Nat} {i : ItemP} {A1 : Option Addr} {n1 c1 : Nat} {A2 : Option Addr} {n2 c2 : Nat} {no : World → Nat → Prop} {A : Option Addr} {b off c : Nat} {q : List (List Nat)} {xs : List Value} {X Y : World}
    (h : CtIn B0 Bi Bq i A1 n1 c1 A2 n2 c2 no A b off c q xs X) (hb : Below X.heap.size X Y) (hn : ∀ k, no Y k → no X k) (hfix : ∀ k, (k = Bi ∨ k < B0) → ¬ no X k) : CtIn B0 Bi Bq i A1 n1 c1 A2 n2 c2 no A b off c q xs Y :=
  h.more hb.size (fun k hk _ => hb.block k hk) (fun k _ e => hn k e) hfix
theorem CtIn.round {B0 Bi Bq : Nat} {i : ItemP} {A1 : Option Addr} {n1 c1 : Nat} {A2 : Option Addr} {n2 c2 : Nat} {no : World → Nat → Prop} {A : Option Addr} {b off c : Nat} {q : List (List Nat)} {xs : List Value} {X Y : World}
    (h : CtIn B0 Bi Bq i A1 n1 c1 A2 n2 c2 no A b off c q xs X) (hr : RoundK no X Y) (hfix : ∀ k, (k = Bi ∨ k < B0) → ¬ no X k) : CtIn B0 Bi Bq i A1 n1 c1 A2 n2 c2 no A b off c q xs Y :=
  h.more hr.keeps.size (fun k hk hn => hr.keeps.block k hk hn) (fun k hk e => (hr.grow k e).elim id (fun e => by omega)) hfix
theorem CtIn.own {B0 Bi Bq : Nat} {i : ItemP} {A1 : Option Addr} {n1 c1 : Nat} {A2 : Option Addr} {n2 c2 : Nat} {no : World → Nat → Prop} {A : Option Addr} {b off c : Nat} {d : List Nat} {q : List (List Nat)} {x : Value} {xs : List Value} {X : World}
    (h : CtIn B0 Bi Bq i A1 n1 c1 A2 n2 c2 no A b off c (d :: q) (x :: xs) X) : X.ownsRow Bq 3 1 x d.length (iv1 (zi d)) := by
  have := (h.cs.2 0 x (zi d) rfl rfl).1
  rwa [show (zi d).length = d.length by simp [zi]] at this
/-- One cut less in front, the longer ones behind. -/
theorem CtIn.step {B0 Bi Bq : Nat} {i : ItemP} {A1 : Option Addr} {n1 c1 : Nat} {A2 : Option Addr} {n2 c2 : Nat} {no : World → Nat → Prop} {A : Option Addr} {b off c : Nat} {d : List Nat} {q : List (List Nat)} {x : Value} {xs : List Value} {X u : World}
    (h : CtIn B0 Bi Bq i A1 n1 c1 A2 n2 c2 no A b off c (d :: q) (x :: xs) X) (hu : Below X.heap.size X u) {A' : Option Addr} (hA : 0 < c - 1 → A' = some ⟨b, off + 1, none⟩) {m : Nat} {Q : List (List Nat)} (hQ : q ++ longL m d = Q) (hm : Q.length ≤ 1000) {v : Value} {ys : List Value}
    (ho : u.ownsRow X.heap.size 26 1 v ys.length ys) (hc : CutsAt u X.heap.size v ys ((longL m d).map zi)) (hno : ∀ Y, X.grownBy Y (some b) → ∀ k, no Y k → no X k) (hnlt : ∀ k, no X k → k < X.heap.size) (hBi : Bi < Bq) :
    ∃ A2' c2' , v = .slice A2' ys.length c2' ∧ ∃ A3 c3 w3, Sem.run Try.prog (appN #[42, 42] 42 #[.slice A' q.length (c - 1), v]) u = .ok (.slice A3 Q.length c3) w3 ∧ X.grownBy w3 (some b) ∧
      ∃ b3 off3, CtIn B0 Bi Bq i A1 n1 c1 A2 n2 c2 no A3 b3 off3 c3 Q (xs ++ ys) w3 := by
  subst hQ
  obtain ⟨A2', c2', rfl, -⟩ := own_slice ho
  have hq := (h.qa.tail hA).keep hu.size (hu.block b h.qa.lt)
  have hyl : ys.length = (longL m d).length := by have := hc.1; simpa using this
  have hqc : QCuts X.heap.size u b ys ((longL m d).map zi) := ⟨hc.1, fun j y l hy hl => ⟨(hc.2 j y l hy hl).1, fun e => by have := own_ge (hc.2 j y l hy hl).1 b e; have := h.qa.lt; omega⟩⟩
  have hlen : q.length + ys.length = (q ++ longL m d).length := by rw [List.length_append, hyl]
  obtain ⟨A3, c3, w3, hrun, b3, off3, hq3, hb3, hg3⟩ := hq.append rfl ho hqc.one (by omega)
  rw [hlen] at hrun hq3
  have hs1 := hu.size
  have hs2 := hg3.size
  have hg : X.grownBy w3 (some b) := ⟨hg3.os.trans hu.os, hg3.tape.trans hu.tape, hg3.output.trans hu.output, by omega, fun k hk hn => (hg3.block k (by omega) hn).trans (hu.block k hk)⟩
  have hst : ∀ k, k < u.heap.size → k ≠ b → w3.heap[k]? = u.heap[k]? := fun k hk hn => hg3.block k hk (fun e => hn (Option.some.inj e))
  refine ⟨A2', c2', rfl, A3, c3, w3, hrun, hg, b3, off3, ?_⟩
  have hcs1 : QCuts Bq u b xs (q.map zi) := (h.cs.tail).keep (fun y hy g e => hu.block g (h.cs.lt y (by simp [hy]) g e).2.1)
  have hall : QCuts Bq u b (xs ++ ys) ((q ++ longL m d).map zi) := by
    rw [List.map_append]
    exact hcs1.append (hqc.down h.low.2)
  have hin : ∀ y ∈ xs ++ ys, ∀ g, y.ownBlock = some g → g < u.heap.size ∧ g ≠ b := fun y hy g e => ⟨(hall.lt y hy g e).2.1, (hall.lt y hy g e).2.2⟩
  have hBi2 : Bi ≠ b := by have := h.ge; omega
  have hcell : ∀ p : Addr, p.block < B0 → w3.cell? p = X.cell? p := fun p hp => World.cell?_of_block (hg.block p.block (by have := h.low; omega) (fun e => by have := Option.some.inj e; have := h.ge; have := h.low; omega))
  refine ⟨hq3, (hall.keep (fun y hy g e => hst g (hin y hy g e).1 (hin y hy g e).2)).other (fun y hy e => ?_), ?_, fun e => ?_, fun y hy g e k => ?_, (hg.block Bi h.box.lt (fun e => hBi2 (Option.some.inj e))).trans h.box, ⟨h.it.t.keep hcell, h.it.k.keep hcell⟩, ⟨h.low.1, by have := h.low; omega⟩⟩
  · rcases hb3 with rfl | hb3
    · exact (hin y hy _ e).2 rfl
    · have := (hin y hy _ e).1; omega
  · rcases hb3 with rfl | hb3
    · exact h.ge
    · have := h.low; omega
  · have := hno w3 hg b3 e
    rcases hb3 with rfl | hb3
    · exact h.nb this
    · have := hnlt b3 this; omega
  · have k1 := hno w3 hg g k
    rcases List.mem_append.1 hy with hy | hy
    · exact h.nc y (by simp [hy]) g e k1
    · have := (hqc.lt y hy g e).1
      have := hnlt g k1
      omega
end Go.Proofs.Ytnmhigjannihgaa
