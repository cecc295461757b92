/- Contract of pour: it copies a string into the block, and yields the block each time that it is full. -/
import Derived.Test.YtnbhhhbmeafkaaaDoorDe
import Derived.Test.YtnbhhhbmeafkaaaDoorDr
import Derived.Sort.QuietIn
import Derived.Lib.IndexBytes
namespace Go.Proofs.YtnbhhhbmeafkaaaDoor
open Go.RowKit Go.Shelf
attribute [local go_sem] Oper.semAt_some

theorem run_copy_str {P : Program} (w : World) (dT sT ty elem : TypeId) (g off dLen dCap : Nat) (l : List UInt8) (cur : Array Value) (t : TypeId) (m : Nat)
    (hu : P.underlying dT = some (.slice elem)) (hs : (P.info? elem).map (·.size) = some 1) (hg : w.heap[g]? = some (.cells cur t (0, 0))) (hm : m = Nat.min l.length dLen) (hfit : off + m ≤ cur.size) :
    (Builtin.copy_ #[dT, sT] ty #[.slice (some ⟨g, off, none⟩) dLen dCap, strOf l]).run P w =
      .ok (.int .i64 (m : Int)) (w.setRow g (cur.toList.take off ++ byteCells (l.take m) ++ cur.toList.drop (off + m)).toArray) := by
  have hl : (byteCells (l.take m)).length = m := by rw [byteCells_len, List.length_take, hm]; exact Nat.min_eq_left (Nat.min_le_left _ _)
  have h1 : ∀ v ∈ byteCells (l.take m), v.oneCell' = true := by
    intro v hv
    simp only [byteCells, List.mem_map] at hv
    obtain ⟨b, _, rfl⟩ := hv
    rfl
  have hst := run_storeCells_at P g off t (byteCells (l.take m)) 0 cur w hg (by rw [hl]; simpa using hfit) h1
  rw [hl] at hst
  cases hq : P.info? elem with
  | none => simp [hq] at hs
  | some i =>
    have hi : i.size = 1 := by simpa [hq] using hs
    have hc : List.take m (List.map (fun b : UInt8 => Value.int .u8 (b.toNat : Int)) (bs l).data.toList) = byteCells (l.take m) := by
      rw [bs_list, byteCells, List.map_take]
    have hsz : (bs l).size = l.length := bs_size l
    simp [Builtin.copy_, run_underlying hu, Builtin.lenOf, Builtin.firstCells, sizeOf, typeInfo, hq, hsz, ← hm]
    rw [hc, hst]
    simp [goInt, Result.andThen]

theorem wpListIn_copy_str {F : Fence} {n : Nat} {P : Program} (w : World) {ops : Array Oper} {rest : List Oper} {o : Oper} {a : Act} {Q : Exit → Act → World → Prop}
    (hg : o.guard = none) (d s : Operand) (dT sT : TypeId) (hop : o.op = Op.call { callee := Callee.builtin Builtin.copy, args := #[d, s], argTypes := #[dT, sT] })
    (elem : TypeId) (hu : P.underlying dT = some (.slice elem)) (hs : (P.info? elem).map (·.size) = some 1)
    (g off dLen dCap : Nat) (l : List UInt8) (hd : a.eval d = .slice (some ⟨g, off, none⟩) dLen dCap) (hsv : a.eval s = strOf l)
    (cur : Array Value) (t : TypeId) (hr : w.heap[g]? = some (.cells cur t (0, 0))) (m : Nat) (hm : m = Nat.min l.length dLen) (hfit : off + m ≤ cur.size)
    (hK : wpListIn F n P ops Q rest (a.put o.dst (.int .i64 (m : Int))) (w.setRow g (cur.toList.take off ++ byteCells (l.take m) ++ cur.toList.drop (off + m)).toArray)) :
    wpListIn F n P ops Q (o :: rest) a w := by
  refine wpListIn_plain hg fun K hK' => ?_
  have hrun := run_copy_str (P := P) w dT sT o.type elem g off dLen dCap l cur t m hu hs hr hm hfit
  unfold Oper.wpIn
  refine ⟨?_, ?_⟩
  · simp [Oper.about, hop, resolve, Target.leads, Sem.run_pure]
  · rw [Oper.semAt_plain F _ _ (by rw [hop]; intro c hc'; cases hc')]
    simp only [execOp, hop, resolve, invoke, builtin, List.map_toArray, List.map_cons, List.map_nil, hd, hsv, Sem.run_bind, Sem.run_pure, Result.andThen_ok, hrun]
    exact hK' _ _ hK

theorem wpListIn_load_all {F : Fence} {n : Nat} {P : Program} {w : World} {ops : Array Oper} {rest : List Oper} {o : Oper} {a : Act} {Q : Exit → Act → World → Prop} (hgd : o.guard = none) (ty : TypeId) (x : Operand) (ho : o.op = .load ty x)
    (g : Nat) (hx : a.eval x = .pointer (some ⟨g, 0, none⟩)) (t : TypeId) (cs : Array Value) (fr : Nat × Nat) (d : TypeDesc) (hg : w.heap[g]? = some (.cells cs t fr))
    (hu : P.underlying ty = some d) (hd : (match d with | .struct _ | .array _ _ => true | _ => false) = true) (hi : (P.info? ty).map (·.size) = some cs.size)
    (h : wpListIn F n P ops Q rest (a.put o.dst (.agg cs)) w) : wpListIn F n P ops Q (o :: rest) a w := by
  refine wpListIn_plain hgd fun K hK => ?_
  unfold Oper.wpIn
  refine ⟨?_, ?_⟩
  · simp [Oper.about, ho]
  · rw [Oper.semAt_plain F _ _ (by rw [ho]; intro c hc'; cases hc')]
    simp only [execOp, ho, hx, Instr.loadAt, Instr.sureAddr, Sem.run_bind, Sem.run_pure, Result.andThen_ok, run_loadVar_row w g t ty cs fr d hg hu hd hi]
    exact hK _ _ h
theorem wpListIn_store_all {F : Fence} {n : Nat} {P : Program} {w : World} {ops : Array Oper} {rest : List Oper} {o : Oper} {a : Act} {Q : Exit → Act → World → Prop} (hgd : o.guard = none) (ty : TypeId) (x y : Operand) (ho : o.op = .store ty x y)
    (g : Nat) (cells : Array Value) (hx : a.eval x = .pointer (some ⟨g, 0, none⟩)) (hy : a.eval y = .agg cells)
    (t : TypeId) (old : Array Value) (hg : w.heap[g]? = some (.cells old t (0, 0))) (hi : (P.info? ty).map (·.size) = some cells.size)
    (hold : old.size = cells.size) (h1 : cells.all (·.oneCell') = true)
    (h : wpListIn F n P ops Q rest (a.put o.dst undef) (w.setRow g cells)) : wpListIn F n P ops Q (o :: rest) a w := by
  refine wpListIn_plain hgd fun K hK => ?_
  unfold Oper.wpIn
  refine ⟨?_, ?_⟩
  · simp [Oper.about, ho]
  · rw [Oper.semAt_plain F _ _ (by rw [ho]; intro c hc'; cases hc')]
    simp only [execOp, ho, hx, hy, Instr.storeAt, Instr.sureAddr, Sem.run_bind, Sem.run_pure, Result.andThen_ok, run_storeVar_row w g t ty old cells hg hi hold h1]
    exact hK _ _ h

/-- A block: 64 bytes. -/
abbrev Block := { x : List UInt8 // x.length = 64 }
def flat (pre : List Block) : List UInt8 := (pre.map (·.1)).flatten
theorem flat_snoc (pre : List Block) (x : Block) : flat (pre ++ [x]) = flat pre ++ x.1 := by simp [flat]
def encB (x : Block) : Array Value := #[.agg (u8row x.1)]
theorem room_of_none {F : Fence} (hd : F.depth = none) (k : Nat) : F.room k := fun d h => by rw [hd] at h; cases h
theorem yield_any {m : Nat} (m' : Nat) {P : Program} {l : Nat} {args : Array Value} {W : World} {R : Ending → World → Prop} (h : YieldAt Fence.wide m P l args W R) : YieldAt Fence.wide m' P l args W R := by
  obtain ⟨fn, tmps, assign, body, hy, hR⟩ := h
  exact ⟨fn, tmps, assign, body, hy, hR.1, fun c cs _ => hR.2 c cs (room_of_none rfl _)⟩

/-- What pour keeps: the block, of which rest has been filled; the count; the box of yield. -/
structure PourSt (W : World) (Bb Bf By l : Nat) (rest junk : List UInt8) : Prop where
  len : (rest ++ junk).length = 64
  lt : rest.length < 64
  blk : Row W Bb 77 (u8row (rest ++ junk))
  cnt : Row W Bf 3 #[.int .i64 (rest.length : Int)]
  yld : Row W By 87 #[.func (.yield l) #[] #[]]

theorem copy_blk {F : Fence} {n : Nat} {P : Program} (w : World) {ops : Array Oper} {rest : List Oper} {o : Oper} {a : Act} {Q : Exit → Act → World → Prop}
    (hg : o.guard = none) (d s : Operand) (dT sT : TypeId) (hop : o.op = Op.call { callee := Callee.builtin Builtin.copy, args := #[d, s], argTypes := #[dT, sT] })
    (elem : TypeId) (hu : P.underlying dT = some (.slice elem)) (hs : (P.info? elem).map (·.size) = some 1)
    (g off m : Nat) (l x y : List UInt8) (t : TypeId) (hd : a.eval d = .slice (some ⟨g, off, none⟩) (64 - off) (64 - off)) (hsv : a.eval s = strOf l)
    (hr : Row w g t (u8row (x ++ y))) (hx : x.length = off) (hxy : (x ++ y).length = 64) (hm : m = Nat.min l.length (64 - off))
    (hK : ∀ w2, Row w2 g t (u8row ((x ++ l.take m) ++ y.drop m)) → Keeps (· = g) w w2 → wpListIn F n P ops Q rest (a.put o.dst (.int .i64 (m : Int))) w2) :
    wpListIn F n P ops Q (o :: rest) a w := by
  have hm2 : m ≤ 64 - off := by rw [hm]; exact Nat.min_le_right _ _
  have hxy' : x.length + y.length = 64 := by simpa using hxy
  refine wpListIn_copy_str w hg d s dT sT hop elem hu hs g off (64 - off) (64 - off) l hd hsv _ t hr m hm (by rw [u8row_size]; omega) (hK _ ?_ (Keeps.setRow (no := fun k => k = g) rfl _))
  have e : ((u8row (x ++ y)).toList.take off ++ byteCells (l.take m) ++ (u8row (x ++ y)).toList.drop (off + m)).toArray = u8row ((x ++ l.take m) ++ y.drop m) := by
    subst hx
    simp [u8row, byteCells, List.drop_append, List.map_drop, List.map_take]
  rw [e]
  exact setRow_heap _ _ _ _ _ _ hr

set_option maxRecDepth 100000 in
set_option maxHeartbeats 2000000 in
theorem pour_in (no : Nat → Prop) (l Bb Bf By B0 m : Nat) (J : List Block → World → Prop) (hne : Bb ≠ Bf ∧ Bb ≠ By ∧ Bf ≠ By ∧ ¬ no Bb ∧ ¬ no Bf ∧ ¬ no By)
    (hJ : ∀ pre X Y, J pre X → Below B0 X Y → J pre Y) (hB0 : B0 ≤ Bb ∧ B0 ≤ Bf)
    (hY : ∀ pre x W1, J pre W1 → B0 ≤ W1.heap.size → YieldAt Fence.wide (m - 1) Tryd.prog l (encB x) W1 fun e W' => e = .returned (.bool true) ∧ J (pre ++ [x]) W' ∧ Keeps no W1 W')
    (s : List UInt8) (hs : s.length ≤ 1099511627776) (pre : List Block) (rest junk : List UInt8) (W : World) (hst : PourSt W Bb Bf By l rest junk) (h0 : J pre W) :
    CallsIn Fence.wide m Tryd.prog 68 #[strOf s, .pointer (some ⟨Bb, 0, none⟩), .pointer (some ⟨Bf, 0, none⟩), .pointer (some ⟨By, 0, none⟩)] W fun e W' => e = .returned (.bool true) ∧
      ∃ pre' rest' junk', PourSt W' Bb Bf By l rest' junk' ∧ flat pre' ++ rest' = flat pre ++ rest ++ s ∧ J pre' W' ∧ Keeps (fun k => no k ∨ k = Bb ∨ k = Bf) W W' := by
  refine callsIn_of_wp Tryd.func68 rfl trivial ?_ rfl
  simp only [Tryd.ntmps68, List.size_toArray, List.length_cons, List.length_nil, Nat.reduceAdd, Nat.reduceSub, Array.replicate_succ, Array.replicate_zero, List.push_toArray, List.append_toArray, List.nil_append, List.cons_append]
  gi_wp2
  gi_loopw [0, 6] (fun v _ wr => ∃ (s' : List UInt8) (pre' : List Block) (rest' junk' : List UInt8), v = strOf s' ∧ s'.length ≤ 1099511627776 ∧ PourSt wr Bb Bf By l rest' junk' ∧ flat pre' ++ rest' ++ s' = flat pre ++ rest ++ s ∧ J pre' wr ∧ Keeps (fun k => no k ∨ k = Bb ∨ k = Bf) W wr)
    (fun v _ _ => match v with | .string b => b.size | _ => 0)
  case atStart => exact ⟨s, pre, rest, junk, rfl, hs, hst, rfl, h0, Keeps.refl _ _⟩
  case round =>
    obtain ⟨s', pre', rest', junk', rfl, hl', hst', hE, hj', hk'⟩ := hrel
    by_cases he : 0 < s'.length
    · have r1 := hst'.blk
      have c2 := hst'.cnt.cell 0
      have f2 := hst'.cnt.free 0
      simp only [List.getElem?_toArray, List.getElem?_cons_zero] at c2
      have hlt := hst'.lt
      have hlen := hst'.len
      obtain ⟨fl, hfl⟩ : ∃ f, rest'.length = f := ⟨_, rfl⟩
      rw [hfl] at c2 hlt
      have b1 : (fl : Int) ≤ 64 := by omega
      have b2 : (0 : Int) ≤ fl := by omega
      have b3 : (fl : Int) < 64 := by omega
      have HFL := Lib.hid hfl
      have HST := Lib.hid hst'
      have hss : (bs s').size = s'.length := bs_size s'
      clear hfl hst' r1
      obtain ⟨nn, hnn⟩ : ∃ x, x = Nat.min s'.length (64 - fl) := ⟨_, rfl⟩
      have hn1 : nn ≤ s'.length := by rw [hnn]; exact Nat.min_le_left _ _
      have hn2 : nn ≤ 64 - fl := by rw [hnn]; exact Nat.min_le_right _ _
      have HN := Lib.hid hnn
      have hu8 : (Tryd.prog.info? 5).map (·.size) = some 1 := by kernel_rfl
      have HU := Lib.hid hu8
      have HLN := Lib.hid hlen
      clear hnn hu8 hlen
      gi_wp2_with (refine copy_blk _ rfl (.tmp 11) (.tmp 12) 43 9 rfl 5 Tryd.underlying43 HU.out Bb fl nn s' rest' junk' 77 rfl rfl HST.out.blk HFL.out HLN.out HN.out ?_; intro w2 hr2 hk2)
      have hfy : Bb ≠ Bf := hne.1
      replace c2 : w2.cell? ⟨Bf, 0, none⟩ = some (.int .i64 (fl : Int)) := by rw [World.cell?_of_block (w := wr) (hk2.block Bf (HST.out.cnt.lt) (fun e => hne.1 e.symm))]; exact c2
      replace f2 : w2.frozen? ⟨Bf, 0, none⟩ = false := by rw [World.frozen?_of_block (w := wr) (hk2.block Bf (HST.out.cnt.lt) (fun e => hne.1 e.symm))]; exact f2
      have m1 : (nn : Int) ≤ (s'.length : Int) := by omega
      have m2 : (0 : Int) ≤ (nn : Int) := by omega
      have m3 : IntKind.i64.wrap ((fl : Int) + (nn : Int)) = (fl : Int) + (nn : Int) := IntWalk.i64_in _ (by omega)
      have hex : (bs s').extract nn s'.length = bs (s'.drop nn) := by
        have := Lib.extract_to_end (bs s') nn
        rw [hss, bs_list] at this
        rw [← this, bs_of]
      gi_region
      have hcB := HST.out.blk.lt
      have k3 : Keeps (fun k => no k ∨ k = Bb ∨ k = Bf) wr ((w2.setCell ⟨Bf, 0, none⟩ (.int .i64 ((fl : Int) + (nn : Int)))).drew) := by
        have h1 : Keeps (fun k => no k ∨ k = Bb ∨ k = Bf) wr w2 := ⟨hk2.os, hk2.tape, hk2.output, hk2.size, fun k hk hn => hk2.block k hk (fun e => hn (.inr (.inl e)))⟩
        have h2 : Keeps (fun k => no k ∨ k = Bb ∨ k = Bf) w2 (w2.setCell ⟨Bf, 0, none⟩ (.int .i64 ((fl : Int) + (nn : Int)))) := Keeps.setCell (.inr (.inr rfl)) _
        exact h1.trans (h2.trans ⟨rfl, rfl, rfl, Nat.le_refl _, fun _ _ _ => rfl⟩)
      have b3 : Below B0 wr ((w2.setCell ⟨Bf, 0, none⟩ (.int .i64 ((fl : Int) + (nn : Int)))).drew) := by
        have h1 : Below B0 wr w2 := hk2.below (fun k e => by omega) (by omega)
        exact (h1.setCell (p := ⟨Bf, 0, none⟩) hB0.2 _).drew
      have rB : Row ((w2.setCell ⟨Bf, 0, none⟩ (.int .i64 ((fl : Int) + (nn : Int)))).drew) Bb 77 (u8row ((rest' ++ s'.take nn) ++ junk'.drop nn)) := (hr2.far (p := ⟨Bf, 0, none⟩) hne.1 _).drew
      have rF : Row ((w2.setCell ⟨Bf, 0, none⟩ (.int .i64 ((fl : Int) + (nn : Int)))).drew) Bf 3 #[.int .i64 ((fl : Int) + (nn : Int))] := by
        have h1 : Row w2 Bf 3 #[.int .i64 (rest'.length : Int)] := (hk2.block Bf HST.out.cnt.lt (fun e => hne.1 e.symm)).trans HST.out.cnt
        exact (h1.put 0 _).drew
      have rY : Row ((w2.setCell ⟨Bf, 0, none⟩ (.int .i64 ((fl : Int) + (nn : Int)))).drew) By 87 #[.func (.yield l) #[] #[]] := by
        have h1 : Row w2 By 87 #[.func (.yield l) #[] #[]] := (hk2.block By HST.out.yld.lt (fun e => hne.2.1 e.symm)).trans HST.out.yld
        exact (h1.far (p := ⟨Bf, 0, none⟩) (fun e => hne.2.2.1 e.symm) _).drew
      have hj3 := hJ _ _ _ hj' b3
      have hsz3 := k3.size
      have c4 := rF.cell 0
      have c5 := rY.cell 0
      have f4 := rF.free 0
      simp only [List.getElem?_toArray, List.getElem?_cons_zero] at c4 c5
      have hnn := HN.out
      have hE2 : flat pre' ++ (rest' ++ s'.take nn) ++ s'.drop nn = flat pre ++ rest ++ s := by
        rw [← hE]; simp [List.append_assoc]
      have h64 : ((rest' ++ s'.take nn) ++ junk'.drop nn).length = 64 := by
        have := HLN.out; have := HFL.out; simp at *; omega
      have hlr : (rest' ++ s'.take nn).length = fl + nn := by have := HFL.out; simp; omega
      generalize (w2.setCell ⟨Bf, 0, none⟩ (.int .i64 ((fl : Int) + (nn : Int)))).drew = w3 at *
      clear c2 f2 hr2 hk2 m3 hex
      obtain ⟨r', hr'⟩ : ∃ x, rest' ++ s'.take nn = x := ⟨_, rfl⟩
      obtain ⟨j', hj''⟩ : ∃ x, junk'.drop nn = x := ⟨_, rfl⟩
      obtain ⟨q', hq'⟩ : ∃ x, s'.drop nn = x := ⟨_, rfl⟩
      have hql : q'.length = s'.length - nn := by rw [← hq', List.length_drop]
      rw [hr', hj''] at rB h64
      rw [hr', hq'] at hE2
      rw [hr'] at hlr
      rw [hq']
      have RB := Lib.hid rB; have RF := Lib.hid rF; have RY := Lib.hid rY; have HE2 := Lib.hid hE2; have H64 := Lib.hid h64; have HLR := Lib.hid hlr; have HQL := Lib.hid hql; have HNN := Lib.hid hnn
      clear rB rF rY hE2 h64 hlr hql hnn hq' hr' hj'' hE hst h0 hss
      by_cases hful : fl + nn < 64
      · have hd : decide ((fl : Int) + (nn : Int) < 64) = true := by simp; omega
        gi_wp2
        go_roundw
        case rel =>
          have hq0 : q'.length ≤ 1099511627776 := by have := HQL.out; omega
          exact ⟨q', pre', r', j', rfl, hq0, ⟨H64.out, by rw [HLR.out]; exact hful, RB.out, by rw [HLR.out]; exact RF.out, RY.out⟩, HE2.out, hj3, hk'.trans k3⟩
        case measure =>
          have := HQL.out; have := HNN.out
          have hq1 : q'.length < s'.length := by
            have hor : nn = s'.length ∨ nn = 64 - fl := by
              rcases Nat.le_total s'.length (64 - fl) with h | h
              · exact .inl (this.trans (Nat.min_eq_left h))
              · exact .inr (this.trans (Nat.min_eq_right h))
            omega
          simpa [bs_size] using hq1
      · have hd : decide ((fl : Int) + (nn : Int) < 64) = false := by simp; omega
        have hj0 : j' = [] := by
          have h1 := H64.out; have h2 := HLR.out
          simp at h1
          exact List.eq_nil_of_length_eq_zero (by omega)
        have hr64 : r'.length = 64 := by have h2 := HLR.out; omega
        rw [hj0, List.append_nil] at RB
        clear hj0
        obtain ⟨x, hx⟩ : ∃ x : Block, x.1 = r' := ⟨⟨r', hr64⟩, rfl⟩
        obtain ⟨fn, tmps, assign, body, hyy, hR⟩ := yield_any (m - 1) (hY pre' x w3 hj3 (by omega))
        obtain ⟨bl, hbl⟩ : ∃ x, u8row r' = x := ⟨_, rfl⟩
        have hbs : bl.size = 64 := by rw [← hbl, u8row_size, hr64]
        have hi64 : (Tryd.prog.info? 77).map (·.size) = some bl.size := by rw [hbs]; kernel_rfl
        unfold encB at hyy
        rw [hx, hbl] at hyy
        rw [hbl] at RB
        have HI := Lib.hid hi64; have HBL := Lib.hid hbl; have HR64 := Lib.hid hr64; have HX := Lib.hid hx
        clear hi64 hbl hr64 hbs hx
        gi_wp2_with (refine wpListIn_load_all rfl 77 (.tmp 1) rfl Bb rfl 77 bl (0, 0) _ RB.out Tryd.underlying77 rfl HI.out ?_)
        refine ⟨(fun h => absurd h (by decide)), hR.mono ?_⟩
        clear hR hyy hY c4 c5 f4
        rintro e w4 ⟨rfl, hj4, hk4⟩
        have qB : Row w4 Bb 77 bl := (hk4.block Bb RB.out.lt hne.2.2.2.1).trans RB.out
        have qF : Row w4 Bf 3 #[.int .i64 ((fl : Int) + (nn : Int))] := (hk4.block Bf RF.out.lt hne.2.2.2.2.1).trans RF.out
        have qY : Row w4 By 87 #[.func (.yield l) #[] #[]] := (hk4.block By RY.out.lt hne.2.2.2.2.2).trans RY.out
        have c4 := qF.cell 0
        have f4 := qF.free 0
        simp only [List.getElem?_toArray, List.getElem?_cons_zero] at c4
        have QB := Lib.hid qB; have QF := Lib.hid qF; have QY := Lib.hid qY
        clear qB qF qY
        gi_wp2
        go_roundw
        case rel =>
          have hq0 : q'.length ≤ 1099511627776 := by have := HQL.out; omega
          have b4 : Below B0 w4 (w4.setCell ⟨Bf, 0, none⟩ (.int .i64 0)) := (Below.refl _ _).setCell (p := ⟨Bf, 0, none⟩) hB0.2 _
          refine ⟨q', pre' ++ [x], [], r', rfl, hq0, ⟨HR64.out, by decide, ?_, (QF.out.put 0 _), QY.out.far (p := ⟨Bf, 0, none⟩) (fun e => hne.2.2.1 e.symm) _⟩, ?_, hJ _ _ _ hj4 b4, ?_⟩
          · rw [List.nil_append, HBL.out]; exact QB.out.far (p := ⟨Bf, 0, none⟩) hne.1 _
          · rw [flat_snoc, HX.out, List.append_nil]; exact HE2.out
          · exact (hk'.trans k3).trans ((Keeps.trans ⟨hk4.os, hk4.tape, hk4.output, hk4.size, fun k hk hn => hk4.block k hk (fun e => hn (.inl e))⟩ (Keeps.setCell (.inr (.inr rfl)) _)))
        case measure =>
          have := HQL.out; have := HNN.out
          have hq1 : q'.length < s'.length := by
            have hor : nn = s'.length ∨ nn = 64 - fl := by
              rcases Nat.le_total s'.length (64 - fl) with h | h
              · exact .inl (this.trans (Nat.min_eq_left h))
              · exact .inr (this.trans (Nat.min_eq_right h))
            omega
          simpa [bs_size] using hq1
    · obtain rfl : s' = [] := List.eq_nil_of_length_eq_zero (by omega)
      rw [List.append_nil] at hE
      have HE := Lib.hid hE; have HST := Lib.hid hst'
      clear hE hst' hst
      have hd : decide ((0 : Int) < (([] : List UInt8).length : Int)) = false := rfl
      gi_wp2
      go_ret
      exact ⟨rfl, pre', rest', junk', HST.out, HE.out, hj', hk'⟩
end Go.Proofs.YtnbhhhbmeafkaaaDoor
