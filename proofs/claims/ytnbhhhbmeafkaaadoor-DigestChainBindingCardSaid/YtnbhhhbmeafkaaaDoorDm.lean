/- Plain mathematics of layer 2: the digest of a list of bytes, block by block, with words as natural numbers. No program is named here. -/
namespace Go.Proofs.YtnbhhhbmeafkaaaDoor
namespace Dm

/-- A word rotated right. -/
def rotr (x n : Nat) : Nat := (x * 2 ^ (32 - n) % 4294967296) ||| (x / 2 ^ n)
def not32 (x : Nat) : Nat := 4294967295 ^^^ x
def lo (w : Nat) : Nat := rotr w 7 ^^^ rotr w 18 ^^^ w / 8
def hi (w : Nat) : Nat := rotr w 17 ^^^ rotr w 19 ^^^ w / 1024
def e1 (e : Nat) : Nat := rotr e 6 ^^^ rotr e 11 ^^^ rotr e 25
def e0 (a : Nat) : Nat := rotr a 2 ^^^ rotr a 13 ^^^ rotr a 22
def ch (e f g : Nat) : Nat := (e &&& f) ^^^ (not32 e &&& g)
def maj (a b c : Nat) : Nat := (a &&& b) ^^^ (a &&& c) ^^^ (b &&& c)
def add (a b : Nat) : Nat := (a + b) % 4294967296

def K : List Nat := [1116352408, 1899447441, 3049323471, 3921009573, 961987163, 1508970993, 2453635748, 2870763221, 3624381080, 310598401, 607225278, 1426881987, 1925078388, 2162078206, 2614888103, 3248222580, 3835390401, 4022224774, 264347078, 604807628, 770255983, 1249150122, 1555081692, 1996064986, 2554220882, 2821834349, 2952996808, 3210313671, 3336571891, 3584528711, 113926993, 338241895, 666307205, 773529912, 1294757372, 1396182291, 1695183700, 1986661051, 2177026350, 2456956037, 2730485921, 2820302411, 3259730800, 3345764771, 3516065817, 3600352804, 4094571909, 275423344, 430227734, 506948616, 659060556, 883997877, 958139571, 1322822218, 1537002063, 1747873779, 1955562222, 2024104815, 2227730452, 2361852424, 2428436474, 2756734187, 3204031479, 3329325298]

structure St where
  (a b c d e f g h : Nat)
def St.l (s : St) : List Nat := [s.a, s.b, s.c, s.d, s.e, s.f, s.g, s.h]
def St.ok (s : St) : Prop := s.a < 4294967296 ∧ s.b < 4294967296 ∧ s.c < 4294967296 ∧ s.d < 4294967296 ∧ s.e < 4294967296 ∧ s.f < 4294967296 ∧ s.g < 4294967296 ∧ s.h < 4294967296
def init : St := ⟨1779033703, 3144134277, 1013904242, 2773480762, 1359893119, 2600822924, 528734635, 1541459225⟩

/-- The word i of a block. -/
def word (b : List UInt8) (i : Nat) : Nat :=
  ((b.getD (4 * i) 0).toNat * 16777216) ||| ((b.getD (4 * i + 1) 0).toNat * 65536) ||| ((b.getD (4 * i + 2) 0).toNat * 256) ||| (b.getD (4 * i + 3) 0).toNat
def words (b : List UInt8) : List Nat := (List.range 16).map (word b)
/-- The next word of a schedule with k words. -/
def next (w : List Nat) (k : Nat) : Nat := add (add (add (w.getD (k - 16) 0) (lo (w.getD (k - 15) 0))) (w.getD (k - 7) 0)) (hi (w.getD (k - 2) 0))
def sched : Nat → List Nat → List Nat
  | 0, w => w
  | n + 1, w => sched n (w ++ [next w w.length])
def full (b : List UInt8) : List Nat := sched 48 (words b)

def t1 (s : St) (k w : Nat) : Nat := add (add (add (add s.h (e1 s.e)) (ch s.e s.f s.g)) k) w
def t2 (s : St) : Nat := add (e0 s.a) (maj s.a s.b s.c)
def round (s : St) (k w : Nat) : St := ⟨add (t1 s k w) (t2 s), s.a, s.b, s.c, add s.d (t1 s k w), s.e, s.f, s.g⟩
/-- n rounds from the round i on. -/
def rounds (w : List Nat) (n i : Nat) (s : St) : St := (List.range' i n).foldl (fun s j => round s (K.getD j 0) (w.getD j 0)) s
def plus (s t : St) : St := ⟨add s.a t.a, add s.b t.b, add s.c t.c, add s.d t.d, add s.e t.e, add s.f t.f, add s.g t.g, add s.h t.h⟩
def mix (s : St) (b : List UInt8) : St := plus s (rounds (full b) 64 0 s)
/-- n blocks of l, one after the other. -/
def mixes (n : Nat) (s : St) (l : List UInt8) : St := (List.range n).foldl (fun s j => mix s ((l.drop (64 * j)).take 64)) s

def len8 (n : Nat) : List UInt8 := (List.range 8).map fun i => UInt8.ofNat (8 * n / 256 ^ (7 - i) % 256)
def zeros (n : Nat) : Nat := (119 - n % 64) % 64
def pad (n : Nat) : List UInt8 := [128] ++ List.replicate (zeros n) 0 ++ len8 n
def ext (l : List UInt8) : List UInt8 := l ++ pad l.length
def bytes4 (x : Nat) : List UInt8 := [UInt8.ofNat (x / 16777216 % 256), UInt8.ofNat (x / 65536 % 256), UInt8.ofNat (x / 256 % 256), UInt8.ofNat (x % 256)]
def out (s : St) : List UInt8 := s.l.flatMap bytes4
def sha (l : List UInt8) : List UInt8 := out (mixes ((ext l).length / 64) init (ext l))

theorem add_lt (a b : Nat) : add a b < 4294967296 := Nat.mod_lt _ (by decide)
theorem two32 : (4294967296 : Nat) = 2 ^ 32 := by decide
theorem xor_lt (a b : Nat) (h : a < 4294967296) (k : b < 4294967296) : a ^^^ b < 4294967296 := by
  rw [two32] at h k ⊢; exact Nat.xor_lt_two_pow h k
theorem or_lt (a b : Nat) (h : a < 4294967296) (k : b < 4294967296) : a ||| b < 4294967296 := by
  rw [two32] at h k ⊢; exact Nat.or_lt_two_pow h k
theorem and_lt (a b : Nat) (h : a < 4294967296) : a &&& b < 4294967296 := Nat.lt_of_le_of_lt Nat.and_le_left h
theorem div_lt (a b : Nat) (h : a < 4294967296) : a / b < 4294967296 := Nat.lt_of_le_of_lt (Nat.div_le_self _ _) h
theorem rotr_lt (x n : Nat) (h : x < 4294967296) : rotr x n < 4294967296 := or_lt _ _ (Nat.mod_lt _ (by decide)) (div_lt _ _ h)
theorem not_lt (x : Nat) (h : x < 4294967296) : not32 x < 4294967296 := xor_lt _ _ (by decide) h
theorem lo_lt (w : Nat) (h : w < 4294967296) : lo w < 4294967296 := xor_lt _ _ (xor_lt _ _ (rotr_lt _ _ h) (rotr_lt _ _ h)) (div_lt _ _ h)
theorem hi_lt (w : Nat) (h : w < 4294967296) : hi w < 4294967296 := xor_lt _ _ (xor_lt _ _ (rotr_lt _ _ h) (rotr_lt _ _ h)) (div_lt _ _ h)
theorem e1_lt (w : Nat) (h : w < 4294967296) : e1 w < 4294967296 := xor_lt _ _ (xor_lt _ _ (rotr_lt _ _ h) (rotr_lt _ _ h)) (rotr_lt _ _ h)
theorem e0_lt (w : Nat) (h : w < 4294967296) : e0 w < 4294967296 := xor_lt _ _ (xor_lt _ _ (rotr_lt _ _ h) (rotr_lt _ _ h)) (rotr_lt _ _ h)
theorem ch_lt (e f g : Nat) (he : e < 4294967296) : ch e f g < 4294967296 := xor_lt _ _ (and_lt _ _ he) (and_lt _ _ (not_lt _ he))
theorem maj_lt (a b c : Nat) (ha : a < 4294967296) (hb : b < 4294967296) : maj a b c < 4294967296 := xor_lt _ _ (xor_lt _ _ (and_lt _ _ ha) (and_lt _ _ ha)) (and_lt _ _ hb)
theorem round_ok {s : St} (h : s.ok) (k w : Nat) : (round s k w).ok := by
  obtain ⟨ha, hb, hc, hd, he, hf, hg, hh⟩ := h
  unfold St.ok round
  dsimp only
  exact ⟨add_lt _ _, ha, hb, hc, add_lt _ _, he, hf, hg⟩
theorem foldl_inv {α β : Type} (p : β → Prop) (f : β → α → β) (l : List α) (h : ∀ b a, p b → p (f b a)) : ∀ b, p b → p (l.foldl f b) := by
  induction l with
  | nil => intro b hb; exact hb
  | cons a l ih => intro b hb; rw [List.foldl_cons]; exact ih _ (h _ _ hb)
theorem rounds_ok (w : List Nat) (n i : Nat) (s : St) (h : s.ok) : (rounds w n i s).ok := by
  rw [rounds]; exact foldl_inv St.ok _ _ (fun s j h => round_ok h _ _) _ h
theorem rounds_zero (w : List Nat) (i : Nat) (s : St) : rounds w 0 i s = s := by rw [rounds, List.range'_zero, List.foldl_nil]
theorem rounds_snoc (w : List Nat) (n i : Nat) (s : St) : rounds w (n + 1) i s = round (rounds w n i s) (K.getD (i + n) 0) (w.getD (i + n) 0) := by
  rw [rounds, rounds, List.range'_concat, List.foldl_append, Nat.one_mul, List.foldl_cons, List.foldl_nil]
theorem plus_ok (s t : St) : (plus s t).ok := by
  unfold St.ok plus
  dsimp only
  exact ⟨add_lt _ _, add_lt _ _, add_lt _ _, add_lt _ _, add_lt _ _, add_lt _ _, add_lt _ _, add_lt _ _⟩
theorem mix_ok (s : St) (b : List UInt8) : (mix s b).ok := by unfold mix; exact plus_ok _ _
theorem init_ok : init.ok := by unfold St.ok init; decide +kernel
theorem mixes_ok (n : Nat) (s : St) (l : List UInt8) (h : s.ok) : (mixes n s l).ok := by
  rw [mixes]; exact foldl_inv St.ok _ _ (fun s j _ => mix_ok _ _) _ h
theorem mixes_zero (s : St) (l : List UInt8) : mixes 0 s l = s := by rw [mixes, List.range_zero, List.foldl_nil]
theorem mixes_snoc (n : Nat) (s : St) (l : List UInt8) : mixes (n + 1) s l = mix (mixes n s l) ((l.drop (64 * n)).take 64) := by
  rw [mixes, mixes, List.range_succ, List.foldl_append, List.foldl_cons, List.foldl_nil]
theorem word_lt (b : List UInt8) (i : Nat) : word b i < 4294967296 := by
  have h : ∀ (x : UInt8), x.toNat < 256 := fun x => x.toNat_lt
  have h0 := h (b.getD (4 * i) 0); have h1 := h (b.getD (4 * i + 1) 0); have h2 := h (b.getD (4 * i + 2) 0); have h3 := h (b.getD (4 * i + 3) 0)
  exact or_lt _ _ (or_lt _ _ (or_lt _ _ (by omega) (by omega)) (by omega)) (by omega)
theorem next_lt (w : List Nat) (k : Nat) : next w k < 4294967296 := add_lt _ _
theorem getD_lt (w : List Nat) (h : ∀ x ∈ w, x < 4294967296) (i : Nat) : w.getD i 0 < 4294967296 := by
  rw [List.getD_eq_getElem?_getD]
  cases e : w[i]? with
  | none => decide
  | some x => exact h x (List.mem_of_getElem? e)
theorem K_lt (i : Nat) : K.getD i 0 < 4294967296 := getD_lt K (by decide +kernel) i
theorem words_lt (b : List UInt8) : ∀ x ∈ words b, x < 4294967296 := by
  intro x hx
  obtain ⟨i, _, rfl⟩ := List.mem_map.1 hx
  exact word_lt b i
theorem sched_lt (n : Nat) : ∀ (w : List Nat), (∀ x ∈ w, x < 4294967296) → ∀ x ∈ sched n w, x < 4294967296 := by
  induction n with
  | zero => intro w h; rw [sched]; exact h
  | succ n ih =>
    intro w h
    rw [sched]
    refine ih _ fun x hx => ?_
    rcases List.mem_append.1 hx with hx | hx
    · exact h x hx
    · rw [List.mem_singleton.1 hx]; exact next_lt _ _
theorem sched_len (n : Nat) : ∀ (w : List Nat), (sched n w).length = w.length + n := by
  induction n with
  | zero => intro w; rw [sched]; rfl
  | succ n ih => intro w; rw [sched, ih]; simp; omega
theorem sched_snoc (n : Nat) : ∀ (w : List Nat), sched (n + 1) w = sched n w ++ [next (sched n w) (sched n w).length] := by
  induction n with
  | zero => intro w; rw [sched, sched, sched]
  | succ n ih => intro w; rw [sched, ih]; rfl
theorem words_len (b : List UInt8) : (words b).length = 16 := by simp [words]
theorem full_len (b : List UInt8) : (full b).length = 64 := by rw [full, sched_len, words_len]
theorem full_lt (b : List UInt8) (i : Nat) : (full b).getD i 0 < 4294967296 := getD_lt _ (sched_lt _ _ (words_lt b)) i
theorem len8_len (n : Nat) : (len8 n).length = 8 := by rw [len8, List.length_map, List.length_range]
theorem pad_len (n : Nat) : (pad n).length = 9 + zeros n := by simp [pad, len8_len]; omega
theorem ext_len (l : List UInt8) : (ext l).length % 64 = 0 := by
  rw [ext, List.length_append, pad_len, zeros]; omega
theorem bytes4_len (x : Nat) : (bytes4 x).length = 4 := rfl
theorem out_len (s : St) : (out s).length = 32 := rfl
theorem sha_len (l : List UInt8) : (sha l).length = 32 := out_len _

end Dm
end Go.Proofs.YtnbhhhbmeafkaaaDoor
