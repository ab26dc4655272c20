/-
  Plain facts on numbers and lists for the check (a CRC) and for requests on a Stream; nothing of the program is in it.
-/
import Derived.Laws.BitsAllLaws
set_option maxRecDepth 100000
namespace Go.Proofs.Ytcpldcojckhapaa
namespace Pl

/-- One round of the check: shift, and add 40961 if the lowest bit was 1. -/
def bstep (c : Nat) : Nat := if c % 2 = 1 then (c / 2) ^^^ 40961 else c / 2
def bsteps : Nat → Nat → Nat
  | 0, c => c
  | n + 1, c => bstep (bsteps n c)
def byteStep (c b : Nat) : Nat := bsteps 8 (c ^^^ b)
def crcFrom (c : Nat) (l : List UInt8) : Nat := l.foldl (fun c b => byteStep c b.toNat) c
def crc (l : List UInt8) : Nat := crcFrom 65535 l

theorem bstep_lt (c : Nat) (h : c < 65536) : bstep c < 65536 := by
  unfold bstep
  split
  · exact Nat.xor_lt_two_pow (n := 16) (by omega) (by omega)
  · omega
theorem bsteps_lt (n c : Nat) (h : c < 65536) : bsteps n c < 65536 := by
  induction n with
  | zero => exact h
  | succ n ih => exact bstep_lt _ ih
theorem byteStep_lt (c b : Nat) (h : c < 65536) (hb : b < 256) : byteStep c b < 65536 :=
  bsteps_lt 8 _ (Nat.xor_lt_two_pow (n := 16) (by omega) (by omega))
theorem crcFrom_lt (l : List UInt8) (c : Nat) (h : c < 65536) : crcFrom c l < 65536 := by
  induction l generalizing c with
  | nil => exact h
  | cons b l ih => exact ih _ (byteStep_lt c b.toNat h b.toNat_lt)
theorem crc_lt (l : List UInt8) : crc l < 65536 := crcFrom_lt l 65535 (by omega)
theorem crc_snoc (l : List UInt8) (b : UInt8) : crc (l ++ [b]) = byteStep (crc l) b.toNat := by
  simp [crc, crcFrom, List.foldl_append]
theorem take_snoc (s : ByteArray) (k : Nat) (h : k < s.size) : s.data.toList.take (k + 1) = s.data.toList.take k ++ [s[k]] := by
  rw [List.take_succ_eq_append_getElem (by simpa using h)]; rfl
theorem crc_take (s : ByteArray) (k : Nat) (h : k < s.size) : crc (s.data.toList.take (k + 1)) = byteStep (crc (s.data.toList.take k)) s[k].toNat := by
  rw [take_snoc s k h, crc_snoc]

theorem xor_div2 (a b : Nat) : (a ^^^ b) / 2 = a / 2 ^^^ b / 2 := by
  have := Nat.shiftRight_xor_distrib (a := a) (b := b) (i := 1)
  simpa [Nat.shiftRight_eq_div_pow] using this
theorem xor_mod2 (a b : Nat) : (a ^^^ b) % 2 = (a + b) % 2 := by
  have h := Nat.xor_mod_two_pow (a := a) (b := b) (n := 1)
  simp only [Nat.pow_one] at h
  rw [h]
  rcases Nat.mod_two_eq_zero_or_one a with e | e <;> rcases Nat.mod_two_eq_zero_or_one b with f | f <;> rw [e, f] <;> simp <;> omega
/-- The document's own way, bit by bit of the byte, and the program's: one round of both. -/
theorem ref_odd (c x : Nat) (h : c % 2 ≠ x % 2) : (c / 2 ^^^ 40961) ^^^ (x / 2) = bstep (c ^^^ x) := by
  unfold bstep
  rw [if_pos (by rw [xor_mod2]; omega), xor_div2, Nat.xor_assoc, Nat.xor_assoc, Nat.xor_comm 40961]
theorem ref_even (c x : Nat) (h : c % 2 = x % 2) : (c / 2) ^^^ (x / 2) = bstep (c ^^^ x) := by
  unfold bstep
  rw [if_neg (by rw [xor_mod2]; omega), xor_div2]

theorem ofInt_i64 (a : Nat) (ha : a < 9223372036854775808) : (BitVec.ofInt 64 (a : Int)).toNat = a := by
  rw [BitVec.ofInt_natCast, BitVec.toNat_ofNat]; exact Nat.mod_eq_of_lt (by omega)
theorem i64_xor_nat (a b : Nat) (ha : a < 65536) (hb : b < 65536) : bits .xor .i64 (a : Int) (b : Int) = ((a ^^^ b : Nat) : Int) := by
  have hx : a ^^^ b < 2 ^ 16 := Nat.xor_lt_two_pow (by omega) (by omega)
  show IntKind.i64.wrap ((BitVec.ofInt 64 (a : Int) ^^^ BitVec.ofInt 64 (b : Int)).toNat : Int) = _
  rw [BitVec.toNat_xor, ofInt_i64 a (by omega), ofInt_i64 b (by omega)]
  simp only [IntKind.wrap, IntKind.bits, IntKind.signed]
  simp
  omega
theorem i64_or_nat (a b : Nat) (ha : a < 65536) (hb : b < 65536) : bits .or .i64 (a : Int) (b : Int) = ((a ||| b : Nat) : Int) := by
  have hx : a ||| b < 2 ^ 16 := Nat.or_lt_two_pow (by omega) (by omega)
  show IntKind.i64.wrap ((BitVec.ofInt 64 (a : Int) ||| BitVec.ofInt 64 (b : Int)).toNat : Int) = _
  rw [BitVec.toNat_or, ofInt_i64 a (by omega), ofInt_i64 b (by omega)]
  simp only [IntKind.wrap, IntKind.bits, IntKind.signed]
  simp
  omega

theorem i64_word (a b : Nat) (ha : a < 256) (hb : b < 256) : bits .or .i64 ((a : Int) * 256) (b : Int) = ((256 * a + b : Nat) : Int) := by
  have h := i64_or_nat (a * 256) b (by omega) (by omega)
  rw [nat_join 8 (a * 256) b (by omega) (by omega)] at h
  rw [show ((256 * a + b : Nat) : Int) = ((a * 256 + b : Nat) : Int) by omega, ← h]
  congr 1
/-- The k-th byte; 0 behind the end. -/
def byt (s : ByteArray) (k : Nat) : Nat := if h : k < s.size then (s[k]'h).toNat else 0
theorem get_byt (s : ByteArray) : ∀ (n : Nat) (h : n < s.size), (s[n]'h).toNat = byt s n := fun n h => by unfold byt; rw [dif_pos h]
theorem byt_lt (s : ByteArray) (k : Nat) : byt s k < 256 := by
  unfold byt; split
  · exact UInt8.toNat_lt _
  · omega
theorem byt_extract (s : ByteArray) (a b k : Nat) (hb : b ≤ s.size) (h : a + k < b) : byt (s.extract a b) k = byt s (a + k) := by
  unfold byt
  rw [dif_pos (by simp; omega), dif_pos (by omega)]
  congr 1
  simp [ByteArray.getElem_extract]
theorem extract_extract (s : ByteArray) (a b c d : Nat) (hd : a + d ≤ b) : (s.extract a b).extract c d = s.extract (a + c) (a + d) := by
  rw [ByteArray.extract_extract, Nat.min_eq_left hd]

/-- What stands at the head of s cannot be a request any more. -/
def brk (s : ByteArray) : Bool := decide (byt s 2 ≠ 0 ∨ byt s 3 ≠ 0 ∨ byt s 4 ≠ 0 ∨ (5 < s.size ∧ (byt s 5 < 2 ∨ 254 < byt s 5)))
/-- How many bytes the request has with which s begins; 0: none is whole. -/
def whole (s : ByteArray) : Nat := if s.size < 6 ∨ brk s = true then 0 else if s.size < 6 + byt s 5 then 0 else 6 + byt s 5
theorem byt_end (s : ByteArray) (k : Nat) (h : s.size ≤ k) : byt s k = 0 := by unfold byt; rw [dif_neg (by omega)]
theorem brk_true (s : ByteArray) (h : byt s 2 ≠ 0 ∨ byt s 3 ≠ 0 ∨ byt s 4 ≠ 0 ∨ (5 < s.size ∧ (byt s 5 < 2 ∨ 254 < byt s 5))) : brk s = true := by simpa [brk] using h
theorem brk_false (s : ByteArray) (h2 : byt s 2 = 0) (h3 : byt s 3 = 0) (h4 : byt s 4 = 0) (h5 : 5 < s.size → 2 ≤ byt s 5 ∧ byt s 5 ≤ 254) : brk s = false := by
  simp [brk, h2, h3, h4]; intro h; have := h5 h; omega

def wholeAt (s : ByteArray) (t : Nat) : Nat := whole (s.extract t s.size)
/-- The cells of the request of n bytes at t. -/
def frAt (s : ByteArray) (t n : Nat) : List Value := [.int .i64 (256 * byt s t + byt s (t + 1) : Nat), .int .i64 (byt s (t + 6) : Nat), .string (s.extract (t + 7) (t + n))]
/-- All requests from t on, one behind the other: their cells, and where they end. -/
def spl (s : ByteArray) : Nat → Nat → List Value × Nat
  | 0, t => ([], t)
  | f + 1, t => if wholeAt s t = 0 then ([], t) else (frAt s t (wholeAt s t) ++ (spl s f (t + wholeAt s t)).1, (spl s f (t + wholeAt s t)).2)
def splF (s : ByteArray) : List Value × Nat := spl s (s.size + 1) 0
theorem whole_bd (s : ByteArray) (h : whole s ≠ 0) : 8 ≤ whole s ∧ whole s ≤ 260 ∧ whole s ≤ s.size ∧ brk s = false ∧ whole s = 6 + byt s 5 := by
  unfold whole at h ⊢
  by_cases h1 : s.size < 6 ∨ brk s = true
  · rw [if_pos h1] at h; exact absurd rfl h
  · rw [if_neg h1] at h ⊢
    by_cases h2 : s.size < 6 + byt s 5
    · rw [if_pos h2] at h; exact absurd rfl h
    · rw [if_neg h2] at h ⊢
      have hb : brk s = false := by
        cases hb : brk s
        · rfl
        · exact absurd (.inr hb) h1
      have h3 : ¬ (5 < s.size ∧ (byt s 5 < 2 ∨ 254 < byt s 5)) := fun e => by
        have := brk_true s (.inr (.inr (.inr e))); rw [hb] at this; exact absurd this (by simp)
      have h4 : 5 < s.size := by omega
      refine ⟨?_, ?_, by omega, hb, rfl⟩
      · have : ¬ byt s 5 < 2 := fun e => h3 ⟨h4, .inl e⟩
        omega
      · have : ¬ 254 < byt s 5 := fun e => h3 ⟨h4, .inr e⟩
        omega
theorem wholeAt_bd (s : ByteArray) (t : Nat) (h : wholeAt s t ≠ 0) : 8 ≤ wholeAt s t ∧ wholeAt s t ≤ 260 ∧ t + wholeAt s t ≤ s.size := by
  have h1 := whole_bd _ h
  have h2 : (s.extract t s.size).size = s.size - t := by simp
  unfold wholeAt at h ⊢
  omega
theorem wholeAt_zero (s : ByteArray) : wholeAt s 0 = whole s := by
  unfold wholeAt; rw [ByteArray.extract_zero_size]
theorem spl_stop (s : ByteArray) (f t : Nat) (h : wholeAt s t = 0) : spl s f t = ([], t) := by
  cases f with
  | zero => rfl
  | succ f => show (if _ then _ else _) = _; rw [if_pos h]
theorem spl_step (s : ByteArray) (f t : Nat) (h : wholeAt s t ≠ 0) : spl s (f + 1) t = (frAt s t (wholeAt s t) ++ (spl s f (t + wholeAt s t)).1, (spl s f (t + wholeAt s t)).2) := by
  show (if _ then _ else _) = _; rw [if_neg h]
theorem spl_end (s : ByteArray) (f t : Nat) (h : t ≤ s.size) : t ≤ (spl s f t).2 ∧ (spl s f t).2 ≤ s.size := by
  induction f generalizing t with
  | zero => exact ⟨Nat.le_refl _, h⟩
  | succ f ih =>
    by_cases hw : wholeAt s t = 0
    · rw [spl_stop s _ t hw]; exact ⟨Nat.le_refl _, h⟩
    · have hb := wholeAt_bd s t hw
      rw [spl_step s f t hw]
      have := ih (t + wholeAt s t) (by omega)
      exact ⟨by show t ≤ (spl s f (t + wholeAt s t)).2; omega, this.2⟩
theorem byt_suffix (s : ByteArray) (t k : Nat) : byt (s.extract t s.size) k = byt s (t + k) := by
  by_cases h : t + k < s.size
  · exact byt_extract s t s.size k (Nat.le_refl _) h
  · rw [byt_end _ k (by simp; omega), byt_end s (t + k) (by omega)]
theorem brkAt_true (s : ByteArray) (t : Nat) (h : byt s (t + 2) ≠ 0 ∨ byt s (t + 3) ≠ 0 ∨ byt s (t + 4) ≠ 0 ∨ (5 < s.size - t ∧ (byt s (t + 5) < 2 ∨ 254 < byt s (t + 5)))) : brk (s.extract t s.size) = true := by
  refine brk_true _ ?_
  simp only [byt_suffix]
  simpa using h
theorem brkAt_false (s : ByteArray) (t : Nat) (h2 : byt s (t + 2) = 0) (h3 : byt s (t + 3) = 0) (h4 : byt s (t + 4) = 0) (h5 : 5 < s.size - t → 2 ≤ byt s (t + 5) ∧ byt s (t + 5) ≤ 254) : brk (s.extract t s.size) = false := by
  refine brk_false _ ?_ ?_ ?_ ?_ <;> simp only [byt_suffix]
  · exact h2
  · exact h3
  · exact h4
  · intro h; exact h5 (by simpa using h)
theorem wholeAt_none (s : ByteArray) (t : Nat) (h : s.size - t < 6 ∨ brk (s.extract t s.size) = true ∨ s.size - t < 6 + byt s (t + 5)) : wholeAt s t = 0 := by
  have hz : (s.extract t s.size).size = s.size - t := by simp
  unfold wholeAt whole
  rw [byt_suffix, hz]
  split
  · rfl
  · rename_i h1
    rcases h with h | h | h
    · exact absurd (.inl h) h1
    · exact absurd (.inr h) h1
    · rw [if_pos h]
theorem wholeAt_some (s : ByteArray) (t : Nat) (h1 : 6 ≤ s.size - t) (h2 : brk (s.extract t s.size) = false) (h3 : 6 + byt s (t + 5) ≤ s.size - t) : wholeAt s t = 6 + byt s (t + 5) := by
  have hz : (s.extract t s.size).size = s.size - t := by simp
  unfold wholeAt whole
  rw [byt_suffix, hz, if_neg (by rw [h2]; simp; omega), if_neg (by omega)]

/-- s is a request on a Serial line. -/
def serOk (s : ByteArray) : Prop := 4 ≤ s.size ∧ s.size ≤ 256 ∧ crc (s.extract 0 (s.size - 2)).data.toList = byt s (s.size - 2) + 256 * byt s (s.size - 1)
/-- What both Serials answer: unit, body and error. -/
def SerIs (s : ByteArray) (u : Nat) (b : ByteArray) (k : Int) : Prop :=
  (serOk s ∧ u = byt s 0 ∧ b = s.extract 1 (s.size - 2) ∧ k = 0) ∨ (¬ serOk s ∧ u = 0 ∧ b = ⟨#[]⟩ ∧ k = 4)
theorem SerIs.eq {s : ByteArray} {u u' : Nat} {b b' : ByteArray} {k k' : Int} (h : SerIs s u b k) (h' : SerIs s u' b' k') : u = u' ∧ b = b' ∧ k = k' := by
  rcases h with ⟨h0, h1, h2, h3⟩ | ⟨h0, h1, h2, h3⟩ <;> rcases h' with ⟨g0, g1, g2, g3⟩ | ⟨g0, g1, g2, g3⟩
  · exact ⟨h1.trans g1.symm, h2.trans g2.symm, h3.trans g3.symm⟩
  · exact absurd h0 g0
  · exact absurd g0 h0
  · exact ⟨h1.trans g1.symm, h2.trans g2.symm, h3.trans g3.symm⟩
theorem u16_word (a b : Nat) (ha : a < 256) (hb : b < 256) : bits .or .u16 (a : Int) ((b : Int) * 256) = ((a + 256 * b : Nat) : Int) := by
  have h := u16_or_nat a (b * 256) (by omega) (by omega)
  rw [Nat.or_comm, nat_join 8 (b * 256) a (by omega) (by omega)] at h
  rw [show ((a + 256 * b : Nat) : Int) = ((b * 256 + a : Nat) : Int) by omega, ← h]
  congr 1
end Pl
end Go.Proofs.Ytcpldcojckhapaa
