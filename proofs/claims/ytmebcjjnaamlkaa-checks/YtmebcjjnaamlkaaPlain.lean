/-
  Plain facts on numbers and lists for the check (a CRC) and for requests on a Stream; nothing of the program is in it.
-/
import Derived.Laws.BitsAllLaws
namespace Go.Proofs.Ytmebcjjnaamlkaa
namespace Pl

/-- One round of the check: shift, and add 40961 if the lowest bit was 1. -/
def bstep (c : Nat) : Nat := if c % 2 = 1 then (c / 2) ^^^ 40961 else c / 2
def bsteps : Nat → Nat → Nat
  | 0, c => c
  | n + 1, c => bstep (bsteps n c)
def byteStep (c b : Nat) : Nat := bsteps 8 (c ^^^ b)
def crcFrom (c : Nat) (l : List UInt8) : Nat := l.foldl (fun c b => byteStep c b.toNat) c
def crc (l : List UInt8) : Nat := crcFrom 65535 l

theorem bstep_lt (c : Nat) (h : c < 65536) : bstep c < 65536 := by
  unfold bstep
  split
  · exact Nat.xor_lt_two_pow (n := 16) (by omega) (by omega)
  · omega
theorem bsteps_lt (n c : Nat) (h : c < 65536) : bsteps n c < 65536 := by
  induction n with
  | zero => exact h
  | succ n ih => exact bstep_lt _ ih
theorem byteStep_lt (c b : Nat) (h : c < 65536) (hb : b < 256) : byteStep c b < 65536 :=
  bsteps_lt 8 _ (Nat.xor_lt_two_pow (n := 16) (by omega) (by omega))
theorem crcFrom_lt (l : List UInt8) (c : Nat) (h : c < 65536) : crcFrom c l < 65536 := by
  induction l generalizing c with
  | nil => exact h
  | cons b l ih => exact ih _ (byteStep_lt c b.toNat h b.toNat_lt)
theorem crc_lt (l : List UInt8) : crc l < 65536 := crcFrom_lt l 65535 (by omega)
theorem crc_snoc (l : List UInt8) (b : UInt8) : crc (l ++ [b]) = byteStep (crc l) b.toNat := by
  simp [crc, crcFrom, List.foldl_append]
theorem take_snoc (s : ByteArray) (k : Nat) (h : k < s.size) : s.data.toList.take (k + 1) = s.data.toList.take k ++ [s[k]] := by
  rw [List.take_succ_eq_append_getElem (by simpa using h)]; rfl
theorem crc_take (s : ByteArray) (k : Nat) (h : k < s.size) : crc (s.data.toList.take (k + 1)) = byteStep (crc (s.data.toList.take k)) s[k].toNat := by
  rw [take_snoc s k h, crc_snoc]

theorem xor_div2 (a b : Nat) : (a ^^^ b) / 2 = a / 2 ^^^ b / 2 := by
  have := Nat.shiftRight_xor_distrib (a := a) (b := b) (i := 1)
  simpa [Nat.shiftRight_eq_div_pow] using this
theorem xor_mod2 (a b : Nat) : (a ^^^ b) % 2 = (a + b) % 2 := by
  have h := Nat.xor_mod_two_pow (a := a) (b := b) (n := 1)
  simp only [Nat.pow_one] at h
  rw [h]
  rcases Nat.mod_two_eq_zero_or_one a with e | e <;> rcases Nat.mod_two_eq_zero_or_one b with f | f <;> rw [e, f] <;> simp <;> omega
/-- The document's own way, bit by bit of the byte, and the program's: one round of both. -/
theorem ref_odd (c x : Nat) (h : c % 2 ≠ x % 2) : (c / 2 ^^^ 40961) ^^^ (x / 2) = bstep (c ^^^ x) := by
  unfold bstep
  rw [if_pos (by rw [xor_mod2]; omega), xor_div2, Nat.xor_assoc, Nat.xor_assoc, Nat.xor_comm 40961]
theorem ref_even (c x : Nat) (h : c % 2 = x % 2) : (c / 2) ^^^ (x / 2) = bstep (c ^^^ x) := by
  unfold bstep
  rw [if_neg (by rw [xor_mod2]; omega), xor_div2]

theorem ofInt_i64 (a : Nat) (ha : a < 9223372036854775808) : (BitVec.ofInt 64 (a : Int)).toNat = a := by
  rw [BitVec.ofInt_natCast, BitVec.toNat_ofNat]; exact Nat.mod_eq_of_lt (by omega)
theorem i64_xor_nat (a b : Nat) (ha : a < 65536) (hb : b < 65536) : bits .xor .i64 (a : Int) (b : Int) = ((a ^^^ b : Nat) : Int) := by
  have hx : a ^^^ b < 2 ^ 16 := Nat.xor_lt_two_pow (by omega) (by omega)
  show IntKind.i64.wrap ((BitVec.ofInt 64 (a : Int) ^^^ BitVec.ofInt 64 (b : Int)).toNat : Int) = _
  rw [BitVec.toNat_xor, ofInt_i64 a (by omega), ofInt_i64 b (by omega)]
  simp only [IntKind.wrap, IntKind.bits, IntKind.signed]
  simp
  omega
theorem i64_or_nat (a b : Nat) (ha : a < 65536) (hb : b < 65536) : bits .or .i64 (a : Int) (b : Int) = ((a ||| b : Nat) : Int) := by
  have hx : a ||| b < 2 ^ 16 := Nat.or_lt_two_pow (by omega) (by omega)
  show IntKind.i64.wrap ((BitVec.ofInt 64 (a : Int) ||| BitVec.ofInt 64 (b : Int)).toNat : Int) = _
  rw [BitVec.toNat_or, ofInt_i64 a (by omega), ofInt_i64 b (by omega)]
  simp only [IntKind.wrap, IntKind.bits, IntKind.signed]
  simp
  omega
end Pl
end Go.Proofs.Ytmebcjjnaamlkaa
