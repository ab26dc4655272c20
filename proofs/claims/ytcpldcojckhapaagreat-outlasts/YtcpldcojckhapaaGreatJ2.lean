/-
  The book of package latchlaw: its kinds.
  Plain facts on numbers and lists for the check (a CRC) and for requests on a Stream; nothing of the program is in it.
  What a request's body says, as a plain function of its bytes; nothing of the program is in it.
-/
import Derived.Test.YtcpldcojckhapaaGreatB0
import Derived.Laws.BitsAllLaws
set_option maxRecDepth 100000
namespace Go.Proofs.YtcpldcojckhapaaGreat
open Go.RowKit

theorem Tryz.infoOI : (Tryz.prog.info? 28).map (fun i => (i.zero, i.size, i.bytes)) = some (some (.slice none 0 0), 1, 24) := by kernel_rfl
theorem Tryz.infoEI : (Tryz.prog.info? 3).map (fun i => (i.zero, i.size, i.bytes)) = some (some (.int .i64 0), 1, 8) := by kernel_rfl
def encI (x : Int) : List Value := [.int .i64 x]
theorem encI_one (l : List Int) : ∀ u ∈ l.flatMap encI, u.oneCell' = true := by
  intro u hu
  obtain ⟨x, _, hx⟩ := List.mem_flatMap.1 hu
  simp [encI] at hx
  subst hx; rfl
theorem atI (l : List Int) (q : Nat) (h : q < l.length) : ∃ x : Int, (l.flatMap encI)[q]? = some (.int .i64 x) := by
  refine ⟨l[q], ?_⟩
  · have := flat_gen encI 1 (fun _ => rfl) l q 0 h (by omega)
    simp only [Nat.mul_one, Nat.add_zero] at this
    rw [this]; rfl
theorem Tryz.infoOF : (Tryz.prog.info? 29).map (fun i => (i.zero, i.size, i.bytes)) = some (some (.slice none 0 0), 1, 24) := by kernel_rfl
theorem Tryz.infoEF : (Tryz.prog.info? 94).map (fun i => (i.zero, i.size, i.bytes)) = some (some (.agg #[.int .i64 0, .int .i64 0, .string ⟨#[]⟩]), 3, 32) := by kernel_rfl
def encF (x : (Int × Int × ByteArray)) : List Value := [.int .i64 x.1, .int .i64 x.2.1, .string x.2.2]
theorem encF_one (l : List (Int × Int × ByteArray)) : ∀ u ∈ l.flatMap encF, u.oneCell' = true := by
  intro u hu
  obtain ⟨x, _, hx⟩ := List.mem_flatMap.1 hu
  simp [encF] at hx
  rcases hx with rfl | rfl | rfl <;> rfl
theorem atF (l : List (Int × Int × ByteArray)) (q : Nat) (h : q < l.length) : ∃ x : (Int × Int × ByteArray), (l.flatMap encF)[q * 3]? = some (.int .i64 x.1) ∧ (l.flatMap encF)[q * 3 + 1]? = some (.int .i64 x.2.1) ∧ (l.flatMap encF)[q * 3 + 2]? = some (.string x.2.2) := by
  refine ⟨l[q], ?_, ?_, ?_⟩
  · have := flat_gen encF 3 (fun _ => rfl) l q 0 h (by omega)
    rw [Nat.add_zero] at this
    rw [this]; rfl
  · have := flat_gen encF 3 (fun _ => rfl) l q 1 h (by omega)
    rw [this]; rfl
  · have := flat_gen encF 3 (fun _ => rfl) l q 2 h (by omega)
    rw [this]; rfl
theorem Tryz.infoOA : (Tryz.prog.info? 31).map (fun i => (i.zero, i.size, i.bytes)) = some (some (.slice none 0 0), 1, 24) := by kernel_rfl
theorem Tryz.infoEA : (Tryz.prog.info? 77).map (fun i => (i.zero, i.size, i.bytes)) = some (some (.agg #[.int .u8 0, .int .i64 0, .int .i64 0, .string ⟨#[]⟩]), 4, 40) := by kernel_rfl
def encA (x : (Int × Int × Int × ByteArray)) : List Value := [.int .u8 x.1, .int .i64 x.2.1, .int .i64 x.2.2.1, .string x.2.2.2]
theorem encA_one (l : List (Int × Int × Int × ByteArray)) : ∀ u ∈ l.flatMap encA, u.oneCell' = true := by
  intro u hu
  obtain ⟨x, _, hx⟩ := List.mem_flatMap.1 hu
  simp [encA] at hx
  rcases hx with rfl | rfl | rfl | rfl <;> rfl
theorem atA (l : List (Int × Int × Int × ByteArray)) (q : Nat) (h : q < l.length) : ∃ x : (Int × Int × Int × ByteArray), (l.flatMap encA)[q * 4]? = some (.int .u8 x.1) ∧ (l.flatMap encA)[q * 4 + 1]? = some (.int .i64 x.2.1) ∧ (l.flatMap encA)[q * 4 + 2]? = some (.int .i64 x.2.2.1) ∧ (l.flatMap encA)[q * 4 + 3]? = some (.string x.2.2.2) := by
  refine ⟨l[q], ?_, ?_, ?_, ?_⟩
  · have := flat_gen encA 4 (fun _ => rfl) l q 0 h (by omega)
    rw [Nat.add_zero] at this
    rw [this]; rfl
  · have := flat_gen encA 4 (fun _ => rfl) l q 1 h (by omega)
    rw [this]; rfl
  · have := flat_gen encA 4 (fun _ => rfl) l q 2 h (by omega)
    rw [this]; rfl
  · have := flat_gen encA 4 (fun _ => rfl) l q 3 h (by omega)
    rw [this]; rfl
theorem Tryz.infoOT : (Tryz.prog.info? 30).map (fun i => (i.zero, i.size, i.bytes)) = some (some (.slice none 0 0), 1, 24) := by kernel_rfl
theorem Tryz.infoET : (Tryz.prog.info? 9).map (fun i => (i.zero, i.size, i.bytes)) = some (some (.string ⟨#[]⟩), 1, 16) := by kernel_rfl
def encT (x : ByteArray) : List Value := [.string x]
theorem encT_one (l : List ByteArray) : ∀ u ∈ l.flatMap encT, u.oneCell' = true := by
  intro u hu
  obtain ⟨x, _, hx⟩ := List.mem_flatMap.1 hu
  simp [encT] at hx
  subst hx; rfl
theorem atT (l : List ByteArray) (q : Nat) (h : q < l.length) : ∃ x : ByteArray, (l.flatMap encT)[q]? = some (.string x) := by
  refine ⟨l[q], ?_⟩
  · have := flat_gen encT 1 (fun _ => rfl) l q 0 h (by omega)
    simp only [Nat.mul_one, Nat.add_zero] at this
    rw [this]; rfl
def wordB (n : Nat) : ByteArray := ⟨#[UInt8.ofNat (n % 256), UInt8.ofNat (n / 256 % 256), UInt8.ofNat (n / 65536 % 256), 109]⟩
def mkF (i : Nat) : List Value := [.int .i64 (70000 + (i : Int)), .int .i64 0, .string ⟨#[]⟩]
def mkI (i : Nat) : List Value := [.int .i64 (70000 + (i : Int))]
def mkA (i : Nat) : List Value := [.int .u8 0, .int .i64 (70000 + (i : Int)), .int .i64 0, .string ⟨#[]⟩]
def mkT (i : Nat) : List Value := [.string (wordB i)]
end Go.Proofs.YtcpldcojckhapaaGreat

set_option maxRecDepth 100000
namespace Go.Proofs.YtcpldcojckhapaaGreat
namespace Pl

/-- One round of the check: shift, and add 40961 if the lowest bit was 1. -/
def bstep (c : Nat) : Nat := if c % 2 = 1 then (c / 2) ^^^ 40961 else c / 2
def bsteps : Nat → Nat → Nat
  | 0, c => c
  | n + 1, c => bstep (bsteps n c)
def byteStep (c b : Nat) : Nat := bsteps 8 (c ^^^ b)
def crcFrom (c : Nat) (l : List UInt8) : Nat := l.foldl (fun c b => byteStep c b.toNat) c
def crc (l : List UInt8) : Nat := crcFrom 65535 l

theorem bstep_lt (c : Nat) (h : c < 65536) : bstep c < 65536 := by
  unfold bstep
  split
  · exact Nat.xor_lt_two_pow (n := 16) (by omega) (by omega)
  · omega
theorem bsteps_lt (n c : Nat) (h : c < 65536) : bsteps n c < 65536 := by
  induction n with
  | zero => exact h
  | succ n ih => exact bstep_lt _ ih
theorem byteStep_lt (c b : Nat) (h : c < 65536) (hb : b < 256) : byteStep c b < 65536 :=
  bsteps_lt 8 _ (Nat.xor_lt_two_pow (n := 16) (by omega) (by omega))
theorem crcFrom_lt (l : List UInt8) (c : Nat) (h : c < 65536) : crcFrom c l < 65536 := by
  induction l generalizing c with
  | nil => exact h
  | cons b l ih => exact ih _ (byteStep_lt c b.toNat h b.toNat_lt)
theorem crc_lt (l : List UInt8) : crc l < 65536 := crcFrom_lt l 65535 (by omega)
theorem crc_snoc (l : List UInt8) (b : UInt8) : crc (l ++ [b]) = byteStep (crc l) b.toNat := by
  simp [crc, crcFrom, List.foldl_append]
theorem take_snoc (s : ByteArray) (k : Nat) (h : k < s.size) : s.data.toList.take (k + 1) = s.data.toList.take k ++ [s[k]] := by
  rw [List.take_succ_eq_append_getElem (by simpa using h)]; rfl
theorem crc_take (s : ByteArray) (k : Nat) (h : k < s.size) : crc (s.data.toList.take (k + 1)) = byteStep (crc (s.data.toList.take k)) s[k].toNat := by
  rw [take_snoc s k h, crc_snoc]

theorem xor_div2 (a b : Nat) : (a ^^^ b) / 2 = a / 2 ^^^ b / 2 := by
  have := Nat.shiftRight_xor_distrib (a := a) (b := b) (i := 1)
  simpa [Nat.shiftRight_eq_div_pow] using this
theorem xor_mod2 (a b : Nat) : (a ^^^ b) % 2 = (a + b) % 2 := by
  have h := Nat.xor_mod_two_pow (a := a) (b := b) (n := 1)
  simp only [Nat.pow_one] at h
  rw [h]
  rcases Nat.mod_two_eq_zero_or_one a with e | e <;> rcases Nat.mod_two_eq_zero_or_one b with f | f <;> rw [e, f] <;> simp <;> omega
/-- The document's own way, bit by bit of the byte, and the program's: one round of both. -/
theorem ref_odd (c x : Nat) (h : c % 2 ≠ x % 2) : (c / 2 ^^^ 40961) ^^^ (x / 2) = bstep (c ^^^ x) := by
  unfold bstep
  rw [if_pos (by rw [xor_mod2]; omega), xor_div2, Nat.xor_assoc, Nat.xor_assoc, Nat.xor_comm 40961]
theorem ref_even (c x : Nat) (h : c % 2 = x % 2) : (c / 2) ^^^ (x / 2) = bstep (c ^^^ x) := by
  unfold bstep
  rw [if_neg (by rw [xor_mod2]; omega), xor_div2]

theorem ofInt_i64 (a : Nat) (ha : a < 9223372036854775808) : (BitVec.ofInt 64 (a : Int)).toNat = a := by
  rw [BitVec.ofInt_natCast, BitVec.toNat_ofNat]; exact Nat.mod_eq_of_lt (by omega)
theorem i64_xor_nat (a b : Nat) (ha : a < 65536) (hb : b < 65536) : bits .xor .i64 (a : Int) (b : Int) = ((a ^^^ b : Nat) : Int) := by
  have hx : a ^^^ b < 2 ^ 16 := Nat.xor_lt_two_pow (by omega) (by omega)
  show IntKind.i64.wrap ((BitVec.ofInt 64 (a : Int) ^^^ BitVec.ofInt 64 (b : Int)).toNat : Int) = _
  rw [BitVec.toNat_xor, ofInt_i64 a (by omega), ofInt_i64 b (by omega)]
  simp only [IntKind.wrap, IntKind.bits, IntKind.signed]
  simp
  omega
theorem i64_or_nat (a b : Nat) (ha : a < 65536) (hb : b < 65536) : bits .or .i64 (a : Int) (b : Int) = ((a ||| b : Nat) : Int) := by
  have hx : a ||| b < 2 ^ 16 := Nat.or_lt_two_pow (by omega) (by omega)
  show IntKind.i64.wrap ((BitVec.ofInt 64 (a : Int) ||| BitVec.ofInt 64 (b : Int)).toNat : Int) = _
  rw [BitVec.toNat_or, ofInt_i64 a (by omega), ofInt_i64 b (by omega)]
  simp only [IntKind.wrap, IntKind.bits, IntKind.signed]
  simp
  omega

theorem i64_word (a b : Nat) (ha : a < 256) (hb : b < 256) : bits .or .i64 ((a : Int) * 256) (b : Int) = ((256 * a + b : Nat) : Int) := by
  have h := i64_or_nat (a * 256) b (by omega) (by omega)
  rw [nat_join 8 (a * 256) b (by omega) (by omega)] at h
  rw [show ((256 * a + b : Nat) : Int) = ((a * 256 + b : Nat) : Int) by omega, ← h]
  congr 1
/-- The k-th byte; 0 behind the end. -/
def byt (s : ByteArray) (k : Nat) : Nat := if h : k < s.size then (s[k]'h).toNat else 0
theorem get_byt (s : ByteArray) : ∀ (n : Nat) (h : n < s.size), (s[n]'h).toNat = byt s n := fun n h => by unfold byt; rw [dif_pos h]
theorem byt_lt (s : ByteArray) (k : Nat) : byt s k < 256 := by
  unfold byt; split
  · exact UInt8.toNat_lt _
  · omega
theorem byt_extract (s : ByteArray) (a b k : Nat) (hb : b ≤ s.size) (h : a + k < b) : byt (s.extract a b) k = byt s (a + k) := by
  unfold byt
  rw [dif_pos (by simp; omega), dif_pos (by omega)]
  congr 1
  simp [ByteArray.getElem_extract]
theorem extract_extract (s : ByteArray) (a b c d : Nat) (hd : a + d ≤ b) : (s.extract a b).extract c d = s.extract (a + c) (a + d) := by
  rw [ByteArray.extract_extract, Nat.min_eq_left hd]

/-- What stands at the head of s cannot be a request any more. -/
def brk (s : ByteArray) : Bool := decide (byt s 2 ≠ 0 ∨ byt s 3 ≠ 0 ∨ byt s 4 ≠ 0 ∨ (5 < s.size ∧ (byt s 5 < 2 ∨ 254 < byt s 5)))
/-- How many bytes the request has with which s begins; 0: none is whole. -/
def whole (s : ByteArray) : Nat := if s.size < 6 ∨ brk s = true then 0 else if s.size < 6 + byt s 5 then 0 else 6 + byt s 5
theorem byt_end (s : ByteArray) (k : Nat) (h : s.size ≤ k) : byt s k = 0 := by unfold byt; rw [dif_neg (by omega)]
theorem brk_true (s : ByteArray) (h : byt s 2 ≠ 0 ∨ byt s 3 ≠ 0 ∨ byt s 4 ≠ 0 ∨ (5 < s.size ∧ (byt s 5 < 2 ∨ 254 < byt s 5))) : brk s = true := by simpa [brk] using h
theorem brk_false (s : ByteArray) (h2 : byt s 2 = 0) (h3 : byt s 3 = 0) (h4 : byt s 4 = 0) (h5 : 5 < s.size → 2 ≤ byt s 5 ∧ byt s 5 ≤ 254) : brk s = false := by
  simp [brk, h2, h3, h4]; intro h; have := h5 h; omega

def wholeAt (s : ByteArray) (t : Nat) : Nat := whole (s.extract t s.size)
/-- The cells of the request of n bytes at t. -/
def frAt (s : ByteArray) (t n : Nat) : List Value := [.int .i64 (256 * byt s t + byt s (t + 1) : Nat), .int .i64 (byt s (t + 6) : Nat), .string (s.extract (t + 7) (t + n))]
/-- All requests from t on, one behind the other: their cells, and where they end. -/
def spl (s : ByteArray) : Nat → Nat → List Value × Nat
  | 0, t => ([], t)
  | f + 1, t => if wholeAt s t = 0 then ([], t) else (frAt s t (wholeAt s t) ++ (spl s f (t + wholeAt s t)).1, (spl s f (t + wholeAt s t)).2)
def splF (s : ByteArray) : List Value × Nat := spl s (s.size + 1) 0
theorem whole_bd (s : ByteArray) (h : whole s ≠ 0) : 8 ≤ whole s ∧ whole s ≤ 260 ∧ whole s ≤ s.size ∧ brk s = false ∧ whole s = 6 + byt s 5 := by
  unfold whole at h ⊢
  by_cases h1 : s.size < 6 ∨ brk s = true
  · rw [if_pos h1] at h; exact absurd rfl h
  · rw [if_neg h1] at h ⊢
    by_cases h2 : s.size < 6 + byt s 5
    · rw [if_pos h2] at h; exact absurd rfl h
    · rw [if_neg h2] at h ⊢
      have hb : brk s = false := by
        cases hb : brk s
        · rfl
        · exact absurd (.inr hb) h1
      have h3 : ¬ (5 < s.size ∧ (byt s 5 < 2 ∨ 254 < byt s 5)) := fun e => by
        have := brk_true s (.inr (.inr (.inr e))); rw [hb] at this; exact absurd this (by simp)
      have h4 : 5 < s.size := by omega
      refine ⟨?_, ?_, by omega, hb, rfl⟩
      · have : ¬ byt s 5 < 2 := fun e => h3 ⟨h4, .inl e⟩
        omega
      · have : ¬ 254 < byt s 5 := fun e => h3 ⟨h4, .inr e⟩
        omega
theorem wholeAt_bd (s : ByteArray) (t : Nat) (h : wholeAt s t ≠ 0) : 8 ≤ wholeAt s t ∧ wholeAt s t ≤ 260 ∧ t + wholeAt s t ≤ s.size := by
  have h1 := whole_bd _ h
  have h2 : (s.extract t s.size).size = s.size - t := by simp
  unfold wholeAt at h ⊢
  omega
theorem wholeAt_zero (s : ByteArray) : wholeAt s 0 = whole s := by
  unfold wholeAt; rw [ByteArray.extract_zero_size]
theorem spl_stop (s : ByteArray) (f t : Nat) (h : wholeAt s t = 0) : spl s f t = ([], t) := by
  cases f with
  | zero => rfl
  | succ f => show (if _ then _ else _) = _; rw [if_pos h]
theorem spl_step (s : ByteArray) (f t : Nat) (h : wholeAt s t ≠ 0) : spl s (f + 1) t = (frAt s t (wholeAt s t) ++ (spl s f (t + wholeAt s t)).1, (spl s f (t + wholeAt s t)).2) := by
  show (if _ then _ else _) = _; rw [if_neg h]
theorem spl_end (s : ByteArray) (f t : Nat) (h : t ≤ s.size) : t ≤ (spl s f t).2 ∧ (spl s f t).2 ≤ s.size := by
  induction f generalizing t with
  | zero => exact ⟨Nat.le_refl _, h⟩
  | succ f ih =>
    by_cases hw : wholeAt s t = 0
    · rw [spl_stop s _ t hw]; exact ⟨Nat.le_refl _, h⟩
    · have hb := wholeAt_bd s t hw
      rw [spl_step s f t hw]
      have := ih (t + wholeAt s t) (by omega)
      exact ⟨by show t ≤ (spl s f (t + wholeAt s t)).2; omega, this.2⟩
theorem byt_suffix (s : ByteArray) (t k : Nat) : byt (s.extract t s.size) k = byt s (t + k) := by
  by_cases h : t + k < s.size
  · exact byt_extract s t s.size k (Nat.le_refl _) h
  · rw [byt_end _ k (by simp; omega), byt_end s (t + k) (by omega)]
theorem brkAt_true (s : ByteArray) (t : Nat) (h : byt s (t + 2) ≠ 0 ∨ byt s (t + 3) ≠ 0 ∨ byt s (t + 4) ≠ 0 ∨ (5 < s.size - t ∧ (byt s (t + 5) < 2 ∨ 254 < byt s (t + 5)))) : brk (s.extract t s.size) = true := by
  refine brk_true _ ?_
  simp only [byt_suffix]
  simpa using h
theorem brkAt_false (s : ByteArray) (t : Nat) (h2 : byt s (t + 2) = 0) (h3 : byt s (t + 3) = 0) (h4 : byt s (t + 4) = 0) (h5 : 5 < s.size - t → 2 ≤ byt s (t + 5) ∧ byt s (t + 5) ≤ 254) : brk (s.extract t s.size) = false := by
  refine brk_false _ ?_ ?_ ?_ ?_ <;> simp only [byt_suffix]
  · exact h2
  · exact h3
  · exact h4
  · intro h; exact h5 (by simpa using h)
theorem wholeAt_none (s : ByteArray) (t : Nat) (h : s.size - t < 6 ∨ brk (s.extract t s.size) = true ∨ s.size - t < 6 + byt s (t + 5)) : wholeAt s t = 0 := by
  have hz : (s.extract t s.size).size = s.size - t := by simp
  unfold wholeAt whole
  rw [byt_suffix, hz]
  split
  · rfl
  · rename_i h1
    rcases h with h | h | h
    · exact absurd (.inl h) h1
    · exact absurd (.inr h) h1
    · rw [if_pos h]
theorem wholeAt_some (s : ByteArray) (t : Nat) (h1 : 6 ≤ s.size - t) (h2 : brk (s.extract t s.size) = false) (h3 : 6 + byt s (t + 5) ≤ s.size - t) : wholeAt s t = 6 + byt s (t + 5) := by
  have hz : (s.extract t s.size).size = s.size - t := by simp
  unfold wholeAt whole
  rw [byt_suffix, hz, if_neg (by rw [h2]; simp; omega), if_neg (by omega)]

/-- s is a request on a Serial line. -/
def serOk (s : ByteArray) : Prop := 4 ≤ s.size ∧ s.size ≤ 256 ∧ crc (s.extract 0 (s.size - 2)).data.toList = byt s (s.size - 2) + 256 * byt s (s.size - 1)
/-- What both Serials answer: unit, body and error. -/
def SerIs (s : ByteArray) (u : Nat) (b : ByteArray) (k : Int) : Prop :=
  (serOk s ∧ u = byt s 0 ∧ b = s.extract 1 (s.size - 2) ∧ k = 0) ∨ (¬ serOk s ∧ u = 0 ∧ b = ⟨#[]⟩ ∧ k = 4)
theorem SerIs.eq {s : ByteArray} {u u' : Nat} {b b' : ByteArray} {k k' : Int} (h : SerIs s u b k) (h' : SerIs s u' b' k') : u = u' ∧ b = b' ∧ k = k' := by
  rcases h with ⟨h0, h1, h2, h3⟩ | ⟨h0, h1, h2, h3⟩ <;> rcases h' with ⟨g0, g1, g2, g3⟩ | ⟨g0, g1, g2, g3⟩
  · exact ⟨h1.trans g1.symm, h2.trans g2.symm, h3.trans g3.symm⟩
  · exact absurd h0 g0
  · exact absurd g0 h0
  · exact ⟨h1.trans g1.symm, h2.trans g2.symm, h3.trans g3.symm⟩
theorem u16_word (a b : Nat) (ha : a < 256) (hb : b < 256) : bits .or .u16 (a : Int) ((b : Int) * 256) = ((a + 256 * b : Nat) : Int) := by
  have h := u16_or_nat a (b * 256) (by omega) (by omega)
  rw [Nat.or_comm, nat_join 8 (b * 256) a (by omega) (by omega)] at h
  rw [show ((a + 256 * b : Nat) : Int) = ((b * 256 + a : Nat) : Int) by omega, ← h]
  congr 1
end Pl
end Go.Proofs.YtcpldcojckhapaaGreat

set_option maxRecDepth 100000
namespace Go.Proofs.YtcpldcojckhapaaGreat
namespace Pl

/-- A word of two bytes, the high one first. -/
def wd (s : ByteArray) (k : Nat) : Nat := 256 * byt s k + byt s (k + 1)
theorem wd_lt (s : ByteArray) (k : Nat) : wd s k < 65536 := by
  have := byt_lt s k
  have := byt_lt s (k + 1)
  unfold wd; omega
def wordsL (s : ByteArray) (t n : Nat) : List Int := (List.range n).map fun i => ((wd s (t + 2 * i) : Nat) : Int)
def bit (s : ByteArray) (t i : Nat) : Nat := byt s (t + i / 8) / 2 ^ (i % 8) % 2
def bitsL (s : ByteArray) (t n : Nat) : List Int := (List.range n).map fun i => ((bit s t i : Nat) : Int)
theorem wordsL_len (s : ByteArray) (t n : Nat) : (wordsL s t n).length = n := by simp [wordsL]
theorem bitsL_len (s : ByteArray) (t n : Nat) : (bitsL s t n).length = n := by simp [bitsL]
theorem wordsL_succ (s : ByteArray) (t n : Nat) : wordsL s t (n + 1) = wordsL s t n ++ [((wd s (t + 2 * n) : Nat) : Int)] := by
  simp [wordsL, List.range_succ]
theorem bitsL_succ (s : ByteArray) (t n : Nat) : bitsL s t (n + 1) = bitsL s t n ++ [((bit s t n : Nat) : Int)] := by
  simp [bitsL, List.range_succ]
theorem wordsL_at (s : ByteArray) (t n q : Nat) (h : q < n) : (wordsL s t n)[q]? = some ((wd s (t + 2 * q) : Nat) : Int) := by
  simp [wordsL, h]
theorem bitsL_at (s : ByteArray) (t n q : Nat) (h : q < n) : (bitsL s t n)[q]? = some ((bit s t q : Nat) : Int) := by
  simp [bitsL, h]
theorem bit_lt (s : ByteArray) (t i : Nat) : bit s t i < 2 := by unfold bit; omega
theorem wd_suffix (s : ByteArray) (t k : Nat) : wd (s.extract t s.size) k = wd s (t + k) := by
  unfold wd; rw [byt_suffix, byt_suffix, Nat.add_assoc]
theorem wordsL_suffix (s : ByteArray) (t k n : Nat) : wordsL (s.extract t s.size) k n = wordsL s (t + k) n := by
  unfold wordsL
  apply List.map_congr_left
  intro i _
  rw [wd_suffix, Nat.add_assoc]
theorem bitsL_suffix (s : ByteArray) (t k n : Nat) : bitsL (s.extract t s.size) k n = bitsL s (t + k) n := by
  unfold bitsL
  apply List.map_congr_left
  intro i _
  unfold bit
  rw [byt_suffix, Nat.add_assoc]

/-- What a request reads and writes. -/
structure Shp where
  fn : Nat
  tab : Nat
  frm : Nat
  cnt : Nat
  into : Nat
  to : Nat
  many : Nat
  vals : List Int
def noShp : Shp := ⟨0, 0, 0, 0, 0, 0, 0, []⟩
def rdOk (m : Nat) (s : ByteArray) : Prop := s.size = 5 ∧ 1 ≤ wd s 3 ∧ wd s 3 ≤ m
def coilOk (s : ByteArray) : Prop := s.size = 5 ∧ (wd s 3 = 0 ∨ wd s 3 = 65280)
def coilsOk (s : ByteArray) : Prop := 6 ≤ s.size ∧ 1 ≤ wd s 3 ∧ wd s 3 ≤ 1968 ∧ byt s 5 = (wd s 3 + 7) / 8 ∧ s.size = 6 + byt s 5
def holdsOk (s : ByteArray) : Prop := 6 ≤ s.size ∧ 1 ≤ wd s 3 ∧ wd s 3 ≤ 123 ∧ byt s 5 = 2 * wd s 3 ∧ s.size = 6 + byt s 5
def exchOk (s : ByteArray) : Prop := 10 ≤ s.size ∧ 1 ≤ wd s 3 ∧ wd s 3 ≤ 125 ∧ 1 ≤ wd s 7 ∧ wd s 7 ≤ 121 ∧ byt s 9 = 2 * wd s 7 ∧ s.size = 10 + byt s 9
/-- What the document asks of Shape: one clause a function. -/
def ShpIs (s : ByteArray) (x : Shp) (k : Nat) : Prop :=
  (s.size = 0 ∨ 253 < s.size) ∧ x = noShp ∧ k = 3 ∨
  (0 < s.size ∧ s.size ≤ 253) ∧
    ((byt s 0 = 1 ∧ (rdOk 2000 s ∧ x = ⟨1, 0, wd s 1, wd s 3, 0, 0, 0, []⟩ ∧ k = 0 ∨ ¬ rdOk 2000 s ∧ x = noShp ∧ k = 3)) ∨
     (byt s 0 = 2 ∧ (rdOk 2000 s ∧ x = ⟨2, 1, wd s 1, wd s 3, 0, 0, 0, []⟩ ∧ k = 0 ∨ ¬ rdOk 2000 s ∧ x = noShp ∧ k = 3)) ∨
     (byt s 0 = 3 ∧ (rdOk 125 s ∧ x = ⟨3, 2, wd s 1, wd s 3, 0, 0, 0, []⟩ ∧ k = 0 ∨ ¬ rdOk 125 s ∧ x = noShp ∧ k = 3)) ∨
     (byt s 0 = 4 ∧ (rdOk 125 s ∧ x = ⟨4, 3, wd s 1, wd s 3, 0, 0, 0, []⟩ ∧ k = 0 ∨ ¬ rdOk 125 s ∧ x = noShp ∧ k = 3)) ∨
     (byt s 0 = 5 ∧ (coilOk s ∧ x = ⟨5, 0, 0, 0, 0, wd s 1, 1, [((wd s 3 / 65280 : Nat) : Int)]⟩ ∧ k = 0 ∨ ¬ coilOk s ∧ x = noShp ∧ k = 3)) ∨
     (byt s 0 = 6 ∧ (s.size = 5 ∧ x = ⟨6, 0, 0, 0, 2, wd s 1, 1, [((wd s 3 : Nat) : Int)]⟩ ∧ k = 0 ∨ ¬ s.size = 5 ∧ x = noShp ∧ k = 3)) ∨
     (byt s 0 = 15 ∧ (coilsOk s ∧ x = ⟨15, 0, 0, 0, 0, wd s 1, wd s 3, bitsL s 6 (wd s 3)⟩ ∧ k = 0 ∨ ¬ coilsOk s ∧ x = noShp ∧ k = 3)) ∨
     (byt s 0 = 16 ∧ (holdsOk s ∧ x = ⟨16, 0, 0, 0, 2, wd s 1, wd s 3, wordsL s 6 (wd s 3)⟩ ∧ k = 0 ∨ ¬ holdsOk s ∧ x = noShp ∧ k = 3)) ∨
     (byt s 0 = 22 ∧ (s.size = 7 ∧ x = ⟨22, 2, wd s 1, 1, 2, wd s 1, 1, wordsL s 3 2⟩ ∧ k = 0 ∨ ¬ s.size = 7 ∧ x = noShp ∧ k = 3)) ∨
     (byt s 0 = 23 ∧ (exchOk s ∧ x = ⟨23, 2, wd s 1, wd s 3, 2, wd s 5, wd s 7, wordsL s 10 (wd s 7)⟩ ∧ k = 0 ∨ ¬ exchOk s ∧ x = noShp ∧ k = 3)) ∨
     (byt s 0 ≠ 1 ∧ byt s 0 ≠ 2 ∧ byt s 0 ≠ 3 ∧ byt s 0 ≠ 4 ∧ byt s 0 ≠ 5 ∧ byt s 0 ≠ 6 ∧ byt s 0 ≠ 15 ∧ byt s 0 ≠ 16 ∧ byt s 0 ≠ 22 ∧ byt s 0 ≠ 23) ∧ x = noShp ∧ k = 1)
theorem two_ways {p : Prop} {x y a b : Shp} {k l : Nat} (h : p ∧ x = a ∧ k = 0 ∨ ¬ p ∧ x = b ∧ k = 3) (h' : p ∧ y = a ∧ l = 0 ∨ ¬ p ∧ y = b ∧ l = 3) : x = y ∧ k = l := by
  rcases h with ⟨p1, rfl, rfl⟩ | ⟨p1, rfl, rfl⟩ <;> rcases h' with ⟨p2, rfl, rfl⟩ | ⟨p2, rfl, rfl⟩ <;> first | exact ⟨rfl, rfl⟩ | exact absurd p1 p2 | exact absurd p2 p1
theorem ShpIs.eq {s : ByteArray} {x y : Shp} {k l : Nat} (h : ShpIs s x k) (h' : ShpIs s y l) : x = y ∧ k = l := by
  unfold ShpIs at h h'
  rcases h with ⟨hs, rfl, rfl⟩ | ⟨hs, h⟩
  · rcases h' with ⟨_, rfl, rfl⟩ | ⟨hs', _⟩
    · exact ⟨rfl, rfl⟩
    · omega
  · rcases h' with ⟨hs', _, _⟩ | ⟨_, h'⟩
    · omega
    · rcases h with ⟨e, h⟩ | ⟨e, h⟩ | ⟨e, h⟩ | ⟨e, h⟩ | ⟨e, h⟩ | ⟨e, h⟩ | ⟨e, h⟩ | ⟨e, h⟩ | ⟨e, h⟩ | ⟨e, h⟩ | ⟨e, h⟩ <;>
        rcases h' with ⟨e', h'⟩ | ⟨e', h'⟩ | ⟨e', h'⟩ | ⟨e', h'⟩ | ⟨e', h'⟩ | ⟨e', h'⟩ | ⟨e', h'⟩ | ⟨e', h'⟩ | ⟨e', h'⟩ | ⟨e', h'⟩ | ⟨e', h'⟩ <;>
        first
        | exact two_ways h h'
        | exact absurd e (by omega)
        | exact ⟨h.1.trans h'.1.symm, h.2.trans h'.2.symm⟩
end Pl
end Go.Proofs.YtcpldcojckhapaaGreat
