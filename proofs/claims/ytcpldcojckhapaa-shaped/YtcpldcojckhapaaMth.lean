/-
  Plain facts on the five requests that are laid down by hand; nothing of the program is in it.
-/
import Derived.Test.YtcpldcojckhapaaW6
import Derived.Test.YtcpldcojckhapaaT22
namespace Go.Proofs.Ytcpldcojckhapaa
namespace Pl

theorem byt_list (s : ByteArray) (k : Nat) : byt s k = (s.data.toList.getD k 0).toNat := by
  unfold byt
  split
  · rename_i h
    rw [List.getD_eq_getElem?_getD, List.getElem?_eq_getElem (by simpa using h)]
    rfl
  · rename_i h
    rw [List.getD_eq_getElem?_getD, List.getElem?_eq_none (by simpa using h)]
    rfl
theorem byt_left (s t : ByteArray) (k : Nat) (h : k < s.size) : byt (s ++ t) k = byt s k := by
  have e : (s ++ t).data.toList = s.data.toList ++ t.data.toList := by simp
  rw [byt_list, byt_list, e, List.getD_eq_getElem?_getD, List.getD_eq_getElem?_getD, List.getElem?_append_left (by simpa using h)]
theorem byt_right (s t : ByteArray) (k n : Nat) (h : s.size = n) : byt (s ++ t) (n + k) = byt t k := by
  have e : (s ++ t).data.toList = s.data.toList ++ t.data.toList := by simp
  have hn : s.data.toList.length = n := by rw [← h]; simp
  rw [byt_list, byt_list, e, List.getD_eq_getElem?_getD, List.getD_eq_getElem?_getD, List.getElem?_append_right (by omega), hn, Nat.add_sub_cancel_left]
theorem wd_left (s t : ByteArray) (k : Nat) (h : k + 1 < s.size) : wd (s ++ t) k = wd s k := by
  unfold wd; rw [byt_left s t k (by omega), byt_left s t (k + 1) h]
theorem wd_right (s t : ByteArray) (k n : Nat) (h : s.size = n) : wd (s ++ t) (n + k) = wd t k := by
  unfold wd; rw [byt_right s t k n h, Nat.add_assoc, byt_right s t (k + 1) n h]
theorem wd_two (n : Nat) (h : n < 65536) : wd (twoB n) 0 = n := by
  unfold wd
  rw [byt_list, byt_list]
  simp [twoB]
  omega
theorem byt_one (n : Nat) (h : n < 256) : byt (oneB n) 0 = n := by
  rw [byt_list]; simp [oneB]; omega
theorem byt_lit (b : UInt8) : byt ⟨#[b]⟩ 0 = b.toNat := by rw [byt_list]; rfl

/-- Words, one behind the other. -/
def catB (ws : Nat → Nat) : Nat → ByteArray
  | 0 => ⟨#[]⟩
  | q + 1 => catB ws q ++ twoB (ws q)
theorem catB_size (ws : Nat → Nat) (q : Nat) : (catB ws q).size = 2 * q := by
  induction q with
  | zero => rfl
  | succ q ih => rw [catB, ByteArray.size_append, ih, sz2]; omega
theorem catB_wd (ws : Nat → Nat) (hw : ∀ i, ws i < 65536) (q i : Nat) (h : i < q) : wd (catB ws q) (2 * i) = ws i := by
  induction q with
  | zero => omega
  | succ q ih =>
    rw [catB]
    by_cases hi : i < q
    · rw [wd_left _ _ _ (by rw [catB_size]; omega)]; exact ih hi
    · obtain rfl : i = q := by omega
      have := wd_right (catB ws i) (twoB (ws i)) 0 (2 * i) (catB_size ws i)
      rw [Nat.add_zero] at this
      rw [this, wd_two _ (hw i)]
/-- Bits, packed into bytes: the byte j behind q of them. -/
def pkd (bs : Nat → Nat) : Nat → Nat → Nat
  | 0, _ => 0
  | q + 1, j => if q / 8 = j then pkd bs q j + bs q * 2 ^ (q % 8) else pkd bs q j
theorem pkd_before (bs : Nat → Nat) (q j : Nat) (h : q ≤ 8 * j) : pkd bs q j = 0 := by
  induction q with
  | zero => rfl
  | succ q ih => rw [pkd, if_neg (by omega)]; exact ih (by omega)
theorem pkd_lt (bs : Nat → Nat) (hb : ∀ i, bs i < 2) (j r : Nat) (hr : r ≤ 8) : pkd bs (8 * j + r) j < 2 ^ r := by
  induction r with
  | zero => rw [Nat.add_zero, pkd_before bs _ j (Nat.le_refl _)]; omega
  | succ r ih =>
    have h1 := ih (by omega)
    have e1 : (8 * j + r) / 8 = j := by omega
    have e2 : (8 * j + r) % 8 = r := by omega
    rw [← Nat.add_assoc, pkd, if_pos e1, e2, Nat.pow_succ]
    have := hb (8 * j + r)
    rcases (show bs (8 * j + r) = 0 ∨ bs (8 * j + r) = 1 by omega) with e | e <;> rw [e] <;> omega
theorem pkd_after (bs : Nat → Nat) (j q : Nat) (h : 8 * j + 8 ≤ q) : pkd bs q j = pkd bs (8 * j + 8) j := by
  induction q with
  | zero => omega
  | succ q ih =>
    by_cases hq : 8 * j + 8 = q + 1
    · rw [hq]
    · rw [pkd, if_neg (by omega)]; exact ih (by omega)
theorem pkd_byte (bs : Nat → Nat) (hb : ∀ i, bs i < 2) (q j : Nat) : pkd bs q j < 256 := by
  rcases Nat.lt_or_ge q (8 * j + 8) with h | h
  · rcases Nat.lt_or_ge q (8 * j) with h2 | h2
    · rw [pkd_before bs q j (by omega)]; omega
    · obtain ⟨r, rfl⟩ : ∃ r, q = 8 * j + r := ⟨q - 8 * j, by omega⟩
      have h3 := pkd_lt bs hb j r (by omega)
      have : (2 : Nat) ^ r ≤ 2 ^ 8 := Nat.pow_le_pow_right (by omega) (by omega)
      omega
  · rw [pkd_after bs j q h]
    exact pkd_lt bs hb j 8 (Nat.le_refl _)
/-- In the byte of a bit the bits ahead of it are below it. -/
theorem pkd_room (bs : Nat → Nat) (hb : ∀ i, bs i < 2) (q : Nat) : pkd bs q (q / 8) < 2 ^ (q % 8) := by
  have := pkd_lt bs hb (q / 8) (q % 8) (by omega)
  rwa [show 8 * (q / 8) + q % 8 = q by omega] at this
theorem div_pow_mod (a b r s : Nat) (hs : s < r) : (a + b * 2 ^ r) / 2 ^ s % 2 = a / 2 ^ s % 2 := by
  obtain ⟨d, rfl⟩ : ∃ d, r = s + 1 + d := ⟨r - (s + 1), by omega⟩
  have e : b * 2 ^ (s + 1 + d) = 2 ^ s * (2 * (b * 2 ^ d)) := by
    rw [Nat.pow_add, Nat.pow_add, Nat.pow_one]
    simp only [Nat.mul_assoc, Nat.mul_left_comm]
  rw [e, Nat.add_mul_div_left _ _ (Nat.pow_pos (by omega))]
  omega
theorem pkd_bit (bs : Nat → Nat) (hb : ∀ i, bs i < 2) (q i : Nat) (h : i < q) : pkd bs q (i / 8) / 2 ^ (i % 8) % 2 = bs i := by
  induction q with
  | zero => omega
  | succ q ih =>
    rw [pkd]
    by_cases hi : i < q
    · by_cases hj : q / 8 = i / 8
      · rw [if_pos hj, div_pow_mod _ _ _ _ (by omega)]; exact ih hi
      · rw [if_neg hj]; exact ih hi
    · obtain rfl : i = q := by omega
      rw [if_pos rfl, Nat.mul_comm, Nat.add_mul_div_left _ _ (Nat.pow_pos (by omega)), Nat.div_eq_of_lt (pkd_room bs hb i)]
      have := hb i
      omega
/-- The packed bytes. -/
def packB (bs : Nat → Nat) (m pl : Nat) : ByteArray := ⟨((List.range pl).map fun j => UInt8.ofNat (pkd bs m j)).toArray⟩
theorem packB_size (bs : Nat → Nat) (m pl : Nat) : (packB bs m pl).size = pl := by
  show ((List.range pl).map fun j => UInt8.ofNat (pkd bs m j)).toArray.size = pl
  simp
theorem packB_byt (bs : Nat → Nat) (hb : ∀ i, bs i < 2) (m pl j : Nat) (h : j < pl) : byt (packB bs m pl) j = pkd bs m j := by
  rw [byt_list]
  simp only [packB, List.getD_eq_getElem?_getD, List.getElem?_map, List.getElem?_range h]
  have := pkd_byte bs hb m j
  simp
  omega
end Pl
end Go.Proofs.Ytcpldcojckhapaa
