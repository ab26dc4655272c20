/-
  What a request's body says, as a plain function of its bytes; nothing of the program is in it.
-/
import Derived.Test.YtcpldcojckhapaaPlain
namespace Go.Proofs.Ytcpldcojckhapaa
namespace Pl

/-- A word of two bytes, the high one first. -/
def wd (s : ByteArray) (k : Nat) : Nat := 256 * byt s k + byt s (k + 1)
theorem wd_lt (s : ByteArray) (k : Nat) : wd s k < 65536 := by
  have := byt_lt s k
  have := byt_lt s (k + 1)
  unfold wd; omega
def wordsL (s : ByteArray) (t n : Nat) : List Int := (List.range n).map fun i => ((wd s (t + 2 * i) : Nat) : Int)
def bit (s : ByteArray) (t i : Nat) : Nat := byt s (t + i / 8) / 2 ^ (i % 8) % 2
def bitsL (s : ByteArray) (t n : Nat) : List Int := (List.range n).map fun i => ((bit s t i : Nat) : Int)
theorem wordsL_len (s : ByteArray) (t n : Nat) : (wordsL s t n).length = n := by simp [wordsL]
theorem bitsL_len (s : ByteArray) (t n : Nat) : (bitsL s t n).length = n := by simp [bitsL]
theorem wordsL_succ (s : ByteArray) (t n : Nat) : wordsL s t (n + 1) = wordsL s t n ++ [((wd s (t + 2 * n) : Nat) : Int)] := by
  simp [wordsL, List.range_succ]
theorem bitsL_succ (s : ByteArray) (t n : Nat) : bitsL s t (n + 1) = bitsL s t n ++ [((bit s t n : Nat) : Int)] := by
  simp [bitsL, List.range_succ]
theorem wordsL_at (s : ByteArray) (t n q : Nat) (h : q < n) : (wordsL s t n)[q]? = some ((wd s (t + 2 * q) : Nat) : Int) := by
  simp [wordsL, h]
theorem bitsL_at (s : ByteArray) (t n q : Nat) (h : q < n) : (bitsL s t n)[q]? = some ((bit s t q : Nat) : Int) := by
  simp [bitsL, h]
theorem bit_lt (s : ByteArray) (t i : Nat) : bit s t i < 2 := by unfold bit; omega
theorem wd_suffix (s : ByteArray) (t k : Nat) : wd (s.extract t s.size) k = wd s (t + k) := by
  unfold wd; rw [byt_suffix, byt_suffix, Nat.add_assoc]
theorem wordsL_suffix (s : ByteArray) (t k n : Nat) : wordsL (s.extract t s.size) k n = wordsL s (t + k) n := by
  unfold wordsL
  apply List.map_congr_left
  intro i _
  rw [wd_suffix, Nat.add_assoc]
theorem bitsL_suffix (s : ByteArray) (t k n : Nat) : bitsL (s.extract t s.size) k n = bitsL s (t + k) n := by
  unfold bitsL
  apply List.map_congr_left
  intro i _
  unfold bit
  rw [byt_suffix, Nat.add_assoc]

/-- What a request reads and writes. -/
structure Shp where
  fn : Nat
  tab : Nat
  frm : Nat
  cnt : Nat
  into : Nat
  to : Nat
  many : Nat
  vals : List Int
def noShp : Shp := ⟨0, 0, 0, 0, 0, 0, 0, []⟩
def rdOk (m : Nat) (s : ByteArray) : Prop := s.size = 5 ∧ 1 ≤ wd s 3 ∧ wd s 3 ≤ m
def coilOk (s : ByteArray) : Prop := s.size = 5 ∧ (wd s 3 = 0 ∨ wd s 3 = 65280)
def coilsOk (s : ByteArray) : Prop := 6 ≤ s.size ∧ 1 ≤ wd s 3 ∧ wd s 3 ≤ 1968 ∧ byt s 5 = (wd s 3 + 7) / 8 ∧ s.size = 6 + byt s 5
def holdsOk (s : ByteArray) : Prop := 6 ≤ s.size ∧ 1 ≤ wd s 3 ∧ wd s 3 ≤ 123 ∧ byt s 5 = 2 * wd s 3 ∧ s.size = 6 + byt s 5
def exchOk (s : ByteArray) : Prop := 10 ≤ s.size ∧ 1 ≤ wd s 3 ∧ wd s 3 ≤ 125 ∧ 1 ≤ wd s 7 ∧ wd s 7 ≤ 121 ∧ byt s 9 = 2 * wd s 7 ∧ s.size = 10 + byt s 9
/-- What the document asks of Shape: one clause a function. -/
def ShpIs (s : ByteArray) (x : Shp) (k : Nat) : Prop :=
  (s.size = 0 ∨ 253 < s.size) ∧ x = noShp ∧ k = 3 ∨
  (0 < s.size ∧ s.size ≤ 253) ∧
    ((byt s 0 = 1 ∧ (rdOk 2000 s ∧ x = ⟨1, 0, wd s 1, wd s 3, 0, 0, 0, []⟩ ∧ k = 0 ∨ ¬ rdOk 2000 s ∧ x = noShp ∧ k = 3)) ∨
     (byt s 0 = 2 ∧ (rdOk 2000 s ∧ x = ⟨2, 1, wd s 1, wd s 3, 0, 0, 0, []⟩ ∧ k = 0 ∨ ¬ rdOk 2000 s ∧ x = noShp ∧ k = 3)) ∨
     (byt s 0 = 3 ∧ (rdOk 125 s ∧ x = ⟨3, 2, wd s 1, wd s 3, 0, 0, 0, []⟩ ∧ k = 0 ∨ ¬ rdOk 125 s ∧ x = noShp ∧ k = 3)) ∨
     (byt s 0 = 4 ∧ (rdOk 125 s ∧ x = ⟨4, 3, wd s 1, wd s 3, 0, 0, 0, []⟩ ∧ k = 0 ∨ ¬ rdOk 125 s ∧ x = noShp ∧ k = 3)) ∨
     (byt s 0 = 5 ∧ (coilOk s ∧ x = ⟨5, 0, 0, 0, 0, wd s 1, 1, [((wd s 3 / 65280 : Nat) : Int)]⟩ ∧ k = 0 ∨ ¬ coilOk s ∧ x = noShp ∧ k = 3)) ∨
     (byt s 0 = 6 ∧ (s.size = 5 ∧ x = ⟨6, 0, 0, 0, 2, wd s 1, 1, [((wd s 3 : Nat) : Int)]⟩ ∧ k = 0 ∨ ¬ s.size = 5 ∧ x = noShp ∧ k = 3)) ∨
     (byt s 0 = 15 ∧ (coilsOk s ∧ x = ⟨15, 0, 0, 0, 0, wd s 1, wd s 3, bitsL s 6 (wd s 3)⟩ ∧ k = 0 ∨ ¬ coilsOk s ∧ x = noShp ∧ k = 3)) ∨
     (byt s 0 = 16 ∧ (holdsOk s ∧ x = ⟨16, 0, 0, 0, 2, wd s 1, wd s 3, wordsL s 6 (wd s 3)⟩ ∧ k = 0 ∨ ¬ holdsOk s ∧ x = noShp ∧ k = 3)) ∨
     (byt s 0 = 22 ∧ (s.size = 7 ∧ x = ⟨22, 2, wd s 1, 1, 2, wd s 1, 1, wordsL s 3 2⟩ ∧ k = 0 ∨ ¬ s.size = 7 ∧ x = noShp ∧ k = 3)) ∨
     (byt s 0 = 23 ∧ (exchOk s ∧ x = ⟨23, 2, wd s 1, wd s 3, 2, wd s 5, wd s 7, wordsL s 10 (wd s 7)⟩ ∧ k = 0 ∨ ¬ exchOk s ∧ x = noShp ∧ k = 3)) ∨
     (byt s 0 ≠ 1 ∧ byt s 0 ≠ 2 ∧ byt s 0 ≠ 3 ∧ byt s 0 ≠ 4 ∧ byt s 0 ≠ 5 ∧ byt s 0 ≠ 6 ∧ byt s 0 ≠ 15 ∧ byt s 0 ≠ 16 ∧ byt s 0 ≠ 22 ∧ byt s 0 ≠ 23) ∧ x = noShp ∧ k = 1)
theorem two_ways {p : Prop} {x y a b : Shp} {k l : Nat} (h : p ∧ x = a ∧ k = 0 ∨ ¬ p ∧ x = b ∧ k = 3) (h' : p ∧ y = a ∧ l = 0 ∨ ¬ p ∧ y = b ∧ l = 3) : x = y ∧ k = l := by
  rcases h with ⟨p1, rfl, rfl⟩ | ⟨p1, rfl, rfl⟩ <;> rcases h' with ⟨p2, rfl, rfl⟩ | ⟨p2, rfl, rfl⟩ <;> first | exact ⟨rfl, rfl⟩ | exact absurd p1 p2 | exact absurd p2 p1
theorem ShpIs.eq {s : ByteArray} {x y : Shp} {k l : Nat} (h : ShpIs s x k) (h' : ShpIs s y l) : x = y ∧ k = l := by
  unfold ShpIs at h h'
  rcases h with ⟨hs, rfl, rfl⟩ | ⟨hs, h⟩
  · rcases h' with ⟨_, rfl, rfl⟩ | ⟨hs', _⟩
    · exact ⟨rfl, rfl⟩
    · omega
  · rcases h' with ⟨hs', _, _⟩ | ⟨_, h'⟩
    · omega
    · rcases h with ⟨e, h⟩ | ⟨e, h⟩ | ⟨e, h⟩ | ⟨e, h⟩ | ⟨e, h⟩ | ⟨e, h⟩ | ⟨e, h⟩ | ⟨e, h⟩ | ⟨e, h⟩ | ⟨e, h⟩ | ⟨e, h⟩ <;>
        rcases h' with ⟨e', h'⟩ | ⟨e', h'⟩ | ⟨e', h'⟩ | ⟨e', h'⟩ | ⟨e', h'⟩ | ⟨e', h'⟩ | ⟨e', h'⟩ | ⟨e', h'⟩ | ⟨e', h'⟩ | ⟨e', h'⟩ | ⟨e', h'⟩ <;>
        first
        | exact two_ways h h'
        | exact absurd e (by omega)
        | exact ⟨h.1.trans h'.1.symm, h.2.trans h'.2.symm⟩
end Pl
end Go.Proofs.Ytcpldcojckhapaa
