/-
  The book of package latchlaw: its kinds.
-/
import Derived.Test.YtcpldcojckhapaaB0
namespace Go.Proofs.Ytcpldcojckhapaa
open Go.RowKit

theorem Try.infoOI : (Try.prog.info? 30).map (fun i => (i.zero, i.size, i.bytes)) = some (some (.slice none 0 0), 1, 24) := by kernel_rfl
theorem Try.infoEI : (Try.prog.info? 3).map (fun i => (i.zero, i.size, i.bytes)) = some (some (.int .i64 0), 1, 8) := by kernel_rfl
def encI (x : Int) : List Value := [.int .i64 x]
theorem encI_one (l : List Int) : ∀ u ∈ l.flatMap encI, u.oneCell' = true := by
  intro u hu
  obtain ⟨x, _, hx⟩ := List.mem_flatMap.1 hu
  simp [encI] at hx
  subst hx; rfl
theorem atI (l : List Int) (q : Nat) (h : q < l.length) : ∃ x : Int, (l.flatMap encI)[q]? = some (.int .i64 x) := by
  refine ⟨l[q], ?_⟩
  · have := flat_gen encI 1 (fun _ => rfl) l q 0 h (by omega)
    simp only [Nat.mul_one, Nat.add_zero] at this
    rw [this]; rfl
theorem Try.infoOF : (Try.prog.info? 31).map (fun i => (i.zero, i.size, i.bytes)) = some (some (.slice none 0 0), 1, 24) := by kernel_rfl
theorem Try.infoEF : (Try.prog.info? 40).map (fun i => (i.zero, i.size, i.bytes)) = some (some (.agg #[.int .i64 0, .int .i64 0, .string ⟨#[]⟩]), 3, 32) := by kernel_rfl
def encF (x : (Int × Int × ByteArray)) : List Value := [.int .i64 x.1, .int .i64 x.2.1, .string x.2.2]
theorem encF_one (l : List (Int × Int × ByteArray)) : ∀ u ∈ l.flatMap encF, u.oneCell' = true := by
  intro u hu
  obtain ⟨x, _, hx⟩ := List.mem_flatMap.1 hu
  simp [encF] at hx
  rcases hx with rfl | rfl | rfl <;> rfl
theorem atF (l : List (Int × Int × ByteArray)) (q : Nat) (h : q < l.length) : ∃ x : (Int × Int × ByteArray), (l.flatMap encF)[q * 3]? = some (.int .i64 x.1) ∧ (l.flatMap encF)[q * 3 + 1]? = some (.int .i64 x.2.1) ∧ (l.flatMap encF)[q * 3 + 2]? = some (.string x.2.2) := by
  refine ⟨l[q], ?_, ?_, ?_⟩
  · have := flat_gen encF 3 (fun _ => rfl) l q 0 h (by omega)
    rw [Nat.add_zero] at this
    rw [this]; rfl
  · have := flat_gen encF 3 (fun _ => rfl) l q 1 h (by omega)
    rw [this]; rfl
  · have := flat_gen encF 3 (fun _ => rfl) l q 2 h (by omega)
    rw [this]; rfl
theorem Try.infoOA : (Try.prog.info? 33).map (fun i => (i.zero, i.size, i.bytes)) = some (some (.slice none 0 0), 1, 24) := by kernel_rfl
theorem Try.infoEA : (Try.prog.info? 75).map (fun i => (i.zero, i.size, i.bytes)) = some (some (.agg #[.int .u8 0, .int .i64 0, .int .i64 0, .string ⟨#[]⟩]), 4, 40) := by kernel_rfl
def encA (x : (Int × Int × Int × ByteArray)) : List Value := [.int .u8 x.1, .int .i64 x.2.1, .int .i64 x.2.2.1, .string x.2.2.2]
theorem encA_one (l : List (Int × Int × Int × ByteArray)) : ∀ u ∈ l.flatMap encA, u.oneCell' = true := by
  intro u hu
  obtain ⟨x, _, hx⟩ := List.mem_flatMap.1 hu
  simp [encA] at hx
  rcases hx with rfl | rfl | rfl | rfl <;> rfl
theorem atA (l : List (Int × Int × Int × ByteArray)) (q : Nat) (h : q < l.length) : ∃ x : (Int × Int × Int × ByteArray), (l.flatMap encA)[q * 4]? = some (.int .u8 x.1) ∧ (l.flatMap encA)[q * 4 + 1]? = some (.int .i64 x.2.1) ∧ (l.flatMap encA)[q * 4 + 2]? = some (.int .i64 x.2.2.1) ∧ (l.flatMap encA)[q * 4 + 3]? = some (.string x.2.2.2) := by
  refine ⟨l[q], ?_, ?_, ?_, ?_⟩
  · have := flat_gen encA 4 (fun _ => rfl) l q 0 h (by omega)
    rw [Nat.add_zero] at this
    rw [this]; rfl
  · have := flat_gen encA 4 (fun _ => rfl) l q 1 h (by omega)
    rw [this]; rfl
  · have := flat_gen encA 4 (fun _ => rfl) l q 2 h (by omega)
    rw [this]; rfl
  · have := flat_gen encA 4 (fun _ => rfl) l q 3 h (by omega)
    rw [this]; rfl
theorem Try.infoOT : (Try.prog.info? 32).map (fun i => (i.zero, i.size, i.bytes)) = some (some (.slice none 0 0), 1, 24) := by kernel_rfl
theorem Try.infoET : (Try.prog.info? 9).map (fun i => (i.zero, i.size, i.bytes)) = some (some (.string ⟨#[]⟩), 1, 16) := by kernel_rfl
def encT (x : ByteArray) : List Value := [.string x]
theorem encT_one (l : List ByteArray) : ∀ u ∈ l.flatMap encT, u.oneCell' = true := by
  intro u hu
  obtain ⟨x, _, hx⟩ := List.mem_flatMap.1 hu
  simp [encT] at hx
  subst hx; rfl
theorem atT (l : List ByteArray) (q : Nat) (h : q < l.length) : ∃ x : ByteArray, (l.flatMap encT)[q]? = some (.string x) := by
  refine ⟨l[q], ?_⟩
  · have := flat_gen encT 1 (fun _ => rfl) l q 0 h (by omega)
    simp only [Nat.mul_one, Nat.add_zero] at this
    rw [this]; rfl
def wordB (n : Nat) : ByteArray := ⟨#[UInt8.ofNat (n % 256), UInt8.ofNat (n / 256 % 256), UInt8.ofNat (n / 65536 % 256), 109]⟩
def mkF (i : Nat) : List Value := [.int .i64 (70000 + (i : Int)), .int .i64 0, .string ⟨#[]⟩]
def mkI (i : Nat) : List Value := [.int .i64 (70000 + (i : Int))]
def mkA (i : Nat) : List Value := [.int .u8 0, .int .i64 (70000 + (i : Int)), .int .i64 0, .string ⟨#[]⟩]
def mkT (i : Nat) : List Value := [.string (wordB i)]
end Go.Proofs.Ytcpldcojckhapaa
