/-
  The book of package latchlaw: its lists, as a walk sees them; no walk.
-/
import Derived.Test.YtcpldcojckhapaaBookL
import Derived.Test.YtcpldcojckhapaaFrdL
set_option maxRecDepth 100000
namespace Go.Proofs.Ytcpldcojckhapaa
open Go.RowKit

theorem Try.info31 : (Try.prog.info? 31).map (fun i => (i.zero, i.size, i.bytes)) = some (some (.slice none 0 0), 1, 24) := by kernel_rfl
theorem Try.info30 : (Try.prog.info? 30).map (fun i => (i.zero, i.size, i.bytes)) = some (some (.slice none 0 0), 1, 24) := by kernel_rfl
theorem Try.info32 : (Try.prog.info? 32).map (fun i => (i.zero, i.size, i.bytes)) = some (some (.slice none 0 0), 1, 24) := by kernel_rfl
theorem Try.info33 : (Try.prog.info? 33).map (fun i => (i.zero, i.size, i.bytes)) = some (some (.slice none 0 0), 1, 24) := by kernel_rfl
theorem Try.info3 : (Try.prog.info? 3).map (fun i => (i.zero, i.size, i.bytes)) = some (some (.int .i64 0), 1, 8) := by kernel_rfl
theorem Try.info9 : (Try.prog.info? 9).map (fun i => (i.zero, i.size, i.bytes)) = some (some (.string ⟨#[]⟩), 1, 16) := by kernel_rfl
theorem Try.info75 : (Try.prog.info? 75).map (fun i => (i.zero, i.size, i.bytes)) = some (some (.agg #[.int .u8 0, .int .i64 0, .int .i64 0, .string ⟨#[]⟩]), 4, 40) := by kernel_rfl

/-- The marks, by kind. -/
def mkF (i : Nat) : List Value := [.int .i64 (70000 + i : Nat), .int .i64 0, .string ⟨#[]⟩]
def mkI (i : Nat) : List Value := [.int .i64 (70000 + i : Nat)]
def mkA (i : Nat) : List Value := [.int .u8 0, .int .i64 (70000 + i : Nat), .int .i64 0, .string ⟨#[]⟩]
def wordB (n : Nat) : ByteArray := ⟨#[UInt8.ofNat (n % 256), UInt8.ofNat (n / 256 % 256), UInt8.ofNat (n / 65536 % 256), 109]⟩
def mkT (i : Nat) : List Value := [.string (wordB i)]

/-- The lists of one kind: each reads as its owner marked it. -/
def Lists (w : World) (B : Nat) (eO e : TypeId) (size : Nat) (mk : Nat → List Value) (vO : Value) (N : Nat) : Prop :=
  ∃ Ls, w.ownsRow B eO 1 vO N Ls ∧ ∀ i v, Ls[i]? = some v → ∃ m, m ≤ 2000000 ∧ Reads w B e size v m ((List.replicate m (mk (i / 4 * 4))).flatten)

theorem rep_at (cs : List Value) (size m k j : Nat) (hcs : cs.length = size) (hk : k < m) (hj : j < size) : ((List.replicate m cs).flatten)[k * size + j]? = cs[j]? := by
  induction m generalizing k with
  | zero => exact absurd hk (Nat.not_lt_zero _)
  | succ m ih =>
    rw [List.replicate_succ, List.flatten_cons]
    cases k with
    | zero => rw [Nat.zero_mul, Nat.zero_add, List.getElem?_append_left (by omega)]
    | succ k =>
      have hmul : (k + 1) * size = k * size + size := Nat.succ_mul k size
      rw [List.getElem?_append_right (by omega), hcs, show (k + 1) * size + j - size = k * size + j by omega]
      exact ih k (by omega)

theorem Lists.view {w : World} {B : Nat} {eO e : TypeId} {size : Nat} {mk : Nat → List Value} {vO : Value} {N : Nat} (h : Lists w B eO e size mk vO N) (hmk : ∀ i, (mk i).length = size) :
    ∃ a c, vO = .slice a N c ∧ ∀ i, i < N → ∃ gO, a = some ⟨gO, 0, none⟩ ∧ gO < w.heap.size ∧ ∃ a' m c', w.cell? ⟨gO, i, none⟩ = some (.slice a' m c') ∧ m ≤ 2000000 ∧
      ∀ k, k < m → ∃ g, a' = some ⟨g, 0, none⟩ ∧ g < w.heap.size ∧ ∀ j, j < size → w.cell? ⟨g, k * size + j, none⟩ = (mk (i / 4 * 4))[j]? := by
  obtain ⟨Ls, ho, hl⟩ := h
  obtain ⟨a, c, hv, hc⟩ := own_view ho
  refine ⟨a, c, hv, fun i hi => ?_⟩
  obtain ⟨gO, ha, hg, hcell⟩ := hc i hi
  have hlen : i < Ls.length := by rw [ho.1]; omega
  obtain ⟨m, hm, hr⟩ := hl i Ls[i] (List.getElem?_eq_getElem hlen)
  obtain ⟨a', c', hv', hc'⟩ := hr.view
  refine ⟨gO, ha, hg, a', m, c', ?_, hm, fun k hk => ?_⟩
  · rw [hcell i (by omega), List.getElem?_eq_getElem hlen, hv']
  · obtain ⟨g, hg1, hg2, hg3⟩ := hc' k hk
    refine ⟨g, hg1, hg2, fun j hj => ?_⟩
    have hb : k * size + j < m * size := by
      have : (k + 1) * size ≤ m * size := Nat.mul_le_mul_right _ hk
      rw [Nat.succ_mul] at this
      omega
    rw [hg3 _ hb, rep_at _ size m k j (hmk _) hk hj]
end Go.Proofs.Ytcpldcojckhapaa
