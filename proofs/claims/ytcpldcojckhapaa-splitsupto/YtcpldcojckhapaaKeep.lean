/-
  Package latchkeep's small functions: pick, two, stream, serial and Sent.frame: what they answer.
-/
import Derived.Test.YtcpldcojckhapaaStep
import Derived.Laws.IdiomStrings
set_option maxRecDepth 100000
namespace Go.Proofs.Ytcpldcojckhapaa
open Go.RowKit

theorem bel_alloc {w W : World} (h : Below w.heap.size w W) (o : Obj) : Below w.heap.size w (W.alloc o) := h.alloc h.size o
theorem bel_then {w W W' : World} (h : Below w.heap.size w W) (h' : Below W.heap.size W W') : Below w.heap.size w W' := h.trans (h'.mono h.size)
def pk (c n : Int) : Int := (if c < 0 then -(c + 1) else c) % n
theorem pk_nonneg (c n : Int) (h : 0 < n) : 0 ≤ pk c n := Int.emod_nonneg _ (by omega)
theorem pk_lt (c n : Int) (h : 0 < n) : pk c n < n := Int.emod_lt_of_pos _ h


theorem pk_neg (c n : Int) (hc : c < 0) (_h : 0 < n) : -((c + 1).tmod n) = pk c n := by
  unfold pk
  rw [if_pos hc, ← Int.neg_tmod, Int.tmod_eq_emod_of_nonneg (by omega)]
theorem pk_pos (c n : Int) (hc : 0 ≤ c) : c % n = pk c n := by unfold pk; rw [if_neg (by omega)]

set_option maxHeartbeats 400000 in
theorem pick_any (c n : Int) (w : World) (h1 : -9223372036854775808 ≤ c) (h2 : c ≤ 9223372036854775807) (h3 : 0 < n) (h4 : n ≤ 4294967296) :
    Calls Try.prog 24 #[.int .i64 c, .int .i64 n] w fun e w' => e = .returned (.int .i64 (pk c n)) ∧ w' = w := by
  have hn0 : (n == 0) = false := by simp; omega
  have hn1 : (n == -1) = false := by simp; omega
  by_cases hc : c < 0
  · go_enter Try.func24, Try.ntmps24
    go_wp2
    go_ret
    exact ⟨rint (pk_neg c n hc h3), rfl⟩
  · go_enter Try.func24, Try.ntmps24
    go_wp2
    go_ret
    exact ⟨rint (pk_pos c n hc), rfl⟩

/-- 'string([]byte{..})' of one byte and of two, the row new. -/
theorem conv1 (W : World) (x : Int) : (convert 45 9 (.slice (some ⟨W.heap.size, 0, none⟩) 1 1)).run Try.prog (W.alloc (.cells #[.int .u8 x] 5)) = .ok (.string ⟨#[UInt8.ofNat x.toNat]⟩) (W.alloc (.cells #[.int .u8 x] 5)) := by
  rw [run_convert_bytes_string _ 45 9 5 _ 1 1 Try.underlying45 Try.underlying5 Try.underlying9, run_bytesToString _ _ 1 1 [x]]
  · rfl
  · have h := run_loadCells_list (P := Try.prog) (W.alloc (.cells #[.int .u8 x] 5)) ⟨W.heap.size, 0, none⟩ [.int .u8 x] (fun j v hj => by
      match j, hj with
      | 0, hj => simp at hj; subst hj; simp [Addr.add])
    simpa using h
theorem conv2 (W : World) (x y : Int) : (convert 45 9 (.slice (some ⟨W.heap.size, 0, none⟩) 2 2)).run Try.prog (W.alloc (.cells #[.int .u8 x, .int .u8 y] 5)) = .ok (.string ⟨#[UInt8.ofNat x.toNat, UInt8.ofNat y.toNat]⟩) (W.alloc (.cells #[.int .u8 x, .int .u8 y] 5)) := by
  rw [run_convert_bytes_string _ 45 9 5 _ 2 2 Try.underlying45 Try.underlying5 Try.underlying9, run_bytesToString _ _ 2 2 [x, y]]
  · rfl
  · have h := run_loadCells_list (P := Try.prog) (W.alloc (.cells #[.int .u8 x, .int .u8 y] 5)) ⟨W.heap.size, 0, none⟩ [.int .u8 x, .int .u8 y] (fun j v hj => by
      match j, hj with
      | 0, hj => simp at hj; subst hj; simp [Addr.add]
      | 1, hj => simp at hj; subst hj; simp [Addr.add])
    simpa using h

def twoB (n : Nat) : ByteArray := ⟨#[UInt8.ofNat (n / 256), UInt8.ofNat (n % 256)]⟩
set_option maxHeartbeats 400000 in
theorem two_any (n : Nat) (w : World) (h4 : n < 65536) :
    Calls Try.prog 26 #[.int .i64 (n : Nat)] w fun e w' => e = .returned (.string (twoB n)) ∧ Below w.heap.size w w' := by
  have c2 := conv2
  go_enter Try.func26, Try.ntmps26
  go_wp2
  go_ret
  exact ⟨rfl, (Below.refl _ _).alloc (Nat.le_refl _) _⟩

theorem conv1_at (W : World) (g : Nat) (x : Int) (hc : W.cell? ⟨g, 0, none⟩ = some (.int .u8 x)) : (convert 45 9 (.slice (some ⟨g, 0, none⟩) 1 1)).run Try.prog W = .ok (.string ⟨#[UInt8.ofNat x.toNat]⟩) W := by
  rw [run_convert_bytes_string _ 45 9 5 _ 1 1 Try.underlying45 Try.underlying5 Try.underlying9, run_bytesToString _ _ 1 1 [x]]
  · rfl
  · have h := run_loadCells_list (P := Try.prog) W ⟨g, 0, none⟩ [.int .u8 x] (fun j v hj => by
      match j, hj with
      | 0, hj => simp at hj; subst hj; simpa [Addr.add] using hc)
    simpa using h
def streamB (m u : Nat) (b : ByteArray) : ByteArray := twoB m ++ ⟨#[0, 0]⟩ ++ twoB (b.size + 1) ++ ⟨#[UInt8.ofNat u]⟩ ++ b
theorem enter30 (x : Value) (w : World) : (callFunc 26 #[x]).run Try.prog w = .ok (.enter 26 #[x]) w := by kernel_rfl
theorem two_step (x : Int) (n : Nat) (hx : x = n) (w : World) (h4 : n < 65536) :
    Calls Try.prog 26 #[.int .i64 x] w fun e w' => ∃ v, e = .returned v ∧ (v = .string (twoB n) ∧ Below w.heap.size w w') := by
  subst hx
  refine (two_any n w h4).mono ?_
  rintro e w' ⟨rfl, hb⟩
  exact ⟨_, rfl, rfl, hb⟩

set_option maxRecDepth 100000 in
set_option maxHeartbeats 2000000 in
theorem stream_any (m u : Nat) (b : ByteArray) (w : World) (hm : m < 65536) (hu : u < 256) (hb : b.size ≤ 253) :
    Calls Try.prog 23 #[.int .i64 (m : Nat), .int .i64 (u : Nat), .string b] w fun e w' => e = .returned (.string (streamB m u b)) ∧ Below w.heap.size w w' := by
  have c1 : ∀ (W : World) (g : Nat), W.cell? ⟨g, 0, none⟩ = some (.int .u8 (u : Int)) → (convert 45 9 (.slice (some ⟨g, 0, none⟩) 1 1)).run Try.prog W = .ok (.string ⟨#[UInt8.ofNat u]⟩) W := fun W g hc => conv1_at W g u hc
  have wl : IntKind.i64.wrap ((b.size : Int) + 1) = (b.size : Int) + 1 := by rw [IntKind.wrap_i64]; omega
  have wu : IntKind.u8.wrap (u : Int) = (u : Int) := by rw [IntKind.wrap_u8]; omega
  have hlim : ¬ 9223372036854775807 < 7 + b.size := by omega
  have z1 : (twoB m).size = 2 := rfl
  have z2 : (twoB (b.size + 1)).size = 2 := rfl
  go_enter Try.func23, Try.ntmps23
  go_wp2_with fail
  go_region_law (first
    | (refine step_call rfl 26 #[.tmp 7] #[3] rfl #[.int .i64 (m : Nat)] (by simp [Act.eval, Act.put]) (enter30 _ _) _ (two_step _ m rfl _ hm) ?_; rintro v w1 ⟨rfl, hb1⟩; obtain ⟨hc1, hf1⟩ := bcell hb1; try (have hz1 : w.heap.size < w1.heap.size := (by have := hb1.size; simp at this; omega)))
    | (refine step_call rfl 26 #[.tmp 12] #[3] rfl #[.int .i64 ((b.size : Int) + 1)] (by simp [Act.eval, Act.put]) (enter30 _ _) _ (two_step _ (b.size + 1) (by omega) _ (by omega)) ?_; rintro v w2 ⟨rfl, hb2⟩; obtain ⟨hc2, hf2⟩ := bcell hb2))
  all_goals go_wp2
  all_goals go_ret
  all_goals
    refine ⟨rfl, ?_⟩
    repeat (first | exact Below.refl _ _ | refine Below.drew ?_ | refine bel_alloc ?_ _ | refine bel_then ?_ hb2 | refine bel_then ?_ hb1)
end Go.Proofs.Ytcpldcojckhapaa
