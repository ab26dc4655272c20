/-
  latchkeep.stream: what it answers.
-/
import Derived.Test.YtcpldcojckhapaaGreatK1
import Derived.Test.YtcpldcojckhapaaGreatSpl
set_option maxRecDepth 100000
namespace Go.Proofs.YtcpldcojckhapaaGreat
open Go.RowKit

def streamB (m u : Nat) (b : ByteArray) : ByteArray := twoB m ++ ⟨#[0, 0]⟩ ++ twoB (b.size + 1) ++ ⟨#[UInt8.ofNat u]⟩ ++ b
set_option maxRecDepth 100000 in
set_option maxHeartbeats 2000000 in
theorem stream_any (m u : Nat) (b : ByteArray) (w : World) (hm : m < 65536) (hu : u < 256) (hb : b.size ≤ 253) :
    Calls Tryz.prog 21 #[.int .i64 (m : Nat), .int .i64 (u : Nat), .string b] w fun e w' => e = .returned (.string (streamB m u b)) ∧ Below w.heap.size w w' := by
  have c1 : ∀ (W : World) (g : Nat), W.cell? ⟨g, 0, none⟩ = some (.int .u8 (u : Int)) → (convert 114 9 (.slice (some ⟨g, 0, none⟩) 1 1)).run Tryz.prog W = .ok (.string ⟨#[UInt8.ofNat u]⟩) W := fun W g hc => conv1_at W g u hc
  have wl : IntKind.i64.wrap ((b.size : Int) + 1) = (b.size : Int) + 1 := by rw [IntKind.wrap_i64]; omega
  have wu : IntKind.u8.wrap (u : Int) = (u : Int) := by rw [IntKind.wrap_u8]; omega
  have hlim : ¬ 9223372036854775807 < 7 + b.size := by omega
  have z1 : (twoB m).size = 2 := rfl
  have z2 : (twoB (b.size + 1)).size = 2 := rfl
  go_enter Tryz.func21, Tryz.ntmps21
  go_wp2_with fail
  go_region_law (first
    | (refine step_call rfl 29 #[.tmp 7] #[3] rfl #[.int .i64 (m : Nat)] (by simp [Act.eval, Act.put]) (enter25 _ _) _ (two_step _ m rfl _ hm) ?_; rintro v w1 ⟨rfl, hb1⟩; obtain ⟨hc1, hf1⟩ := bcell hb1; try (have hz1 : w.heap.size < w1.heap.size := (by have := hb1.size; simp at this; omega)))
    | (refine step_call rfl 29 #[.tmp 12] #[3] rfl #[.int .i64 ((b.size : Int) + 1)] (by simp [Act.eval, Act.put]) (enter25 _ _) _ (two_step _ (b.size + 1) (by omega) _ (by omega)) ?_; rintro v w2 ⟨rfl, hb2⟩; obtain ⟨hc2, hf2⟩ := bcell hb2))
  all_goals go_wp2
  all_goals go_ret
  all_goals
    refine ⟨rfl, ?_⟩
    repeat (first | exact Below.refl _ _ | refine Below.drew ?_ | refine bel_alloc ?_ _ | refine bel_then ?_ hb2 | refine bel_then ?_ hb1)
end Go.Proofs.YtcpldcojckhapaaGreat
