/-
  Package frame's small functions: what they answer.
-/
import Derived.Test.YtcpldcojckhapaaClo
import Derived.Test.YtcpldcojckhapaaChk
import Derived.Deep.RegionWith
import Derived.Deep.QuietTactic
import Derived.BigQuiet
import Derived.BigRegion
import Derived.PlainAid
set_option maxRecDepth 100000
namespace Go.Proofs.Ytcpldcojckhapaa
open Go.RowKit

theorem bcell {W w1 : World} (hb : Below W.heap.size W w1) : (∀ b o, b < W.heap.size → w1.cell? ⟨b, o, none⟩ = W.cell? ⟨b, o, none⟩) ∧ (∀ b o, b < W.heap.size → w1.frozen? ⟨b, o, none⟩ = W.frozen? ⟨b, o, none⟩) :=
  ⟨fun b o h => hb.cell (p := ⟨b, o, none⟩) h, fun b o h => hb.frozen (p := ⟨b, o, none⟩) h⟩

set_option maxHeartbeats 1000000 in
theorem unitAndBody_any (s : ByteArray) (w : World) (h1 : 1 ≤ s.size) (hs : s.size ≤ 4194304) :
    Calls Try.prog 40 #[.string s] w fun e w' => e = .returned (.agg #[.int .i64 0, .int .i64 (Pl.byt s 0 : Nat), .string (s.extract 1 s.size)]) ∧ Below w.heap.size w w' := by
  have hp : 0 < s.size := h1
  have gb := Pl.get_byt s
  have hb0 := Pl.byt_lt s 0
  go_enter Try.func40, Try.ntmps40
  go_wp2_with fail
  go_region_with (go_at_call 62; refine (clone_any _ _ (by simp; omega)).mono ?_; rintro e w' ⟨rfl, hb⟩; obtain ⟨hc, hf⟩ := bcell hb)
  all_goals go_wp2
  all_goals
    have ew : IntKind.i64.wrap (Pl.byt s 0 : Int) = Pl.byt s 0 := by rw [IntKind.wrap_i64]; omega
    try simp only [ew]
    refine bodyPost_ret (v := .agg #[.int .i64 0, .int .i64 (Pl.byt s 0 : Nat), .string (s.extract 1 s.size)]) (by simp [results, Try.results40, go_sem, hc]) rfl ⟨rfl, ?_⟩
    exact (((((Below.refl _ _).alloc (Nat.le_refl _) _).drew.trans (hb.mono (by simp))).setCell (Nat.le_refl _) _).setCell (Nat.le_refl _) _).setCell (Nat.le_refl _) _

end Go.Proofs.Ytcpldcojckhapaa
