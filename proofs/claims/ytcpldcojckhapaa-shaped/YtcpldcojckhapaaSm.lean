/-
  Two lists of numbers are compared: latchlaw.sameInts and latchkeep.sameInts: what they answer.
-/
import Derived.Test.YtcpldcojckhapaaBV
namespace Go.Proofs.Ytcpldcojckhapaa
open Go.RowKit

set_option maxRecDepth 100000 in
set_option maxHeartbeats 1000000 in
theorem same19 (w : World) (B C : Nat) (v1 v2 : Value) (xs : List Int) (h1 : w.ownsRow B 3 1 v1 xs.length (xs.flatMap encI)) (h2 : w.ownsRow C 3 1 v2 xs.length (xs.flatMap encI)) (hl : xs.length ≤ 1000000) :
    Calls Try.prog 20 #[v1, v2] w fun e w' => e = .returned (.bool true) ∧ ∃ n, w' = w.drewN n := by
  obtain ⟨a1, c1, rfl, vw1⟩ := own_view h1
  obtain ⟨a2, c2, rfl, vw2⟩ := own_view h2
  obtain ⟨n, hn⟩ : ∃ n, n = xs.length := ⟨_, rfl⟩
  rw [← hn] at vw1 vw2 hl ⊢
  have HV1 := hideF vw1
  have HV2 := hideF vw2
  have HN := hideF hn
  clear vw1 vw2 h1 h2 hn
  go_enter Try.func20, Try.ntmps20
  go_wp2_with fail
  go_loopw [5] (fun i wr => ∃ j m : Nat, j ≤ n ∧ i = .int .i64 (j : Nat) ∧ wr = w.drewN m) (fun i _ => n - (intOf i).toNat)
  case atStart => exact ⟨0, 0, Nat.zero_le _, rfl, rfl⟩
  case round =>
    obtain ⟨j, m, hj, rfl, rfl⟩ := hrel
    by_cases hjn : j < n
    · obtain ⟨g1, rfl, hg1, hc1⟩ := HV1.out j hjn
      obtain ⟨g2, rfl, hg2, hc2⟩ := HV2.out j hjn
      obtain ⟨x, hx⟩ := atI xs j (by rw [← HN.out]; exact hjn)
      have d1 := (hc1 j (by omega)).trans hx
      have d2 := (hc2 j (by omega)).trans hx
      clear hc1 hc2
      go_wp2_with fail
      go_quiet (fail)
      go_wp2
      go_roundw
      case rel => exact ⟨j + 1, _, by omega, by go_num, rfl⟩
      case measure => simp [intOf]; omega
    · go_wp2
      go_ret
      exact ⟨rfl, _, rfl⟩

set_option maxRecDepth 100000 in
set_option maxHeartbeats 1000000 in
theorem same26 (w : World) (B C : Nat) (v1 v2 : Value) (xs : List Int) (h1 : w.ownsRow B 3 1 v1 xs.length (xs.flatMap encI)) (h2 : w.ownsRow C 3 1 v2 xs.length (xs.flatMap encI)) (hl : xs.length ≤ 1000000) :
    Calls Try.prog 27 #[v1, v2] w fun e w' => e = .returned (.bool true) ∧ ∃ n, w' = w.drewN n := by
  obtain ⟨a1, c1, rfl, vw1⟩ := own_view h1
  obtain ⟨a2, c2, rfl, vw2⟩ := own_view h2
  obtain ⟨n, hn⟩ : ∃ n, n = xs.length := ⟨_, rfl⟩
  rw [← hn] at vw1 vw2 hl ⊢
  have HV1 := hideF vw1
  have HV2 := hideF vw2
  have HN := hideF hn
  clear vw1 vw2 h1 h2 hn
  go_enter Try.func27, Try.ntmps27
  go_wp2_with fail
  go_loopw [5] (fun i wr => ∃ j m : Nat, j ≤ n ∧ i = .int .i64 (j : Nat) ∧ wr = w.drewN m) (fun i _ => n - (intOf i).toNat)
  case atStart => exact ⟨0, 0, Nat.zero_le _, rfl, rfl⟩
  case round =>
    obtain ⟨j, m, hj, rfl, rfl⟩ := hrel
    by_cases hjn : j < n
    · obtain ⟨g1, rfl, hg1, hc1⟩ := HV1.out j hjn
      obtain ⟨g2, rfl, hg2, hc2⟩ := HV2.out j hjn
      obtain ⟨x, hx⟩ := atI xs j (by rw [← HN.out]; exact hjn)
      have d1 := (hc1 j (by omega)).trans hx
      have d2 := (hc2 j (by omega)).trans hx
      clear hc1 hc2
      go_wp2_with fail
      go_quiet (fail)
      go_wp2
      go_roundw
      case rel => exact ⟨j + 1, _, by omega, by go_num, rfl⟩
      case measure => simp [intOf]; omega
    · go_wp2
      go_ret
      exact ⟨rfl, _, rfl⟩

end Go.Proofs.Ytcpldcojckhapaa
