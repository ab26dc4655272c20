/-
  Package store: Open of a blank disk of two sectors, its parts.
-/
import Derived.Test.YtcpldcojckhapaaGreatD3
set_option maxRecDepth 100000
namespace Go.Proofs.YtcpldcojckhapaaGreat
open Go.RowKit

set_option maxRecDepth 100000 in
set_option maxHeartbeats 2000000 in
theorem makeReady_blank (b g k : Nat) (A B : ByteArray) (w : World) (hk : 2 ≤ k) (hb : w.cell? ⟨b, 0, none⟩ = some (.int .i64 1)) (hb1 : w.cell? ⟨b, 1, none⟩ = some (.int .i64 0)) (hb2 : w.cell? ⟨b, 2, none⟩ = some (.int .u8 0))
    (h0 : w.cell? ⟨g, 0, none⟩ = some (.string A)) (h1 : w.cell? ⟨g, 1, none⟩ = some (.string B)) (hA : A.size = 64) (hB : B.size = 64) (eA : Pl.byt A 63 = 0) (eB : Pl.byt B 63 = 0) :
    Calls Tryz.prog 96 #[.pointer (some ⟨b, 0, none⟩), .slice (some ⟨g, 0, none⟩) 2 k] w fun e w' => e = .returned (.slice none 0 0) ∧ ∃ n, w' = w.drewN n := by
  have HA := hideF hA
  have HB := hideF hB
  have EA := hideF eA
  have EB := hideF eB
  clear hA hB eA eB
  go_enter Tryz.func96, Tryz.ntmps96
  go_wp2_with fail
  go_quiet (fail)
  go_wp2_with fail
  go_loopw [18, 6, 7, 5] (fun i wh st ac wr => ac = .slice none 0 0 ∧ (∃ m, wr = w.drewN m) ∧ (i = .int .i64 0 ∧ wh = .int .i64 0 ∧ st = .int .u8 0 ∨ i = .int .i64 1 ∧ wh = .int .i64 1 ∧ st = .int .u8 1 ∨ i = .int .i64 2 ∧ wh = .int .i64 0 ∧ st = .int .u8 2)) (fun i _ _ _ _ => 2 - (intOf i).toNat)
  case atStart => exact ⟨rfl, ⟨_, rfl⟩, .inl ⟨rfl, rfl, rfl⟩⟩
  case round =>
    obtain ⟨rfl, ⟨m, rfl⟩, (⟨rfl, rfl, rfl⟩ | ⟨rfl, rfl, rfl⟩ | ⟨rfl, rfl, rfl⟩)⟩ := hrel
    · go_wp2_with fail
      refine (other_at 0 1 rfl _ (by omega)).mono ?_
      rintro e w1 ⟨rfl, rfl⟩
      go_wp2_with fail
      refine (next_at 0 1 rfl _ (by omega)).mono ?_
      rintro e w2 ⟨rfl, rfl⟩
      go_wp2_with fail
      refine (copyOn_1 b g k _ hk (by simpa using hb)).mono ?_
      rintro e w3 ⟨rfl, n3, rfl⟩
      go_wp2_with fail
      go_loopw [29, 5] (fun i ac wr => ac = .slice none 0 0 ∧ (∃ m, wr = w.drewN m) ∧ (i = .int .i64 0 ∨ i = .int .i64 1)) (fun i _ _ => 1 - (intOf i).toNat)
      case atStart => exact ⟨rfl, ⟨_, rfl⟩, .inl rfl⟩
      case round =>
        obtain ⟨rfl, ⟨m', rfl⟩, (rfl | rfl)⟩ := hrel
        · go_wp2_with fail
          refine (endOf_at B _ HB.out).mono ?_
          rintro e w4 ⟨rfl, rfl⟩
          rw [EB.out]
          go_wp2_with fail
          go_roundw
          case rel => exact ⟨rfl, ⟨_, rfl⟩, .inr (by go_num)⟩
          case measure => simp [intOf]
        · go_wp2_with fail
          go_roundw
          case rel => exact ⟨rfl, ⟨_, rfl⟩, .inr (.inl ⟨by go_num, by go_num, by go_num⟩)⟩
          case measure => simp [intOf]
    · go_wp2_with fail
      refine (other_at 1 0 rfl _ (by omega)).mono ?_
      rintro e w1 ⟨rfl, rfl⟩
      go_wp2_with fail
      refine (next_at 1 2 rfl _ (by omega)).mono ?_
      rintro e w2 ⟨rfl, rfl⟩
      go_wp2_with fail
      refine (copyOn_0 b g k _ hk (by simpa using hb)).mono ?_
      rintro e w3 ⟨rfl, n3, rfl⟩
      go_wp2_with fail
      go_loopw [29, 5] (fun i ac wr => ac = .slice none 0 0 ∧ (∃ m, wr = w.drewN m) ∧ (i = .int .i64 0 ∨ i = .int .i64 1)) (fun i _ _ => 1 - (intOf i).toNat)
      case atStart => exact ⟨rfl, ⟨_, rfl⟩, .inl rfl⟩
      case round =>
        obtain ⟨rfl, ⟨m', rfl⟩, (rfl | rfl)⟩ := hrel
        · go_wp2_with fail
          refine (endOf_at A _ HA.out).mono ?_
          rintro e w4 ⟨rfl, rfl⟩
          rw [EA.out]
          go_wp2_with fail
          go_roundw
          case rel => exact ⟨rfl, ⟨_, rfl⟩, .inr (by go_num)⟩
          case measure => simp [intOf]
        · go_wp2_with fail
          go_roundw
          case rel => exact ⟨rfl, ⟨_, rfl⟩, .inr (.inr ⟨by go_num, by go_num, by go_num⟩)⟩
          case measure => simp [intOf]
    · go_wp2
      go_ret
      exact ⟨rfl, _, rfl⟩
end Go.Proofs.YtcpldcojckhapaaGreat
