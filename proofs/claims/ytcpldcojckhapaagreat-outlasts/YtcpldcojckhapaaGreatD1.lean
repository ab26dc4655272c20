/-
  Small functions of packages pack, store and latch: what they answer.
-/
import Derived.Test.YtcpldcojckhapaaGreatW4
set_option maxRecDepth 100000
namespace Go.Proofs.YtcpldcojckhapaaGreat
open Go.RowKit

theorem bitsSize_at (n b : Nat) (hb : b = (n + 7) / 8) (w : World) (h : n ≤ 100000) :
    Calls Tryz.prog 97 #[.int .i64 (n : Nat)] w fun e w' => e = .returned (.int .i64 (b : Nat)) ∧ w' = w := by
  refine (bitsSize_any n w h).mono ?_
  rintro e w' ⟨b', rfl, rfl, rfl⟩
  exact ⟨by rw [hb], rfl⟩

set_option maxRecDepth 100000 in
set_option maxHeartbeats 400000 in
theorem within_at (n lo hi : Int) (r : Bool) (hr : r = true ↔ lo ≤ n ∧ n ≤ hi) (w : World) :
    Calls Tryz.prog 53 #[.int .i64 n, .int .i64 lo, .int .i64 hi] w fun e w' => e = .returned (.bool r) ∧ w' = w := by
  have HR := hideF hr
  clear hr
  by_cases h1 : lo ≤ n
  · go_enter Tryz.func53, Tryz.ntmps53
    go_wp2
    go_ret
    exact ⟨rbool (by rw [Bool.eq_iff_iff, HR.out]; simp [h1]), rfl⟩
  · go_enter Tryz.func53, Tryz.ntmps53
    go_wp2
    go_ret
    exact ⟨rbool (by rw [Bool.eq_iff_iff, HR.out]; simp; intro h; omega), rfl⟩

set_option maxRecDepth 100000 in
set_option maxHeartbeats 400000 in
theorem sectorsOf_at (n b : Nat) (hb : b = max 1 ((n + 61) / 62)) (w : World) (h : n ≤ 100000) :
    Calls Tryz.prog 91 #[.int .i64 (n : Nat)] w fun e w' => e = .returned (.int .i64 (b : Nat)) ∧ w' = w := by
  have HB := hideF hb
  clear hb
  go_enter Tryz.func91, Tryz.ntmps91
  go_wp2
  all_goals go_ret
  all_goals exact ⟨rint (by rw [HB.out]; omega), rfl⟩

set_option maxRecDepth 100000 in
set_option maxHeartbeats 400000 in
theorem storeNeed_at (n b : Nat) (hb : b = 2 * max 1 ((n + 61) / 62)) (w : World) (h : n ≤ 100000) :
    Calls Tryz.prog 73 #[.int .i64 (n : Nat)] w fun e w' => e = .returned (.int .i64 (b : Nat)) ∧ w' = w := by
  obtain ⟨c, hc⟩ : ∃ c, c = max 1 ((n + 61) / 62) := ⟨_, rfl⟩
  have hbl : c ≤ 100000 := by omega
  have HB : Hid (b = 2 * c) := by show b = 2 * c; rw [hb, hc]
  have HC := hideF hc
  clear hb hc
  go_enter Tryz.func73, Tryz.ntmps73
  go_wp2_with fail
  refine (sectorsOf_at n c HC.out _ h).mono ?_
  rintro e w1 ⟨rfl, rfl⟩
  go_wp2
  go_ret
  exact ⟨rint (by rw [HB.out]; omega), rfl⟩

set_option maxRecDepth 100000 in
set_option maxHeartbeats 400000 in
theorem keptSize_at (s0 s1 s2 s3 c h u n k b z : Nat) (a : Option Addr) (w : World) (hc : c ≤ 60) (hh : h ≤ 60) (hz : z = (c + 7) / 8 + 2 * h) :
    Calls Tryz.prog 63 #[.agg #[.int .i64 (s0 : Nat), .int .i64 (s1 : Nat), .int .i64 (s2 : Nat), .int .i64 (s3 : Nat), .int .i64 (c : Nat), .int .i64 (h : Nat), .int .i64 (u : Nat), .slice a n k, .int .i64 (b : Nat)]] w fun e w' => e = .returned (.int .i64 (z : Nat)) ∧ Below w.heap.size w w' := by
  obtain ⟨y, hy⟩ : ∃ y, y = (c + 7) / 8 := ⟨_, rfl⟩
  have hyl : y ≤ 8 := by omega
  have HZ : Hid (z = y + 2 * h) := by show z = y + 2 * h; rw [hz, hy]
  have HY := hideF hy
  clear hz hy
  go_enter Tryz.func63, Tryz.ntmps63
  go_wp2_with fail
  go_quiet (first | (go_at_call 97; refine Calls.quiet_of_same (bitsSize_at c y HY.out _ (by omega))))
  go_wp2
  go_ret
  exact ⟨rint (by rw [HZ.out]; omega), below_drewN (bel_alloc (Below.refl _ _) _) _⟩

set_option maxRecDepth 100000 in
set_option maxHeartbeats 400000 in
theorem other_at (n m : Nat) (hm : m = (n + 1) % 2) (w : World) (h : n ≤ 100000) :
    Calls Tryz.prog 83 #[.int .i64 (n : Nat)] w fun e w' => e = .returned (.int .i64 (m : Nat)) ∧ w' = w := by
  have HM := hideF hm
  clear hm
  go_enter Tryz.func83, Tryz.ntmps83
  go_wp2
  go_ret
  exact ⟨rint (by rw [HM.out]; omega), rfl⟩

theorem ru8 {a b : Int} (h : a = b) : Ending.returned (.int .u8 a) = .returned (.int .u8 b) := by rw [h]
set_option maxRecDepth 100000 in
set_option maxHeartbeats 400000 in
theorem next_at (n m : Nat) (hm : m = n % 3 + 1) (w : World) (h : n < 256) :
    Calls Tryz.prog 84 #[.int .u8 (n : Nat)] w fun e w' => e = .returned (.int .u8 (m : Nat)) ∧ w' = w := by
  have HM := hideF hm
  clear hm
  go_enter Tryz.func84, Tryz.ntmps84
  go_wp2
  go_ret
  exact ⟨ru8 (by rw [HM.out]; omega), rfl⟩

set_option maxRecDepth 100000 in
set_option maxHeartbeats 400000 in
theorem endOf_at (s : ByteArray) (w : World) (h : s.size = 64) :
    Calls Tryz.prog 127 #[.string s] w fun e w' => e = .returned (.int .u8 (Pl.byt s 63 : Nat)) ∧ w' = w := by
  have gb := Pl.get_byt s
  have hl : 63 < s.size := by omega
  have hl' : (63 : Int) < s.size := by omega
  clear h
  go_enter Tryz.func127, Tryz.ntmps127
  go_wp2
  go_ret
  exact ⟨rfl, rfl⟩
end Go.Proofs.YtcpldcojckhapaaGreat
