/-
  Small functions of packages pack, store and latch: what they answer.
  latch.mayBe, latch.Need, latch.fits: what they answer of a config that may be and of a disk that fits.
-/
import Derived.Test.YtcpldcojckhapaaGreatW4
set_option maxRecDepth 100000
namespace Go.Proofs.YtcpldcojckhapaaGreat
open Go.RowKit

theorem bitsSize_at (n b : Nat) (hb : b = (n + 7) / 8) (w : World) (h : n ≤ 100000) :
    Calls Tryz.prog 97 #[.int .i64 (n : Nat)] w fun e w' => e = .returned (.int .i64 (b : Nat)) ∧ w' = w := by
  refine (bitsSize_any n w h).mono ?_
  rintro e w' ⟨b', rfl, rfl, rfl⟩
  exact ⟨by rw [hb], rfl⟩

set_option maxRecDepth 100000 in
set_option maxHeartbeats 400000 in
theorem within_at (n lo hi : Int) (r : Bool) (hr : r = true ↔ lo ≤ n ∧ n ≤ hi) (w : World) :
    Calls Tryz.prog 53 #[.int .i64 n, .int .i64 lo, .int .i64 hi] w fun e w' => e = .returned (.bool r) ∧ w' = w := by
  have HR := hideF hr
  clear hr
  by_cases h1 : lo ≤ n
  · go_enter Tryz.func53, Tryz.ntmps53
    go_wp2
    go_ret
    exact ⟨rbool (by rw [Bool.eq_iff_iff, HR.out]; simp [h1]), rfl⟩
  · go_enter Tryz.func53, Tryz.ntmps53
    go_wp2
    go_ret
    exact ⟨rbool (by rw [Bool.eq_iff_iff, HR.out]; simp; intro h; omega), rfl⟩

set_option maxRecDepth 100000 in
set_option maxHeartbeats 400000 in
theorem sectorsOf_at (n b : Nat) (hb : b = max 1 ((n + 61) / 62)) (w : World) (h : n ≤ 100000) :
    Calls Tryz.prog 91 #[.int .i64 (n : Nat)] w fun e w' => e = .returned (.int .i64 (b : Nat)) ∧ w' = w := by
  have HB := hideF hb
  clear hb
  go_enter Tryz.func91, Tryz.ntmps91
  go_wp2
  all_goals go_ret
  all_goals exact ⟨rint (by rw [HB.out]; omega), rfl⟩

set_option maxRecDepth 100000 in
set_option maxHeartbeats 400000 in
theorem storeNeed_at (n b : Nat) (hb : b = 2 * max 1 ((n + 61) / 62)) (w : World) (h : n ≤ 100000) :
    Calls Tryz.prog 73 #[.int .i64 (n : Nat)] w fun e w' => e = .returned (.int .i64 (b : Nat)) ∧ w' = w := by
  obtain ⟨c, hc⟩ : ∃ c, c = max 1 ((n + 61) / 62) := ⟨_, rfl⟩
  have hbl : c ≤ 100000 := by omega
  have HB : Hid (b = 2 * c) := by show b = 2 * c; rw [hb, hc]
  have HC := hideF hc
  clear hb hc
  go_enter Tryz.func73, Tryz.ntmps73
  go_wp2_with fail
  refine (sectorsOf_at n c HC.out _ h).mono ?_
  rintro e w1 ⟨rfl, rfl⟩
  go_wp2
  go_ret
  exact ⟨rint (by rw [HB.out]; omega), rfl⟩

set_option maxRecDepth 100000 in
set_option maxHeartbeats 400000 in
theorem keptSize_at (s0 s1 s2 s3 c h u n k b z : Nat) (a : Option Addr) (w : World) (hc : c ≤ 60) (hh : h ≤ 60) (hz : z = (c + 7) / 8 + 2 * h) :
    Calls Tryz.prog 63 #[.agg #[.int .i64 (s0 : Nat), .int .i64 (s1 : Nat), .int .i64 (s2 : Nat), .int .i64 (s3 : Nat), .int .i64 (c : Nat), .int .i64 (h : Nat), .int .i64 (u : Nat), .slice a n k, .int .i64 (b : Nat)]] w fun e w' => e = .returned (.int .i64 (z : Nat)) ∧ Below w.heap.size w w' := by
  obtain ⟨y, hy⟩ : ∃ y, y = (c + 7) / 8 := ⟨_, rfl⟩
  have hyl : y ≤ 8 := by omega
  have HZ : Hid (z = y + 2 * h) := by show z = y + 2 * h; rw [hz, hy]
  have HY := hideF hy
  clear hz hy
  go_enter Tryz.func63, Tryz.ntmps63
  go_wp2_with fail
  go_quiet (first | (go_at_call 97; refine Calls.quiet_of_same (bitsSize_at c y HY.out _ (by omega))))
  go_wp2
  go_ret
  exact ⟨rint (by rw [HZ.out]; omega), below_drewN (bel_alloc (Below.refl _ _) _) _⟩

set_option maxRecDepth 100000 in
set_option maxHeartbeats 400000 in
theorem other_at (n m : Nat) (hm : m = (n + 1) % 2) (w : World) (h : n ≤ 100000) :
    Calls Tryz.prog 83 #[.int .i64 (n : Nat)] w fun e w' => e = .returned (.int .i64 (m : Nat)) ∧ w' = w := by
  have HM := hideF hm
  clear hm
  go_enter Tryz.func83, Tryz.ntmps83
  go_wp2
  go_ret
  exact ⟨rint (by rw [HM.out]; omega), rfl⟩

theorem ru8 {a b : Int} (h : a = b) : Ending.returned (.int .u8 a) = .returned (.int .u8 b) := by rw [h]
set_option maxRecDepth 100000 in
set_option maxHeartbeats 400000 in
theorem next_at (n m : Nat) (hm : m = n % 3 + 1) (w : World) (h : n < 256) :
    Calls Tryz.prog 84 #[.int .u8 (n : Nat)] w fun e w' => e = .returned (.int .u8 (m : Nat)) ∧ w' = w := by
  have HM := hideF hm
  clear hm
  go_enter Tryz.func84, Tryz.ntmps84
  go_wp2
  go_ret
  exact ⟨ru8 (by rw [HM.out]; omega), rfl⟩

set_option maxRecDepth 100000 in
set_option maxHeartbeats 400000 in
theorem endOf_at (s : ByteArray) (w : World) (h : s.size = 64) :
    Calls Tryz.prog 127 #[.string s] w fun e w' => e = .returned (.int .u8 (Pl.byt s 63 : Nat)) ∧ w' = w := by
  have gb := Pl.get_byt s
  have hl : 63 < s.size := by omega
  have hl' : (63 : Int) < s.size := by omega
  clear h
  go_enter Tryz.func127, Tryz.ntmps127
  go_wp2
  go_ret
  exact ⟨rfl, rfl⟩
end Go.Proofs.YtcpldcojckhapaaGreat

set_option maxRecDepth 100000
namespace Go.Proofs.YtcpldcojckhapaaGreat
open Go.RowKit

/-- A config in memory. -/
theorem cfg_new (w : World) (s0 s1 s2 s3 c h u b : Int) (l : Value) : ∃ W, W = w.alloc (.cells #[.int .i64 s0, .int .i64 s1, .int .i64 s2, .int .i64 s3, .int .i64 c, .int .i64 h, .int .i64 u, l, .int .i64 b] 39) ∧ W.heap.size = w.heap.size + 1 ∧ Below w.heap.size w W ∧ 
    W.heap[w.heap.size]? = some (.cells #[.int .i64 s0, .int .i64 s1, .int .i64 s2, .int .i64 s3, .int .i64 c, .int .i64 h, .int .i64 u, l, .int .i64 b] 39 (0, 0)) :=
  ⟨_, rfl, by simp, bel_alloc (Below.refl _ _) _, heap_alloc_new w _⟩
theorem cells9 {W : World} {g : Nat} {t : TypeId} {a0 a1 a2 a3 a4 a5 a6 a7 a8 : Value} (h : W.heap[g]? = some (.cells #[a0, a1, a2, a3, a4, a5, a6, a7, a8] t (0, 0))) : W.cell? ⟨g, 0, none⟩ = some a0 ∧ W.cell? ⟨g, 1, none⟩ = some a1 ∧ W.cell? ⟨g, 2, none⟩ = some a2 ∧ W.cell? ⟨g, 3, none⟩ = some a3 ∧ W.cell? ⟨g, 4, none⟩ = some a4 ∧ W.cell? ⟨g, 5, none⟩ = some a5 ∧ W.cell? ⟨g, 6, none⟩ = some a6 ∧ W.cell? ⟨g, 7, none⟩ = some a7 ∧ W.cell? ⟨g, 8, none⟩ = some a8 :=
  ⟨cell_of_row W g 0 _ t (0, 0) h, cell_of_row W g 1 _ t (0, 0) h, cell_of_row W g 2 _ t (0, 0) h, cell_of_row W g 3 _ t (0, 0) h, cell_of_row W g 4 _ t (0, 0) h, cell_of_row W g 5 _ t (0, 0) h, cell_of_row W g 6 _ t (0, 0) h, cell_of_row W g 7 _ t (0, 0) h, cell_of_row W g 8 _ t (0, 0) h⟩

theorem arr4_0 (a b c d : Value) (W : World) : (Instr.index 37 (.agg #[a, b, c, d]) (.int .i64 0)).run Tryz.prog W = .ok a W := by kernel_rfl
theorem arr4_1 (a b c d : Value) (W : World) : (Instr.index 37 (.agg #[a, b, c, d]) (.int .i64 1)).run Tryz.prog W = .ok b W := by kernel_rfl
theorem arr4_2 (a b c d : Value) (W : World) : (Instr.index 37 (.agg #[a, b, c, d]) (.int .i64 2)).run Tryz.prog W = .ok c W := by kernel_rfl
theorem arr4_3 (a b c d : Value) (W : World) : (Instr.index 37 (.agg #[a, b, c, d]) (.int .i64 3)).run Tryz.prog W = .ok d W := by kernel_rfl
theorem arr4 (a b c d q m : Nat) (ha : a ≤ m) (hb : b ≤ m) (hc : c ≤ m) (hd : d ≤ m) (hq : q < 4) : ∃ x : Nat, (∀ W, (Instr.index 37 (.agg #[.int .i64 (a : Nat), .int .i64 (b : Nat), .int .i64 (c : Nat), .int .i64 (d : Nat)]) (.int .i64 (q : Nat))).run Tryz.prog W = .ok (.int .i64 (x : Nat)) W) ∧ x ≤ m := by
  rcases (show q = 0 ∨ q = 1 ∨ q = 2 ∨ q = 3 by omega) with rfl | rfl | rfl | rfl
  · exact ⟨a, fun W => arr4_0 _ _ _ _ W, ha⟩
  · exact ⟨b, fun W => arr4_1 _ _ _ _ W, hb⟩
  · exact ⟨c, fun W => arr4_2 _ _ _ _ W, hc⟩
  · exact ⟨d, fun W => arr4_3 _ _ _ _ W, hd⟩
set_option maxRecDepth 100000 in
set_option maxHeartbeats 1000000 in
theorem mayBe_at (s0 s1 s2 s3 c h u n k b g : Nat) (kn : Nat → Nat) (w : World) (b0 : s0 ≤ 60) (b1 : s1 ≤ 60) (b2 : s2 ≤ 60) (b3 : s3 ≤ 60) (bc : c ≤ s0) (bh : h ≤ s2) (bu1 : 1 ≤ u) (bu2 : u ≤ 247) (bn1 : 1 ≤ n) (bn2 : n ≤ 4) (bb1 : 1 ≤ b) (bb2 : b ≤ 8)
    (hg : g < w.heap.size) (hcell : ∀ j, j < n → w.cell? ⟨g, j, none⟩ = some (.int .i64 (kn j : Nat))) (hk : ∀ j, j < n → kn j ≤ 1) :
    Calls Tryz.prog 72 #[.agg #[.int .i64 (s0 : Nat), .int .i64 (s1 : Nat), .int .i64 (s2 : Nat), .int .i64 (s3 : Nat), .int .i64 (c : Nat), .int .i64 (h : Nat), .int .i64 (u : Nat), .slice (some ⟨g, 0, none⟩) n k, .int .i64 (b : Nat)]] w fun e w' => e = .returned (.bool true) ∧ Below w.heap.size w w' := by
  obtain ⟨W, hW, hWs, hWb, hWg⟩ := cfg_new w s0 s1 s2 s3 c h u b (.slice (some ⟨g, 0, none⟩) n k)
  obtain ⟨c0, c1, c2, c3, c4, c5, c6, c7, c8⟩ := cells9 hWg
  have hcW : ∀ j, j < n → W.cell? ⟨g, j, none⟩ = some (.int .i64 (kn j : Nat)) := fun j hj => by rw [(bcell hWb).1 g j hg]; exact hcell j hj
  have HC := hideF hcW
  have HB := hideF hWb
  clear hcell hWg hcW hWb hWs
  go_enter Tryz.func72, Tryz.ntmps72
  go_wp2_with fail
  rw [← hW]
  clear hW
  go_loopw [9] (fun i wr => ∃ q : Nat, q ≤ 4 ∧ i = .int .i64 (q : Nat) ∧ W = wr) (fun i _ => 4 - (intOf i).toNat)
  case atStart => exact ⟨0, by omega, rfl, rfl⟩
  case round =>
    obtain ⟨q, hq, rfl, rfl⟩ := hrel
    by_cases hq4 : q < 4
    · obtain ⟨x, hx, hxl⟩ := arr4 s0 s1 s2 s3 q 60 b0 b1 b2 b3 hq4
      go_wp2_with fail
      refine (within_at _ 0 60 true ?_ _).mono ?_
      · simp; omega
      rintro e w1 ⟨rfl, rfl⟩
      go_wp2
      go_roundw
      case rel => exact ⟨q + 1, by omega, by go_num, trivial⟩
      case measure => simp [intOf]; omega
    · obtain rfl : q = 4 := by omega
      go_wp2_with fail
      clear hq hq4
      go_loopw [19] (fun i wr => ∃ q : Nat, q ≤ n ∧ i = .int .i64 (q : Nat) ∧ W = wr) (fun i _ => n - (intOf i).toNat)
      case atStart => exact ⟨0, by omega, rfl, rfl⟩
      case round =>
        obtain ⟨q, hq, rfl, rfl⟩ := hrel
        by_cases hqn : q < n
        · have hc := HC.out q hqn
          have hkq := hk q hqn
          rcases (show kn q = 0 ∨ kn q = 1 by omega) with e0 | e0
          all_goals
            rw [e0] at hc
            clear hkq e0
            go_wp2_with fail
            go_roundw
            case rel => exact ⟨q + 1, by omega, by go_num, trivial⟩
            case measure => simp [intOf]; omega
        · go_wp2_with fail
          refine (within_at _ 0 _ true ?_ _).mono ?_
          · simp; omega
          rintro e w1 ⟨rfl, rfl⟩
          go_wp2_with fail
          refine (within_at _ 0 _ true ?_ _).mono ?_
          · simp; omega
          rintro e w1 ⟨rfl, rfl⟩
          go_wp2_with fail
          refine (within_at _ 1 247 true ?_ _).mono ?_
          · simp; omega
          rintro e w1 ⟨rfl, rfl⟩
          go_wp2_with fail
          refine (within_at _ 1 4 true ?_ _).mono ?_
          · simp; omega
          rintro e w1 ⟨rfl, rfl⟩
          go_wp2_with fail
          refine (within_at _ 1 8 true ?_ _).mono ?_
          · simp; omega
          rintro e w1 ⟨rfl, rfl⟩
          go_wp2
          go_ret
          exact ⟨rfl, HB.out⟩

set_option maxRecDepth 100000 in
set_option maxHeartbeats 1000000 in
theorem need_at (s0 s1 s2 s3 c h u n k b g z : Nat) (kn : Nat → Nat) (w : World) (b0 : s0 ≤ 60) (b1 : s1 ≤ 60) (b2 : s2 ≤ 60) (b3 : s3 ≤ 60) (bc : c ≤ s0) (bh : h ≤ s2) (bu1 : 1 ≤ u) (bu2 : u ≤ 247) (bn1 : 1 ≤ n) (bn2 : n ≤ 4) (bb1 : 1 ≤ b) (bb2 : b ≤ 8)
    (hg : g < w.heap.size) (hcell : ∀ j, j < n → w.cell? ⟨g, j, none⟩ = some (.int .i64 (kn j : Nat))) (hk : ∀ j, j < n → kn j ≤ 1) (hz : z = 2 * max 1 (((c + 7) / 8 + 2 * h + 61) / 62)) :
    Calls Tryz.prog 48 #[.agg #[.int .i64 (s0 : Nat), .int .i64 (s1 : Nat), .int .i64 (s2 : Nat), .int .i64 (s3 : Nat), .int .i64 (c : Nat), .int .i64 (h : Nat), .int .i64 (u : Nat), .slice (some ⟨g, 0, none⟩) n k, .int .i64 (b : Nat)]] w fun e w' => e = .returned (.tuple #[.int .i64 (z : Nat), .int .i64 0]) ∧ Below w.heap.size w w' := by
  obtain ⟨W, hW, hWs, hWb, hWg⟩ := cfg_new w s0 s1 s2 s3 c h u b (.slice (some ⟨g, 0, none⟩) n k)
  obtain ⟨c0, c1, c2, c3, c4, c5, c6, c7, c8⟩ := cells9 hWg
  have hcW : ∀ j, j < n → W.cell? ⟨g, j, none⟩ = some (.int .i64 (kn j : Nat)) := fun j hj => by rw [(bcell hWb).1 g j hg]; exact hcell j hj
  have HC := hideF hcW
  have HB := hideF hWb
  obtain ⟨y, hy⟩ : ∃ y, y = (c + 7) / 8 + 2 * h := ⟨_, rfl⟩
  have HY := hideF hy
  have hyl : y ≤ 100000 := by omega
  have HZ : Hid (z = 2 * max 1 ((y + 61) / 62)) := by show z = _; rw [hz, hy]
  have HG := hideF hWg
  clear hcell hWg hcW hWb hz hy
  go_enter Tryz.func48, Tryz.ntmps48
  go_wp2_with fail
  rw [← hW]
  clear hW
  refine (mayBe_at s0 s1 s2 s3 c h u n k b g kn W b0 b1 b2 b3 bc bh bu1 bu2 bn1 bn2 bb1 bb2 (by omega) HC.out hk).mono ?_
  rintro e w1 ⟨rfl, hb1⟩
  have hg1 := (hb1.block w.heap.size (by omega)).trans HG.out
  have HB1 := hideF (bel_then HB.out hb1)
  have HS : Hid (w.heap.size < w1.heap.size) := by have := hb1.size; show _ < _; omega
  clear c0 c1 c2 c3 c4 c5 c6 c7 c8 hb1
  obtain ⟨c0, c1, c2, c3, c4, c5, c6, c7, c8⟩ := cells9 hg1
  clear hg1
  go_wp2_with fail
  refine (keptSize_at s0 s1 s2 s3 c h u n k b y (some ⟨g, 0, none⟩) w1 (by omega) (by omega) HY.out).mono ?_
  rintro e w2 ⟨rfl, hb2⟩
  have HB2 := hideF (bel_then HB1.out hb2)
  clear hb2
  go_wp2_with fail
  refine (storeNeed_at y z HZ.out w2 hyl).mono ?_
  rintro e w3 ⟨rfl, rfl⟩
  go_wp2
  refine bodyPost_ret (v := .tuple #[.int .i64 (z : Nat), .int .i64 0]) (by simp [results, Tryz.results48, go_sem]) rfl ⟨rfl, HB2.out⟩
end Go.Proofs.YtcpldcojckhapaaGreat
