/-
  
-/
import Derived.Test.YtcpldcojckhapaaGreatJ21
import Derived.Test.YtcpldcojckhapaaGreatJ10
import Derived.Laws.IdiomStrings
set_option maxRecDepth 100000
namespace Go.Proofs.YtcpldcojckhapaaGreat
open Go.RowKit
theorem bitsSize_at (n b : Nat) (hb : b = (n + 7) / 8) (w : World) (h : n <= 100000) :
    Calls Tryz.prog 97 #[.int .i64 (n : Nat)] w fun e w' => e = .returned (.int .i64 (b : Nat)) /\ w' = w := by
  refine (bitsSize_any n w h).mono ?_
  rintro e w' ⟨b', rfl, rfl, rfl⟩
  exact ⟨by rw [hb], rfl⟩
set_option maxRecDepth 100000 in
set_option maxHeartbeats 400000 in
theorem within_at (n lo hi : Int) (r : Bool) (hr : r = true ↔ lo <= n /\ n <= hi) (w : World) :
    Calls Tryz.prog 53 #[.int .i64 n, .int .i64 lo, .int .i64 hi] w fun e w' => e = .returned (.bool r) /\ w' = w := by
  have HR := hideF hr
  clear hr
  by_cases h1 : lo <= n
  . go_enter Tryz.func53, Tryz.ntmps53
    go_wp2
    go_ret
    exact ⟨rbool (by rw [Bool.eq_iff_iff, HR.out]; simp [h1]), rfl⟩
  . go_enter Tryz.func53, Tryz.ntmps53
    go_wp2
    go_ret
    exact ⟨rbool (by rw [Bool.eq_iff_iff, HR.out]; simp; intro h; omega), rfl⟩
set_option maxRecDepth 100000 in
set_option maxHeartbeats 400000 in
theorem sectorsOf_at (n b : Nat) (hb : b = max 1 ((n + 61) / 62)) (w : World) (h : n <= 100000) :
    Calls Tryz.prog 91 #[.int .i64 (n : Nat)] w fun e w' => e = .returned (.int .i64 (b : Nat)) /\ w' = w := by
  have HB := hideF hb
  clear hb
  go_enter Tryz.func91, Tryz.ntmps91
  go_wp2
  all_goals go_ret
  all_goals exact ⟨rint (by rw [HB.out]; omega), rfl⟩
set_option maxRecDepth 100000 in
set_option maxHeartbeats 400000 in
theorem storeNeed_at (n b : Nat) (hb : b = 2 * max 1 ((n + 61) / 62)) (w : World) (h : n <= 100000) :
    Calls Tryz.prog 73 #[.int .i64 (n : Nat)] w fun e w' => e = .returned (.int .i64 (b : Nat)) /\ w' = w := by
  obtain ⟨c, hc⟩ : ∃ c, c = max 1 ((n + 61) / 62) := ⟨_, rfl⟩
  have hbl : c <= 100000 := by omega
  have HB : Hid (b = 2 * c) := by show b = 2 * c; rw [hb, hc]
  have HC := hideF hc
  clear hb hc
  go_enter Tryz.func73, Tryz.ntmps73
  go_wp2_with fail
  refine (sectorsOf_at n c HC.out _ h).mono ?_
  rintro e w1 ⟨rfl, rfl⟩
  go_wp2
  go_ret
  exact ⟨rint (by rw [HB.out]; omega), rfl⟩
set_option maxRecDepth 100000 in
set_option maxHeartbeats 400000 in
theorem keptSize_at (s0 s1 s2 s3 c h u n k b z : Nat) (a : Option Addr) (w : World) (hc : c <= 60) (hh : h <= 60) (hz : z = (c + 7) / 8 + 2 * h) :
    Calls Tryz.prog 63 #[.agg #[.int .i64 (s0 : Nat), .int .i64 (s1 : Nat), .int .i64 (s2 : Nat), .int .i64 (s3 : Nat), .int .i64 (c : Nat), .int .i64 (h : Nat), .int .i64 (u : Nat), .slice a n k, .int .i64 (b : Nat)]] w fun e w' => e = .returned (.int .i64 (z : Nat)) /\ Below w.heap.size w w' := by
  obtain ⟨y, hy⟩ : ∃ y, y = (c + 7) / 8 := ⟨_, rfl⟩
  have hyl : y <= 8 := by omega
  have HZ : Hid (z = y + 2 * h) := by show z = y + 2 * h; rw [hz, hy]
  have HY := hideF hy
  clear hz hy
  go_enter Tryz.func63, Tryz.ntmps63
  go_wp2_with fail
  go_quiet (first | (go_at_call 97; refine Calls.quiet_of_same (bitsSize_at c y HY.out _ (by omega))))
  go_wp2
  go_ret
  exact ⟨rint (by rw [HZ.out]; omega), below_drewN (bel_alloc (Below.refl _ _) _) _⟩
set_option maxRecDepth 100000 in
set_option maxHeartbeats 400000 in
theorem other_at (n m : Nat) (hm : m = (n + 1) % 2) (w : World) (h : n <= 100000) :
    Calls Tryz.prog 83 #[.int .i64 (n : Nat)] w fun e w' => e = .returned (.int .i64 (m : Nat)) /\ w' = w := by
  have HM := hideF hm
  clear hm
  go_enter Tryz.func83, Tryz.ntmps83
  go_wp2
  go_ret
  exact ⟨rint (by rw [HM.out]; omega), rfl⟩
theorem ru8 {a b : Int} (h : a = b) : Ending.returned (.int .u8 a) = .returned (.int .u8 b) := by rw [h]
set_option maxRecDepth 100000 in
set_option maxHeartbeats 400000 in
theorem next_at (n m : Nat) (hm : m = n % 3 + 1) (w : World) (h : n < 256) :
    Calls Tryz.prog 84 #[.int .u8 (n : Nat)] w fun e w' => e = .returned (.int .u8 (m : Nat)) /\ w' = w := by
  have HM := hideF hm
  clear hm
  go_enter Tryz.func84, Tryz.ntmps84
  go_wp2
  go_ret
  exact ⟨ru8 (by rw [HM.out]; omega), rfl⟩
set_option maxRecDepth 100000 in
set_option maxHeartbeats 400000 in
theorem endOf_at (s : ByteArray) (w : World) (h : s.size = 64) :
    Calls Tryz.prog 127 #[.string s] w fun e w' => e = .returned (.int .u8 (Pl.byt s 63 : Nat)) /\ w' = w := by
  have gb := Pl.get_byt s
  have hl : 63 < s.size := by omega
  have hl' : (63 : Int) < s.size := by omega
  clear h
  go_enter Tryz.func127, Tryz.ntmps127
  go_wp2
  go_ret
  exact ⟨rfl, rfl⟩
end Go.Proofs.YtcpldcojckhapaaGreat

set_option maxRecDepth 100000
namespace Go.Proofs.YtcpldcojckhapaaGreat
open Go.RowKit
theorem cfg_new (w : World) (s0 s1 s2 s3 c h u b : Int) (l : Value) : ∃ W, W = w.alloc (.cells #[.int .i64 s0, .int .i64 s1, .int .i64 s2, .int .i64 s3, .int .i64 c, .int .i64 h, .int .i64 u, l, .int .i64 b] 39) /\ W.heap.size = w.heap.size + 1 /\ Below w.heap.size w W /\ 
    W.heap[w.heap.size]? = some (.cells #[.int .i64 s0, .int .i64 s1, .int .i64 s2, .int .i64 s3, .int .i64 c, .int .i64 h, .int .i64 u, l, .int .i64 b] 39 (0, 0)) :=
  ⟨_, rfl, by simp, bel_alloc (Below.refl _ _) _, heap_alloc_new w _⟩
theorem cells9 {W : World} {g : Nat} {t : TypeId} {a0 a1 a2 a3 a4 a5 a6 a7 a8 : Value} (h : W.heap[g]? = some (.cells #[a0, a1, a2, a3, a4, a5, a6, a7, a8] t (0, 0))) : W.cell? ⟨g, 0, none⟩ = some a0 /\ W.cell? ⟨g, 1, none⟩ = some a1 /\ W.cell? ⟨g, 2, none⟩ = some a2 /\ W.cell? ⟨g, 3, none⟩ = some a3 /\ W.cell? ⟨g, 4, none⟩ = some a4 /\ W.cell? ⟨g, 5, none⟩ = some a5 /\ W.cell? ⟨g, 6, none⟩ = some a6 /\ W.cell? ⟨g, 7, none⟩ = some a7 /\ W.cell? ⟨g, 8, none⟩ = some a8 :=
  ⟨cell_of_row W g 0 _ t (0, 0) h, cell_of_row W g 1 _ t (0, 0) h, cell_of_row W g 2 _ t (0, 0) h, cell_of_row W g 3 _ t (0, 0) h, cell_of_row W g 4 _ t (0, 0) h, cell_of_row W g 5 _ t (0, 0) h, cell_of_row W g 6 _ t (0, 0) h, cell_of_row W g 7 _ t (0, 0) h, cell_of_row W g 8 _ t (0, 0) h⟩
theorem arr4_0 (a b c d : Value) (W : World) : (Instr.index 37 (.agg #[a, b, c, d]) (.int .i64 0)).run Tryz.prog W = .ok a W := by kernel_rfl
theorem arr4_1 (a b c d : Value) (W : World) : (Instr.index 37 (.agg #[a, b, c, d]) (.int .i64 1)).run Tryz.prog W = .ok b W := by kernel_rfl
theorem arr4_2 (a b c d : Value) (W : World) : (Instr.index 37 (.agg #[a, b, c, d]) (.int .i64 2)).run Tryz.prog W = .ok c W := by kernel_rfl
theorem arr4_3 (a b c d : Value) (W : World) : (Instr.index 37 (.agg #[a, b, c, d]) (.int .i64 3)).run Tryz.prog W = .ok d W := by kernel_rfl
theorem arr4 (a b c d q m : Nat) (ha : a <= m) (hb : b <= m) (hc : c <= m) (hd : d <= m) (hq : q < 4) : ∃ x : Nat, (∀ W, (Instr.index 37 (.agg #[.int .i64 (a : Nat), .int .i64 (b : Nat), .int .i64 (c : Nat), .int .i64 (d : Nat)]) (.int .i64 (q : Nat))).run Tryz.prog W = .ok (.int .i64 (x : Nat)) W) /\ x <= m := by
  rcases (show q = 0 ∨ q = 1 ∨ q = 2 ∨ q = 3 by omega) with rfl | rfl | rfl | rfl
  . exact ⟨a, fun W => arr4_0 _ _ _ _ W, ha⟩
  . exact ⟨b, fun W => arr4_1 _ _ _ _ W, hb⟩
  . exact ⟨c, fun W => arr4_2 _ _ _ _ W, hc⟩
  . exact ⟨d, fun W => arr4_3 _ _ _ _ W, hd⟩
set_option maxRecDepth 100000 in
set_option maxHeartbeats 1000000 in
theorem mayBe_at (s0 s1 s2 s3 c h u n k b g : Nat) (kn : Nat -> Nat) (w : World) (b0 : s0 <= 60) (b1 : s1 <= 60) (b2 : s2 <= 60) (b3 : s3 <= 60) (bc : c <= s0) (bh : h <= s2) (bu1 : 1 <= u) (bu2 : u <= 247) (bn1 : 1 <= n) (bn2 : n <= 4) (bb1 : 1 <= b) (bb2 : b <= 8)
    (hg : g < w.heap.size) (hcell : ∀ j, j < n -> w.cell? ⟨g, j, none⟩ = some (.int .i64 (kn j : Nat))) (hk : ∀ j, j < n -> kn j <= 1) :
    Calls Tryz.prog 72 #[.agg #[.int .i64 (s0 : Nat), .int .i64 (s1 : Nat), .int .i64 (s2 : Nat), .int .i64 (s3 : Nat), .int .i64 (c : Nat), .int .i64 (h : Nat), .int .i64 (u : Nat), .slice (some ⟨g, 0, none⟩) n k, .int .i64 (b : Nat)]] w fun e w' => e = .returned (.bool true) /\ Below w.heap.size w w' := by
  obtain ⟨W, hW, hWs, hWb, hWg⟩ := cfg_new w s0 s1 s2 s3 c h u b (.slice (some ⟨g, 0, none⟩) n k)
  obtain ⟨c0, c1, c2, c3, c4, c5, c6, c7, c8⟩ := cells9 hWg
  have hcW : ∀ j, j < n -> W.cell? ⟨g, j, none⟩ = some (.int .i64 (kn j : Nat)) := fun j hj => by rw [(bcell hWb).1 g j hg]; exact hcell j hj
  have HC := hideF hcW
  have HB := hideF hWb
  clear hcell hWg hcW hWb hWs
  go_enter Tryz.func72, Tryz.ntmps72
  go_wp2_with fail
  rw [<- hW]
  clear hW
  go_loopw [9] (fun i wr => ∃ q : Nat, q <= 4 /\ i = .int .i64 (q : Nat) /\ W = wr) (fun i _ => 4 - (intOf i).toNat)
  case atStart => exact ⟨0, by omega, rfl, rfl⟩
  case round =>
    obtain ⟨q, hq, rfl, rfl⟩ := hrel
    by_cases hq4 : q < 4
    . obtain ⟨x, hx, hxl⟩ := arr4 s0 s1 s2 s3 q 60 b0 b1 b2 b3 hq4
      go_wp2_with fail
      refine (within_at _ 0 60 true ?_ _).mono ?_
      . simp; omega
      rintro e w1 ⟨rfl, rfl⟩
      go_wp2
      go_roundw
      case rel => exact ⟨q + 1, by omega, by go_num, trivial⟩
      case measure => simp [intOf]; omega
    . obtain rfl : q = 4 := by omega
      go_wp2_with fail
      clear hq hq4
      go_loopw [19] (fun i wr => ∃ q : Nat, q <= n /\ i = .int .i64 (q : Nat) /\ W = wr) (fun i _ => n - (intOf i).toNat)
      case atStart => exact ⟨0, by omega, rfl, rfl⟩
      case round =>
        obtain ⟨q, hq, rfl, rfl⟩ := hrel
        by_cases hqn : q < n
        . have hc := HC.out q hqn
          have hkq := hk q hqn
          rcases (show kn q = 0 ∨ kn q = 1 by omega) with e0 | e0
          all_goals
            rw [e0] at hc
            clear hkq e0
            go_wp2_with fail
            go_roundw
            case rel => exact ⟨q + 1, by omega, by go_num, trivial⟩
            case measure => simp [intOf]; omega
        . go_wp2_with fail
          refine (within_at _ 0 _ true ?_ _).mono ?_
          . simp; omega
          rintro e w1 ⟨rfl, rfl⟩
          go_wp2_with fail
          refine (within_at _ 0 _ true ?_ _).mono ?_
          . simp; omega
          rintro e w1 ⟨rfl, rfl⟩
          go_wp2_with fail
          refine (within_at _ 1 247 true ?_ _).mono ?_
          . simp; omega
          rintro e w1 ⟨rfl, rfl⟩
          go_wp2_with fail
          refine (within_at _ 1 4 true ?_ _).mono ?_
          . simp; omega
          rintro e w1 ⟨rfl, rfl⟩
          go_wp2_with fail
          refine (within_at _ 1 8 true ?_ _).mono ?_
          . simp; omega
          rintro e w1 ⟨rfl, rfl⟩
          go_wp2
          go_ret
          exact ⟨rfl, HB.out⟩
set_option maxRecDepth 100000 in
set_option maxHeartbeats 1000000 in
theorem need_at (s0 s1 s2 s3 c h u n k b g z : Nat) (kn : Nat -> Nat) (w : World) (b0 : s0 <= 60) (b1 : s1 <= 60) (b2 : s2 <= 60) (b3 : s3 <= 60) (bc : c <= s0) (bh : h <= s2) (bu1 : 1 <= u) (bu2 : u <= 247) (bn1 : 1 <= n) (bn2 : n <= 4) (bb1 : 1 <= b) (bb2 : b <= 8)
    (hg : g < w.heap.size) (hcell : ∀ j, j < n -> w.cell? ⟨g, j, none⟩ = some (.int .i64 (kn j : Nat))) (hk : ∀ j, j < n -> kn j <= 1) (hz : z = 2 * max 1 (((c + 7) / 8 + 2 * h + 61) / 62)) :
    Calls Tryz.prog 48 #[.agg #[.int .i64 (s0 : Nat), .int .i64 (s1 : Nat), .int .i64 (s2 : Nat), .int .i64 (s3 : Nat), .int .i64 (c : Nat), .int .i64 (h : Nat), .int .i64 (u : Nat), .slice (some ⟨g, 0, none⟩) n k, .int .i64 (b : Nat)]] w fun e w' => e = .returned (.tuple #[.int .i64 (z : Nat), .int .i64 0]) /\ Below w.heap.size w w' := by
  obtain ⟨W, hW, hWs, hWb, hWg⟩ := cfg_new w s0 s1 s2 s3 c h u b (.slice (some ⟨g, 0, none⟩) n k)
  obtain ⟨c0, c1, c2, c3, c4, c5, c6, c7, c8⟩ := cells9 hWg
  have hcW : ∀ j, j < n -> W.cell? ⟨g, j, none⟩ = some (.int .i64 (kn j : Nat)) := fun j hj => by rw [(bcell hWb).1 g j hg]; exact hcell j hj
  have HC := hideF hcW
  have HB := hideF hWb
  obtain ⟨y, hy⟩ : ∃ y, y = (c + 7) / 8 + 2 * h := ⟨_, rfl⟩
  have HY := hideF hy
  have hyl : y <= 100000 := by omega
  have HZ : Hid (z = 2 * max 1 ((y + 61) / 62)) := by show z = _; rw [hz, hy]
  have HG := hideF hWg
  clear hcell hWg hcW hWb hz hy
  go_enter Tryz.func48, Tryz.ntmps48
  go_wp2_with fail
  rw [<- hW]
  clear hW
  refine (mayBe_at s0 s1 s2 s3 c h u n k b g kn W b0 b1 b2 b3 bc bh bu1 bu2 bn1 bn2 bb1 bb2 (by omega) HC.out hk).mono ?_
  rintro e w1 ⟨rfl, hb1⟩
  have hg1 := (hb1.block w.heap.size (by omega)).trans HG.out
  have HB1 := hideF (bel_then HB.out hb1)
  have HS : Hid (w.heap.size < w1.heap.size) := by have := hb1.size; show _ < _; omega
  clear c0 c1 c2 c3 c4 c5 c6 c7 c8 hb1
  obtain ⟨c0, c1, c2, c3, c4, c5, c6, c7, c8⟩ := cells9 hg1
  clear hg1
  go_wp2_with fail
  refine (keptSize_at s0 s1 s2 s3 c h u n k b y (some ⟨g, 0, none⟩) w1 (by omega) (by omega) HY.out).mono ?_
  rintro e w2 ⟨rfl, hb2⟩
  have HB2 := hideF (bel_then HB1.out hb2)
  clear hb2
  go_wp2_with fail
  refine (storeNeed_at y z HZ.out w2 hyl).mono ?_
  rintro e w3 ⟨rfl, rfl⟩
  go_wp2
  refine bodyPost_ret (v := .tuple #[.int .i64 (z : Nat), .int .i64 0]) (by simp [results, Tryz.results48, go_sem]) rfl ⟨rfl, HB2.out⟩
end Go.Proofs.YtcpldcojckhapaaGreat

set_option maxRecDepth 100000
namespace Go.Proofs.YtcpldcojckhapaaGreat
open Go.RowKit
def pk (c n : Int) : Int := (if c < 0 then -(c + 1) else c) % n
theorem pk_nonneg (c n : Int) (h : 0 < n) : 0 <= pk c n := Int.emod_nonneg _ (by omega)
theorem pk_lt (c n : Int) (h : 0 < n) : pk c n < n := Int.emod_lt_of_pos _ h
theorem pk_neg (c n : Int) (hc : c < 0) (_h : 0 < n) : -((c + 1).tmod n) = pk c n := by
  unfold pk
  rw [if_pos hc, <- Int.neg_tmod, Int.tmod_eq_emod_of_nonneg (by omega)]
theorem pk_pos (c n : Int) (hc : 0 <= c) : c % n = pk c n := by unfold pk; rw [if_neg (by omega)]
set_option maxRecDepth 100000 in
set_option maxHeartbeats 400000 in
theorem pick_any (c n : Int) (w : World) (h1 : -9223372036854775808 <= c) (h2 : c <= 9223372036854775807) (h3 : 0 < n) (h4 : n <= 4294967296) :
    Calls Tryz.prog 18 #[.int .i64 c, .int .i64 n] w fun e w' => e = .returned (.int .i64 (pk c n)) /\ w' = w := by
  have hn0 : (n == 0) = false := by simp; omega
  have hn1 : (n == -1) = false := by simp; omega
  by_cases hc : c < 0
  . go_enter Tryz.func18, Tryz.ntmps18
    go_wp2
    go_ret
    exact ⟨rint (pk_neg c n hc h3), rfl⟩
  . go_enter Tryz.func18, Tryz.ntmps18
    go_wp2
    go_ret
    exact ⟨rint (pk_pos c n hc), rfl⟩
theorem conv1 (W : World) (x : Int) : (convert 114 9 (.slice (some ⟨W.heap.size, 0, none⟩) 1 1)).run Tryz.prog (W.alloc (.cells #[.int .u8 x] 5)) = .ok (.string ⟨#[UInt8.ofNat x.toNat]⟩) (W.alloc (.cells #[.int .u8 x] 5)) := by
  rw [run_convert_bytes_string _ 114 9 5 _ 1 1 Tryz.underlying114 Tryz.underlying5 Tryz.underlying9, run_bytesToString _ _ 1 1 [x]]
  . rfl
  . have h := run_loadCells_list (P := Tryz.prog) (W.alloc (.cells #[.int .u8 x] 5)) ⟨W.heap.size, 0, none⟩ [.int .u8 x] (fun j v hj => by
      match j, hj with
      | 0, hj => simp at hj; subst hj; simp [Addr.add])
    simpa using h
theorem conv2 (W : World) (x y : Int) : (convert 114 9 (.slice (some ⟨W.heap.size, 0, none⟩) 2 2)).run Tryz.prog (W.alloc (.cells #[.int .u8 x, .int .u8 y] 5)) = .ok (.string ⟨#[UInt8.ofNat x.toNat, UInt8.ofNat y.toNat]⟩) (W.alloc (.cells #[.int .u8 x, .int .u8 y] 5)) := by
  rw [run_convert_bytes_string _ 114 9 5 _ 2 2 Tryz.underlying114 Tryz.underlying5 Tryz.underlying9, run_bytesToString _ _ 2 2 [x, y]]
  . rfl
  . have h := run_loadCells_list (P := Tryz.prog) (W.alloc (.cells #[.int .u8 x, .int .u8 y] 5)) ⟨W.heap.size, 0, none⟩ [.int .u8 x, .int .u8 y] (fun j v hj => by
      match j, hj with
      | 0, hj => simp at hj; subst hj; simp [Addr.add]
      | 1, hj => simp at hj; subst hj; simp [Addr.add])
    simpa using h
def twoB (n : Nat) : ByteArray := ⟨#[UInt8.ofNat (n / 256), UInt8.ofNat (n % 256)]⟩
set_option maxRecDepth 100000 in
set_option maxHeartbeats 400000 in
theorem two_any (n : Nat) (w : World) (h4 : n < 65536) :
    Calls Tryz.prog 29 #[.int .i64 (n : Nat)] w fun e w' => e = .returned (.string (twoB n)) /\ Below w.heap.size w w' := by
  have c2 := conv2
  go_enter Tryz.func29, Tryz.ntmps29
  go_wp2
  go_ret
  exact ⟨rfl, (Below.refl _ _).alloc (Nat.le_refl _) _⟩
theorem conv1_at (W : World) (g : Nat) (x : Int) (hc : W.cell? ⟨g, 0, none⟩ = some (.int .u8 x)) : (convert 114 9 (.slice (some ⟨g, 0, none⟩) 1 1)).run Tryz.prog W = .ok (.string ⟨#[UInt8.ofNat x.toNat]⟩) W := by
  rw [run_convert_bytes_string _ 114 9 5 _ 1 1 Tryz.underlying114 Tryz.underlying5 Tryz.underlying9, run_bytesToString _ _ 1 1 [x]]
  . rfl
  . have h := run_loadCells_list (P := Tryz.prog) W ⟨g, 0, none⟩ [.int .u8 x] (fun j v hj => by
      match j, hj with
      | 0, hj => simp at hj; subst hj; simpa [Addr.add] using hc)
    simpa using h
theorem enter25 (x : Value) (w : World) : (callFunc 29 #[x]).run Tryz.prog w = .ok (.enter 29 #[x]) w := by kernel_rfl
theorem two_step (x : Int) (n : Nat) (hx : x = n) (w : World) (h4 : n < 65536) :
    Calls Tryz.prog 29 #[.int .i64 x] w fun e w' => ∃ v, e = .returned v /\ (v = .string (twoB n) /\ Below w.heap.size w w') := by
  subst hx
  refine (two_any n w h4).mono ?_
  rintro e w' ⟨rfl, hb⟩
  exact ⟨_, rfl, rfl, hb⟩
end Go.Proofs.YtcpldcojckhapaaGreat

set_option maxRecDepth 100000
namespace Go.Proofs.YtcpldcojckhapaaGreat
open Go.RowKit
def sendsL (l : List (Int × Int × Int × ByteArray)) : List ByteArray := (l.filter fun x => x.1 == 2).map (·.2.2.2)
theorem sendsL_snoc (l : List (Int × Int × Int × ByteArray)) (x : Int × Int × Int × ByteArray) : sendsL (l ++ [x]) = sendsL l ++ (if x.1 == 2 then [x.2.2.2] else []) := by
  unfold sendsL
  rw [List.filter_append, List.map_append]
  congr 1
  by_cases h : x.1 == 2 <;> simp [h]
theorem cell_one_new (w : World) (a : Value) (t : TypeId) : ∀ j u, [a][j]? = some u -> (w.alloc (.cells #[a] t)).cell? ((⟨w.heap.size, 0, none⟩ : Addr).add j) = some u := by
  intro j u hj
  match j, hj with
  | 0, hj => simp at hj; subst hj; simp [Addr.add]
theorem take_succ_at {α : Type} (l : List α) (q : Nat) (x : α) (h : l[q]? = some x) : l.take (q + 1) = l.take q ++ [x] := by
  rw [List.take_add_one, h]; rfl
set_option maxRecDepth 100000 in
set_option maxHeartbeats 1000000 in
theorem sends_any (l : List (Int × Int × Int × ByteArray)) (v : Value) (B : Nat) (w : World) (hl : l.length <= 100000) (hown : w.ownsRow B 77 4 v l.length (l.flatMap encA)) :
    Calls Tryz.prog 26 #[v] w fun e w' => ∃ u, e = .returned u /\ w'.ownsRow w.heap.size 9 1 u (sendsL l).length ((sendsL l).flatMap encT) /\ Below w.heap.size w w' := by
  obtain ⟨ad, c, rfl, hat⟩ := own_view hown
  obtain ⟨i0, hi, hz0, hz1, hz2⟩ := info_parts Tryz.infoET
  have HAT := hideF hat
  clear hat hown
  go_enter Tryz.func26, Tryz.ntmps26
  go_wp2_with fail
  go_loopw [4, 3] (fun i o wr => ∃ q : Nat, q <= l.length /\ i = .int .i64 (q : Nat) /\ wr.ownsRow w.heap.size 9 1 o (sendsL (l.take q)).length ((sendsL (l.take q)).flatMap encT) /\ (sendsL (l.take q)).length <= q /\ Below w.heap.size w wr) (fun i _ _ => l.length - (intOf i).toNat)
  case atStart => exact ⟨0, by omega, rfl, World.ownsRow_nil _ _ _ _, by simp [sendsL], Below.refl _ _⟩
  case round =>
    obtain ⟨q, hq, rfl, hown, hqs, hb⟩ := hrel
    by_cases hlt : q < l.length
    . obtain ⟨g, rfl, hgl, hcells⟩ := HAT.out q hlt
      have hx : l[q]? = some l[q] := List.getElem?_eq_getElem hlt
      obtain ⟨x, hxe⟩ : ∃ x, x = l[q] := ⟨_, rfl⟩
      rw [<- hxe] at hx
      have hk : wr.cell? ⟨g, q * 4, none⟩ = some (.int .u8 x.1) := by
        rw [(bcell hb).1 g _ hgl, hcells _ (by omega)]
        have := flat_gen encA 4 (fun _ => rfl) l q 0 hlt (by omega)
        rw [Nat.add_zero] at this
        rw [this, hxe]; rfl
      have hd : wr.cell? ⟨g, q * 4 + 3, none⟩ = some (.string x.2.2.2) := by
        rw [(bcell hb).1 g _ hgl, hcells _ (by omega)]
        have := flat_gen encA 4 (fun _ => rfl) l q 3 hlt (by omega)
        rw [this, hxe]; rfl
      have HT := hideF (take_succ_at l q x hx)
      have HO := hideF hown
      have HB := hideF hb
      clear hx hxe hcells hown hb
      by_cases h2 : x.1 = 2
      . have t2 : (x.1 == 2) = true := by simp [h2]
        have HS : Hid (sendsL (l.take (q + 1)) = sendsL (l.take q) ++ [x.2.2.2]) := by show _ = _; rw [HT.out, sendsL_snoc, t2]; rfl
        clear h2
        go_wp2_with (at_builtin; refine wpList_append_own _ rfl (.tmp 17) (.tmp 23) 30 rfl w.heap.size 9 i0 (.string ⟨#[]⟩) 1 16 Tryz.underlying30 hi hz0 hz1 hz2 rfl (by decide) u3 (sendsL (l.take q)).length _ rfl (HO.out.alloc _) ⟨wr.heap.size, 0, none⟩ 1 1 [.string x.2.2.2] rfl rfl (cell_one_new _ _ _) (by intro u hu; simp at hu; subst hu; rfl) (by unfold maxLen; omega) (by omega) (by have := HB.out.size; simp; omega) ?_; intro v' w3 hown3 hgrow3 _)
        go_roundw
        case rel =>
          refine ⟨q + 1, by omega, by go_num, ?_, ?_, ?_⟩
          . rw [HS.out, List.length_append, List.flatMap_append]; exact hown3
          . rw [HS.out, List.length_append]; simp; omega
          . exact (HB.out.alloc HB.out.size _).grown hgrow3 (by have := HB.out.size; simp; omega) (fun k hk => (HO.out.lt k hk).1)
        case measure => simp [intOf]; omega
      . have t2 : (x.1 == 2) = false := by simp [h2]
        have HS : Hid (sendsL (l.take (q + 1)) = sendsL (l.take q)) := by show _ = _; rw [HT.out, sendsL_snoc, t2]; simp
        clear h2
        go_wp2_with fail
        go_roundw
        case rel =>
          refine ⟨q + 1, by omega, by go_num, ?_, ?_, HB.out⟩
          . rw [HS.out]; exact HO.out
          . rw [HS.out]; omega
        case measure => simp [intOf]; omega
    . obtain rfl : q = l.length := by omega
      have e : l.take l.length = l := List.take_length
      rw [e] at hown
      go_wp2
      go_ret
      exact ⟨_, rfl, hown, hb⟩
end Go.Proofs.YtcpldcojckhapaaGreat

set_option maxRecDepth 100000
namespace Go.Proofs.YtcpldcojckhapaaGreat
open Go.RowKit
def Grid (w : World) (L : Nat) (t : TypeId) (n m : Nat) (f : Nat -> Nat -> Value) : Prop :=
  ∃ cur : Array Value, w.heap[L]? = some (.cells cur t (0, 0)) /\ cur.size = n * m /\ ∀ i j, i < n -> j < m -> cur[i * m + j]? = some (f i j)
section
variable {w w' : World} {L : Nat} {t : TypeId} {n m : Nat} {f g : Nat -> Nat -> Value}
theorem Grid.cell (h : Grid w L t n m f) {i j : Nat} (hi : i < n) (hj : j < m) : w.cell? ⟨L, i * m + j, none⟩ = some (f i j) := by
  obtain ⟨cur, h1, h2, h3⟩ := h
  rw [cell_of_row w L _ cur t (0, 0) h1]; exact h3 i j hi hj
theorem Grid.frozen (h : Grid w L t n m f) (k : Nat) : w.frozen? ⟨L, k, none⟩ = false := by
  obtain ⟨cur, h1, _⟩ := h
  exact frozen_of_row w L k cur t h1
theorem Grid.lt (h : Grid w L t n m f) : L < w.heap.size := by
  obtain ⟨cur, h1, _⟩ := h
  exact lt_of_block h1
theorem Grid.block (h : Grid w L t n m f) : ∃ cur, w.heap[L]? = some (.cells cur t (0, 0)) := by
  obtain ⟨cur, h1, _⟩ := h
  exact ⟨cur, h1⟩
theorem Grid.same (h : Grid w L t n m f) (e : w'.heap[L]? = w.heap[L]?) : Grid w' L t n m f := by
  obtain ⟨cur, h1, h2⟩ := h
  exact ⟨cur, e.trans h1, h2⟩
theorem Grid.below {B : Nat} (h : Grid w L t n m f) (hb : Below B w w') (hl : L < B) : Grid w' L t n m f := h.same (hb.block L hl)
theorem Grid.congr (h : Grid w L t n m f) (e : ∀ i j, i < n -> j < m -> f i j = g i j) : Grid w L t n m g := by
  obtain ⟨cur, h1, h2, h3⟩ := h
  exact ⟨cur, h1, h2, fun i j hi hj => by rw [h3 i j hi hj, e i j hi hj]⟩
theorem pos_eq {m a b i j : Nat} (hb : b < m) (hj : j < m) (e : a * m + b = i * m + j) : a = i /\ b = j := by
  have hm : 0 < m := by omega
  have h1 : (a * m + b) / m = a := by rw [Nat.mul_comm, Nat.mul_add_div hm, Nat.div_eq_of_lt hb, Nat.add_zero]
  have h2 : (i * m + j) / m = i := by rw [Nat.mul_comm, Nat.mul_add_div hm, Nat.div_eq_of_lt hj, Nat.add_zero]
  have h3 : a = i := by rw [<- h1, <- h2, e]
  subst h3
  exact ⟨rfl, by omega⟩
theorem Grid.set (h : Grid w L t n m f) {i j : Nat} (hi : i < n) (hj : j < m) (v : Value) : Grid (w.setCell ⟨L, i * m + j, none⟩ v) L t n m (fun a b => if a = i /\ b = j then v else f a b) := by
  obtain ⟨cur, h1, h2, h3⟩ := h
  have hlt : i * m + j < cur.size := by
    rw [h2]
    have : (i + 1) * m <= n * m := Nat.mul_le_mul_right m hi
    rw [Nat.add_mul] at this
    omega
  refine ⟨cur.setIfInBounds (i * m + j) v, heap_setCell_same w L _ cur t v h1, by rw [Array.size_setIfInBounds]; exact h2, fun a b ha hb => ?_⟩
  rw [Array.getElem?_setIfInBounds]
  by_cases e : i * m + j = a * m + b
  . obtain ⟨e1, e2⟩ := pos_eq hj hb e
    subst e1; subst e2
    rw [if_pos rfl, if_pos hlt]
    simp
  . rw [if_neg e]
    show _ = some (if a = i /\ b = j then v else f a b)
    rw [if_neg (show ¬ (a = i /\ b = j) from fun x => e (by rw [x.1, x.2]))]
    exact h3 a b ha hb
theorem Grid.set_other (h : Grid w L t n m f) {K : Nat} (k : Nat) (hK : L ≠ K) (v : Value) : Grid (w.setCell ⟨K, k, none⟩ v) L t n m f := h.same (heap_setCell_other w _ _ v hK)
theorem Grid.alloc (h : Grid w L t n m f) (o : Obj) : Grid (w.alloc o) L t n m f := h.same (heap_alloc_old w o h.lt)
theorem grid_made (w : World) (z : Array Value) (n m : Nat) (t : TypeId) (hz : z.size = m) : Grid (w.alloc (.cells (madeCells z (n * m)) t)) w.heap.size t n m (fun _ j => z[j]!) := by
  refine ⟨_, heap_alloc_new w _, size_madeCells _ _, fun i j hi hj => ?_⟩
  have hlt : i * m + j < n * m := by
    have : (i + 1) * m <= n * m := Nat.mul_le_mul_right m hi
    rw [Nat.add_mul] at this
    omega
  have hmod : (i * m + j) % m = j := by rw [Nat.mul_comm, Nat.mul_add_mod, Nat.mod_eq_of_lt hj]
  simp [madeCells, hlt, hz, hmod]
end
def lnV (k : Nat) (j : Nat) : Value := if j = 0 then .int .i64 (k : Nat) else if j = 1 then .string ⟨#[]⟩ else .bool false
theorem Tryz.infoLn : (Tryz.prog.info? 116).map (fun i => (i.zero, i.size, i.bytes)) = some (some (.agg #[.int .i64 0, .string ⟨#[]⟩, .bool false]), 3, 32) := by kernel_rfl
set_option maxRecDepth 100000 in
set_option maxHeartbeats 1000000 in
theorem newLines_at (n k g : Nat) (kn : Nat -> Nat) (w : World) (hn : n <= 100) (hg : g < w.heap.size) (hc : ∀ j, j < n -> w.cell? ⟨g, j, none⟩ = some (.int .i64 (kn j : Nat))) :
    Calls Tryz.prog 64 #[.slice (some ⟨g, 0, none⟩) n k] w fun e w' => e = .returned (.slice (some ⟨w.heap.size, 0, none⟩) n n) /\ Grid w' w.heap.size 116 n 3 (fun i j => lnV (kn i) j) /\ Below w.heap.size w w' := by
  obtain ⟨i0, hi, hz0, hz1, hz2⟩ := info_parts Tryz.infoLn
  have hmk : ∀ W : World, (Instr.makeSlice 105 (.int .i64 (n : Int)) (.int .i64 (n : Int))).run Tryz.prog W = .ok (.slice (some ⟨W.heap.size, 0, none⟩) n n) (W.alloc (.cells (madeCells #[.int .i64 0, .string ⟨#[]⟩, .bool false] (n * 3)) 116)) := fun W => by
    have h := run_make (P := Tryz.prog) W 105 116 i0 (.agg #[.int .i64 0, .string ⟨#[]⟩, .bool false]) Tryz.underlying105 hi hz0 .i64 .i64 (n : Int) (n : Int) (by omega) (by omega) (by rw [hz2]; omega) (by omega)
    rw [hz1] at h
    simpa [Value.cells] using h
  have hgr := grid_made w #[.int .i64 0, .string ⟨#[]⟩, .bool false] n 3 116 rfl
  obtain ⟨W, hW⟩ : ∃ W, W = w.alloc (.cells (madeCells #[.int .i64 0, .string ⟨#[]⟩, .bool false] (n * 3)) 116) := ⟨_, rfl⟩
  have hWb : Below w.heap.size w W := by rw [hW]; exact bel_alloc (Below.refl _ _) _
  rw [<- hW] at hgr
  have HC := hideF hc
  have HG := hideF hgr
  have HB := hideF hWb
  clear hc hgr hWb
  go_enter Tryz.func64, Tryz.ntmps64
  go_wp2_with fail
  rw [<- hW]
  clear hW
  go_loopw [11] (fun i wr => ∃ q : Nat, q <= n /\ i = .int .i64 (q : Nat) /\ Grid wr w.heap.size 116 n 3 (fun i j => lnV (if i < q then kn i else 0) j) /\ Below w.heap.size w wr) (fun i _ => n - (intOf i).toNat)
  case atStart =>
    refine ⟨0, by omega, rfl, HG.out.congr fun i j _ hj => ?_, HB.out⟩
    rcases (show j = 0 ∨ j = 1 ∨ j = 2 by omega) with rfl | rfl | rfl <;> simp [lnV]
  case round =>
    obtain ⟨q, hq, rfl, hgr, hb⟩ := hrel
    by_cases hlt : q < n
    . have hkc : wr.cell? ⟨g, q, none⟩ = some (.int .i64 (kn q : Nat)) := by rw [(bcell hb).1 g _ hg]; exact HC.out q hlt
      have hcl : wr.cell? ⟨w.heap.size, q * 3, none⟩ = some (lnV (if q < q then kn q else 0) 0) := by have := hgr.cell hlt (j := 0) (by omega); rwa [Nat.add_zero] at this
      have hfz := hgr.frozen (q * 3)
      have HGR := hideF hgr
      have HBR := hideF hb
      clear hgr hb
      go_wp2_with fail
      go_roundw
      case rel =>
        refine ⟨q + 1, by omega, by go_num, ?_, HBR.out.setCell (Nat.le_refl _) _⟩
        have := HGR.out.set hlt (j := 0) (by omega) (.int .i64 (kn q : Nat))
        rw [Nat.add_zero] at this
        refine this.congr fun i j hi hj => ?_
        by_cases e : i = q /\ j = 0
        . rw [if_pos e, e.1, e.2]; simp [lnV]
        . rw [if_neg e]
          by_cases e2 : i = q
          . have : j ≠ 0 := fun h => e ⟨e2, h⟩
            simp [lnV, this]
          . have : (i < q + 1) = (i < q) := by apply propext; omega
            simp only [this]
      case measure => simp [intOf]; omega
    . obtain rfl : q = n := by omega
      go_wp2
      go_ret
      exact ⟨rfl, hgr.congr fun i j hi _ => by rw [if_pos hi], hb⟩
end Go.Proofs.YtcpldcojckhapaaGreat

set_option maxRecDepth 100000
namespace Go.Proofs.YtcpldcojckhapaaGreat
open Go.RowKit
structure Ln where
  kind : Nat
  bytes : ByteArray
  broken : Bool
def lnc (l : Ln) (j : Nat) : Value := if j = 0 then .int .i64 (l.kind : Nat) else if j = 1 then .string l.bytes else .bool l.broken
structure Dev where
  unit : Nat
  batch : Nat
  nl : Nat
  ln : Nat -> Ln
  sz : Nat -> Nat
  ent : Nat -> Nat -> Int
  kp : Nat -> Nat
  sec : Nat
  lat : Nat
  stamp : Nat
  arr : Nat
  uns : Nat
  wait : List (Int × Int × ByteArray)
  base : Nat
def devC (D : Dev) (L S : Nat) (E : Nat -> Nat) (wv : Value) : Array Value :=
  #[.int .i64 (D.unit : Nat), .int .i64 (D.batch : Nat), .slice (some ⟨L, 0, none⟩) D.nl D.nl,
    .slice (some ⟨E 0, 0, none⟩) (D.sz 0) (D.sz 0), .slice (some ⟨E 1, 0, none⟩) (D.sz 1) (D.sz 1), .slice (some ⟨E 2, 0, none⟩) (D.sz 2) (D.sz 2), .slice (some ⟨E 3, 0, none⟩) (D.sz 3) (D.sz 3),
    .int .i64 (D.kp 0 : Nat), .int .i64 (D.kp 1 : Nat), .int .i64 (D.kp 2 : Nat), .int .i64 (D.kp 3 : Nat),
    .pointer (some ⟨S, 0, none⟩), .int .i64 (D.arr : Nat), .int .i64 (D.uns : Nat), wv]
structure DevIn (w : World) (d L S : Nat) (E : Nat -> Nat) (wv : Value) (D : Dev) : Prop where
  dev : w.heap[d]? = some (.cells (devC D L S E wv) 110 (0, 0))
  lines : Grid w L 116 D.nl 3 (fun i j => lnc (D.ln i) j)
  ent : ∀ i, i < 4 -> Grid w (E i) 3 (D.sz i) 1 (fun k _ => .int .i64 (D.ent i k))
  inj : ∀ i j, i < 4 -> j < 4 -> i ≠ j -> E i ≠ E j
  store : w.heap[S]? = some (.cells #[.int .i64 (D.sec : Nat), .int .i64 (D.lat : Nat), .int .u8 (D.stamp : Nat)] 155 (0, 0))
  wait : w.ownsRow D.base 163 3 wv D.wait.length (D.wait.flatMap encF)
  lo : D.base <= d /\ D.base <= L /\ D.base <= S /\ ∀ i, i < 4 -> D.base <= E i
def DevAt (w : World) (d : Nat) (D : Dev) : Prop := ∃ L S E wv, DevIn w d L S E wv D
structure Chg1 (g : Nat) (w w' : World) : Prop where
  os : w'.os = w.os
  tape : w'.tape = w.tape
  output : w'.output = w.output
  size : w.heap.size <= w'.heap.size
  block : ∀ k, k < w.heap.size -> k ≠ g -> w'.heap[k]? = w.heap[k]?
section
variable {g : Nat} {w w' w2 : World}
theorem Chg1.refl (g : Nat) (w : World) : Chg1 g w w := ⟨rfl, rfl, rfl, Nat.le_refl _, fun _ _ _ => rfl⟩
theorem Chg1.of_below (g : Nat) (h : Below w.heap.size w w') : Chg1 g w w' := ⟨h.os, h.tape, h.output, h.size, fun k hk _ => h.block k hk⟩
theorem Chg1.trans (h : Chg1 g w w') (h' : Chg1 g w' w2) : Chg1 g w w2 :=
  ⟨h'.os.trans h.os, h'.tape.trans h.tape, h'.output.trans h.output, Nat.le_trans h.size h'.size, fun k hk hg => (h'.block k (Nat.lt_of_lt_of_le hk h.size) hg).trans (h.block k hk hg)⟩
theorem Chg1.then_below (h : Chg1 g w w') (h' : Below w'.heap.size w' w2) : Chg1 g w w2 := h.trans (Chg1.of_below g h')
theorem Chg1.setCell (h : Chg1 g w w') (k : Nat) (v : Value) : Chg1 g w (w'.setCell ⟨g, k, none⟩ v) :=
  h.trans ⟨rfl, rfl, rfl, by simp, fun k' _ hg => heap_setCell_other w' _ _ v (by simpa using hg)⟩
theorem Chg1.alloc (h : Chg1 g w w') (o : Obj) : Chg1 g w (w'.alloc o) := h.then_below (bel_alloc (Below.refl _ _) _)
theorem Chg1.drewN (h : Chg1 g w w') (k : Nat) : Chg1 g w (w'.drewN k) := h.then_below (below_drewN (Below.refl _ _) _)
end
def devT (d L S : Nat) (E : Nat -> Nat) (g : Nat) (t : TypeId) : Bool := (t == 110 && g == d) || (t == 116 && g == L) || (t == 155 && g == S) || (t == 3 && (g == E 0 || g == E 1 || g == E 2 || g == E 3)) || t == 163
theorem devT_d (d L S : Nat) (E : Nat -> Nat) : devT d L S E d 110 = true := by simp [devT]
theorem devT_L (d L S : Nat) (E : Nat -> Nat) : devT d L S E L 116 = true := by simp [devT]
theorem devT_S (d L S : Nat) (E : Nat -> Nat) : devT d L S E S 155 = true := by simp [devT]
theorem devT_E (d L S : Nat) (E : Nat -> Nat) (j : Nat) (h : j < 4) : devT d L S E (E j) 3 = true := by
  rcases (show j = 0 ∨ j = 1 ∨ j = 2 ∨ j = 3 by omega) with rfl | rfl | rfl | rfl <;> simp [devT]
end Go.Proofs.YtcpldcojckhapaaGreat

set_option maxRecDepth 100000
namespace Go.Proofs.YtcpldcojckhapaaGreat
open Go.RowKit
set_option maxRecDepth 100000 in
set_option maxHeartbeats 1000000 in
theorem fits_at (n m g k : Nat) (S : Nat -> ByteArray) (w : World) (h1 : m <= n) (h2 : n <= 64) (hc : ∀ j, j < n -> w.cell? ⟨g, j, none⟩ = some (.string (S j))) (hs : ∀ j, j < n -> (S j).size = 64) :
    Calls Tryz.prog 61 #[.slice (some ⟨g, 0, none⟩) n k, .int .i64 (m : Nat)] w fun e w' => e = .returned (.bool true) /\ w' = w := by
  have HC := hideF hc
  have HS := hideF hs
  clear hc hs
  go_enter Tryz.func61, Tryz.ntmps61
  go_wp2_with fail
  refine (within_at _ _ 64 true ?_ _).mono ?_
  . simp; omega
  rintro e w1 ⟨rfl, rfl⟩
  go_wp2_with fail
  go_loopw [14] (fun i wr => ∃ q : Nat, q <= n /\ i = .int .i64 (q : Nat) /\ w1 = wr) (fun i _ => n - (intOf i).toNat)
  case atStart => exact ⟨0, by omega, rfl, rfl⟩
  case round =>
    obtain ⟨q, hq, rfl, rfl⟩ := hrel
    by_cases hqn : q < n
    . have hcq := HC.out q hqn
      have hsq : ((S q).size : Int) = 64 := by have := HS.out q hqn; omega
      go_wp2_with fail
      go_roundw
      case rel => exact ⟨q + 1, by omega, by go_num, trivial⟩
      case measure => simp [intOf]; omega
    . go_wp2
      go_ret
      exact ⟨rfl, rfl⟩
set_option maxRecDepth 100000 in
set_option maxHeartbeats 1000000 in
theorem copyOn_0 (b g k : Nat) (w : World) (hk : 2 <= k) (hb : w.cell? ⟨b, 0, none⟩ = some (.int .i64 1)) :
    Calls Tryz.prog 95 #[.pointer (some ⟨b, 0, none⟩), .slice (some ⟨g, 0, none⟩) 2 k, .int .i64 0] w fun e w' => e = .returned (.slice (some ⟨g, 0, none⟩) 1 k) /\ ∃ n, w' = w.drewN n := by
  go_enter Tryz.func95, Tryz.ntmps95
  go_wp2
  go_quiet (fail)
  go_wp2
  go_ret
  exact ⟨rfl, _, rfl⟩
set_option maxRecDepth 100000 in
set_option maxHeartbeats 1000000 in
theorem copyOn_1 (b g k : Nat) (w : World) (hk : 2 <= k) (hb : w.cell? ⟨b, 0, none⟩ = some (.int .i64 1)) :
    Calls Tryz.prog 95 #[.pointer (some ⟨b, 0, none⟩), .slice (some ⟨g, 0, none⟩) 2 k, .int .i64 1] w fun e w' => e = .returned (.slice (some ⟨g, 1, none⟩) 1 (k - 1)) /\ ∃ n, w' = w.drewN n := by
  go_enter Tryz.func95, Tryz.ntmps95
  go_wp2
  go_quiet (fail)
  go_wp2
  go_ret
  exact ⟨rfl, _, rfl⟩
def stampL (s : ByteArray) : Nat := if Pl.byt s 63 = Pl.byt s 0 /\ Pl.byt s 0 <= 3 then Pl.byt s 0 else 0
set_option maxRecDepth 100000 in
set_option maxHeartbeats 1000000 in
theorem stampOf_at (g o k st : Nat) (s : ByteArray) (w : World) (hc : w.cell? ⟨g, o, none⟩ = some (.string s)) (hs : s.size = 64) (hst : st = stampL s) :
    Calls Tryz.prog 120 #[.slice (some ⟨g, o, none⟩) 1 k] w fun e w' => e = .returned (.int .u8 (st : Nat)) /\ w' = w := by
  have gb := Pl.get_byt s
  have hl : 0 < s.size := by omega
  have b0 := Pl.byt_lt s 0
  have b1 := Pl.byt_lt s 63
  have HS := hideF hs
  have HT := hideF hst
  clear hs hst
  by_cases he : Pl.byt s 63 = Pl.byt s 0
  . have te : ((Pl.byt s 63 : Int) != (Pl.byt s 0 : Int)) = false := by simp; omega
    have HE := hideF he
    clear he
    go_enter Tryz.func120, Tryz.ntmps120
    go_wp2_with fail
    go_loopw [12] (fun i wr => ∃ q : Nat, q <= 1 /\ i = .int .i64 (q : Nat) /\ w = wr) (fun i _ => 1 - (intOf i).toNat)
    case atStart => exact ⟨0, by omega, rfl, rfl⟩
    case round =>
      obtain ⟨q, hq, rfl, rfl⟩ := hrel
      by_cases hqn : q < 1
      . obtain rfl : q = 0 := by omega
        go_wp2_with fail
        refine (endOf_at s _ HS.out).mono ?_
        rintro e w1 ⟨rfl, rfl⟩
        go_wp2_with fail
        go_roundw
        case rel => exact ⟨1, by omega, by go_num, trivial⟩
        case measure => simp [intOf]
      . by_cases h3 : Pl.byt s 0 <= 3
        . have t3 : decide ((3 : Int) < (Pl.byt s 0 : Int)) = false := by simp; omega
          go_wp2
          go_ret
          exact ⟨ru8 (by rw [HT.out]; unfold stampL; rw [if_pos ⟨HE.out, h3⟩]), rfl⟩
        . have t3 : (3 : Int) < (Pl.byt s 0 : Int) := by omega
          go_wp2
          go_ret
          exact ⟨ru8 (by rw [HT.out]; unfold stampL; rw [if_neg (by omega)]; rfl), rfl⟩
  . have te : ((Pl.byt s 63 : Int) != (Pl.byt s 0 : Int)) = true := by simp; omega
    have HE := hideF he
    clear he
    go_enter Tryz.func120, Tryz.ntmps120
    go_wp2_with fail
    go_loopw [12] (fun i wr => i = .int .i64 0 /\ w = wr) (fun i _ => 1 - (intOf i).toNat)
    case atStart => exact ⟨rfl, rfl⟩
    case round =>
      obtain ⟨rfl, rfl⟩ := hrel
      go_wp2_with fail
      refine (endOf_at s _ HS.out).mono ?_
      rintro e w1 ⟨rfl, rfl⟩
      go_wp2
      go_ret
      exact ⟨ru8 (by rw [HT.out]; unfold stampL; rw [if_neg (fun h => HE.out h.1)]; rfl), rfl⟩
set_option maxRecDepth 100000 in
set_option maxHeartbeats 1000000 in
theorem findLatest_blank (b g k : Nat) (A B : ByteArray) (w : World) (hk : 2 <= k) (hb : w.cell? ⟨b, 0, none⟩ = some (.int .i64 1)) (h0 : w.cell? ⟨g, 0, none⟩ = some (.string A)) (h1 : w.cell? ⟨g, 1, none⟩ = some (.string B))
    (hA : A.size = 64) (hB : B.size = 64) (sA : 0 = stampL A) (sB : 0 = stampL B) :
    Calls Tryz.prog 92 #[.pointer (some ⟨b, 0, none⟩), .slice (some ⟨g, 0, none⟩) 2 k] w fun e w' => e = .returned (.tuple #[]) /\ ∃ n, w' = w.drewN n := by
  have HA := hideF hA
  have HB := hideF hB
  have HS := hideF sA
  have HT := hideF sB
  clear hA hB sA sB
  go_enter Tryz.func92, Tryz.ntmps92
  go_wp2_with fail
  refine (copyOn_0 b g k _ hk hb).mono ?_
  rintro e w1 ⟨rfl, n1, rfl⟩
  go_wp2_with fail
  refine (stampOf_at g 0 k 0 A _ (by simpa using h0) HA.out HS.out).mono ?_
  rintro e w2 ⟨rfl, rfl⟩
  go_wp2_with fail
  refine (copyOn_1 b g k _ hk (by simpa using hb)).mono ?_
  rintro e w3 ⟨rfl, n3, rfl⟩
  go_wp2_with fail
  refine (stampOf_at g 1 (k - 1) 0 B _ (by simpa using h1) HB.out HT.out).mono ?_
  rintro e w4 ⟨rfl, rfl⟩
  go_wp2
  go_end0
  exact ⟨rfl, _, rfl⟩
end Go.Proofs.YtcpldcojckhapaaGreat
