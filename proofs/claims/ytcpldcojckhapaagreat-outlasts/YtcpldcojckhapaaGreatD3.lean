/-
  Package store over a disk of two sectors: the stamps, the latest copy, what Open answers of a blank disk.
-/
import Derived.Test.YtcpldcojckhapaaGreatD2
set_option maxRecDepth 100000
namespace Go.Proofs.YtcpldcojckhapaaGreat
open Go.RowKit

set_option maxRecDepth 100000 in
set_option maxHeartbeats 1000000 in
theorem fits_at (n m g k : Nat) (S : Nat → ByteArray) (w : World) (h1 : m ≤ n) (h2 : n ≤ 64) (hc : ∀ j, j < n → w.cell? ⟨g, j, none⟩ = some (.string (S j))) (hs : ∀ j, j < n → (S j).size = 64) :
    Calls Tryz.prog 61 #[.slice (some ⟨g, 0, none⟩) n k, .int .i64 (m : Nat)] w fun e w' => e = .returned (.bool true) ∧ w' = w := by
  have HC := hideF hc
  have HS := hideF hs
  clear hc hs
  go_enter Tryz.func61, Tryz.ntmps61
  go_wp2_with fail
  refine (within_at _ _ 64 true ?_ _).mono ?_
  · simp; omega
  rintro e w1 ⟨rfl, rfl⟩
  go_wp2_with fail
  go_loopw [14] (fun i wr => ∃ q : Nat, q ≤ n ∧ i = .int .i64 (q : Nat) ∧ w1 = wr) (fun i _ => n - (intOf i).toNat)
  case atStart => exact ⟨0, by omega, rfl, rfl⟩
  case round =>
    obtain ⟨q, hq, rfl, rfl⟩ := hrel
    by_cases hqn : q < n
    · have hcq := HC.out q hqn
      have hsq : ((S q).size : Int) = 64 := by have := HS.out q hqn; omega
      go_wp2_with fail
      go_roundw
      case rel => exact ⟨q + 1, by omega, by go_num, trivial⟩
      case measure => simp [intOf]; omega
    · go_wp2
      go_ret
      exact ⟨rfl, rfl⟩

set_option maxRecDepth 100000 in
set_option maxHeartbeats 1000000 in
theorem copyOn_0 (b g k : Nat) (w : World) (hk : 2 ≤ k) (hb : w.cell? ⟨b, 0, none⟩ = some (.int .i64 1)) :
    Calls Tryz.prog 95 #[.pointer (some ⟨b, 0, none⟩), .slice (some ⟨g, 0, none⟩) 2 k, .int .i64 0] w fun e w' => e = .returned (.slice (some ⟨g, 0, none⟩) 1 k) ∧ ∃ n, w' = w.drewN n := by
  go_enter Tryz.func95, Tryz.ntmps95
  go_wp2
  go_quiet (fail)
  go_wp2
  go_ret
  exact ⟨rfl, _, rfl⟩

set_option maxRecDepth 100000 in
set_option maxHeartbeats 1000000 in
theorem copyOn_1 (b g k : Nat) (w : World) (hk : 2 ≤ k) (hb : w.cell? ⟨b, 0, none⟩ = some (.int .i64 1)) :
    Calls Tryz.prog 95 #[.pointer (some ⟨b, 0, none⟩), .slice (some ⟨g, 0, none⟩) 2 k, .int .i64 1] w fun e w' => e = .returned (.slice (some ⟨g, 1, none⟩) 1 (k - 1)) ∧ ∃ n, w' = w.drewN n := by
  go_enter Tryz.func95, Tryz.ntmps95
  go_wp2
  go_quiet (fail)
  go_wp2
  go_ret
  exact ⟨rfl, _, rfl⟩

/-- The stamp of a copy of one sector. -/
def stampL (s : ByteArray) : Nat := if Pl.byt s 63 = Pl.byt s 0 ∧ Pl.byt s 0 ≤ 3 then Pl.byt s 0 else 0

set_option maxRecDepth 100000 in
set_option maxHeartbeats 1000000 in
theorem stampOf_at (g o k st : Nat) (s : ByteArray) (w : World) (hc : w.cell? ⟨g, o, none⟩ = some (.string s)) (hs : s.size = 64) (hst : st = stampL s) :
    Calls Tryz.prog 120 #[.slice (some ⟨g, o, none⟩) 1 k] w fun e w' => e = .returned (.int .u8 (st : Nat)) ∧ w' = w := by
  have gb := Pl.get_byt s
  have hl : 0 < s.size := by omega
  have b0 := Pl.byt_lt s 0
  have b1 := Pl.byt_lt s 63
  have HS := hideF hs
  have HT := hideF hst
  clear hs hst
  by_cases he : Pl.byt s 63 = Pl.byt s 0
  · have te : ((Pl.byt s 63 : Int) != (Pl.byt s 0 : Int)) = false := by simp; omega
    have HE := hideF he
    clear he
    go_enter Tryz.func120, Tryz.ntmps120
    go_wp2_with fail
    go_loopw [12] (fun i wr => ∃ q : Nat, q ≤ 1 ∧ i = .int .i64 (q : Nat) ∧ w = wr) (fun i _ => 1 - (intOf i).toNat)
    case atStart => exact ⟨0, by omega, rfl, rfl⟩
    case round =>
      obtain ⟨q, hq, rfl, rfl⟩ := hrel
      by_cases hqn : q < 1
      · obtain rfl : q = 0 := by omega
        go_wp2_with fail
        refine (endOf_at s _ HS.out).mono ?_
        rintro e w1 ⟨rfl, rfl⟩
        go_wp2_with fail
        go_roundw
        case rel => exact ⟨1, by omega, by go_num, trivial⟩
        case measure => simp [intOf]
      · by_cases h3 : Pl.byt s 0 ≤ 3
        · have t3 : decide ((3 : Int) < (Pl.byt s 0 : Int)) = false := by simp; omega
          go_wp2
          go_ret
          exact ⟨ru8 (by rw [HT.out]; unfold stampL; rw [if_pos ⟨HE.out, h3⟩]), rfl⟩
        · have t3 : (3 : Int) < (Pl.byt s 0 : Int) := by omega
          go_wp2
          go_ret
          exact ⟨ru8 (by rw [HT.out]; unfold stampL; rw [if_neg (by omega)]; rfl), rfl⟩
  · have te : ((Pl.byt s 63 : Int) != (Pl.byt s 0 : Int)) = true := by simp; omega
    have HE := hideF he
    clear he
    go_enter Tryz.func120, Tryz.ntmps120
    go_wp2_with fail
    go_loopw [12] (fun i wr => i = .int .i64 0 ∧ w = wr) (fun i _ => 1 - (intOf i).toNat)
    case atStart => exact ⟨rfl, rfl⟩
    case round =>
      obtain ⟨rfl, rfl⟩ := hrel
      go_wp2_with fail
      refine (endOf_at s _ HS.out).mono ?_
      rintro e w1 ⟨rfl, rfl⟩
      go_wp2
      go_ret
      exact ⟨ru8 (by rw [HT.out]; unfold stampL; rw [if_neg (fun h => HE.out h.1)]; rfl), rfl⟩

set_option maxRecDepth 100000 in
set_option maxHeartbeats 1000000 in
theorem findLatest_blank (b g k : Nat) (A B : ByteArray) (w : World) (hk : 2 ≤ k) (hb : w.cell? ⟨b, 0, none⟩ = some (.int .i64 1)) (h0 : w.cell? ⟨g, 0, none⟩ = some (.string A)) (h1 : w.cell? ⟨g, 1, none⟩ = some (.string B))
    (hA : A.size = 64) (hB : B.size = 64) (sA : 0 = stampL A) (sB : 0 = stampL B) :
    Calls Tryz.prog 92 #[.pointer (some ⟨b, 0, none⟩), .slice (some ⟨g, 0, none⟩) 2 k] w fun e w' => e = .returned (.tuple #[]) ∧ ∃ n, w' = w.drewN n := by
  have HA := hideF hA
  have HB := hideF hB
  have HS := hideF sA
  have HT := hideF sB
  clear hA hB sA sB
  go_enter Tryz.func92, Tryz.ntmps92
  go_wp2_with fail
  refine (copyOn_0 b g k _ hk hb).mono ?_
  rintro e w1 ⟨rfl, n1, rfl⟩
  go_wp2_with fail
  refine (stampOf_at g 0 k 0 A _ (by simpa using h0) HA.out HS.out).mono ?_
  rintro e w2 ⟨rfl, rfl⟩
  go_wp2_with fail
  refine (copyOn_1 b g k _ hk (by simpa using hb)).mono ?_
  rintro e w3 ⟨rfl, n3, rfl⟩
  go_wp2_with fail
  refine (stampOf_at g 1 (k - 1) 0 B _ (by simpa using h1) HB.out HT.out).mono ?_
  rintro e w4 ⟨rfl, rfl⟩
  go_wp2
  go_end0
  exact ⟨rfl, _, rfl⟩
end Go.Proofs.YtcpldcojckhapaaGreat
