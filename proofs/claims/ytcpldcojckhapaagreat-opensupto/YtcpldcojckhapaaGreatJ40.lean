/-
  
-/
import Derived.Test.YtcpldcojckhapaaGreatJ39
set_option maxRecDepth 100000
namespace Go.Proofs.YtcpldcojckhapaaGreat
open Go.RowKit
set_option maxRecDepth 100000 in
set_option maxHeartbeats 4000000 in
theorem isConfig_gen (s0 s1 s2 s3 c h u b : Int) (n k : Nat) (ad : Option Addr) (ln : Nat -> Int) (w : World) (hv : Vals w ad n ln) (hn : n <= 9223372036854775807) :
    Calls Tryz.prog 49 #[.agg #[.int .i64 s0, .int .i64 s1, .int .i64 s2, .int .i64 s3, .int .i64 c, .int .i64 h, .int .i64 u, .slice ad n k, .int .i64 b]] w fun e w' => ((CfgOk s0 s1 s2 s3 c h u n ln b /\ e = .returned (.bool true)) ∨ (¬ CfgOk s0 s1 s2 s3 c h u n ln b /\ e = .returned (.bool false))) /\ Below w.heap.size w w' := by
  obtain ⟨W, hW, hWs, hWb, hWg⟩ := cfg_newI w s0 s1 s2 s3 c h u b (.slice ad n k)
  obtain ⟨c0, c1, c2, c3, c4, c5, c6, c7, c8⟩ := cells9 hWg
  have HV := hideF (hv.bel hWb)
  have HB := hideF hWb
  have HSC : Hid (∀ q, q < 4 -> W.cell? ⟨w.heap.size, q, none⟩ = some (.int .i64 (szI s0 s1 s2 s3 q))) := fun q hq => by
    rcases (show q = 0 ∨ q = 1 ∨ q = 2 ∨ q = 3 by omega) with rfl | rfl | rfl | rfl
    . exact c0
    . exact c1
    . exact c2
    . exact c3
  have HG := hideF hWg
  clear hWg hWb hWs hv c0 c1 c2 c3 c4 c5 c6 c7 c8
  go_enter Tryz.func49, Tryz.ntmps49
  go_wp2_with fail
  rw [<- hW]
  clear hW
  go_loopw [3] (fun i wr => ∃ q : Nat, q <= 4 /\ i = .int .i64 (q : Nat) /\ W = wr /\ ∀ j, j < q -> 0 <= szI s0 s1 s2 s3 j /\ szI s0 s1 s2 s3 j <= 60) (fun i _ => 4 - (intOf i).toNat)
  case atStart => exact ⟨0, by omega, rfl, rfl, fun j hj => absurd hj (Nat.not_lt_zero _)⟩
  case round =>
    obtain ⟨q, hq, rfl, rfl, hsz⟩ := hrel
    have HSZ := hideF hsz
    clear hsz
    by_cases hq4 : q < 4
    . have hx := HSC.out q hq4
      have hqI : (q : Int) < 4 := by omega
      obtain ⟨y, hy⟩ : ∃ y, y = szI s0 s1 s2 s3 q := ⟨_, rfl⟩
      rw [<- hy] at hx
      have HY := hideF hy
      clear hy
      by_cases hy0 : y < 0
      . have HYB := hideF hy0
        go_wp2
        go_ret
        exact ⟨.inr ⟨fun hc => by have := hc.sz q hq4; rw [<- HY.out] at this; have := HYB.out; omega, rfl⟩, HB.out⟩
      . have t0 : decide (y < 0) = false := by simp; omega
        by_cases hy6 : (60 : Int) < y
        . have HYB := hideF hy6
          clear hy0
          go_wp2
          go_ret
          exact ⟨.inr ⟨fun hc => by have := hc.sz q hq4; rw [<- HY.out] at this; have := HYB.out; omega, rfl⟩, HB.out⟩
        . have t6 : decide ((60 : Int) < y) = false := by simp; omega
          have HYB : Hid (0 <= y /\ y <= 60) := by show _ /\ _; omega
          clear hy0 hy6
          go_wp2
          go_roundw
          case rel => exact ⟨q + 1, by omega, by go_num, trivial, fun j hj => by
            rcases Nat.lt_or_ge j q with h | h
            . exact HSZ.out j h
            . obtain rfl : j = q := by omega
              rw [<- HY.out]; exact HYB.out⟩
          case measure => simp [intOf]; omega
    . obtain rfl : q = 4 := by omega
      obtain ⟨c0, c1, c2, c3, c4, c5, c6, c7, c8⟩ := cells9 HG.out
      go_wp2_with fail
      clear hq hq4
      go_loopw [4] (fun i wr => ∃ q : Nat, q <= n /\ i = .int .i64 (q : Nat) /\ W = wr /\ ∀ j, j < q -> ln j = 0 ∨ ln j = 1) (fun i _ => n - (intOf i).toNat)
      case atStart => exact ⟨0, by omega, rfl, rfl, fun j hj => absurd hj (Nat.not_lt_zero _)⟩
      case round =>
        obtain ⟨q, hq, rfl, rfl, hln⟩ := hrel
        have HLN := hideF hln
        clear hln
        by_cases hqn : q < n
        . obtain ⟨g, o, rfl, hg, hcell, _, _⟩ := HV.out q hqn
          obtain ⟨y, hy⟩ : ∃ y, y = ln q := ⟨_, rfl⟩
          rw [<- hy] at hcell
          have HY := hideF hy
          clear hy
          by_cases h0 : y = 0
          . subst h0
            go_wp2_with fail
            go_roundw
            case rel => exact ⟨q + 1, by omega, by go_num, trivial, fun j hj => by
              rcases Nat.lt_or_ge j q with h | h
              . exact HLN.out j h
              . obtain rfl : j = q := by omega
                exact .inl HY.out.symm⟩
            case measure => simp [intOf]; omega
          . by_cases h1 : y = 1
            . subst h1
              clear h0
              go_wp2_with fail
              go_roundw
              case rel => exact ⟨q + 1, by omega, by go_num, trivial, fun j hj => by
                rcases Nat.lt_or_ge j q with h | h
                . exact HLN.out j h
                . obtain rfl : j = q := by omega
                  exact .inr HY.out.symm⟩
              case measure => simp [intOf]; omega
            . have t0 : (y != 0) = true := by simp [h0]
              have t1 : (y != 1) = true := by simp [h1]
              have HNO : Hid (¬ (ln q = 0 ∨ ln q = 1)) := by show ¬ _; rw [<- HY.out]; omega
              clear h0 h1
              go_wp2
              go_ret
              exact ⟨.inr ⟨fun hc => HNO.out (hc.ln q hqn), rfl⟩, HB.out⟩
        . obtain rfl : q = n := by omega
          have HIF : Hid (CfgOk s0 s1 s2 s3 c h u q ln b ↔ (0 <= c /\ c <= s0) /\ (0 <= h /\ h <= s2) /\ (1 <= u /\ u <= 247) /\ (1 <= q /\ q <= 4) /\ (1 <= b /\ b <= 8)) := ⟨fun hc => ⟨hc.c, hc.h, hc.u, hc.n, hc.b⟩, fun hc => ⟨HSZ.out, HLN.out, hc.1, hc.2.1, hc.2.2.1, hc.2.2.2.1, hc.2.2.2.2⟩⟩
          clear HSZ HLN hq hqn
          by_cases j1 : (0 : Int) <= c
          . have Hj1 := hideF j1
            have tj1 : decide ((0 : Int) <= c) = true := decide_eq_true j1
            by_cases j2 : c <= s0
            . have Hj2 := hideF j2
              have tj2 : decide (c <= s0) = true := decide_eq_true j2
              by_cases j3 : (0 : Int) <= h
              . have Hj3 := hideF j3
                have tj3 : decide ((0 : Int) <= h) = true := decide_eq_true j3
                by_cases j4 : h <= s2
                . have Hj4 := hideF j4
                  have tj4 : decide (h <= s2) = true := decide_eq_true j4
                  by_cases j5 : (0 : Int) < u
                  . have Hj5 := hideF j5
                    have tj5 : decide ((0 : Int) < u) = true := decide_eq_true j5
                    by_cases j6 : u < 248
                    . have Hj6 := hideF j6
                      have tj6 : decide (u < 248) = true := decide_eq_true j6
                      by_cases j7 : (0 : Int) < (q : Int)
                      . have Hj7 := hideF j7
                        have tj7 : decide ((0 : Int) < (q : Int)) = true := decide_eq_true j7
                        by_cases j8 : (q : Int) < 5
                        . have Hj8 := hideF j8
                          have tj8 : decide ((q : Int) < 5) = true := decide_eq_true j8
                          by_cases j9 : (0 : Int) < b
                          . have Hj9 := hideF j9
                            have tj9 : decide ((0 : Int) < b) = true := decide_eq_true j9
                            go_wp2
                            go_ret
                            refine ⟨?_, HB.out⟩
                            by_cases j10 : b < 9
                            . exact .inl ⟨HIF.out.2 (by have := Hj1.out; have := Hj2.out; have := Hj3.out; have := Hj4.out; have := Hj5.out; have := Hj6.out; have := Hj7.out; have := Hj8.out; have := Hj9.out; omega), by show Ending.returned (.bool (decide (b < 9))) = _; rw [decide_eq_true j10]⟩
                            . exact .inr ⟨fun hc => by have h1 := HIF.out.1 hc; omega, by show Ending.returned (.bool (decide (b < 9))) = _; rw [decide_eq_false j10]⟩
                          . have Hj9 := hideF j9
                            have tj9 : decide ((0 : Int) < b) = false := decide_eq_false j9
                            clear j9
                            go_wp2
                            all_goals first | (exfalso; have := Hj9.out; omega) | skip
                            go_ret
                            exact ⟨.inr ⟨fun hc => by have h1 := HIF.out.1 hc; have := Hj9.out; omega, rfl⟩, HB.out⟩
                        . have Hj8 := hideF j8
                          have tj8 : decide ((q : Int) < 5) = false := decide_eq_false j8
                          clear j8
                          go_wp2
                          all_goals first | (exfalso; have := Hj8.out; omega) | skip
                          go_ret
                          exact ⟨.inr ⟨fun hc => by have h1 := HIF.out.1 hc; have := Hj8.out; omega, rfl⟩, HB.out⟩
                      . have Hj7 := hideF j7
                        have tj7 : decide ((0 : Int) < (q : Int)) = false := decide_eq_false j7
                        clear j7
                        go_wp2
                        all_goals first | (exfalso; have := Hj7.out; omega) | skip
                        go_ret
                        exact ⟨.inr ⟨fun hc => by have h1 := HIF.out.1 hc; have := Hj7.out; omega, rfl⟩, HB.out⟩
                    . have Hj6 := hideF j6
                      have tj6 : decide (u < 248) = false := decide_eq_false j6
                      clear j6
                      go_wp2
                      all_goals first | (exfalso; have := Hj6.out; omega) | skip
                      go_ret
                      exact ⟨.inr ⟨fun hc => by have h1 := HIF.out.1 hc; have := Hj6.out; omega, rfl⟩, HB.out⟩
                  . have Hj5 := hideF j5
                    have tj5 : decide ((0 : Int) < u) = false := decide_eq_false j5
                    clear j5
                    go_wp2
                    all_goals first | (exfalso; have := Hj5.out; omega) | skip
                    go_ret
                    exact ⟨.inr ⟨fun hc => by have h1 := HIF.out.1 hc; have := Hj5.out; omega, rfl⟩, HB.out⟩
                . have Hj4 := hideF j4
                  have tj4 : decide (h <= s2) = false := decide_eq_false j4
                  clear j4
                  go_wp2
                  all_goals first | (exfalso; have := Hj4.out; omega) | skip
                  go_ret
                  exact ⟨.inr ⟨fun hc => by have h1 := HIF.out.1 hc; have := Hj4.out; omega, rfl⟩, HB.out⟩
              . have Hj3 := hideF j3
                have tj3 : decide ((0 : Int) <= h) = false := decide_eq_false j3
                clear j3
                go_wp2
                all_goals first | (exfalso; have := Hj3.out; omega) | skip
                go_ret
                exact ⟨.inr ⟨fun hc => by have h1 := HIF.out.1 hc; have := Hj3.out; omega, rfl⟩, HB.out⟩
            . have Hj2 := hideF j2
              have tj2 : decide (c <= s0) = false := decide_eq_false j2
              clear j2
              go_wp2
              all_goals first | (exfalso; have := Hj2.out; omega) | skip
              go_ret
              exact ⟨.inr ⟨fun hc => by have h1 := HIF.out.1 hc; have := Hj2.out; omega, rfl⟩, HB.out⟩
          . have Hj1 := hideF j1
            have tj1 : decide ((0 : Int) <= c) = false := decide_eq_false j1
            clear j1
            go_wp2
            all_goals first | (exfalso; have := Hj1.out; omega) | skip
            go_ret
            exact ⟨.inr ⟨fun hc => by have h1 := HIF.out.1 hc; have := Hj1.out; omega, rfl⟩, HB.out⟩
set_option maxRecDepth 100000 in
set_option maxHeartbeats 1000000 in
theorem needs_gen (s0 s1 s2 s3 c h u b : Int) (n k : Nat) (ad : Option Addr) (ln : Nat -> Int) (w : World) (hv : Vals w ad n ln) (hn : n <= 9223372036854775807) :
    Calls Tryz.prog 12 #[.agg #[.int .i64 s0, .int .i64 s1, .int .i64 s2, .int .i64 s3, .int .i64 c, .int .i64 h, .int .i64 u, .slice ad n k, .int .i64 b]] w fun e w' => ((¬ CfgOk s0 s1 s2 s3 c h u n ln b /\ e = .returned (.tuple #[.int .i64 0, .bool true])) ∨ (CfgOk s0 s1 s2 s3 c h u n ln b /\ e = .returned (.tuple #[.int .i64 (2 * max 1 (((c.toNat + 7) / 8 + 2 * h.toNat + 61) / 62) : Nat), .bool true]))) /\ Below w.heap.size w w' := by
  obtain ⟨W, hW, hWs, hWb, hWg⟩ := cfg_newI w s0 s1 s2 s3 c h u b (.slice ad n k)
  obtain ⟨c0, c1, c2, c3, c4, c5, c6, c7, c8⟩ := cells9 hWg
  have HV := hideF (hv.bel hWb)
  have HN := hideF (need_gen s0 s1 s2 s3 c h u b n k ad ln W HV.out hn)
  have HB := hideF hWb
  have HG := hideF hWg
  clear hWg hWb hv
  go_enter Tryz.func12, Tryz.ntmps12
  go_wp2_with fail
  rw [<- hW]
  clear hW
  refine HN.out.mono ?_
  rintro e w1 ⟨hr, hb1⟩
  have HB1 := hideF (bel_then HB.out hb1)
  have hs1 := hb1.size
  have hg1 := (hb1.block w.heap.size (by omega)).trans HG.out
  have HV1 := hideF (HV.out.bel hb1)
  clear c0 c1 c2 c3 c4 c5 c6 c7 c8 hb1
  obtain ⟨c0, c1, c2, c3, c4, c5, c6, c7, c8⟩ := cells9 hg1
  clear hg1
  rcases hr with ⟨hno, rfl⟩ | ⟨hyes, rfl⟩
  . go_wp2_with fail
    refine (isConfig_gen s0 s1 s2 s3 c h u b n k ad ln w1 HV1.out hn).mono ?_
    rintro e w2 ⟨hr, hb2⟩
    obtain rfl : e = .returned (.bool false) := by
      rcases hr with ⟨hy, _⟩ | ⟨_, he⟩
      . exact absurd hy hno
      . exact he
    have HB2 := hideF (bel_then HB1.out hb2)
    have HNO := hideF hno
    clear hr hb2 hno
    go_wp2
    go_ret2
    exact ⟨.inl ⟨HNO.out, rfl⟩, HB2.out⟩
  . obtain ⟨z, hz⟩ : ∃ z, z = 2 * max 1 (((c.toNat + 7) / 8 + 2 * h.toNat + 61) / 62) := ⟨_, rfl⟩
    have hz1 : 1 <= z := by omega
    have hz64 : z <= 64 := by
      have q0 := hyes.sz 0 (by omega)
      have q2 := hyes.sz 2 (by omega)
      have e0 : szI s0 s1 s2 s3 0 = s0 := rfl
      have e2 : szI s0 s1 s2 s3 2 = s2 := rfl
      have := hyes.c
      have := hyes.h
      omega
    rw [<- hz]
    have HZ := hideF hz
    have HYES := hideF hyes
    clear hz hyes
    go_wp2_with fail
    refine (isConfig_gen s0 s1 s2 s3 c h u b n k ad ln w1 HV1.out hn).mono ?_
    rintro e w2 ⟨hr, hb2⟩
    obtain rfl : e = .returned (.bool true) := by
      rcases hr with ⟨_, he⟩ | ⟨hno, _⟩
      . exact he
      . exact absurd HYES.out hno
    have HB2 := hideF (bel_then HB1.out hb2)
    clear hr hb2
    go_wp2
    go_ret2
    exact ⟨.inr ⟨HYES.out, by show Ending.returned (.tuple #[.int .i64 (z : Nat), .bool (decide ((z : Int) <= 64))]) = _; rw [decide_eq_true (show (z : Int) <= 64 by omega), <- HZ.out]⟩, HB2.out⟩
end Go.Proofs.YtcpldcojckhapaaGreat

set_option maxRecDepth 100000
namespace Go.Proofs.YtcpldcojckhapaaGreat
open Go.RowKit
def BadDisk (nd need : Nat) (f : Nat -> ByteArray) : Prop := nd < need ∨ 64 < nd ∨ ∃ j, j < nd /\ (f j).size ≠ 64
set_option maxRecDepth 100000 in
set_option maxHeartbeats 1000000 in
theorem fits_no (nd m g k : Nat) (f : Nat -> ByteArray) (w : World) (hn : nd <= 1900000) (_hm : m <= 1000) (hF : SecIn w g nd f) (hb : BadDisk nd m f) :
    Calls Tryz.prog 61 #[.slice (some ⟨g, 0, none⟩) nd k, .int .i64 (m : Nat)] w fun e w' => e = .returned (.bool false) /\ w' = w := by
  by_cases hin : m <= nd /\ nd <= 64
  . obtain ⟨j0, hj0, hjs⟩ : ∃ j, j < nd /\ (f j).size ≠ 64 := by
      rcases hb with h | h | h
      . omega
      . omega
      . exact h
    have HF := hideF hF
    have HJ := hideF hjs
    clear hF hb hjs
    go_enter Tryz.func61, Tryz.ntmps61
    go_wp2_with fail
    refine (within_yes _ _ _ _ (by omega) (by omega)).mono ?_
    rintro e w1 ⟨rfl, rfl⟩
    go_wp2_with fail
    go_loopw [14] (fun i wr => ∃ q : Nat, q <= j0 /\ i = .int .i64 (q : Nat) /\ wr = w1) (fun i _ => nd - (intOf i).toNat)
    case atStart => exact ⟨0, Nat.zero_le _, rfl, rfl⟩
    case round =>
      obtain ⟨q, hq, rfl, rfl⟩ := hrel
      have hqn : q < nd := by omega
      have hcq := HF.out q hqn
      have hqI : (q : Int) < (nd : Int) := by omega
      by_cases hs : (f q).size = 64
      . have hq2 : q < j0 := by
          rcases Nat.lt_or_ge q j0 with h | h
          . exact h
          . obtain rfl : q = j0 := by omega
            exact absurd hs HJ.out
        have t : (((f q).size : Int) != 64) = false := by simp; omega
        clear hs
        go_wp2_with fail
        go_roundw
        case rel => exact ⟨q + 1, by omega, by go_num, trivial⟩
        case measure => simp [intOf]; omega
      . have t : (((f q).size : Int) != 64) = true := by simp; omega
        clear hs
        go_wp2
        go_ret
        exact ⟨rfl, rfl⟩
  . clear hF hb
    go_enter Tryz.func61, Tryz.ntmps61
    go_wp2_with fail
    refine (within_no _ _ _ _ (by omega)).mono ?_
    rintro e w1 ⟨rfl, rfl⟩
    go_wp2
    go_ret
    exact ⟨rfl, rfl⟩
set_option maxRecDepth 100000 in
set_option maxHeartbeats 1000000 in
theorem open_noConfig (s0 s1 s2 s3 c h u b : Int) (n k nd k2 : Nat) (ad a2 : Option Addr) (ln : Nat -> Int) (w : World) (hv : Vals w ad n ln) (hn : n <= 9223372036854775807) (hno : ¬ CfgOk s0 s1 s2 s3 c h u n ln b) :
    Calls Tryz.prog 25 #[.agg #[.int .i64 s0, .int .i64 s1, .int .i64 s2, .int .i64 s3, .int .i64 c, .int .i64 h, .int .i64 u, .slice ad n k, .int .i64 b], .slice a2 nd k2] w fun e w' => e = .returned (.tuple #[.pointer none, .slice none 0 0, .int .i64 2]) /\ Below w.heap.size w w' := by
  obtain ⟨W, hW, hWs, hWb, hWg⟩ := cfg_newI w s0 s1 s2 s3 c h u b (.slice ad n k)
  obtain ⟨c0, c1, c2, c3, c4, c5, c6, c7, c8⟩ := cells9 hWg
  have HN := hideF (need_gen s0 s1 s2 s3 c h u b n k ad ln W (hv.bel hWb) hn)
  have HB := hideF hWb
  have HNO := hideF hno
  clear hWg hWb hv hno
  go_enter Tryz.func25, Tryz.ntmps25
  go_wp2_with fail
  rw [<- hW]
  clear hW
  refine HN.out.mono ?_
  rintro e w1 ⟨hr, hb1⟩
  obtain rfl : e = .returned (.tuple #[.int .i64 0, .int .i64 2]) := by
    rcases hr with ⟨_, he⟩ | ⟨hy, _⟩
    . exact he
    . exact absurd hy HNO.out
  have HB1 := hideF (bel_then HB.out hb1)
  clear hr hb1 c0 c1 c2 c3 c4 c5 c6 c7 c8
  go_wp2
  refine bodyPost_ret (v := .tuple #[.pointer none, .slice none 0 0, .int .i64 2]) (by simp [results, Tryz.results25, go_sem]) rfl ⟨rfl, HB1.out⟩
set_option maxRecDepth 100000 in
set_option maxHeartbeats 1000000 in
theorem open_noDisk (s0 s1 s2 s3 c h u b : Int) (n k nd k2 g2 need : Nat) (ad : Option Addr) (ln : Nat -> Int) (f : Nat -> ByteArray) (w : World) (hv : Vals w ad n ln) (hn : n <= 9223372036854775807) (hyes : CfgOk s0 s1 s2 s3 c h u n ln b) (hneed : need = 2 * max 1 (((c.toNat + 7) / 8 + 2 * h.toNat + 61) / 62)) (hnl : need <= 1000) (hg2 : g2 < w.heap.size) (hnd : nd <= 1900000) (hF : SecIn w g2 nd f) (hbad : BadDisk nd need f) :
    Calls Tryz.prog 25 #[.agg #[.int .i64 s0, .int .i64 s1, .int .i64 s2, .int .i64 s3, .int .i64 c, .int .i64 h, .int .i64 u, .slice ad n k, .int .i64 b], .slice (some ⟨g2, 0, none⟩) nd k2] w fun e w' => e = .returned (.tuple #[.pointer none, .slice none 0 0, .int .i64 3]) /\ Below w.heap.size w w' := by
  obtain ⟨W, hW, hWs, hWb, hWg⟩ := cfg_newI w s0 s1 s2 s3 c h u b (.slice ad n k)
  obtain ⟨c0, c1, c2, c3, c4, c5, c6, c7, c8⟩ := cells9 hWg
  have HN := hideF (need_gen s0 s1 s2 s3 c h u b n k ad ln W (hv.bel hWb) hn)
  rw [<- hneed] at HN
  have HB := hideF hWb
  have HYES := hideF hyes
  have HF := hideF (hF.bel hg2 hWb)
  have HBAD := hideF hbad
  clear hWg hWb hv hyes hF hbad hneed
  go_enter Tryz.func25, Tryz.ntmps25
  go_wp2_with fail
  rw [<- hW]
  clear hW
  refine HN.out.mono ?_
  rintro e w1 ⟨hr, hb1⟩
  obtain rfl : e = .returned (.tuple #[.int .i64 (need : Nat), .int .i64 0]) := by
    rcases hr with ⟨hno, _⟩ | ⟨_, he⟩
    . exact absurd HYES.out hno
    . exact he
  have HB1 := hideF (bel_then HB.out hb1)
  have HF1 := hideF (HF.out.bel (by omega) hb1)
  clear hr hb1 c0 c1 c2 c3 c4 c5 c6 c7 c8
  go_wp2_with fail
  refine (fits_no nd need g2 k2 f w1 hnd hnl HF1.out HBAD.out).mono ?_
  rintro e w2 ⟨rfl, rfl⟩
  go_wp2
  refine bodyPost_ret (v := .tuple #[.pointer none, .slice none 0 0, .int .i64 3]) (by simp [results, Tryz.results25, go_sem]) rfl ⟨rfl, HB1.out⟩
end Go.Proofs.YtcpldcojckhapaaGreat
