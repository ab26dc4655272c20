/-
  Package pdu: the requests that write several entries, that mask and that exchange: what they answer.
  Small functions of packages pack, store and latch: what they answer.
  latch.mayBe, latch.Need, latch.fits: what they answer of a config that may be and of a disk that fits.
  Package latchkeep's small functions: pick and two: what they answer.
-/
import Derived.Test.YtcpldcojckhapaaGreatJ3
import Derived.Test.YtcpldcojckhapaaGreatJ2
import Derived.Laws.IdiomStrings
set_option maxRecDepth 100000
namespace Go.Proofs.YtcpldcojckhapaaGreat
open Go.RowKit

set_option maxHeartbeats 400000 in
theorem bitsSize_any (n : Nat) (w : World) (h : n ≤ 100000) :
    Calls Tryz.prog 97 #[.int .i64 (n : Nat)] w fun e w' => ∃ b : Nat, e = .returned (.int .i64 (b : Nat)) ∧ b = (n + 7) / 8 ∧ w' = w := by
  go_enter Tryz.func97, Tryz.ntmps97
  go_wp2
  go_ret
  exact ⟨(n + 7) / 8, rint (by first | omega | (rw [Int.tdiv_eq_ediv_of_nonneg (by omega)]; omega)), rfl, rfl⟩

set_option maxRecDepth 100000 in
set_option maxHeartbeats 2000000 in
theorem settingCoils_any (s : ByteArray) (w : World) (hs : s.size ≤ 100000) :
    Calls Tryz.prog 141 #[.string s] w fun e w' => PartIs w w' e (4 < s.size ∧ (1 ≤ Pl.wd s 2 ∧ Pl.wd s 2 ≤ 1968) ∧ s.size - 5 = Pl.byt s 4 ∧ s.size - 5 = (Pl.wd s 2 + 7) / 8) ⟨0, 0, 0, 0, 0, Pl.wd s 0, Pl.wd s 2, Pl.bitsL s 5 (Pl.wd s 2)⟩ := by
  go_enter Tryz.func141, Tryz.ntmps141
  go_wp2_with fail
  refine (sized_any s 1968 _ (by omega) (by omega)).mono ?_
  rintro e w1 ⟨r, hw, n1, rfl⟩
  rcases hw with ⟨hlen, rfl, rfl⟩ | ⟨hlen, rfl, hr0⟩
  ·
    go_wp2
    refine bodyPost_ret (v := .tuple #[.agg #[.int .i64 0, .int .i64 0, .int .i64 0, .int .i64 0, .int .i64 0, .int .i64 0, .int .i64 0, .slice none 0 0], .bool false]) (by simp [results, Tryz.results141, go_sem]) rfl
      ⟨Pl.noShp, .slice none 0 0, false, rfl, World.ownsRow_nil _ _ _ _, by simp; omega, by simp, by simp [Pl.noShp], bel8 (below_drewN (bel_alloc (Below.refl _ _) _) _) (Nat.le_refl _) _ _ _ _ _ _ _ _⟩
  · have hr := hideF hr0
    clear hr0
    have hwl := Pl.wd_lt s 2
    have hsz : (s.extract 5 s.size).size = s.size - 5 := by simp
    obtain ⟨D, hD⟩ : ∃ D, D = s.extract 5 s.size := ⟨_, rfl⟩
    rw [← hD] at hsz ⊢
    have HD := hideF hD
    clear hD
    have HSZ := hideF hsz
    obtain ⟨K, hK⟩ : ∃ K, K = Pl.wd s 2 := ⟨_, rfl⟩
    rw [← hK] at hwl ⊢
    have HK := hideF hK
    clear hK
    have hDl : D.size ≤ 100000 := by omega
    clear hsz
    cases r with
    | false =>
      go_wp2
      refine bodyPost_ret (v := .tuple #[.agg #[.int .i64 0, .int .i64 0, .int .i64 0, .int .i64 0, .int .i64 0, .int .i64 0, .int .i64 0, .slice none 0 0], .bool false]) (by simp [results, Tryz.results141, go_sem]) rfl
        ⟨Pl.noShp, .slice none 0 0, false, rfl, World.ownsRow_nil _ _ _ _, ?_, by simp, by simp [Pl.noShp], bel8 (below_drewN (bel_alloc (Below.refl _ _) _) _) (Nat.le_refl _) _ _ _ _ _ _ _ _⟩
      have := hr.out
      simp at this ⊢
      intro _ h1 h2 h3
      omega
    | true =>
      have hk := hr.out.1 rfl
      have HK0 := hideF hk
      clear hk
      go_wp2_with fail
      refine (bitsSize_any K _ (by omega)).mono ?_
      rintro e w1' ⟨b, rfl, hb0, rfl⟩
      have HBB := hideF hb0
      have hbl : b ≤ 100000 := by omega
      clear hb0
      have hk := HK0.out
      clear HK0
      by_cases hd : D.size = b
      · have td : ((D.size : Int) != (b : Int)) = false := by simp; omega
        have hd' := HBB.out
        rw [← HK.out] at hk
        have hdk : D.size = (K + 7) / 8 := by omega
        have HDK := hideF hdk
        clear hd' hdk
        have hk1 := hk.1
        have hk2 := hideF hk.2
        clear hk
        obtain ⟨X, hX⟩ : ∃ X, X = (w.alloc (.cells #[.int .i64 0, .int .i64 0, .int .i64 0, .int .i64 0, .int .i64 0, .int .i64 0, .int .i64 0, .slice none 0 0] 144)).drewN n1 := ⟨_, rfl⟩
        have hXb : Below w.heap.size w X := by rw [hX]; exact below_drewN (bel_alloc (Below.refl _ _) _) _
        have hXs : X.heap.size = w.heap.size + 1 := by rw [hX]; simp
        have hXg : X.heap[w.heap.size]? = some (.cells #[.int .i64 0, .int .i64 0, .int .i64 0, .int .i64 0, .int .i64 0, .int .i64 0, .int .i64 0, .slice none 0 0] 144 (0, 0)) := by rw [hX]; exact heap_alloc_new w _
        rw [← hX]
        clear hX
        go_wp2_with fail
        refine (pbits_any D K X (by have := HDK.out; omega) (by omega)).mono ?_
        rintro e w2 ⟨v, rfl, hown, hb2⟩
        rw [hXs] at hown
        have hl := hown.1
        obtain ⟨ad, c, rfl, _⟩ := own_view hown
        go_wp2_with fail
        refine (setting_any 0 (Pl.wd s 0) K ad c w2 (by omega)).mono ?_
        rintro e w3 ⟨rfl, hb3⟩
        have hYg := (hb3.block w.heap.size (by have := hb2.size; omega)).trans ((hb2.block w.heap.size (by omega)).trans hXg)
        have hbw : Below w.heap.size w w3 := bel_then (bel_then hXb hb2) hb3
        have how := ownsRow_below hown hb3
        obtain ⟨hz, c0, c1, c2, c3, c4, c5, c6, c7⟩ := cells8 hYg
        clear hb3 hb2 hown hXb hXg hYg
        go_wp2
        refine bodyPost_ret (v := .tuple #[.agg #[.int .i64 0, .int .i64 0, .int .i64 0, .int .i64 0, .int .i64 0, .int .i64 (Pl.wd s 0 : Nat), .int .i64 (K : Nat), .slice ad K c], .bool true]) (by simp [results, Tryz.results141, go_sem, c0, c1, c2, c3, c4, c5, c6, c7]) rfl
          ⟨⟨0, 0, 0, 0, 0, Pl.wd s 0, K, Pl.bitsL D 0 K⟩, _, true, rfl, by rw [Pl.bitsL_len]; exact own8 how (Nat.le_refl _) _ _ _ _ _ _ _ _, ?_, ?_, by rw [Pl.bitsL_len]; omega, bel8 hbw (Nat.le_refl _) _ _ _ _ _ _ _ _⟩
        · have h1 := hk2.out
          have h2 := HSZ.out
          have h3 := HK.out
          have h4 := HDK.out
          simp only [true_iff]
          refine ⟨hlen, ?_, ?_, ?_⟩ <;> omega
        · intro _
          rw [HD.out, Pl.bitsL_suffix, HK.out]
      · have td : ((D.size : Int) != (b : Int)) = true := by simp; omega
        clear hk
        go_wp2
        refine bodyPost_ret (v := .tuple #[.agg #[.int .i64 0, .int .i64 0, .int .i64 0, .int .i64 0, .int .i64 0, .int .i64 0, .int .i64 0, .slice none 0 0], .bool false]) (by simp [results, Tryz.results141, go_sem]) rfl
          ⟨Pl.noShp, .slice none 0 0, false, rfl, World.ownsRow_nil _ _ _ _, ?_, by simp, by simp [Pl.noShp], bel8 (below_drewN (bel_alloc (Below.refl _ _) _) _) (Nat.le_refl _) _ _ _ _ _ _ _ _⟩
        have h2 := HSZ.out
        have h3 := HK.out
        have h8 := HBB.out
        simp
        intro _ h4 h5 h6 h7
        omega

set_option maxRecDepth 100000 in
set_option maxHeartbeats 2000000 in
theorem settingHolders_any (m : Nat) (s : ByteArray) (w : World) (hs : s.size ≤ 100000) (hm : m ≤ 2000) :
    Calls Tryz.prog 142 #[.int .i64 (m : Nat), .string s] w fun e w' => PartIs w w' e (4 < s.size ∧ (1 ≤ Pl.wd s 2 ∧ Pl.wd s 2 ≤ m) ∧ s.size - 5 = Pl.byt s 4 ∧ s.size - 5 = 2 * Pl.wd s 2) ⟨0, 0, 0, 0, 2, Pl.wd s 0, Pl.wd s 2, Pl.wordsL s 5 (Pl.wd s 2)⟩ := by
  go_enter Tryz.func142, Tryz.ntmps142
  go_wp2_with fail
  refine (sized_any s m _ (by omega) (by omega)).mono ?_
  rintro e w1 ⟨r, hw, n1, rfl⟩
  rcases hw with ⟨hlen, rfl, rfl⟩ | ⟨hlen, rfl, hr0⟩
  ·
    go_wp2
    refine bodyPost_ret (v := .tuple #[.agg #[.int .i64 0, .int .i64 0, .int .i64 0, .int .i64 0, .int .i64 0, .int .i64 0, .int .i64 0, .slice none 0 0], .bool false]) (by simp [results, Tryz.results142, go_sem]) rfl
      ⟨Pl.noShp, .slice none 0 0, false, rfl, World.ownsRow_nil _ _ _ _, by simp; omega, by simp, by simp [Pl.noShp], bel8 (below_drewN (bel_alloc (Below.refl _ _) _) _) (Nat.le_refl _) _ _ _ _ _ _ _ _⟩
  · have hr := hideF hr0
    clear hr0
    have hwl := Pl.wd_lt s 2
    have hsz : (s.extract 5 s.size).size = s.size - 5 := by simp
    obtain ⟨D, hD⟩ : ∃ D, D = s.extract 5 s.size := ⟨_, rfl⟩
    rw [← hD] at hsz ⊢
    have HD := hideF hD
    clear hD
    have HSZ := hideF hsz
    obtain ⟨K, hK⟩ : ∃ K, K = Pl.wd s 2 := ⟨_, rfl⟩
    rw [← hK] at hwl ⊢
    have HK := hideF hK
    clear hK
    have hDl : D.size ≤ 100000 := by omega
    clear hsz
    cases r with
    | false =>
      go_wp2
      refine bodyPost_ret (v := .tuple #[.agg #[.int .i64 0, .int .i64 0, .int .i64 0, .int .i64 0, .int .i64 0, .int .i64 0, .int .i64 0, .slice none 0 0], .bool false]) (by simp [results, Tryz.results142, go_sem]) rfl
        ⟨Pl.noShp, .slice none 0 0, false, rfl, World.ownsRow_nil _ _ _ _, ?_, by simp, by simp [Pl.noShp], bel8 (below_drewN (bel_alloc (Below.refl _ _) _) _) (Nat.le_refl _) _ _ _ _ _ _ _ _⟩
      have := hr.out
      simp at this ⊢
      intro _ h1 h2 h3
      omega
    | true =>
      have hk := hr.out.1 rfl
      by_cases hd : D.size = 2 * K
      · have td : ((D.size : Int) != 2 * (K : Int)) = false := by simp; omega
        rw [← HK.out] at hk
        have hk1 := hk.1
        have hk2 := hideF hk.2
        clear hk
        obtain ⟨X, hX⟩ : ∃ X, X = (w.alloc (.cells #[.int .i64 0, .int .i64 0, .int .i64 0, .int .i64 0, .int .i64 0, .int .i64 0, .int .i64 0, .slice none 0 0] 144)).drewN n1 := ⟨_, rfl⟩
        have hXb : Below w.heap.size w X := by rw [hX]; exact below_drewN (bel_alloc (Below.refl _ _) _) _
        have hXs : X.heap.size = w.heap.size + 1 := by rw [hX]; simp
        have hXg : X.heap[w.heap.size]? = some (.cells #[.int .i64 0, .int .i64 0, .int .i64 0, .int .i64 0, .int .i64 0, .int .i64 0, .int .i64 0, .slice none 0 0] 144 (0, 0)) := by rw [hX]; exact heap_alloc_new w _
        rw [← hX]
        clear hX
        go_wp2_with fail
        refine (pwords_any D K X (by omega) (by omega)).mono ?_
        rintro e w2 ⟨v, rfl, hown, hb2⟩
        rw [hXs] at hown
        have hl := hown.1
        obtain ⟨ad, c, rfl, _⟩ := own_view hown
        go_wp2_with fail
        refine (setting_any 2 (Pl.wd s 0) K ad c w2 (by omega)).mono ?_
        rintro e w3 ⟨rfl, hb3⟩
        have hYg := (hb3.block w.heap.size (by have := hb2.size; omega)).trans ((hb2.block w.heap.size (by omega)).trans hXg)
        have hbw : Below w.heap.size w w3 := bel_then (bel_then hXb hb2) hb3
        have how := ownsRow_below hown hb3
        obtain ⟨hz, c0, c1, c2, c3, c4, c5, c6, c7⟩ := cells8 hYg
        clear hb3 hb2 hown hXb hXg hYg
        go_wp2
        refine bodyPost_ret (v := .tuple #[.agg #[.int .i64 0, .int .i64 0, .int .i64 0, .int .i64 0, .int .i64 2, .int .i64 (Pl.wd s 0 : Nat), .int .i64 (K : Nat), .slice ad K c], .bool true]) (by simp [results, Tryz.results142, go_sem, c0, c1, c2, c3, c4, c5, c6, c7]) rfl
          ⟨⟨0, 0, 0, 0, 2, Pl.wd s 0, K, Pl.wordsL D 0 K⟩, _, true, rfl, by rw [Pl.wordsL_len]; exact own8 how (Nat.le_refl _) _ _ _ _ _ _ _ _, ?_, ?_, by rw [Pl.wordsL_len]; omega, bel8 hbw (Nat.le_refl _) _ _ _ _ _ _ _ _⟩
        · have h1 := hk2.out
          have h2 := HSZ.out
          have h3 := HK.out
          simp only [true_iff]
          refine ⟨hlen, ?_, ?_, ?_⟩ <;> omega
        · intro _
          rw [HD.out, Pl.wordsL_suffix, HK.out]
      · have td : ((D.size : Int) != 2 * (K : Int)) = true := by simp; omega
        clear hk
        go_wp2
        refine bodyPost_ret (v := .tuple #[.agg #[.int .i64 0, .int .i64 0, .int .i64 0, .int .i64 0, .int .i64 0, .int .i64 0, .int .i64 0, .slice none 0 0], .bool false]) (by simp [results, Tryz.results142, go_sem]) rfl
          ⟨Pl.noShp, .slice none 0 0, false, rfl, World.ownsRow_nil _ _ _ _, ?_, by simp, by simp [Pl.noShp], bel8 (below_drewN (bel_alloc (Below.refl _ _) _) _) (Nat.le_refl _) _ _ _ _ _ _ _ _⟩
        have h2 := HSZ.out
        have h3 := HK.out
        simp
        intro _ h4 h5 h6 h7
        omega

end Go.Proofs.YtcpldcojckhapaaGreat

set_option maxRecDepth 100000
namespace Go.Proofs.YtcpldcojckhapaaGreat
open Go.RowKit

theorem bitsSize_at (n b : Nat) (hb : b = (n + 7) / 8) (w : World) (h : n ≤ 100000) :
    Calls Tryz.prog 97 #[.int .i64 (n : Nat)] w fun e w' => e = .returned (.int .i64 (b : Nat)) ∧ w' = w := by
  refine (bitsSize_any n w h).mono ?_
  rintro e w' ⟨b', rfl, rfl, rfl⟩
  exact ⟨by rw [hb], rfl⟩

set_option maxRecDepth 100000 in
set_option maxHeartbeats 400000 in
theorem within_at (n lo hi : Int) (r : Bool) (hr : r = true ↔ lo ≤ n ∧ n ≤ hi) (w : World) :
    Calls Tryz.prog 53 #[.int .i64 n, .int .i64 lo, .int .i64 hi] w fun e w' => e = .returned (.bool r) ∧ w' = w := by
  have HR := hideF hr
  clear hr
  by_cases h1 : lo ≤ n
  · go_enter Tryz.func53, Tryz.ntmps53
    go_wp2
    go_ret
    exact ⟨rbool (by rw [Bool.eq_iff_iff, HR.out]; simp [h1]), rfl⟩
  · go_enter Tryz.func53, Tryz.ntmps53
    go_wp2
    go_ret
    exact ⟨rbool (by rw [Bool.eq_iff_iff, HR.out]; simp; intro h; omega), rfl⟩

set_option maxRecDepth 100000 in
set_option maxHeartbeats 400000 in
theorem sectorsOf_at (n b : Nat) (hb : b = max 1 ((n + 61) / 62)) (w : World) (h : n ≤ 100000) :
    Calls Tryz.prog 91 #[.int .i64 (n : Nat)] w fun e w' => e = .returned (.int .i64 (b : Nat)) ∧ w' = w := by
  have HB := hideF hb
  clear hb
  go_enter Tryz.func91, Tryz.ntmps91
  go_wp2
  all_goals go_ret
  all_goals exact ⟨rint (by rw [HB.out]; omega), rfl⟩

set_option maxRecDepth 100000 in
set_option maxHeartbeats 400000 in
theorem storeNeed_at (n b : Nat) (hb : b = 2 * max 1 ((n + 61) / 62)) (w : World) (h : n ≤ 100000) :
    Calls Tryz.prog 73 #[.int .i64 (n : Nat)] w fun e w' => e = .returned (.int .i64 (b : Nat)) ∧ w' = w := by
  obtain ⟨c, hc⟩ : ∃ c, c = max 1 ((n + 61) / 62) := ⟨_, rfl⟩
  have hbl : c ≤ 100000 := by omega
  have HB : Hid (b = 2 * c) := by show b = 2 * c; rw [hb, hc]
  have HC := hideF hc
  clear hb hc
  go_enter Tryz.func73, Tryz.ntmps73
  go_wp2_with fail
  refine (sectorsOf_at n c HC.out _ h).mono ?_
  rintro e w1 ⟨rfl, rfl⟩
  go_wp2
  go_ret
  exact ⟨rint (by rw [HB.out]; omega), rfl⟩

set_option maxRecDepth 100000 in
set_option maxHeartbeats 400000 in
theorem keptSize_at (s0 s1 s2 s3 c h u n k b z : Nat) (a : Option Addr) (w : World) (hc : c ≤ 60) (hh : h ≤ 60) (hz : z = (c + 7) / 8 + 2 * h) :
    Calls Tryz.prog 63 #[.agg #[.int .i64 (s0 : Nat), .int .i64 (s1 : Nat), .int .i64 (s2 : Nat), .int .i64 (s3 : Nat), .int .i64 (c : Nat), .int .i64 (h : Nat), .int .i64 (u : Nat), .slice a n k, .int .i64 (b : Nat)]] w fun e w' => e = .returned (.int .i64 (z : Nat)) ∧ Below w.heap.size w w' := by
  obtain ⟨y, hy⟩ : ∃ y, y = (c + 7) / 8 := ⟨_, rfl⟩
  have hyl : y ≤ 8 := by omega
  have HZ : Hid (z = y + 2 * h) := by show z = y + 2 * h; rw [hz, hy]
  have HY := hideF hy
  clear hz hy
  go_enter Tryz.func63, Tryz.ntmps63
  go_wp2_with fail
  go_quiet (first | (go_at_call 97; refine Calls.quiet_of_same (bitsSize_at c y HY.out _ (by omega))))
  go_wp2
  go_ret
  exact ⟨rint (by rw [HZ.out]; omega), below_drewN (bel_alloc (Below.refl _ _) _) _⟩

set_option maxRecDepth 100000 in
set_option maxHeartbeats 400000 in
theorem other_at (n m : Nat) (hm : m = (n + 1) % 2) (w : World) (h : n ≤ 100000) :
    Calls Tryz.prog 83 #[.int .i64 (n : Nat)] w fun e w' => e = .returned (.int .i64 (m : Nat)) ∧ w' = w := by
  have HM := hideF hm
  clear hm
  go_enter Tryz.func83, Tryz.ntmps83
  go_wp2
  go_ret
  exact ⟨rint (by rw [HM.out]; omega), rfl⟩

theorem ru8 {a b : Int} (h : a = b) : Ending.returned (.int .u8 a) = .returned (.int .u8 b) := by rw [h]
set_option maxRecDepth 100000 in
set_option maxHeartbeats 400000 in
theorem next_at (n m : Nat) (hm : m = n % 3 + 1) (w : World) (h : n < 256) :
    Calls Tryz.prog 84 #[.int .u8 (n : Nat)] w fun e w' => e = .returned (.int .u8 (m : Nat)) ∧ w' = w := by
  have HM := hideF hm
  clear hm
  go_enter Tryz.func84, Tryz.ntmps84
  go_wp2
  go_ret
  exact ⟨ru8 (by rw [HM.out]; omega), rfl⟩

set_option maxRecDepth 100000 in
set_option maxHeartbeats 400000 in
theorem endOf_at (s : ByteArray) (w : World) (h : s.size = 64) :
    Calls Tryz.prog 127 #[.string s] w fun e w' => e = .returned (.int .u8 (Pl.byt s 63 : Nat)) ∧ w' = w := by
  have gb := Pl.get_byt s
  have hl : 63 < s.size := by omega
  have hl' : (63 : Int) < s.size := by omega
  clear h
  go_enter Tryz.func127, Tryz.ntmps127
  go_wp2
  go_ret
  exact ⟨rfl, rfl⟩
end Go.Proofs.YtcpldcojckhapaaGreat

set_option maxRecDepth 100000
namespace Go.Proofs.YtcpldcojckhapaaGreat
open Go.RowKit

/-- A config in memory. -/
theorem cfg_new (w : World) (s0 s1 s2 s3 c h u b : Int) (l : Value) : ∃ W, W = w.alloc (.cells #[.int .i64 s0, .int .i64 s1, .int .i64 s2, .int .i64 s3, .int .i64 c, .int .i64 h, .int .i64 u, l, .int .i64 b] 39) ∧ W.heap.size = w.heap.size + 1 ∧ Below w.heap.size w W ∧ 
    W.heap[w.heap.size]? = some (.cells #[.int .i64 s0, .int .i64 s1, .int .i64 s2, .int .i64 s3, .int .i64 c, .int .i64 h, .int .i64 u, l, .int .i64 b] 39 (0, 0)) :=
  ⟨_, rfl, by simp, bel_alloc (Below.refl _ _) _, heap_alloc_new w _⟩
theorem cells9 {W : World} {g : Nat} {t : TypeId} {a0 a1 a2 a3 a4 a5 a6 a7 a8 : Value} (h : W.heap[g]? = some (.cells #[a0, a1, a2, a3, a4, a5, a6, a7, a8] t (0, 0))) : W.cell? ⟨g, 0, none⟩ = some a0 ∧ W.cell? ⟨g, 1, none⟩ = some a1 ∧ W.cell? ⟨g, 2, none⟩ = some a2 ∧ W.cell? ⟨g, 3, none⟩ = some a3 ∧ W.cell? ⟨g, 4, none⟩ = some a4 ∧ W.cell? ⟨g, 5, none⟩ = some a5 ∧ W.cell? ⟨g, 6, none⟩ = some a6 ∧ W.cell? ⟨g, 7, none⟩ = some a7 ∧ W.cell? ⟨g, 8, none⟩ = some a8 :=
  ⟨cell_of_row W g 0 _ t (0, 0) h, cell_of_row W g 1 _ t (0, 0) h, cell_of_row W g 2 _ t (0, 0) h, cell_of_row W g 3 _ t (0, 0) h, cell_of_row W g 4 _ t (0, 0) h, cell_of_row W g 5 _ t (0, 0) h, cell_of_row W g 6 _ t (0, 0) h, cell_of_row W g 7 _ t (0, 0) h, cell_of_row W g 8 _ t (0, 0) h⟩

theorem arr4_0 (a b c d : Value) (W : World) : (Instr.index 37 (.agg #[a, b, c, d]) (.int .i64 0)).run Tryz.prog W = .ok a W := by kernel_rfl
theorem arr4_1 (a b c d : Value) (W : World) : (Instr.index 37 (.agg #[a, b, c, d]) (.int .i64 1)).run Tryz.prog W = .ok b W := by kernel_rfl
theorem arr4_2 (a b c d : Value) (W : World) : (Instr.index 37 (.agg #[a, b, c, d]) (.int .i64 2)).run Tryz.prog W = .ok c W := by kernel_rfl
theorem arr4_3 (a b c d : Value) (W : World) : (Instr.index 37 (.agg #[a, b, c, d]) (.int .i64 3)).run Tryz.prog W = .ok d W := by kernel_rfl
theorem arr4 (a b c d q m : Nat) (ha : a ≤ m) (hb : b ≤ m) (hc : c ≤ m) (hd : d ≤ m) (hq : q < 4) : ∃ x : Nat, (∀ W, (Instr.index 37 (.agg #[.int .i64 (a : Nat), .int .i64 (b : Nat), .int .i64 (c : Nat), .int .i64 (d : Nat)]) (.int .i64 (q : Nat))).run Tryz.prog W = .ok (.int .i64 (x : Nat)) W) ∧ x ≤ m := by
  rcases (show q = 0 ∨ q = 1 ∨ q = 2 ∨ q = 3 by omega) with rfl | rfl | rfl | rfl
  · exact ⟨a, fun W => arr4_0 _ _ _ _ W, ha⟩
  · exact ⟨b, fun W => arr4_1 _ _ _ _ W, hb⟩
  · exact ⟨c, fun W => arr4_2 _ _ _ _ W, hc⟩
  · exact ⟨d, fun W => arr4_3 _ _ _ _ W, hd⟩
set_option maxRecDepth 100000 in
set_option maxHeartbeats 1000000 in
theorem mayBe_at (s0 s1 s2 s3 c h u n k b g : Nat) (kn : Nat → Nat) (w : World) (b0 : s0 ≤ 60) (b1 : s1 ≤ 60) (b2 : s2 ≤ 60) (b3 : s3 ≤ 60) (bc : c ≤ s0) (bh : h ≤ s2) (bu1 : 1 ≤ u) (bu2 : u ≤ 247) (bn1 : 1 ≤ n) (bn2 : n ≤ 4) (bb1 : 1 ≤ b) (bb2 : b ≤ 8)
    (hg : g < w.heap.size) (hcell : ∀ j, j < n → w.cell? ⟨g, j, none⟩ = some (.int .i64 (kn j : Nat))) (hk : ∀ j, j < n → kn j ≤ 1) :
    Calls Tryz.prog 72 #[.agg #[.int .i64 (s0 : Nat), .int .i64 (s1 : Nat), .int .i64 (s2 : Nat), .int .i64 (s3 : Nat), .int .i64 (c : Nat), .int .i64 (h : Nat), .int .i64 (u : Nat), .slice (some ⟨g, 0, none⟩) n k, .int .i64 (b : Nat)]] w fun e w' => e = .returned (.bool true) ∧ Below w.heap.size w w' := by
  obtain ⟨W, hW, hWs, hWb, hWg⟩ := cfg_new w s0 s1 s2 s3 c h u b (.slice (some ⟨g, 0, none⟩) n k)
  obtain ⟨c0, c1, c2, c3, c4, c5, c6, c7, c8⟩ := cells9 hWg
  have hcW : ∀ j, j < n → W.cell? ⟨g, j, none⟩ = some (.int .i64 (kn j : Nat)) := fun j hj => by rw [(bcell hWb).1 g j hg]; exact hcell j hj
  have HC := hideF hcW
  have HB := hideF hWb
  clear hcell hWg hcW hWb hWs
  go_enter Tryz.func72, Tryz.ntmps72
  go_wp2_with fail
  rw [← hW]
  clear hW
  go_loopw [9] (fun i wr => ∃ q : Nat, q ≤ 4 ∧ i = .int .i64 (q : Nat) ∧ W = wr) (fun i _ => 4 - (intOf i).toNat)
  case atStart => exact ⟨0, by omega, rfl, rfl⟩
  case round =>
    obtain ⟨q, hq, rfl, rfl⟩ := hrel
    by_cases hq4 : q < 4
    · obtain ⟨x, hx, hxl⟩ := arr4 s0 s1 s2 s3 q 60 b0 b1 b2 b3 hq4
      go_wp2_with fail
      refine (within_at _ 0 60 true ?_ _).mono ?_
      · simp; omega
      rintro e w1 ⟨rfl, rfl⟩
      go_wp2
      go_roundw
      case rel => exact ⟨q + 1, by omega, by go_num, trivial⟩
      case measure => simp [intOf]; omega
    · obtain rfl : q = 4 := by omega
      go_wp2_with fail
      clear hq hq4
      go_loopw [19] (fun i wr => ∃ q : Nat, q ≤ n ∧ i = .int .i64 (q : Nat) ∧ W = wr) (fun i _ => n - (intOf i).toNat)
      case atStart => exact ⟨0, by omega, rfl, rfl⟩
      case round =>
        obtain ⟨q, hq, rfl, rfl⟩ := hrel
        by_cases hqn : q < n
        · have hc := HC.out q hqn
          have hkq := hk q hqn
          rcases (show kn q = 0 ∨ kn q = 1 by omega) with e0 | e0
          all_goals
            rw [e0] at hc
            clear hkq e0
            go_wp2_with fail
            go_roundw
            case rel => exact ⟨q + 1, by omega, by go_num, trivial⟩
            case measure => simp [intOf]; omega
        · go_wp2_with fail
          refine (within_at _ 0 _ true ?_ _).mono ?_
          · simp; omega
          rintro e w1 ⟨rfl, rfl⟩
          go_wp2_with fail
          refine (within_at _ 0 _ true ?_ _).mono ?_
          · simp; omega
          rintro e w1 ⟨rfl, rfl⟩
          go_wp2_with fail
          refine (within_at _ 1 247 true ?_ _).mono ?_
          · simp; omega
          rintro e w1 ⟨rfl, rfl⟩
          go_wp2_with fail
          refine (within_at _ 1 4 true ?_ _).mono ?_
          · simp; omega
          rintro e w1 ⟨rfl, rfl⟩
          go_wp2_with fail
          refine (within_at _ 1 8 true ?_ _).mono ?_
          · simp; omega
          rintro e w1 ⟨rfl, rfl⟩
          go_wp2
          go_ret
          exact ⟨rfl, HB.out⟩

set_option maxRecDepth 100000 in
set_option maxHeartbeats 1000000 in
theorem need_at (s0 s1 s2 s3 c h u n k b g z : Nat) (kn : Nat → Nat) (w : World) (b0 : s0 ≤ 60) (b1 : s1 ≤ 60) (b2 : s2 ≤ 60) (b3 : s3 ≤ 60) (bc : c ≤ s0) (bh : h ≤ s2) (bu1 : 1 ≤ u) (bu2 : u ≤ 247) (bn1 : 1 ≤ n) (bn2 : n ≤ 4) (bb1 : 1 ≤ b) (bb2 : b ≤ 8)
    (hg : g < w.heap.size) (hcell : ∀ j, j < n → w.cell? ⟨g, j, none⟩ = some (.int .i64 (kn j : Nat))) (hk : ∀ j, j < n → kn j ≤ 1) (hz : z = 2 * max 1 (((c + 7) / 8 + 2 * h + 61) / 62)) :
    Calls Tryz.prog 48 #[.agg #[.int .i64 (s0 : Nat), .int .i64 (s1 : Nat), .int .i64 (s2 : Nat), .int .i64 (s3 : Nat), .int .i64 (c : Nat), .int .i64 (h : Nat), .int .i64 (u : Nat), .slice (some ⟨g, 0, none⟩) n k, .int .i64 (b : Nat)]] w fun e w' => e = .returned (.tuple #[.int .i64 (z : Nat), .int .i64 0]) ∧ Below w.heap.size w w' := by
  obtain ⟨W, hW, hWs, hWb, hWg⟩ := cfg_new w s0 s1 s2 s3 c h u b (.slice (some ⟨g, 0, none⟩) n k)
  obtain ⟨c0, c1, c2, c3, c4, c5, c6, c7, c8⟩ := cells9 hWg
  have hcW : ∀ j, j < n → W.cell? ⟨g, j, none⟩ = some (.int .i64 (kn j : Nat)) := fun j hj => by rw [(bcell hWb).1 g j hg]; exact hcell j hj
  have HC := hideF hcW
  have HB := hideF hWb
  obtain ⟨y, hy⟩ : ∃ y, y = (c + 7) / 8 + 2 * h := ⟨_, rfl⟩
  have HY := hideF hy
  have hyl : y ≤ 100000 := by omega
  have HZ : Hid (z = 2 * max 1 ((y + 61) / 62)) := by show z = _; rw [hz, hy]
  have HG := hideF hWg
  clear hcell hWg hcW hWb hz hy
  go_enter Tryz.func48, Tryz.ntmps48
  go_wp2_with fail
  rw [← hW]
  clear hW
  refine (mayBe_at s0 s1 s2 s3 c h u n k b g kn W b0 b1 b2 b3 bc bh bu1 bu2 bn1 bn2 bb1 bb2 (by omega) HC.out hk).mono ?_
  rintro e w1 ⟨rfl, hb1⟩
  have hg1 := (hb1.block w.heap.size (by omega)).trans HG.out
  have HB1 := hideF (bel_then HB.out hb1)
  have HS : Hid (w.heap.size < w1.heap.size) := by have := hb1.size; show _ < _; omega
  clear c0 c1 c2 c3 c4 c5 c6 c7 c8 hb1
  obtain ⟨c0, c1, c2, c3, c4, c5, c6, c7, c8⟩ := cells9 hg1
  clear hg1
  go_wp2_with fail
  refine (keptSize_at s0 s1 s2 s3 c h u n k b y (some ⟨g, 0, none⟩) w1 (by omega) (by omega) HY.out).mono ?_
  rintro e w2 ⟨rfl, hb2⟩
  have HB2 := hideF (bel_then HB1.out hb2)
  clear hb2
  go_wp2_with fail
  refine (storeNeed_at y z HZ.out w2 hyl).mono ?_
  rintro e w3 ⟨rfl, rfl⟩
  go_wp2
  refine bodyPost_ret (v := .tuple #[.int .i64 (z : Nat), .int .i64 0]) (by simp [results, Tryz.results48, go_sem]) rfl ⟨rfl, HB2.out⟩
end Go.Proofs.YtcpldcojckhapaaGreat

set_option maxRecDepth 100000
namespace Go.Proofs.YtcpldcojckhapaaGreat
open Go.RowKit

def pk (c n : Int) : Int := (if c < 0 then -(c + 1) else c) % n
theorem pk_nonneg (c n : Int) (h : 0 < n) : 0 ≤ pk c n := Int.emod_nonneg _ (by omega)
theorem pk_lt (c n : Int) (h : 0 < n) : pk c n < n := Int.emod_lt_of_pos _ h


theorem pk_neg (c n : Int) (hc : c < 0) (_h : 0 < n) : -((c + 1).tmod n) = pk c n := by
  unfold pk
  rw [if_pos hc, ← Int.neg_tmod, Int.tmod_eq_emod_of_nonneg (by omega)]
theorem pk_pos (c n : Int) (hc : 0 ≤ c) : c % n = pk c n := by unfold pk; rw [if_neg (by omega)]

set_option maxRecDepth 100000 in
set_option maxHeartbeats 400000 in
theorem pick_any (c n : Int) (w : World) (h1 : -9223372036854775808 ≤ c) (h2 : c ≤ 9223372036854775807) (h3 : 0 < n) (h4 : n ≤ 4294967296) :
    Calls Tryz.prog 18 #[.int .i64 c, .int .i64 n] w fun e w' => e = .returned (.int .i64 (pk c n)) ∧ w' = w := by
  have hn0 : (n == 0) = false := by simp; omega
  have hn1 : (n == -1) = false := by simp; omega
  by_cases hc : c < 0
  · go_enter Tryz.func18, Tryz.ntmps18
    go_wp2
    go_ret
    exact ⟨rint (pk_neg c n hc h3), rfl⟩
  · go_enter Tryz.func18, Tryz.ntmps18
    go_wp2
    go_ret
    exact ⟨rint (pk_pos c n hc), rfl⟩

/-- 'string([]byte{..})' of one byte and of two, the row new. -/
theorem conv1 (W : World) (x : Int) : (convert 114 9 (.slice (some ⟨W.heap.size, 0, none⟩) 1 1)).run Tryz.prog (W.alloc (.cells #[.int .u8 x] 5)) = .ok (.string ⟨#[UInt8.ofNat x.toNat]⟩) (W.alloc (.cells #[.int .u8 x] 5)) := by
  rw [run_convert_bytes_string _ 114 9 5 _ 1 1 Tryz.underlying114 Tryz.underlying5 Tryz.underlying9, run_bytesToString _ _ 1 1 [x]]
  · rfl
  · have h := run_loadCells_list (P := Tryz.prog) (W.alloc (.cells #[.int .u8 x] 5)) ⟨W.heap.size, 0, none⟩ [.int .u8 x] (fun j v hj => by
      match j, hj with
      | 0, hj => simp at hj; subst hj; simp [Addr.add])
    simpa using h
theorem conv2 (W : World) (x y : Int) : (convert 114 9 (.slice (some ⟨W.heap.size, 0, none⟩) 2 2)).run Tryz.prog (W.alloc (.cells #[.int .u8 x, .int .u8 y] 5)) = .ok (.string ⟨#[UInt8.ofNat x.toNat, UInt8.ofNat y.toNat]⟩) (W.alloc (.cells #[.int .u8 x, .int .u8 y] 5)) := by
  rw [run_convert_bytes_string _ 114 9 5 _ 2 2 Tryz.underlying114 Tryz.underlying5 Tryz.underlying9, run_bytesToString _ _ 2 2 [x, y]]
  · rfl
  · have h := run_loadCells_list (P := Tryz.prog) (W.alloc (.cells #[.int .u8 x, .int .u8 y] 5)) ⟨W.heap.size, 0, none⟩ [.int .u8 x, .int .u8 y] (fun j v hj => by
      match j, hj with
      | 0, hj => simp at hj; subst hj; simp [Addr.add]
      | 1, hj => simp at hj; subst hj; simp [Addr.add])
    simpa using h

def twoB (n : Nat) : ByteArray := ⟨#[UInt8.ofNat (n / 256), UInt8.ofNat (n % 256)]⟩
set_option maxRecDepth 100000 in
set_option maxHeartbeats 400000 in
theorem two_any (n : Nat) (w : World) (h4 : n < 65536) :
    Calls Tryz.prog 29 #[.int .i64 (n : Nat)] w fun e w' => e = .returned (.string (twoB n)) ∧ Below w.heap.size w w' := by
  have c2 := conv2
  go_enter Tryz.func29, Tryz.ntmps29
  go_wp2
  go_ret
  exact ⟨rfl, (Below.refl _ _).alloc (Nat.le_refl _) _⟩

theorem conv1_at (W : World) (g : Nat) (x : Int) (hc : W.cell? ⟨g, 0, none⟩ = some (.int .u8 x)) : (convert 114 9 (.slice (some ⟨g, 0, none⟩) 1 1)).run Tryz.prog W = .ok (.string ⟨#[UInt8.ofNat x.toNat]⟩) W := by
  rw [run_convert_bytes_string _ 114 9 5 _ 1 1 Tryz.underlying114 Tryz.underlying5 Tryz.underlying9, run_bytesToString _ _ 1 1 [x]]
  · rfl
  · have h := run_loadCells_list (P := Tryz.prog) W ⟨g, 0, none⟩ [.int .u8 x] (fun j v hj => by
      match j, hj with
      | 0, hj => simp at hj; subst hj; simpa [Addr.add] using hc)
    simpa using h
theorem enter25 (x : Value) (w : World) : (callFunc 29 #[x]).run Tryz.prog w = .ok (.enter 29 #[x]) w := by kernel_rfl
theorem two_step (x : Int) (n : Nat) (hx : x = n) (w : World) (h4 : n < 65536) :
    Calls Tryz.prog 29 #[.int .i64 x] w fun e w' => ∃ v, e = .returned v ∧ (v = .string (twoB n) ∧ Below w.heap.size w w') := by
  subst hx
  refine (two_any n w h4).mono ?_
  rintro e w' ⟨rfl, hb⟩
  exact ⟨_, rfl, rfl, hb⟩

end Go.Proofs.YtcpldcojckhapaaGreat
