/-
  Package latchref's word, in, words and bits: what they answer.
-/
import Derived.Test.YtcpldcojckhapaaW2
namespace Go.Proofs.Ytcpldcojckhapaa
open Go.RowKit

set_option maxRecDepth 100000 in
set_option maxHeartbeats 400000 in
theorem rword_any (s : ByteArray) (i : Int) (t : Nat) (w : World) (ht : i = t) (h : t + 1 < s.size) (hs : s.size ≤ 4194304) :
    Calls Try.prog 37 #[.string s, .int .i64 i] w fun e w' => e = .returned (.int .i64 (Pl.wd s t : Nat)) ∧ ∃ n, w' = w.drewN n := by
  subst ht
  have gb := Pl.get_byt s
  have h0 := Pl.byt_lt s t
  have h1 := Pl.byt_lt s (t + 1)
  have hlt : t < s.size := by omega
  go_enter Try.func37, Try.ntmps37
  go_wp2
  go_quiet (fail)
  go_wp2
  go_ret
  exact ⟨rint (by unfold Pl.wd; omega), _, rfl⟩

theorem in_any (a b c : Nat) (w : World) :
    Calls Try.prog 51 #[.int .i64 (a : Nat), .int .i64 (b : Nat), .int .i64 (c : Nat)] w fun e w' => e = .returned (.bool (decide (b ≤ a ∧ a ≤ c))) ∧ w' = w := by
  by_cases h1 : b ≤ a
  · by_cases h2 : a ≤ c
    · go_enter Try.func51, Try.ntmps51
      go_wp2
      go_ret
      exact ⟨rbool (by simp [h1, h2]), rfl⟩
    · go_enter Try.func51, Try.ntmps51
      go_wp2
      go_ret
      exact ⟨rbool (by simp [h1, h2]), rfl⟩
  · go_enter Try.func51, Try.ntmps51
    go_wp2
    go_ret
    exact ⟨rbool (by simp [h1]), rfl⟩
theorem one_new (W : World) (g : Nat) (hg : g = W.heap.size) (x : Int) : ∀ j u, (encI x)[j]? = some u → (W.alloc (.cells #[.int .i64 x] 3)).cell? ((⟨g, 0, none⟩ : Addr).add j) = some u := by
  subst hg
  intro j u hj
  match j, hj with
  | 0, hj => simp [encI] at hj; subst hj; simp [Addr.add]
theorem one_one (x : Int) : ∀ u ∈ encI x, u.oneCell' = true := by
  intro u hu; simp [encI] at hu; subst hu; rfl

set_option maxRecDepth 100000 in
set_option maxHeartbeats 2000000 in
theorem rwords_any (s : ByteArray) (t n : Nat) (w : World) (hn : (s.size - t) / 2 = n) (ht : t ≤ s.size) (hs : s.size ≤ 100000) :
    Calls Try.prog 53 #[.string s, .int .i64 (t : Nat)] w fun e w' => ∃ v, e = .returned v ∧ w'.ownsRow w.heap.size 3 1 v n ((Pl.wordsL s t n).flatMap encI) ∧ Below w.heap.size w w' := by
  obtain ⟨i0, hi, hz0, hz1, hz2⟩ := info_parts Try.infoEI
  have hn2 : t + 2 * n ≤ s.size := by omega
  have hn3 : s.size ≤ t + 2 * n + 1 := by omega
  clear hn
  go_enter Try.func53, Try.ntmps53
  go_wp2_with fail
  go_loopw [5, 6] (fun v i wr => ∃ q : Nat, q ≤ n ∧ i = .int .i64 (t + 2 * q : Nat) ∧ wr.ownsRow w.heap.size 3 1 v q ((Pl.wordsL s t q).flatMap encI) ∧ Below w.heap.size w wr) (fun _ i _ => t + 2 * n - (intOf i).toNat)
  case atStart => exact ⟨0, Nat.zero_le _, rfl, World.ownsRow_nil _ _ _ _, Below.refl _ _⟩
  case round =>
    obtain ⟨q, hqn, rfl, hown, hb⟩ := hrel
    by_cases hlt : q < n
    · have l1 : t + 2 * q + 1 < s.size := by omega
      go_wp2_with fail
      refine (rword_any s _ (t + 2 * q) _ (by omega) l1 (by omega)).mono ?_
      rintro e w1 ⟨rfl, k, rfl⟩
      have hownW := ownsRow_heap (w' := wr.drewN k) rfl hown
      have hbW := below_drewN hb k
      obtain ⟨W, hW⟩ : ∃ W, W = wr.drewN k := ⟨_, rfl⟩
      rw [← hW] at hownW hbW ⊢
      clear hW
      have hsz : w.heap.size ≤ W.heap.size := hbW.size
      go_wp2_with (at_builtin; refine wpList_append_own _ rfl (.tmp 15) (.tmp 19) 30 rfl w.heap.size 3 i0 (.int .i64 0) 1 8 Try.underlying30 hi hz0 hz1 hz2 rfl (by decide) u5 q _ rfl (hownW.alloc _) ⟨W.heap.size, 0, none⟩ 1 1 (encI (Pl.wd s (t + 2 * q) : Nat)) rfl rfl (one_new _ _ rfl _) (one_one _) (by unfold maxLen; omega) (by omega) (by simp; omega) ?_; intro v' w3 hown3 hgrow3 _)
      have hb3 : Below w.heap.size w w3 := (hbW.alloc hsz _).grown hgrow3 (by simp; omega) (fun g hg => (hownW.lt g hg).1)
      clear hgrow3 hownW hown hbW hb
      go_wp2
      go_roundw
      case rel => exact ⟨q + 1, by omega, by go_num, by rw [Pl.wordsL_succ, List.flatMap_append]; simpa using hown3, hb3⟩
      case measure => simp [intOf]; omega
    · obtain rfl : q = n := by omega
      have l1 : ¬ ((t : Int) + 2 * (q : Int) + 1 < s.size) := by omega
      go_wp2
      go_ret
      exact ⟨_, rfl, hown, hb⟩

set_option maxRecDepth 100000 in
set_option maxHeartbeats 2000000 in
theorem rbits_any (s : ByteArray) (t n : Nat) (w : World) (hn : t + (n + 7) / 8 ≤ s.size) (hs : s.size ≤ 100000) (hn' : n ≤ 100000) :
    Calls Try.prog 52 #[.string s, .int .i64 (t : Nat), .int .i64 (n : Nat)] w fun e w' => ∃ v, e = .returned v ∧ w'.ownsRow w.heap.size 3 1 v n ((Pl.bitsL s t n).flatMap encI) ∧ Below w.heap.size w w' := by
  obtain ⟨i0, hi, hz0, hz1, hz2⟩ := info_parts Try.infoEI
  have gb := Pl.get_byt s
  go_enter Try.func52, Try.ntmps52
  go_wp2_with fail
  go_loopw [7, 8] (fun v i wr => ∃ q : Nat, q ≤ n ∧ i = .int .i64 (q : Nat) ∧ wr.ownsRow w.heap.size 3 1 v q ((Pl.bitsL s t q).flatMap encI) ∧ Below w.heap.size w wr) (fun _ i _ => n - (intOf i).toNat)
  case atStart => exact ⟨0, Nat.zero_le _, rfl, World.ownsRow_nil _ _ _ _, Below.refl _ _⟩
  case round =>
    obtain ⟨q, hqn, rfl, hown, hb⟩ := hrel
    by_cases hlt : q < n
    · have l1 : t + q / 8 < s.size := by omega
      have hb8 := Pl.byt_lt s (t + q / 8)
      have HO := hideF hown
      have HBb := hideF hb
      clear hown hb
      go_wp2_with fail
      go_loopw [9, 10] (fun x j wr' => ∃ k : Nat, k ≤ q % 8 ∧ j = .int .i64 (k : Nat) ∧ x = .int .i64 (Pl.byt s (t + q / 8) / 2 ^ k : Nat) ∧ wr' = wr) (fun _ j _ => q % 8 - (intOf j).toNat)
      case atStart => exact ⟨0, Nat.zero_le _, rfl, by simp, rfl⟩
      case round =>
        obtain ⟨k, hk, rfl, rfl, rfl⟩ := hrel
        obtain ⟨Y, hY⟩ : ∃ Y, Y = Pl.byt s (t + q / 8) / 2 ^ k := ⟨_, rfl⟩
        have hYl : Y < 256 := by rw [hY]; exact Nat.lt_of_le_of_lt (Nat.div_le_self _ _) hb8
        rw [← hY]
        have HY := hideF hY
        clear hY
        by_cases hkl : k < q % 8
        · go_wp2
          go_roundw
          case rel => exact ⟨k + 1, by omega, by go_num, vint (by rw [Nat.pow_succ, ← Nat.div_div_eq_div_mul, ← HY.out]; omega), trivial⟩
          case measure => simp [intOf]; omega
        · have hkq : k = q % 8 := by omega
          have hbit : Y % 2 = Pl.bit s t q := by unfold Pl.bit; rw [HY.out, hkq]
          have HBit := hideF hbit
          have HK := hideF hkq
          clear hbit hkq hk
          have hownW := HO.out
          have hbW := HBb.out
          have hsz : w.heap.size ≤ wr.heap.size := hbW.size
          go_wp2_with (at_builtin; refine wpList_append_own _ rfl (.tmp 31) (.tmp 34) 30 rfl w.heap.size 3 i0 (.int .i64 0) 1 8 Try.underlying30 hi hz0 hz1 hz2 rfl (by decide) u7 q _ rfl (hownW.alloc _) ⟨wr.heap.size, 0, none⟩ 1 1 (encI (Y % 2 : Nat)) rfl rfl (one_new _ _ rfl _) (one_one _) (by unfold maxLen; omega) (by omega) (by simp; omega) ?_; intro v' w3 hown3 hgrow3 _)
          have hb3 : Below w.heap.size w w3 := (hbW.alloc hsz _).grown hgrow3 (by simp; omega) (fun g hg => (hownW.lt g hg).1)
          clear hgrow3 hownW hbW
          go_wp2
          go_roundw
          case rel => exact ⟨q + 1, by omega, by go_num, by rw [Pl.bitsL_succ, List.flatMap_append, ← HBit.out]; simpa using hown3, hb3⟩
          case measure => simp [intOf]; omega
    · obtain rfl : q = n := by omega
      go_wp2
      go_ret
      exact ⟨_, rfl, hown, hb⟩
end Go.Proofs.Ytcpldcojckhapaa
