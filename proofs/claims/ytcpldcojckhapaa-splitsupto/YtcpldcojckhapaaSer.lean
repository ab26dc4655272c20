/-
  frame.Serial and latchref.Serial: what they answer.
-/
import Derived.Test.YtcpldcojckhapaaFrm
set_option maxRecDepth 100000
namespace Go.Proofs.Ytcpldcojckhapaa
open Go.RowKit

set_option maxRecDepth 100000 in
set_option maxHeartbeats 2000000 in
theorem serial_any (s : ByteArray) (w : World) (hs : s.size ≤ 4194304) :
    Calls Try.prog 15 #[.string s] w fun e w' => ∃ (u : Nat) (b : ByteArray) (k : Int), e = .returned (.tuple #[.agg #[.int .i64 0, .int .i64 (u : Nat), .string b], .int .i64 k]) ∧ Pl.SerIs s u b k ∧ Below w.heap.size w w' := by
  have gb := Pl.get_byt s
  by_cases h4 : s.size < 4
  · have HK : Pl.SerIs s 0 ⟨#[]⟩ 4 := .inr ⟨fun h => by have := h.1; omega, rfl, rfl, rfl⟩
    have hl : (s.size : Int) - 2 < 2 := by omega
    go_enter Try.func15, Try.ntmps15
    go_wp2
    refine bodyPost_ret (v := .tuple #[.agg #[.int .i64 0, .int .i64 0, .string ⟨#[]⟩], .int .i64 4]) (by simp [results, Try.results15, go_sem]) rfl ⟨0, ⟨#[]⟩, 4, rfl, HK, ?_⟩
    exact (Below.refl _ _).alloc (Nat.le_refl _) _
  · by_cases h256 : 256 < s.size
    · have HK : Pl.SerIs s 0 ⟨#[]⟩ 4 := .inr ⟨fun h => by have := h.2.1; omega, rfl, rfl, rfl⟩
      go_enter Try.func15, Try.ntmps15
      go_wp2
      refine bodyPost_ret (v := .tuple #[.agg #[.int .i64 0, .int .i64 0, .string ⟨#[]⟩], .int .i64 4]) (by simp [results, Try.results15, go_sem]) rfl ⟨0, ⟨#[]⟩, 4, rfl, HK, ?_⟩
      exact (Below.refl _ _).alloc (Nat.le_refl _) _
    · obtain ⟨L, hL⟩ : ∃ L, s.size = L + 2 := ⟨s.size - 2, by omega⟩
      have l0 : (s.size : Int) - 2 = L := by omega
      have l1 : L < s.size := by omega
      have l2 : L + 1 < s.size := by omega
      have b0 := Pl.byt_lt s L
      have b1 := Pl.byt_lt s (L + 1)
      have HL : Hid (s.size = L + 2) := hL
      clear hL
      go_enter Try.func15, Try.ntmps15
      go_wp2
      go_quiet (fail)
      go_wp2_with fail
      refine (check_any _ _ (by unfold maxLen; simp; omega)).mono ?_
      rintro e w1 ⟨rfl, rfl⟩
      have eo := Pl.u16_word (Pl.byt s L) (Pl.byt s (L + 1)) b0 b1
      rw [eo]
      clear eo
      obtain ⟨C, hC⟩ : ∃ C, C = Pl.crc (s.extract 0 L).data.toList := ⟨_, rfl⟩
      rw [← hC]
      have HC : Hid (C = Pl.crc (s.extract 0 L).data.toList) := hC
      clear hC
      obtain ⟨D, hD⟩ : ∃ D, D = Pl.byt s L + 256 * Pl.byt s (L + 1) := ⟨_, rfl⟩
      rw [← hD]
      have HD : Hid (D = Pl.byt s L + 256 * Pl.byt s (L + 1)) := hD
      clear hD
      by_cases hcd : D = C
      · have HK : Pl.SerIs s (Pl.byt s 0) (s.extract 1 L) 0 := .inl ⟨⟨by omega, by omega, by
          have e1 : s.size - 2 = L := by have := HL.out; omega
          have e2 : s.size - 1 = L + 1 := by have := HL.out; omega
          rw [e1, e2, ← HC.out, ← hcd, HD.out]⟩, rfl, by have e1 : s.size - 2 = L := by have := HL.out; omega
                                                         rw [e1], rfl⟩
        have t1 : ((D : Int) != (C : Int)) = false := by simp; omega
        have e0 := Pl.byt_extract s 0 L 0 (by omega) (by omega)
        have e2 := Pl.extract_extract s 0 L 1 L (by omega)
        have hLs : (s.extract 0 L).size = L := by simp; omega
        simp only [Nat.zero_add] at e0 e2
        clear hcd
        go_wp2_with fail
        refine (unitAndBody_any _ _ (by simp; omega) (by simp; omega)).mono ?_
        rintro e w2 ⟨rfl, hb⟩
        rw [hLs, e0, e2]
        obtain ⟨hc, hf⟩ := bcell hb
        clear hLs e0 e2
        go_wp2
        refine bodyPost_ret (v := .tuple #[.agg #[.int .i64 0, .int .i64 (Pl.byt s 0 : Nat), .string (s.extract 1 L)], .int .i64 0]) (by simp [results, Try.results15, go_sem, hc]) rfl ⟨_, _, 0, rfl, HK, ?_⟩
        exact (((((below_drewN ((Below.refl _ _).alloc (Nat.le_refl _) _) _).trans (hb.mono (by simp))).setCell (Nat.le_refl _) _).setCell (Nat.le_refl _) _).setCell (Nat.le_refl _) _)
      · have HK : Pl.SerIs s 0 ⟨#[]⟩ 4 := .inr ⟨fun h => hcd (by
          have h2 := h.2.2
          have e1 : s.size - 2 = L := by have := HL.out; omega
          have e2 : s.size - 1 = L + 1 := by have := HL.out; omega
          rw [e1, e2] at h2
          rw [HC.out, HD.out, h2]), rfl, rfl, rfl⟩
        have t1 : ((D : Int) != (C : Int)) = true := by simp; omega
        clear hcd
        go_wp2
        refine bodyPost_ret (v := .tuple #[.agg #[.int .i64 0, .int .i64 0, .string ⟨#[]⟩], .int .i64 4]) (by simp [results, Try.results15, go_sem]) rfl ⟨0, ⟨#[]⟩, 4, rfl, HK, ?_⟩
        exact (((below_drewN ((Below.refl _ _).alloc (Nat.le_refl _) _) _).setCell (Nat.le_refl _) _).setCell (Nat.le_refl _) _).setCell (Nat.le_refl _) _

set_option maxRecDepth 100000 in
set_option maxHeartbeats 2000000 in
theorem refSerial_any (s : ByteArray) (w : World) (hs : s.size ≤ 4194304) :
    Calls Try.prog 16 #[.string s] w fun e w' => ∃ (u : Nat) (b : ByteArray) (k : Int), e = .returned (.tuple #[.agg #[.int .i64 0, .int .i64 (u : Nat), .string b], .int .i64 k]) ∧ Pl.SerIs s u b k ∧ Below w.heap.size w w' := by
  have gb := Pl.get_byt s
  by_cases h4 : s.size < 4
  · have HK : Pl.SerIs s 0 ⟨#[]⟩ 4 := .inr ⟨fun h => by have := h.1; omega, rfl, rfl, rfl⟩
    go_enter Try.func16, Try.ntmps16
    go_wp2
    refine bodyPost_ret (v := .tuple #[.agg #[.int .i64 0, .int .i64 0, .string ⟨#[]⟩], .int .i64 4]) (by simp [results, Try.results16, go_sem]) rfl ⟨0, ⟨#[]⟩, 4, rfl, HK, ?_⟩
    exact (Below.refl _ _).alloc (Nat.le_refl _) _
  · by_cases h256 : 256 < s.size
    · have HK : Pl.SerIs s 0 ⟨#[]⟩ 4 := .inr ⟨fun h => by have := h.2.1; omega, rfl, rfl, rfl⟩
      go_enter Try.func16, Try.ntmps16
      go_wp2
      refine bodyPost_ret (v := .tuple #[.agg #[.int .i64 0, .int .i64 0, .string ⟨#[]⟩], .int .i64 4]) (by simp [results, Try.results16, go_sem]) rfl ⟨0, ⟨#[]⟩, 4, rfl, HK, ?_⟩
      exact (Below.refl _ _).alloc (Nat.le_refl _) _
    · obtain ⟨L, hL⟩ : ∃ L, s.size = L + 2 := ⟨s.size - 2, by omega⟩
      have l0 : (s.size : Int) - 2 = L := by omega
      have l3 : (s.size : Int) - 1 = L + 1 := by omega
      have l1 : L < s.size := by omega
      have l2 : L + 1 < s.size := by omega
      have b0 := Pl.byt_lt s L
      have b1 := Pl.byt_lt s (L + 1)
      have bz := Pl.byt_lt s 0
      have HL : Hid (s.size = L + 2) := hL
      clear hL
      go_enter Try.func16, Try.ntmps16
      go_wp2_with fail
      refine (refCheck_any _ _ (by unfold maxLen; simp; omega)).mono ?_
      rintro e w1 ⟨rfl, rfl⟩
      obtain ⟨C, hC⟩ : ∃ C, C = Pl.crc (s.extract 0 L).data.toList := ⟨_, rfl⟩
      have hC1 : C < 65536 := by rw [hC]; exact Pl.crc_lt _
      rw [← hC]
      have HC : Hid (C = Pl.crc (s.extract 0 L).data.toList) := hC
      clear hC
      by_cases hlo : Pl.byt s L = C % 256
      · have t1 : ((Pl.byt s L : Int) != (C : Int) % 256) = false := by simp; omega
        by_cases hhi : Pl.byt s (L + 1) = C / 256
        · have t2 : ((Pl.byt s (L + 1) : Int) != (C : Int) / 256) = false := by simp; omega
          have HK : Pl.SerIs s (Pl.byt s 0) (s.extract 1 L) 0 := .inl ⟨⟨by omega, by omega, by
            have e1 : s.size - 2 = L := by have := HL.out; omega
            have e2 : s.size - 1 = L + 1 := by have := HL.out; omega
            rw [e1, e2, ← HC.out, hlo, hhi]; omega⟩, rfl, by have e1 : s.size - 2 = L := by have := HL.out; omega
                                                             rw [e1], rfl⟩
          clear hlo hhi
          go_wp2
          go_region
          all_goals go_wp2
          all_goals
            refine bodyPost_ret (v := .tuple #[.agg #[.int .i64 0, .int .i64 (Pl.byt s 0 : Nat), .string (s.extract 1 L)], .int .i64 0]) (by simp [results, Try.results16, go_sem]) rfl ⟨_, _, 0, rfl, HK, ?_⟩
            exact ((Below.refl _ _).alloc (Nat.le_refl _) _).drew
        · have t2 : ((Pl.byt s (L + 1) : Int) != (C : Int) / 256) = true := by simp; omega
          have HK : Pl.SerIs s 0 ⟨#[]⟩ 4 := .inr ⟨fun h => hhi (by
            have h2 := h.2.2
            have e1 : s.size - 2 = L := by have := HL.out; omega
            have e2 : s.size - 1 = L + 1 := by have := HL.out; omega
            rw [e1, e2, ← HC.out] at h2
            omega), rfl, rfl, rfl⟩
          clear hlo hhi
          go_wp2
          refine bodyPost_ret (v := .tuple #[.agg #[.int .i64 0, .int .i64 0, .string ⟨#[]⟩], .int .i64 4]) (by simp [results, Try.results16, go_sem]) rfl ⟨0, ⟨#[]⟩, 4, rfl, HK, ?_⟩
          exact (Below.refl _ _).alloc (Nat.le_refl _) _
      · have t1 : ((Pl.byt s L : Int) != (C : Int) % 256) = true := by simp; omega
        have HK : Pl.SerIs s 0 ⟨#[]⟩ 4 := .inr ⟨fun h => hlo (by
          have h2 := h.2.2
          have e1 : s.size - 2 = L := by have := HL.out; omega
          have e2 : s.size - 1 = L + 1 := by have := HL.out; omega
          rw [e1, e2, ← HC.out] at h2
          omega), rfl, rfl, rfl⟩
        clear hlo
        go_wp2
        refine bodyPost_ret (v := .tuple #[.agg #[.int .i64 0, .int .i64 0, .string ⟨#[]⟩], .int .i64 4]) (by simp [results, Try.results16, go_sem]) rfl ⟨0, ⟨#[]⟩, 4, rfl, HK, ?_⟩
        exact (Below.refl _ _).alloc (Nat.le_refl _) _
end Go.Proofs.Ytcpldcojckhapaa
