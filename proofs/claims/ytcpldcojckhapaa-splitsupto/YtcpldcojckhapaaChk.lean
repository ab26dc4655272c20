/-
  The check of some bytes: what 'checkByte' and 'Check' of package frame, and 'Check' of package latchref, answer.
-/
import Derived.Test.YtcpldcojckhapaaRows
import Derived.Test.YtcpldcojckhapaaPlain
import Derived.WalkKit
import Derived.WalkSpells
import Derived.WalkLawsBesides
import Derived.Below
set_option maxRecDepth 100000
namespace Go.Proofs.Ytcpldcojckhapaa
open Go.RowKit

theorem vint {k : IntKind} {a b : Int} (h : a = b) : Value.int k a = Value.int k b := by rw [h]
theorem rint {k : IntKind} {a b : Int} (h : a = b) : Ending.returned (.int k a) = .returned (.int k b) := by rw [h]
theorem and1 (m : Nat) (hm : m < 65536) : bits .and .u16 (m : Int) 1 = ((m % 2 : Nat) : Int) := by
  have := u16_and_nat m 1 hm (by omega)
  rw [nat_mask1] at this
  exact this
theorem xorc (m : Nat) (hm : m < 65536) : bits .xor .u16 ((m : Int) / 2) 40961 = ((m / 2 ^^^ 40961 : Nat) : Int) := by
  have := u16_xor_nat (m / 2) 40961 (by omega) (by omega)
  exact this

set_option maxHeartbeats 400000 in
theorem checkByte_any (c b : Nat) (w : World) (hc : c < 65536) (hb : b < 256) :
    Calls Try.prog 33 #[.int .u16 c, .int .u8 b] w fun e w' => e = .returned (.int .u16 (Pl.byteStep c b : Nat)) ∧ w' = w := by
  go_enter Try.func33, Try.ntmps33
  go_wp2
  go_loop [0, 10] (fun v i => ∃ k m : Nat, k ≤ 8 ∧ m < 65536 ∧ i = .int .i64 k ∧ v = .int .u16 m ∧ Hid (m = Pl.bsteps k (c ^^^ b))) (fun _ i => 8 - (intOf i).toNat)
  case atStart =>
    exact ⟨0, c ^^^ b, by omega, Nat.xor_lt_two_pow (n := 16) (by omega) (by omega), rfl, vint (u16_xor_nat c b hc (by omega)), rfl⟩
  case round =>
    obtain ⟨k, m, hk, hm, rfl, rfl, he⟩ := hrel
    by_cases hlt : k < 8
    · have hs : Hid (Pl.bsteps (k + 1) (c ^^^ b) = if m % 2 = 1 then (m / 2) ^^^ 40961 else m / 2) := by
        show Pl.bstep (Pl.bsteps k (c ^^^ b)) = _
        rw [← he.out]; rfl
      have ha := and1 m hm
      have hx := xorc m hm
      have hl : Hid (m / 2 ^^^ 40961 < 65536) := Nat.xor_lt_two_pow (n := 16) (by omega) (by omega)
      by_cases ho : m % 2 = 1
      · have h1 : (bits BinOp.and IntKind.u16 (m : Int) 1 == 1) = true := by rw [ha, ho]; rfl
        have HX : Hid (bits .xor .u16 ((m : Int) / 2) 40961 = ((m / 2 ^^^ 40961 : Nat) : Int)) := hx
        have HO : Hid (m % 2 = 1) := ho
        clear ha hx ho
        go_wp2
        go_round
        case rel => exact ⟨k + 1, m / 2 ^^^ 40961, by omega, hl.out, by go_num, vint HX.out, by show _ = _; rw [hs.out, if_pos HO.out]⟩
        case measure => simp [intOf]; omega
      · have h1 : (bits BinOp.and IntKind.u16 (m : Int) 1 == 1) = false := by rw [ha]; simp; omega
        have HO : Hid (¬ m % 2 = 1) := ho
        clear ha hx ho
        go_wp2
        go_round
        case rel => exact ⟨k + 1, m / 2, by omega, by omega, by go_num, vint (by omega), by show _ = _; rw [hs.out, if_neg HO.out]⟩
        case measure => simp [intOf]; omega
    · go_wp2
      go_ret
      have hk8 : k = 8 := by omega
      subst hk8
      exact ⟨rint (by rw [he.out]; rfl), rfl⟩

set_option maxHeartbeats 400000 in
theorem check_any (s : ByteArray) (w : World) (hs : s.size ≤ maxLen) :
    Calls Try.prog 9 #[.string s] w fun e w' => e = .returned (.int .u16 (Pl.crc s.data.toList : Nat)) ∧ w' = w := by
  unfold maxLen at hs
  go_enter Try.func9, Try.ntmps9
  go_wp2
  go_loop [3, 7] (fun v i => ∃ k m : Nat, k ≤ s.size ∧ m < 65536 ∧ i = .int .i64 k ∧ v = .int .u16 m ∧ Hid (m = Pl.crc (s.data.toList.take k))) (fun _ i => s.size - (intOf i).toNat)
  case atStart => exact ⟨0, 65535, Nat.zero_le _, by omega, rfl, rfl, rfl⟩
  case round =>
    obtain ⟨k, m, hk, hm, rfl, rfl, he⟩ := hrel
    by_cases hlt : k < s.size
    · have hs1 : Hid (Pl.crc (s.data.toList.take (k + 1)) = Pl.byteStep m s[k].toNat) := by show _ = _; rw [Pl.crc_take s k hlt, he.out]
      have hb : s[k].toNat < 256 := s[k].toNat_lt
      have hl : Hid (Pl.byteStep m s[k].toNat < 65536) := Pl.byteStep_lt m _ hm hb
      go_wp2_with (go_at_call 33; refine (checkByte_any _ _ _ (by omega) (by omega)).mono ?_; rintro e w' ⟨rfl, rfl⟩)
      go_round
      case rel => exact ⟨k + 1, Pl.byteStep m s[k].toNat, by omega, hl.out, by go_num, rfl, hs1.out.symm⟩
      case measure => simp [intOf]; omega
    · go_wp2
      go_ret
      exact ⟨rint (by rw [he.out, List.take_of_length_le (by simp; omega)]), rfl⟩

theorem xori (m : Nat) (hm : m < 65536) : bits .xor .i64 ((m : Int) / 2) 40961 = ((m / 2 ^^^ 40961 : Nat) : Int) := by
  have := Pl.i64_xor_nat (m / 2) 40961 (by omega) (by omega)
  exact this

set_option maxHeartbeats 1000000 in
theorem refCheck_any (s : ByteArray) (w : World) (hs : s.size ≤ maxLen) :
    Calls Try.prog 10 #[.string s] w fun e w' => e = .returned (.int .u16 (Pl.crc s.data.toList : Nat)) ∧ w' = w := by
  unfold maxLen at hs
  go_enter Try.func10, Try.ntmps10
  go_wp2
  go_loop [3, 4] (fun v i => ∃ k m : Nat, k ≤ s.size ∧ m < 65536 ∧ i = .int .i64 k ∧ v = .int .i64 m ∧ Hid (m = Pl.crc (s.data.toList.take k))) (fun _ i => s.size - (intOf i).toNat)
  case atStart => exact ⟨0, 65535, Nat.zero_le _, by omega, rfl, rfl, rfl⟩
  case round =>
    obtain ⟨k, m, hk, hm, rfl, rfl, he⟩ := hrel
    by_cases hlt : k < s.size
    · have hs1 : Hid (Pl.crc (s.data.toList.take (k + 1)) = Pl.byteStep m s[k].toNat) := by show _ = _; rw [Pl.crc_take s k hlt, he.out]
      have hb : s[k].toNat < 256 := s[k].toNat_lt
      have hl : Hid (Pl.byteStep m s[k].toNat < 65536) := Pl.byteStep_lt m _ hm hb
      go_wp2
      go_loop [3, 5, 6] (fun v x j => ∃ q c y : Nat, q ≤ 8 ∧ c < 65536 ∧ y < 256 ∧ j = .int .i64 q ∧ v = .int .i64 c ∧ x = .int .i64 y ∧ Hid (y = s[k].toNat / 2 ^ q) ∧ Hid (c ^^^ y = Pl.bsteps q (m ^^^ s[k].toNat))) (fun _ _ j => 8 - (intOf j).toNat)
      case atStart => exact ⟨0, m, s[k].toNat, by omega, hm, hb, rfl, rfl, rfl, by simp [Hid], rfl⟩
      case round =>
        obtain ⟨q, c, y, hq, hc, hy, rfl, rfl, rfl, hy2, hcy⟩ := hrel
        by_cases hlq : q < 8
        · have hy3 : Hid (y / 2 = s[k].toNat / 2 ^ (q + 1)) := by show _ = _; rw [hy2.out, Nat.pow_succ, Nat.div_div_eq_div_mul]
          have hx := xori c hc
          have hlx : Hid (c / 2 ^^^ 40961 < 65536) := Nat.xor_lt_two_pow (n := 16) (by omega) (by omega)
          by_cases ho : c % 2 = y % 2
          · have h1 : ((c : Int) % 2 != (y : Int) % 2) = false := by simp; omega
            have hn : Hid (c / 2 ^^^ y / 2 = Pl.bsteps (q + 1) (m ^^^ s[k].toNat)) := by show _ = Pl.bstep _; rw [← hcy.out, Pl.ref_even c y ho]
            clear ho hx
            go_wp2
            go_round
            case rel => exact ⟨q + 1, c / 2, y / 2, by omega, by omega, by omega, by go_num, vint (by omega), vint (by omega), hy3, hn⟩
            case measure => simp [intOf]; omega
          · have h1 : ((c : Int) % 2 != (y : Int) % 2) = true := by simp; omega
            have hn : Hid ((c / 2 ^^^ 40961) ^^^ y / 2 = Pl.bsteps (q + 1) (m ^^^ s[k].toNat)) := by show _ = Pl.bstep _; rw [← hcy.out, Pl.ref_odd c y ho]
            have HX : Hid (bits .xor .i64 ((c : Int) / 2) 40961 = ((c / 2 ^^^ 40961 : Nat) : Int)) := hx
            clear ho hx
            go_wp2
            go_round
            case rel => exact ⟨q + 1, c / 2 ^^^ 40961, y / 2, by omega, hlx.out, by omega, by go_num, vint HX.out, vint (by omega), hy3, hn⟩
            case measure => simp [intOf]; omega
        · have hq8 : Hid (q = 8) := by show _ = _; omega
          have hy0 : Hid (y = 0) := by show _ = _; rw [hy2.out, hq8.out]; omega
          go_wp2
          go_round
          case rel =>
            exact ⟨k + 1, c, by omega, hc, by go_num, rfl, by show _ = _; rw [hs1.out]; have := hcy.out; rw [hy0.out, hq8.out, Nat.xor_zero] at this; exact this⟩
          case measure => simp [intOf]; omega
    · go_wp2
      go_ret
      exact ⟨rint (by rw [he.out, List.take_of_length_le (by simp; omega)]), rfl⟩
end Go.Proofs.Ytcpldcojckhapaa
