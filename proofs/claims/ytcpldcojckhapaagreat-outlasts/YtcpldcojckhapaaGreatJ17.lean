/-
  The check of some bytes: what 'checkByte' and 'Check' of package frame, and 'Check' of package latchref, answer.
  Package frame's small functions: what they answer.
  Package frame's small functions: what they answer.
  frame.Split: what it answers: the requests with which the bytes begin, in new memory.
  latchkeep.stream: what it answers.
-/
import Derived.Test.YtcpldcojckhapaaGreatJ2
import Derived.WalkKit
import Derived.WalkSpells
import Derived.WalkLawsBesides
import Derived.Below
import Derived.Test.YtcpldcojckhapaaGreatJ8
import Derived.Deep.RegionWith
import Derived.Deep.QuietTactic
import Derived.BigQuiet
import Derived.BigRegion
import Derived.PlainAid
import Derived.Deep.DeepMust
import Derived.Test.YtcpldcojckhapaaGreatJ4
set_option maxRecDepth 100000
namespace Go.Proofs.YtcpldcojckhapaaGreat
open Go.RowKit

theorem and1 (m : Nat) (hm : m < 65536) : bits .and .u16 (m : Int) 1 = ((m % 2 : Nat) : Int) := by
  have := u16_and_nat m 1 hm (by omega)
  rw [nat_mask1] at this
  exact this
theorem xorc (m : Nat) (hm : m < 65536) : bits .xor .u16 ((m : Int) / 2) 40961 = ((m / 2 ^^^ 40961 : Nat) : Int) := by
  have := u16_xor_nat (m / 2) 40961 (by omega) (by omega)
  exact this

set_option maxRecDepth 100000 in
set_option maxHeartbeats 400000 in
theorem checkByte_any (c b : Nat) (w : World) (hc : c < 65536) (hb : b < 256) :
    Calls Tryz.prog 147 #[.int .u16 c, .int .u8 b] w fun e w' => e = .returned (.int .u16 (Pl.byteStep c b : Nat)) ∧ w' = w := by
  go_enter Tryz.func147, Tryz.ntmps147
  go_wp2
  go_loop [0, 10] (fun v i => ∃ k m : Nat, k ≤ 8 ∧ m < 65536 ∧ i = .int .i64 k ∧ v = .int .u16 m ∧ Hid (m = Pl.bsteps k (c ^^^ b))) (fun _ i => 8 - (intOf i).toNat)
  case atStart =>
    exact ⟨0, c ^^^ b, by omega, Nat.xor_lt_two_pow (n := 16) (by omega) (by omega), rfl, vint (u16_xor_nat c b hc (by omega)), rfl⟩
  case round =>
    obtain ⟨k, m, hk, hm, rfl, rfl, he⟩ := hrel
    by_cases hlt : k < 8
    · have hs : Hid (Pl.bsteps (k + 1) (c ^^^ b) = if m % 2 = 1 then (m / 2) ^^^ 40961 else m / 2) := by
        show Pl.bstep (Pl.bsteps k (c ^^^ b)) = _
        rw [← he.out]; rfl
      have ha := and1 m hm
      have hx := xorc m hm
      have hl : Hid (m / 2 ^^^ 40961 < 65536) := Nat.xor_lt_two_pow (n := 16) (by omega) (by omega)
      by_cases ho : m % 2 = 1
      · have h1 : (bits BinOp.and IntKind.u16 (m : Int) 1 == 1) = true := by rw [ha, ho]; rfl
        have HX : Hid (bits .xor .u16 ((m : Int) / 2) 40961 = ((m / 2 ^^^ 40961 : Nat) : Int)) := hx
        have HO : Hid (m % 2 = 1) := ho
        clear ha hx ho
        go_wp2
        go_round
        case rel => exact ⟨k + 1, m / 2 ^^^ 40961, by omega, hl.out, by go_num, vint HX.out, by show _ = _; rw [hs.out, if_pos HO.out]⟩
        case measure => simp [intOf]; omega
      · have h1 : (bits BinOp.and IntKind.u16 (m : Int) 1 == 1) = false := by rw [ha]; simp; omega
        have HO : Hid (¬ m % 2 = 1) := ho
        clear ha hx ho
        go_wp2
        go_round
        case rel => exact ⟨k + 1, m / 2, by omega, by omega, by go_num, vint (by omega), by show _ = _; rw [hs.out, if_neg HO.out]⟩
        case measure => simp [intOf]; omega
    · go_wp2
      go_ret
      have hk8 : k = 8 := by omega
      subst hk8
      exact ⟨rint (by rw [he.out]; rfl), rfl⟩

set_option maxRecDepth 100000 in
set_option maxHeartbeats 400000 in
theorem check_any (s : ByteArray) (w : World) (hs : s.size ≤ maxLen) :
    Calls Tryz.prog 118 #[.string s] w fun e w' => e = .returned (.int .u16 (Pl.crc s.data.toList : Nat)) ∧ w' = w := by
  unfold maxLen at hs
  go_enter Tryz.func118, Tryz.ntmps118
  go_wp2
  go_loop [3, 7] (fun v i => ∃ k m : Nat, k ≤ s.size ∧ m < 65536 ∧ i = .int .i64 k ∧ v = .int .u16 m ∧ Hid (m = Pl.crc (s.data.toList.take k))) (fun _ i => s.size - (intOf i).toNat)
  case atStart => exact ⟨0, 65535, Nat.zero_le _, by omega, rfl, rfl, rfl⟩
  case round =>
    obtain ⟨k, m, hk, hm, rfl, rfl, he⟩ := hrel
    by_cases hlt : k < s.size
    · have hs1 : Hid (Pl.crc (s.data.toList.take (k + 1)) = Pl.byteStep m s[k].toNat) := by show _ = _; rw [Pl.crc_take s k hlt, he.out]
      have hb : s[k].toNat < 256 := s[k].toNat_lt
      have hl : Hid (Pl.byteStep m s[k].toNat < 65536) := Pl.byteStep_lt m _ hm hb
      go_wp2_with (go_at_call 147; refine (checkByte_any _ _ _ (by omega) (by omega)).mono ?_; rintro e w' ⟨rfl, rfl⟩)
      go_round
      case rel => exact ⟨k + 1, Pl.byteStep m s[k].toNat, by omega, hl.out, by go_num, rfl, hs1.out.symm⟩
      case measure => simp [intOf]; omega
    · go_wp2
      go_ret
      exact ⟨rint (by rw [he.out, List.take_of_length_le (by simp; omega)]), rfl⟩

theorem xori (m : Nat) (hm : m < 65536) : bits .xor .i64 ((m : Int) / 2) 40961 = ((m / 2 ^^^ 40961 : Nat) : Int) := by
  have := Pl.i64_xor_nat (m / 2) 40961 (by omega) (by omega)
  exact this

set_option maxRecDepth 100000 in
set_option maxHeartbeats 1000000 in
theorem refCheck_any (s : ByteArray) (w : World) (hs : s.size ≤ maxLen) :
    Calls Tryz.prog 108 #[.string s] w fun e w' => e = .returned (.int .u16 (Pl.crc s.data.toList : Nat)) ∧ w' = w := by
  unfold maxLen at hs
  go_enter Tryz.func108, Tryz.ntmps108
  go_wp2
  go_loop [3, 4] (fun v i => ∃ k m : Nat, k ≤ s.size ∧ m < 65536 ∧ i = .int .i64 k ∧ v = .int .i64 m ∧ Hid (m = Pl.crc (s.data.toList.take k))) (fun _ i => s.size - (intOf i).toNat)
  case atStart => exact ⟨0, 65535, Nat.zero_le _, by omega, rfl, rfl, rfl⟩
  case round =>
    obtain ⟨k, m, hk, hm, rfl, rfl, he⟩ := hrel
    by_cases hlt : k < s.size
    · have hs1 : Hid (Pl.crc (s.data.toList.take (k + 1)) = Pl.byteStep m s[k].toNat) := by show _ = _; rw [Pl.crc_take s k hlt, he.out]
      have hb : s[k].toNat < 256 := s[k].toNat_lt
      have hl : Hid (Pl.byteStep m s[k].toNat < 65536) := Pl.byteStep_lt m _ hm hb
      go_wp2
      go_loop [3, 5, 6] (fun v x j => ∃ q c y : Nat, q ≤ 8 ∧ c < 65536 ∧ y < 256 ∧ j = .int .i64 q ∧ v = .int .i64 c ∧ x = .int .i64 y ∧ Hid (y = s[k].toNat / 2 ^ q) ∧ Hid (c ^^^ y = Pl.bsteps q (m ^^^ s[k].toNat))) (fun _ _ j => 8 - (intOf j).toNat)
      case atStart => exact ⟨0, m, s[k].toNat, by omega, hm, hb, rfl, rfl, rfl, by simp [Hid], rfl⟩
      case round =>
        obtain ⟨q, c, y, hq, hc, hy, rfl, rfl, rfl, hy2, hcy⟩ := hrel
        by_cases hlq : q < 8
        · have hy3 : Hid (y / 2 = s[k].toNat / 2 ^ (q + 1)) := by show _ = _; rw [hy2.out, Nat.pow_succ, Nat.div_div_eq_div_mul]
          have hx := xori c hc
          have hlx : Hid (c / 2 ^^^ 40961 < 65536) := Nat.xor_lt_two_pow (n := 16) (by omega) (by omega)
          by_cases ho : c % 2 = y % 2
          · have h1 : ((c : Int) % 2 != (y : Int) % 2) = false := by simp; omega
            have hn : Hid (c / 2 ^^^ y / 2 = Pl.bsteps (q + 1) (m ^^^ s[k].toNat)) := by show _ = Pl.bstep _; rw [← hcy.out, Pl.ref_even c y ho]
            clear ho hx
            go_wp2
            go_round
            case rel => exact ⟨q + 1, c / 2, y / 2, by omega, by omega, by omega, by go_num, vint (by omega), vint (by omega), hy3, hn⟩
            case measure => simp [intOf]; omega
          · have h1 : ((c : Int) % 2 != (y : Int) % 2) = true := by simp; omega
            have hn : Hid ((c / 2 ^^^ 40961) ^^^ y / 2 = Pl.bsteps (q + 1) (m ^^^ s[k].toNat)) := by show _ = Pl.bstep _; rw [← hcy.out, Pl.ref_odd c y ho]
            have HX : Hid (bits .xor .i64 ((c : Int) / 2) 40961 = ((c / 2 ^^^ 40961 : Nat) : Int)) := hx
            clear ho hx
            go_wp2
            go_round
            case rel => exact ⟨q + 1, c / 2 ^^^ 40961, y / 2, by omega, hlx.out, by omega, by go_num, vint HX.out, vint (by omega), hy3, hn⟩
            case measure => simp [intOf]; omega
        · have hq8 : Hid (q = 8) := by show _ = _; omega
          have hy0 : Hid (y = 0) := by show _ = _; rw [hy2.out, hq8.out]; omega
          go_wp2
          go_round
          case rel =>
            exact ⟨k + 1, c, by omega, hc, by go_num, rfl, by show _ = _; rw [hs1.out]; have := hcy.out; rw [hy0.out, hq8.out, Nat.xor_zero] at this; exact this⟩
          case measure => simp [intOf]; omega
    · go_wp2
      go_ret
      exact ⟨rint (by rw [he.out, List.take_of_length_le (by simp; omega)]), rfl⟩
end Go.Proofs.YtcpldcojckhapaaGreat

set_option maxRecDepth 100000
namespace Go.Proofs.YtcpldcojckhapaaGreat
open Go.RowKit

set_option maxRecDepth 100000 in
set_option maxHeartbeats 1000000 in
theorem unitAndBody_any (s : ByteArray) (w : World) (h1 : 1 ≤ s.size) (hs : s.size ≤ 4194304) :
    Calls Tryz.prog 137 #[.string s] w fun e w' => e = .returned (.agg #[.int .i64 0, .int .i64 (Pl.byt s 0 : Nat), .string (s.extract 1 s.size)]) ∧ Below w.heap.size w w' := by
  have hp : 0 < s.size := h1
  have gb := Pl.get_byt s
  have hb0 := Pl.byt_lt s 0
  go_enter Tryz.func137, Tryz.ntmps137
  go_wp2_with fail
  go_region_with (go_at_call 76; refine (clone_any _ _ (by simp; omega)).mono ?_; rintro e w' ⟨rfl, hb⟩; obtain ⟨hc, hf⟩ := bcell hb)
  all_goals go_wp2
  all_goals
    have ew : IntKind.i64.wrap (Pl.byt s 0 : Int) = Pl.byt s 0 := by rw [IntKind.wrap_i64]; omega
    try simp only [ew]
    refine bodyPost_ret (v := .agg #[.int .i64 0, .int .i64 (Pl.byt s 0 : Nat), .string (s.extract 1 s.size)]) (by simp [results, Tryz.results137, go_sem, hc]) rfl ⟨rfl, ?_⟩
    exact (((((Below.refl _ _).alloc (Nat.le_refl _) _).drew.trans (hb.mono (by simp))).setCell (Nat.le_refl _) _).setCell (Nat.le_refl _) _).setCell (Nat.le_refl _) _

end Go.Proofs.YtcpldcojckhapaaGreat

set_option maxRecDepth 100000
namespace Go.Proofs.YtcpldcojckhapaaGreat
open Go.RowKit

set_option maxRecDepth 100000 in
set_option maxHeartbeats 1000000 in
theorem streamFrame_any (s : ByteArray) (w : World) (h1 : 7 ≤ s.size) (hs : s.size ≤ 4194304) :
    Calls Tryz.prog 110 #[.string s] w fun e w' => e = .returned (.agg #[.int .i64 (256 * Pl.byt s 0 + Pl.byt s 1 : Nat), .int .i64 (Pl.byt s 6 : Nat), .string (s.extract 7 s.size)]) ∧ Below w.heap.size w w' := by
  have hp0 : 0 < s.size := by omega
  have hp1 : 1 < s.size := by omega
  have gb := Pl.get_byt s
  have hb0 := Pl.byt_lt s 0
  have hb1 := Pl.byt_lt s 1
  have e1 := Pl.byt_extract s 6 s.size 0 (Nat.le_refl _) (by omega)
  have e2 := Pl.extract_extract s 6 s.size 1 (s.size - 6) (by omega)
  rw [show 6 + (s.size - 6) = s.size by omega] at e2
  go_enter Tryz.func110, Tryz.ntmps110
  go_wp2_with fail
  refine (unitAndBody_any _ _ (by simp; omega) (by simp; omega)).mono ?_
  rintro e w1 ⟨rfl, hb⟩
  obtain ⟨hc, hf⟩ := bcell hb
  have hz : w.heap.size < w1.heap.size := by have := hb.size; simp at this; omega
  go_wp2
  go_region
  all_goals go_wp2
  all_goals
    have eo : bits BinOp.or IntKind.i64 ((Pl.byt s 0 : Int) * 256) (Pl.byt s 1) = (256 * Pl.byt s 0 + Pl.byt s 1 : Nat) := Pl.i64_word _ _ hb0 hb1
    refine bodyPost_ret (v := .agg #[.int .i64 (256 * Pl.byt s 0 + Pl.byt s 1 : Nat), .int .i64 (Pl.byt s 6 : Nat), .string (s.extract 7 s.size)]) (by simp [results, Tryz.results110, go_sem, hc, hz, eo]) rfl ⟨rfl, ?_⟩
    exact (((((((Below.refl _ _).alloc (Nat.le_refl _) _).trans (hb.mono (by simp))).setCell (Nat.le_refl _) _).setCell (Nat.le_refl _) _).setCell (Nat.le_refl _) _).alloc (by simp; omega) _).drew

set_option maxRecDepth 100000 in
set_option maxHeartbeats 1000000 in
theorem breaks_any (s : ByteArray) (w : World) (hs : s.size ≤ 4194304) :
    Calls Tryz.prog 111 #[.string s] w fun e w' => e = .returned (.bool (Pl.brk s)) ∧ w' = w := by
  have gb := Pl.get_byt s
  go_enter Tryz.func111, Tryz.ntmps111
  go_wp2
  go_loop [3] (fun i => ∃ k : Nat, 2 ≤ k ∧ k ≤ 5 ∧ i = .int .i64 k ∧ Hid ((2 < k → Pl.byt s 2 = 0) ∧ (3 < k → Pl.byt s 3 = 0) ∧ (4 < k → Pl.byt s 4 = 0))) (fun i => 5 - (intOf i).toNat)
  case atStart => exact ⟨2, by omega, by omega, rfl, by simp [Hid]⟩
  case round =>
    obtain ⟨k, hk2, hk5, rfl, hz⟩ := hrel
    by_cases h5 : k < 5
    · by_cases hlt : k < s.size
      · by_cases h0 : Pl.byt s k = 0
        · have t1 : ((Pl.byt s k : Int) != 0) = false := by simp; omega
          have H0 : Hid (Pl.byt s k = 0) := h0
          clear h0
          go_wp2
          go_round
          case rel => exact ⟨k + 1, by omega, by omega, by go_num, by
            have hz := hz.out; have h0 := H0.out
            refine ⟨fun h => ?_, fun h => ?_, fun h => ?_⟩
            · by_cases e : k = 2
              · subst e; exact h0
              · exact hz.1 (by omega)
            · by_cases e : k = 3
              · subst e; exact h0
              · exact hz.2.1 (by omega)
            · by_cases e : k = 4
              · subst e; exact h0
              · exact hz.2.2 (by omega)⟩
          case measure => simp [intOf]; omega
        · have t1 : ((Pl.byt s k : Int) != 0) = true := by simp; omega
          have HB : Hid (Pl.brk s = true) := Pl.brk_true s (by
            rcases (show k = 2 ∨ k = 3 ∨ k = 4 by omega) with e | e | e
            · subst e; exact .inl h0
            · subst e; exact .inr (.inl h0)
            · subst e; exact .inr (.inr (.inl h0)))
          clear h0
          go_wp2
          go_ret
          exact ⟨rbool HB.out.symm, rfl⟩
      · have HB : Hid (Pl.brk s = false) := Pl.brk_false s (Classical.byContradiction fun h => h (if e : 2 < k then hz.out.1 e else Pl.byt_end s 2 (by omega))) (if e : 3 < k then hz.out.2.1 e else Pl.byt_end s 3 (by omega)) (if e : 4 < k then hz.out.2.2 e else Pl.byt_end s 4 (by omega)) (fun h => by omega)
        have hl5 : ¬ 5 < s.size := by omega
        go_wp2
        go_ret
        exact ⟨rbool HB.out.symm, rfl⟩
    · have hz2 := hz.out.1 (by omega)
      have hz3 := hz.out.2.1 (by omega)
      have hz4 := hz.out.2.2 (by omega)
      by_cases hl5 : 5 < s.size
      · by_cases hlo : Pl.byt s 5 < 2
        · have HB : Hid (Pl.brk s = true) := Pl.brk_true s (.inr (.inr (.inr ⟨hl5, .inl hlo⟩)))
          clear hz2 hz3 hz4
          go_wp2
          go_ret
          exact ⟨rbool HB.out.symm, rfl⟩
        · by_cases hhi : 254 < Pl.byt s 5
          · have HB : Hid (Pl.brk s = true) := Pl.brk_true s (.inr (.inr (.inr ⟨hl5, .inr hhi⟩)))
            clear hz2 hz3 hz4
            go_wp2
            go_ret
            exact ⟨rbool (by rw [HB.out]; simp; omega), rfl⟩
          · have HB : Hid (Pl.brk s = false) := Pl.brk_false s hz2 hz3 hz4 (fun _ => by omega)
            clear hz2 hz3 hz4
            go_wp2
            go_ret
            exact ⟨rbool (by rw [HB.out]; simp; omega), rfl⟩
      · have HB : Hid (Pl.brk s = false) := Pl.brk_false s hz2 hz3 hz4 (fun _ => by omega)
        clear hz2 hz3 hz4
        go_wp2
        go_ret
        exact ⟨rbool HB.out.symm, rfl⟩

set_option maxRecDepth 100000 in
set_option maxHeartbeats 1000000 in
theorem wholeSize_any (s : ByteArray) (w : World) (hs : s.size ≤ 4194304) :
    Calls Tryz.prog 109 #[.string s] w fun e w' => e = .returned (.int .i64 (Pl.whole s : Nat)) ∧ w' = w := by
  have gb := Pl.get_byt s
  have hb5 := Pl.byt_lt s 5
  by_cases h6 : s.size < 6
  · have HB : Hid (Pl.whole s = 0) := by show _ = _; unfold Pl.whole; rw [if_pos (.inl h6)]
    go_enter Tryz.func109, Tryz.ntmps109
    go_wp2
    go_ret
    exact ⟨rint (by rw [HB.out]; rfl), rfl⟩
  · cases hbrk : Pl.brk s
    · by_cases hw : s.size < 6 + Pl.byt s 5
      · have HB : Hid (Pl.whole s = 0) := by show _ = _; unfold Pl.whole; rw [if_neg (by simp [hbrk]; omega), if_pos hw]
        go_enter Tryz.func109, Tryz.ntmps109
        go_wp2_with fail
        refine (breaks_any s _ hs).mono ?_
        rintro e w' ⟨rfl, rfl⟩
        rw [hbrk]; clear hbrk
        go_wp2
        go_ret
        exact ⟨rint (by rw [HB.out]; rfl), rfl⟩
      · have HB : Hid (Pl.whole s = 6 + Pl.byt s 5) := by show _ = _; unfold Pl.whole; rw [if_neg (by simp [hbrk]; omega), if_neg hw]
        go_enter Tryz.func109, Tryz.ntmps109
        go_wp2_with fail
        refine (breaks_any s _ hs).mono ?_
        rintro e w' ⟨rfl, rfl⟩
        rw [hbrk]; clear hbrk
        go_wp2
        go_ret
        exact ⟨rint (by rw [HB.out]; omega), rfl⟩
    · have HB : Hid (Pl.whole s = 0) := by show _ = _; unfold Pl.whole; rw [if_pos (.inr hbrk)]
      go_enter Tryz.func109, Tryz.ntmps109
      go_wp2_with fail
      refine (breaks_any s _ hs).mono ?_
      rintro e w' ⟨rfl, rfl⟩
      rw [hbrk]; clear hbrk
      go_wp2
      go_ret
      exact ⟨rint (by rw [HB.out]; rfl), rfl⟩
end Go.Proofs.YtcpldcojckhapaaGreat

set_option maxRecDepth 100000
namespace Go.Proofs.YtcpldcojckhapaaGreat
open Go.RowKit

/-- What is owned stays owned where nothing that was there has turned. -/
theorem Tryz.info94 : (Tryz.prog.info? 94).map (fun i => (i.zero, i.size, i.bytes)) = some (some (.agg #[.int .i64 0, .int .i64 0, .string ⟨#[]⟩]), 3, 32) := by kernel_rfl

/-- What both Splits answer, said of plain letters. -/
def SplIs (s : ByteArray) (acc : List Value) (t : Nat) (k : Int) : Prop := Pl.splF s = (acc, t) ∧ k = if Pl.brk (s.extract t s.size) then 4 else 0
/-- What is left behind some requests. -/
def SplAt (s : ByteArray) (f t : Nat) (acc : List Value) : Prop := acc ++ (Pl.spl s f t).1 = (Pl.splF s).1 ∧ (Pl.spl s f t).2 = (Pl.splF s).2
theorem splAt_start (s : ByteArray) : SplAt s (s.size + 1) 0 [] := ⟨rfl, rfl⟩
theorem splAt_step {s : ByteArray} {f t : Nat} {acc : List Value} (h : SplAt s (f + 1) t acc) (hw : Pl.wholeAt s t ≠ 0) : SplAt s f (t + Pl.wholeAt s t) (acc ++ Pl.frAt s t (Pl.wholeAt s t)) := by
  have := h; unfold SplAt at this ⊢; rw [Pl.spl_step s f t hw] at this; exact ⟨by rw [List.append_assoc]; exact this.1, this.2⟩
theorem splAt_stop {s : ByteArray} {f t : Nat} {acc : List Value} (h : SplAt s f t acc) (hw : Pl.wholeAt s t = 0) : Pl.splF s = (acc, t) := by
  have := h; unfold SplAt at this; rw [Pl.spl_stop s f t hw] at this
  exact Prod.ext (by simpa using this.1.symm) this.2.symm

theorem streamFrame_at (s : ByteArray) (t z : Nat) (w : World) (h1 : 8 ≤ z) (h2 : t + z ≤ s.size) (hs : s.size ≤ 4194304) :
    Calls Tryz.prog 110 #[.string (s.extract t (t + z))] w fun e w' => ∃ (p q : Nat) (b : ByteArray), e = .returned (.agg #[.int .i64 (p : Nat), .int .i64 (q : Nat), .string b]) ∧ Hid (Pl.frAt s t z = [.int .i64 (p : Nat), .int .i64 (q : Nat), .string b]) ∧ Below w.heap.size w w' := by
  have hz : (s.extract t (t + z)).size = z := by simp; omega
  refine (streamFrame_any (s.extract t (t + z)) w (by omega) (by omega)).mono ?_
  rintro e w' ⟨rfl, hb⟩
  refine ⟨_, _, _, rfl, ?_, hb⟩
  show Pl.frAt s t z = _
  unfold Pl.frAt
  rw [Pl.byt_extract s t (t + z) 0 h2 (by omega), Pl.byt_extract s t (t + z) 1 h2 (by omega), Pl.byt_extract s t (t + z) 6 h2 (by omega), hz, Pl.extract_extract s t (t + z) 7 z (by omega)]
  rfl

set_option maxRecDepth 100000 in
set_option maxHeartbeats 1000000 in
theorem split_core (s : ByteArray) (w : World) (hs : s.size ≤ 4194304) :
    Calls Tryz.prog 75 #[.string s] w fun e w' => ∃ v n acc t k, e = .returned (.tuple #[v, .int .i64 (t : Nat), .int .i64 k]) ∧
      w'.ownsRow w.heap.size 94 3 v n acc ∧ SplIs s acc t k ∧ n ≤ 524288 ∧ Below w.heap.size w w' := by
  obtain ⟨i0, hi, hz0, hz1, hz2⟩ := info_parts Tryz.info94
  go_enter Tryz.func75, Tryz.ntmps75
  go_wp2_with fail
  refine (wholeSize_any s _ hs).mono ?_
  rintro e w' ⟨rfl, rfl⟩
  go_wp2_with fail
  go_loopw [5, 6, 7] (fun v t z wr => ∃ at_ n f acc zz, at_ ≤ s.size ∧ 8 * n ≤ at_ ∧ t = .int .i64 (at_ : Nat) ∧ z = .int .i64 (zz : Nat) ∧ Hid (zz = Pl.wholeAt s at_) ∧ wr.ownsRow w'.heap.size 94 3 v n acc ∧ s.size < at_ + f ∧
    SplAt s f at_ acc ∧ Below w'.heap.size w' wr) (fun _ t _ _ => s.size - (intOf t).toNat)
  case atStart => exact ⟨0, 0, s.size + 1, [], Pl.whole s, by omega, by omega, rfl, rfl, (Pl.wholeAt_zero s).symm, World.ownsRow_nil _ _ _ _, by omega, splAt_start s, Below.refl _ _⟩
  case round =>
    obtain ⟨t, n, f, acc, z, ht, hn, rfl, rfl, HZ, hown, hf, HS, hbel⟩ := hrel
    by_cases hw : z = 0
    · have HE : Hid (Pl.splF s = (acc, t)) := splAt_stop HS (by rw [← HZ.out]; exact hw)
      subst hw
      clear HS HZ
      cases hbrk : Pl.brk (s.extract t s.size)
      · have HK : SplIs s acc t 0 := ⟨HE.out, by rw [hbrk]; rfl⟩
        clear HE
        go_wp2_with fail
        refine (breaks_any _ _ (by simp; omega)).mono ?_
        rintro e w2 ⟨rfl, rfl⟩
        rw [hbrk]
        clear hbrk
        go_wp2
        go_ret3
        exact ⟨u5, n, acc, t, 0, rfl, hown, HK, by omega, hbel⟩
      · have HK : SplIs s acc t 4 := ⟨HE.out, by rw [hbrk]; rfl⟩
        clear HE
        go_wp2_with fail
        refine (breaks_any _ _ (by simp; omega)).mono ?_
        rintro e w2 ⟨rfl, rfl⟩
        rw [hbrk]
        clear hbrk
        go_wp2
        go_ret3
        exact ⟨u5, n, acc, t, 4, rfl, hown, HK, by omega, hbel⟩
    · have hw0 : Pl.wholeAt s t ≠ 0 := by rw [← HZ.out]; exact hw
      have hwb := Pl.wholeAt_bd s t hw0
      rw [← HZ.out] at hwb
      obtain ⟨hw1, hw2, hw3⟩ := hwb
      obtain ⟨f, rfl⟩ : ∃ g, f = g + 1 := ⟨f - 1, by omega⟩
      have HN := splAt_step HS hw0
      rw [← HZ.out] at HN
      clear HS hw0 HZ
      go_wp2_with fail
      refine (streamFrame_at s t z _ hw1 hw3 hs).mono ?_
      rintro e w2 ⟨p, q, b, rfl, HF, hb2⟩
      rw [HF.out] at HN
      have hown2 : w2.ownsRow w'.heap.size 94 3 u5 n acc := ownsRow_below hown hb2
      have hbel2 : Below w'.heap.size w' w2 := hbel.trans (hb2.mono hbel.size)
      have hsz2 := hbel2.size
      clear hown hbel hb2 HF
      go_wp2_with (at_builtin; refine wpList_append_own _ rfl (.tmp 16) (.tmp 24) 29 rfl w'.heap.size 94 i0 (.agg #[.int .i64 0, .int .i64 0, .string ⟨#[]⟩]) 3 32 Tryz.underlying29 hi hz0 hz1 hz2 rfl (by decide) u5 n acc rfl (hown2.alloc _) ⟨w2.heap.size, 0, none⟩ 1 1 [.int .i64 (p : Nat), .int .i64 (q : Nat), .string b] rfl rfl (cell_three_new _ _ _ _ _) (by intro u hu; simp at hu; rcases hu with rfl | rfl | rfl <;> rfl) (by unfold maxLen; omega) (by omega) (by simp; omega) ?_; intro v' w3 hown3 hgrow3 _)
      refine (wholeSize_any _ _ (by simp; omega)).mono ?_
      rintro e w4 ⟨rfl, rfl⟩
      have hbel3 : Below w'.heap.size w' w4 := (hbel2.alloc hsz2 _).grown hgrow3 (by simp; omega) (fun k hk => (hown2.lt k hk).1)
      clear hown2 hbel2 hgrow3
      go_wp2
      go_roundw
      case rel => exact ⟨t + z, n + 1, f, _, Pl.whole (s.extract (t + z) s.size), by omega, by omega, by go_num, rfl, rfl, hown3, by omega, HN, hbel3⟩
      case measure => simp [intOf]; omega
end Go.Proofs.YtcpldcojckhapaaGreat

set_option maxRecDepth 100000
namespace Go.Proofs.YtcpldcojckhapaaGreat
open Go.RowKit

def streamB (m u : Nat) (b : ByteArray) : ByteArray := twoB m ++ ⟨#[0, 0]⟩ ++ twoB (b.size + 1) ++ ⟨#[UInt8.ofNat u]⟩ ++ b
set_option maxRecDepth 100000 in
set_option maxHeartbeats 2000000 in
theorem stream_any (m u : Nat) (b : ByteArray) (w : World) (hm : m < 65536) (hu : u < 256) (hb : b.size ≤ 253) :
    Calls Tryz.prog 21 #[.int .i64 (m : Nat), .int .i64 (u : Nat), .string b] w fun e w' => e = .returned (.string (streamB m u b)) ∧ Below w.heap.size w w' := by
  have c1 : ∀ (W : World) (g : Nat), W.cell? ⟨g, 0, none⟩ = some (.int .u8 (u : Int)) → (convert 114 9 (.slice (some ⟨g, 0, none⟩) 1 1)).run Tryz.prog W = .ok (.string ⟨#[UInt8.ofNat u]⟩) W := fun W g hc => conv1_at W g u hc
  have wl : IntKind.i64.wrap ((b.size : Int) + 1) = (b.size : Int) + 1 := by rw [IntKind.wrap_i64]; omega
  have wu : IntKind.u8.wrap (u : Int) = (u : Int) := by rw [IntKind.wrap_u8]; omega
  have hlim : ¬ 9223372036854775807 < 7 + b.size := by omega
  have z1 : (twoB m).size = 2 := rfl
  have z2 : (twoB (b.size + 1)).size = 2 := rfl
  go_enter Tryz.func21, Tryz.ntmps21
  go_wp2_with fail
  go_region_law (first
    | (refine step_call rfl 29 #[.tmp 7] #[3] rfl #[.int .i64 (m : Nat)] (by simp [Act.eval, Act.put]) (enter25 _ _) _ (two_step _ m rfl _ hm) ?_; rintro v w1 ⟨rfl, hb1⟩; obtain ⟨hc1, hf1⟩ := bcell hb1; try (have hz1 : w.heap.size < w1.heap.size := (by have := hb1.size; simp at this; omega)))
    | (refine step_call rfl 29 #[.tmp 12] #[3] rfl #[.int .i64 ((b.size : Int) + 1)] (by simp [Act.eval, Act.put]) (enter25 _ _) _ (two_step _ (b.size + 1) (by omega) _ (by omega)) ?_; rintro v w2 ⟨rfl, hb2⟩; obtain ⟨hc2, hf2⟩ := bcell hb2))
  all_goals go_wp2
  all_goals go_ret
  all_goals
    refine ⟨rfl, ?_⟩
    repeat (first | exact Below.refl _ _ | refine Below.drew ?_ | refine bel_alloc ?_ _ | refine bel_then ?_ hb2 | refine bel_then ?_ hb1)
end Go.Proofs.YtcpldcojckhapaaGreat
