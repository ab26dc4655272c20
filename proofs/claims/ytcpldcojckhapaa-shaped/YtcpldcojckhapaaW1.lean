/-
  Package pdu's word, words and bits: what they answer.
-/
import Derived.Test.YtcpldcojckhapaaBV
import Derived.Test.YtcpldcojckhapaaSh0
import Derived.Deep.OwnRows
namespace Go.Proofs.Ytcpldcojckhapaa
open Go.RowKit

set_option maxRecDepth 100000 in
set_option maxHeartbeats 400000 in
theorem pword_any (s : ByteArray) (w : World) (h : 2 ≤ s.size) :
    Calls Try.prog 64 #[.string s] w fun e w' => e = .returned (.int .i64 (Pl.wd s 0 : Nat)) ∧ ∃ n, w' = w.drewN n := by
  have gb := Pl.get_byt s
  have h0 := Pl.byt_lt s 0
  have h1 := Pl.byt_lt s 1
  have l0 : 0 < s.size := by omega
  have l1 : 1 < s.size := by omega
  go_enter Try.func64, Try.ntmps64
  go_wp2
  go_quiet (fail)
  go_wp2
  go_ret
  exact ⟨rint (by unfold Pl.wd; first | omega | (rw [Pl.i64_word _ _ h0 h1])), _, rfl⟩

theorem made_ints (n : Nat) (h : n ≤ 100000) (W : World) : (Instr.makeSlice 30 (.int .i64 (n : Int)) (.int .i64 (n : Int))).run Try.prog W = .ok (.slice (some ⟨W.heap.size, 0, none⟩) n n) (W.alloc (.cells (madeCells #[.int .i64 0] n) 3)) :=
  run_make_row' 30 3 _ 8 Try.underlying30 Try.infoEI rfl .i64 .i64 n (by omega) (by omega) W
theorem made_part (W : World) (n : Nat) (h : n ≤ 100000) (xs : List Value) : PartC (W.alloc (.cells (madeCells #[.int .i64 0] n) 3)) W.heap.size 3 1 (.slice (some ⟨W.heap.size, 0, none⟩) n n) n 0 xs :=
  .inr ⟨W.heap.size, n, _, rfl, Nat.le_refl _, heap_alloc_new W _, Nat.le_refl _, by unfold maxLen; omega, by rw [size_madeCells]; simp, fun x hx => absurd hx (Nat.not_lt_zero _)⟩
theorem encI_at (l : List Int) (q : Nat) (x : Int) (h : l[q]? = some x) : (l.flatMap encI)[q]? = some (.int .i64 x) := by
  obtain ⟨hq, rfl⟩ := List.getElem?_eq_some_iff.1 h
  have := flat_gen encI 1 (fun _ => rfl) l q 0 hq (by omega)
  simp only [Nat.mul_one, Nat.add_zero] at this
  rw [this]; rfl
theorem encI_len (l : List Int) : (l.flatMap encI).length = l.length * 1 := flat_len encI 1 (fun _ => rfl) l

set_option maxRecDepth 100000 in
set_option maxHeartbeats 1000000 in
theorem pwords_any (s : ByteArray) (n : Nat) (w : World) (hn : s.size / 2 = n) (hs : s.size ≤ 100000) :
    Calls Try.prog 69 #[.string s] w fun e w' => ∃ v, e = .returned v ∧ w'.ownsRow w.heap.size 3 1 v n ((Pl.wordsL s 0 n).flatMap encI) ∧ Below w.heap.size w w' := by
  have hmk := made_ints n (by omega)
  have hq : IntKind.i64.wrap ((s.size : Int).tdiv 2) = (n : Int) := by rw [IntKind.wrap_i64, Int.tdiv_eq_ediv_of_nonneg (by omega)]; omega
  have hq2 : (s.size : Int) / 2 = (n : Int) := by omega
  have hn2 : 2 * n ≤ s.size := by omega
  go_enter Try.func69, Try.ntmps69
  go_wp2_with fail
  go_loopw [11] (fun i wr => ∃ q : Nat, q ≤ n ∧ i = .int .i64 (q : Nat) ∧ PartC wr w.heap.size 3 1 (.slice (some ⟨w.heap.size, 0, none⟩) n n) n q ((Pl.wordsL s 0 n).flatMap encI) ∧ Below w.heap.size w wr) (fun i _ => n - (intOf i).toNat)
  case atStart => exact ⟨0, Nat.zero_le _, rfl, made_part w n (by omega) _, (Below.refl _ _).alloc (Nat.le_refl _) _⟩
  case round =>
    obtain ⟨q, hqn, rfl, hp, hb⟩ := hrel
    obtain ⟨hpc, hpf⟩ := hp.cells
    by_cases hlt : q < n
    · obtain ⟨u, hu⟩ := hpc q (by omega)
      have hf := hpf q
      have hl2 : q * 2 ≤ s.size := by omega
      have hsz : 2 ≤ (s.extract (q * 2) s.size).size := by simp; omega
      clear hpc hpf
      go_wp2_with fail
      refine (pword_any (s.extract (q * 2) s.size) _ hsz).mono ?_
      rintro e w1 ⟨rfl, k, rfl⟩
      rw [Pl.wd_suffix]
      obtain ⟨W, hW⟩ : ∃ W, W = wr.drewN k := ⟨_, rfl⟩
      rw [← hW]
      have hbW : Below w.heap.size w W := by rw [hW]; exact below_drewN hb _
      have hpW : PartC W w.heap.size 3 1 (.slice (some ⟨w.heap.size, 0, none⟩) n n) n q ((Pl.wordsL s 0 n).flatMap encI) := by rw [hW]; exact hp.same (fun g hg => by simp)
      clear hu hf
      obtain ⟨hpc, hpf⟩ := hpW.cells
      obtain ⟨u, hu⟩ := hpc q (by omega)
      have hf := hpf q
      clear hW hp hb hpc hpf
      go_wp2_with fail
      go_roundw
      case rel => exact ⟨q + 1, by omega, by go_num, hpW.step (by rw [encI_at _ _ _ (Pl.wordsL_at s 0 n q hlt)]; congr 2; rw [Nat.zero_add, Nat.mul_comm]) (by omega), hbW.setCell (Nat.le_refl _) _⟩
      case measure => simp [intOf]; omega
    · go_wp2
      go_ret
      exact ⟨_, rfl, hp.own (by rw [encI_len, Pl.wordsL_len]) (by omega), hb⟩

theorem and_one_u8 (a : Nat) (ha : a < 256) : bits .and .u8 (a : Int) 1 = ((a % 2 : Nat) : Int) := by
  show IntKind.u8.wrap ((BitVec.ofInt 8 (a : Int) &&& BitVec.ofInt 8 1).toNat : Int) = _
  have e1 : (BitVec.ofInt 8 (a : Int)).toNat = a := by rw [BitVec.ofInt_natCast, BitVec.toNat_ofNat]; exact Nat.mod_eq_of_lt (by omega)
  have e2 : (BitVec.ofInt 8 (1 : Int)).toNat = 1 := rfl
  rw [BitVec.toNat_and, e1, e2, Nat.and_one_is_mod, IntKind.wrap_u8]
  omega
theorem bit_low (s : ByteArray) (q : Nat) : wrap64 (bits BinOp.and IntKind.u8 ((Pl.byt s (q / 8) : Int) / 2 ^ (q % 8)) 1) = ((Pl.bit s 0 q : Nat) : Int) := by
  have hb := Pl.byt_lt s (q / 8)
  have e : ((Pl.byt s (q / 8) : Nat) : Int) / 2 ^ (q % 8) = ((Pl.byt s (q / 8) / 2 ^ (q % 8) : Nat) : Int) := by
    rw [Int.natCast_ediv, Int.natCast_pow]; rfl
  have hd : Pl.byt s (q / 8) / 2 ^ (q % 8) ≤ Pl.byt s (q / 8) := Nat.div_le_self _ _
  rw [e, and_one_u8 _ (by omega)]
  unfold Pl.bit
  rw [Nat.zero_add]
  simp only [wrap64]
  omega
set_option maxRecDepth 100000 in
set_option maxHeartbeats 1000000 in
theorem pbits_any (s : ByteArray) (n : Nat) (w : World) (hn : (n + 7) / 8 ≤ s.size) (hs : n ≤ 100000) :
    Calls Try.prog 68 #[.string s, .int .i64 (n : Nat)] w fun e w' => ∃ v, e = .returned v ∧ w'.ownsRow w.heap.size 3 1 v n ((Pl.bitsL s 0 n).flatMap encI) ∧ Below w.heap.size w w' := by
  have hmk := made_ints n (by omega)
  have gb := Pl.get_byt s
  go_enter Try.func68, Try.ntmps68
  go_wp2_with fail
  go_loopw [11] (fun i wr => ∃ q : Nat, q ≤ n ∧ i = .int .i64 (q : Nat) ∧ PartC wr w.heap.size 3 1 (.slice (some ⟨w.heap.size, 0, none⟩) n n) n q ((Pl.bitsL s 0 n).flatMap encI) ∧ Below w.heap.size w wr) (fun i _ => n - (intOf i).toNat)
  case atStart => exact ⟨0, Nat.zero_le _, rfl, made_part w n (by omega) _, (Below.refl _ _).alloc (Nat.le_refl _) _⟩
  case round =>
    obtain ⟨q, hqn, rfl, hp, hb⟩ := hrel
    obtain ⟨hpc, hpf⟩ := hp.cells
    by_cases hlt : q < n
    · obtain ⟨u, hu⟩ := hpc q (by omega)
      have hf := hpf q
      have hl2 : q / 8 < s.size := by omega
      have hbl := Pl.byt_lt s (q / 8)
      clear hpc hpf
      go_wp2_with fail
      go_roundw
      case rel => exact ⟨q + 1, by omega, by go_num, hp.step (by rw [encI_at _ _ _ (Pl.bitsL_at s 0 n q hlt)]; exact congrArg some (vint (bit_low s q).symm)) (by omega), hb.setCell (Nat.le_refl _) _⟩
      case measure => simp [intOf]; omega
    · go_wp2
      go_ret
      exact ⟨_, rfl, hp.own (by rw [encI_len, Pl.bitsL_len]) (by omega), hb⟩
end Go.Proofs.Ytcpldcojckhapaa
