/-
  
-/
import Derived.Test.YtcpldcojckhapaaGreatJ10
import Derived.Test.YtcpldcojckhapaaGreatSh0
import Derived.Deep.OwnRows
set_option maxRecDepth 100000
namespace Go.Proofs.YtcpldcojckhapaaGreat
open Go.RowKit
set_option maxRecDepth 100000 in
set_option maxHeartbeats 400000 in
theorem pword_any (s : ByteArray) (w : World) (h : 2 <= s.size) :
    Calls Tryz.prog 128 #[.string s] w fun e w' => e = .returned (.int .i64 (Pl.wd s 0 : Nat)) /\ ∃ n, w' = w.drewN n := by
  have gb := Pl.get_byt s
  have h0 := Pl.byt_lt s 0
  have h1 := Pl.byt_lt s 1
  have l0 : 0 < s.size := by omega
  have l1 : 1 < s.size := by omega
  go_enter Tryz.func128, Tryz.ntmps128
  go_wp2
  go_quiet (fail)
  go_wp2
  go_ret
  exact ⟨rint (by unfold Pl.wd; first | omega | (rw [Pl.i64_word _ _ h0 h1])), _, rfl⟩
theorem made_ints (n : Nat) (h : n <= 100000) (W : World) : (Instr.makeSlice 28 (.int .i64 (n : Int)) (.int .i64 (n : Int))).run Tryz.prog W = .ok (.slice (some ⟨W.heap.size, 0, none⟩) n n) (W.alloc (.cells (madeCells #[.int .i64 0] n) 3)) :=
  run_make_row' 28 3 _ 8 Tryz.underlying28 Tryz.infoEI rfl .i64 .i64 n (by omega) (by omega) W
theorem made_part (W : World) (n : Nat) (h : n <= 100000) (xs : List Value) : PartC (W.alloc (.cells (madeCells #[.int .i64 0] n) 3)) W.heap.size 3 1 (.slice (some ⟨W.heap.size, 0, none⟩) n n) n 0 xs :=
  .inr ⟨W.heap.size, n, _, rfl, Nat.le_refl _, heap_alloc_new W _, Nat.le_refl _, by unfold maxLen; omega, by rw [size_madeCells]; simp, fun x hx => absurd hx (Nat.not_lt_zero _)⟩
theorem encI_at (l : List Int) (q : Nat) (x : Int) (h : l[q]? = some x) : (l.flatMap encI)[q]? = some (.int .i64 x) := by
  obtain ⟨hq, rfl⟩ := List.getElem?_eq_some_iff.1 h
  have := flat_gen encI 1 (fun _ => rfl) l q 0 hq (by omega)
  simp only [Nat.mul_one, Nat.add_zero] at this
  rw [this]; rfl
theorem encI_len (l : List Int) : (l.flatMap encI).length = l.length * 1 := flat_len encI 1 (fun _ => rfl) l
set_option maxRecDepth 100000 in
set_option maxHeartbeats 1000000 in
theorem pwords_any (s : ByteArray) (n : Nat) (w : World) (hn : s.size / 2 = n) (hs : s.size <= 100000) :
    Calls Tryz.prog 99 #[.string s] w fun e w' => ∃ v, e = .returned v /\ w'.ownsRow w.heap.size 3 1 v n ((Pl.wordsL s 0 n).flatMap encI) /\ Below w.heap.size w w' := by
  have hmk := made_ints n (by omega)
  have hq : IntKind.i64.wrap ((s.size : Int).tdiv 2) = (n : Int) := by rw [IntKind.wrap_i64, Int.tdiv_eq_ediv_of_nonneg (by omega)]; omega
  have hq2 : (s.size : Int) / 2 = (n : Int) := by omega
  have hn2 : 2 * n <= s.size := by omega
  go_enter Tryz.func99, Tryz.ntmps99
  go_wp2_with fail
  go_loopw [11] (fun i wr => ∃ q : Nat, q <= n /\ i = .int .i64 (q : Nat) /\ PartC wr w.heap.size 3 1 (.slice (some ⟨w.heap.size, 0, none⟩) n n) n q ((Pl.wordsL s 0 n).flatMap encI) /\ Below w.heap.size w wr) (fun i _ => n - (intOf i).toNat)
  case atStart => exact ⟨0, Nat.zero_le _, rfl, made_part w n (by omega) _, (Below.refl _ _).alloc (Nat.le_refl _) _⟩
  case round =>
    obtain ⟨q, hqn, rfl, hp, hb⟩ := hrel
    obtain ⟨hpc, hpf⟩ := hp.cells
    by_cases hlt : q < n
    . obtain ⟨u, hu⟩ := hpc q (by omega)
      have hf := hpf q
      have hl2 : q * 2 <= s.size := by omega
      have hsz : 2 <= (s.extract (q * 2) s.size).size := by simp; omega
      clear hpc hpf
      go_wp2_with fail
      refine (pword_any (s.extract (q * 2) s.size) _ hsz).mono ?_
      rintro e w1 ⟨rfl, k, rfl⟩
      rw [Pl.wd_suffix]
      obtain ⟨W, hW⟩ : ∃ W, W = wr.drewN k := ⟨_, rfl⟩
      rw [<- hW]
      have hbW : Below w.heap.size w W := by rw [hW]; exact below_drewN hb _
      have hpW : PartC W w.heap.size 3 1 (.slice (some ⟨w.heap.size, 0, none⟩) n n) n q ((Pl.wordsL s 0 n).flatMap encI) := by rw [hW]; exact hp.same (fun g hg => by simp)
      clear hu hf
      obtain ⟨hpc, hpf⟩ := hpW.cells
      obtain ⟨u, hu⟩ := hpc q (by omega)
      have hf := hpf q
      clear hW hp hb hpc hpf
      go_wp2_with fail
      go_roundw
      case rel => exact ⟨q + 1, by omega, by go_num, hpW.step (by rw [encI_at _ _ _ (Pl.wordsL_at s 0 n q hlt)]; congr 2; rw [Nat.zero_add, Nat.mul_comm]) (by omega), hbW.setCell (Nat.le_refl _) _⟩
      case measure => simp [intOf]; omega
    . go_wp2
      go_ret
      exact ⟨_, rfl, hp.own (by rw [encI_len, Pl.wordsL_len]) (by omega), hb⟩
theorem and_one_u8 (a : Nat) (ha : a < 256) : bits .and .u8 (a : Int) 1 = ((a % 2 : Nat) : Int) := by
  show IntKind.u8.wrap ((BitVec.ofInt 8 (a : Int) &&& BitVec.ofInt 8 1).toNat : Int) = _
  have e1 : (BitVec.ofInt 8 (a : Int)).toNat = a := by rw [BitVec.ofInt_natCast, BitVec.toNat_ofNat]; exact Nat.mod_eq_of_lt (by omega)
  have e2 : (BitVec.ofInt 8 (1 : Int)).toNat = 1 := rfl
  rw [BitVec.toNat_and, e1, e2, Nat.and_one_is_mod, IntKind.wrap_u8]
  omega
theorem bit_low (s : ByteArray) (q : Nat) : wrap64 (bits BinOp.and IntKind.u8 ((Pl.byt s (q / 8) : Int) / 2 ^ (q % 8)) 1) = ((Pl.bit s 0 q : Nat) : Int) := by
  have hb := Pl.byt_lt s (q / 8)
  have e : ((Pl.byt s (q / 8) : Nat) : Int) / 2 ^ (q % 8) = ((Pl.byt s (q / 8) / 2 ^ (q % 8) : Nat) : Int) := by
    rw [Int.natCast_ediv, Int.natCast_pow]; rfl
  have hd : Pl.byt s (q / 8) / 2 ^ (q % 8) <= Pl.byt s (q / 8) := Nat.div_le_self _ _
  rw [e, and_one_u8 _ (by omega)]
  unfold Pl.bit
  rw [Nat.zero_add]
  simp only [wrap64]
  omega
set_option maxRecDepth 100000 in
set_option maxHeartbeats 1000000 in
theorem pbits_any (s : ByteArray) (n : Nat) (w : World) (hn : (n + 7) / 8 <= s.size) (hs : n <= 100000) :
    Calls Tryz.prog 98 #[.string s, .int .i64 (n : Nat)] w fun e w' => ∃ v, e = .returned v /\ w'.ownsRow w.heap.size 3 1 v n ((Pl.bitsL s 0 n).flatMap encI) /\ Below w.heap.size w w' := by
  have hmk := made_ints n (by omega)
  have gb := Pl.get_byt s
  go_enter Tryz.func98, Tryz.ntmps98
  go_wp2_with fail
  go_loopw [11] (fun i wr => ∃ q : Nat, q <= n /\ i = .int .i64 (q : Nat) /\ PartC wr w.heap.size 3 1 (.slice (some ⟨w.heap.size, 0, none⟩) n n) n q ((Pl.bitsL s 0 n).flatMap encI) /\ Below w.heap.size w wr) (fun i _ => n - (intOf i).toNat)
  case atStart => exact ⟨0, Nat.zero_le _, rfl, made_part w n (by omega) _, (Below.refl _ _).alloc (Nat.le_refl _) _⟩
  case round =>
    obtain ⟨q, hqn, rfl, hp, hb⟩ := hrel
    obtain ⟨hpc, hpf⟩ := hp.cells
    by_cases hlt : q < n
    . obtain ⟨u, hu⟩ := hpc q (by omega)
      have hf := hpf q
      have hl2 : q / 8 < s.size := by omega
      have hbl := Pl.byt_lt s (q / 8)
      clear hpc hpf
      go_wp2_with fail
      go_roundw
      case rel => exact ⟨q + 1, by omega, by go_num, hp.step (by rw [encI_at _ _ _ (Pl.bitsL_at s 0 n q hlt)]; exact congrArg some (vint (bit_low s q).symm)) (by omega), hb.setCell (Nat.le_refl _) _⟩
      case measure => simp [intOf]; omega
    . go_wp2
      go_ret
      exact ⟨_, rfl, hp.own (by rw [encI_len, Pl.bitsL_len]) (by omega), hb⟩
end Go.Proofs.YtcpldcojckhapaaGreat

set_option maxRecDepth 100000
namespace Go.Proofs.YtcpldcojckhapaaGreat
open Go.RowKit
theorem enter50 (x : Value) (w : World) : (callFunc 128 #[x]).run Tryz.prog w = .ok (.enter 128 #[x]) w := by kernel_rfl
theorem pword_step (s : ByteArray) (w : World) (h : 2 <= s.size) :
    Calls Tryz.prog 128 #[.string s] w fun e w' => ∃ v, e = .returned v /\ (v = .int .i64 (Pl.wd s 0 : Nat) /\ ∃ n, w' = w.drewN n) := by
  refine (pword_any s w h).mono ?_
  rintro e w' ⟨rfl, n, rfl⟩
  exact ⟨_, rfl, rfl, n, rfl⟩
theorem nat_beq (a b : Nat) : ((a : Int) == (b : Int)) = decide (a = b) := by rw [Bool.eq_iff_iff]; simp; omega
theorem drew_drew (w : World) (a b : Nat) : ∃ n, (w.drewN a).drewN b = w.drewN n := ⟨a + b, by rw [World.drewN_drewN]⟩
theorem wd_behind (s : ByteArray) (k : Nat) : Pl.wd (s.extract k s.size) 0 = Pl.wd s k := Pl.wd_suffix s k 0
set_option maxRecDepth 100000 in
set_option maxHeartbeats 1000000 in
theorem span_any (s : ByteArray) (m : Nat) (w : World) (h : 4 <= s.size) (hs : s.size <= 4194304) (_hm : m <= 4194304) :
    Calls Tryz.prog 166 #[.string s, .int .i64 (m : Nat)] w fun e w' => ∃ r : Bool, e = .returned (.tuple #[.int .i64 (Pl.wd s 0 : Nat), .int .i64 (Pl.wd s 2 : Nat), .bool r]) /\ (r = true ↔ 1 <= Pl.wd s 2 /\ Pl.wd s 2 <= m) /\ ∃ n, w' = w.drewN n := by
  have hz : 2 <= (s.extract 2 s.size).size := by simp; omega
  have hl : 2 <= s.size := by omega
  have c0 := pword_step s
  have c2 : ∀ W : World, Calls Tryz.prog 128 #[.string (s.extract 2 s.size)] W fun e w' => ∃ v, e = .returned v /\ (v = .int .i64 (Pl.wd s 2 : Nat) /\ ∃ n, w' = W.drewN n) := fun W => by
    have := pword_step (s.extract 2 s.size) W hz
    rwa [wd_behind] at this
  have b2 := Pl.wd_lt s 2
  have b0 := Pl.wd_lt s 0
  have hl' : (2 : Int) <= s.size := by omega
  by_cases h1 : 1 <= Pl.wd s 2
  . by_cases h2 : Pl.wd s 2 <= m
    all_goals
      go_enter Tryz.func166, Tryz.ntmps166
      go_wp2_with fail
      go_region_law (first
        | (refine step_call rfl 128 #[.tmp 9] #[9] rfl #[.string s] (by simp [Act.eval, Act.put]) (enter50 _ _) _ (c0 _ hl) ?_; rintro v w1 ⟨rfl, n1, rfl⟩)
        | (refine step_call rfl 128 #[.tmp 12] #[9] rfl #[.string (s.extract 2 s.size)] (by simp [Act.eval]) (enter50 _ _) _ (c2 _) ?_; rintro v w2 ⟨rfl, n2, rfl⟩))
      all_goals go_wp2
      all_goals refine bodyPost_ret (v := .tuple #[.int .i64 (Pl.wd s 0 : Nat), .int .i64 (Pl.wd s 2 : Nat), .bool (decide (1 <= Pl.wd s 2 /\ Pl.wd s 2 <= m))]) (by simp [results, Tryz.results166, go_sem, h1, h2]) rfl ⟨decide (1 <= Pl.wd s 2 /\ Pl.wd s 2 <= m), rfl, by simp, ?_⟩
      all_goals exact ⟨_, rfl⟩
  . go_enter Tryz.func166, Tryz.ntmps166
    go_wp2_with fail
    go_region_law (first
      | (refine step_call rfl 128 #[.tmp 9] #[9] rfl #[.string s] (by simp [Act.eval, Act.put]) (enter50 _ _) _ (c0 _ hl) ?_; rintro v w1 ⟨rfl, n1, rfl⟩)
      | (refine step_call rfl 128 #[.tmp 12] #[9] rfl #[.string (s.extract 2 s.size)] (by simp [Act.eval]) (enter50 _ _) _ (c2 _) ?_; rintro v w2 ⟨rfl, n2, rfl⟩))
    all_goals go_wp2
    all_goals refine bodyPost_ret (v := .tuple #[.int .i64 (Pl.wd s 0 : Nat), .int .i64 (Pl.wd s 2 : Nat), .bool false]) (by simp [results, Tryz.results166, go_sem]) rfl ⟨rfl, ?_⟩
    all_goals exact ⟨_, rfl⟩
def shV (x : Pl.Shp) (v : Value) : Value := .agg #[.int .i64 (x.fn : Nat), .int .i64 (x.tab : Nat), .int .i64 (x.frm : Nat), .int .i64 (x.cnt : Nat), .int .i64 (x.into : Nat), .int .i64 (x.to : Nat), .int .i64 (x.many : Nat), v]
set_option maxRecDepth 100000 in
set_option maxHeartbeats 1000000 in
theorem setting_any (t a n : Nat) (ad : Option Addr) (c : Nat) (w : World) (_hn : n <= 4194304) :
    Calls Tryz.prog 167 #[.int .i64 (t : Nat), .int .i64 (a : Nat), .slice ad n c] w fun e w' => e = .returned (.agg #[.int .i64 0, .int .i64 0, .int .i64 0, .int .i64 0, .int .i64 (t : Nat), .int .i64 (a : Nat), .int .i64 (n : Nat), .slice ad n c]) /\ Below w.heap.size w w' := by
  go_enter Tryz.func167, Tryz.ntmps167
  go_wp2
  refine bodyPost_ret (v := .agg #[.int .i64 0, .int .i64 0, .int .i64 0, .int .i64 0, .int .i64 (t : Nat), .int .i64 (a : Nat), .int .i64 (n : Nat), .slice ad n c]) (by simp [results, Tryz.results167, go_sem]) rfl ⟨rfl, ?_⟩
  exact (Below.refl _ _).alloc (Nat.le_refl _) _
set_option maxRecDepth 100000 in
set_option maxHeartbeats 1000000 in
theorem sized_any (s : ByteArray) (m : Nat) (w : World) (hs : s.size <= 4194304) (hm : m <= 4194304) :
    Calls Tryz.prog 168 #[.string s, .int .i64 (m : Nat)] w fun e w' => ∃ r : Bool, (s.size <= 4 /\ e = .returned (.tuple #[.int .i64 0, .int .i64 0, .string ⟨#[]⟩, .bool r]) /\ r = false ∨
      4 < s.size /\ e = .returned (.tuple #[.int .i64 (Pl.wd s 0 : Nat), .int .i64 (Pl.wd s 2 : Nat), .string (s.extract 5 s.size), .bool r]) /\ (r = true ↔ (1 <= Pl.wd s 2 /\ Pl.wd s 2 <= m) /\ s.size - 5 = Pl.byt s 4)) /\ ∃ n, w' = w.drewN n := by
  have gb := Pl.get_byt s
  by_cases h4 : s.size <= 4
  . go_enter Tryz.func168, Tryz.ntmps168
    go_wp2
    refine bodyPost_ret (v := .tuple #[.int .i64 0, .int .i64 0, .string ⟨#[]⟩, .bool false]) (by simp [results, Tryz.results168, go_sem]) rfl ⟨false, .inl ⟨h4, rfl, rfl⟩, 0, rfl⟩
  . have l4 : 4 < s.size := by omega
    have l5 : (5 : Int) <= s.size := by omega
    have b4 := Pl.byt_lt s 4
    have hsz : (s.extract 5 s.size).size = s.size - 5 := by simp
    have hb0 : Hid (Pl.byt s 4 < 256) := b4
    go_enter Tryz.func168, Tryz.ntmps168
    go_wp2_with fail
    refine (span_any s m _ (by omega) hs hm).mono ?_
    rintro e w1 ⟨r, rfl, hr0, n1, rfl⟩
    have hr := hideF hr0
    clear hr0
    obtain ⟨W, hW⟩ : ∃ W, W = w.drewN n1 := ⟨_, rfl⟩
    rw [<- hW]
    have HW := hideF hW
    clear hW
    cases r with
    | false =>
      go_wp2_with fail
      go_quiet (fail)
      go_wp2
      refine bodyPost_ret (v := .tuple #[.int .i64 (Pl.wd s 0 : Nat), .int .i64 (Pl.wd s 2 : Nat), .string (s.extract 5 s.size), .bool false]) (by simp [results, Tryz.results168, go_sem]) rfl ⟨false, .inr ⟨l4, rfl, ?_⟩, by rw [HW.out]; exact drew_drew _ _ _⟩
      have := hr.out
      simp at this ⊢
      omega
    | true =>
      go_wp2_with fail
      go_quiet (fail)
      go_wp2
      refine bodyPost_ret (v := .tuple #[.int .i64 (Pl.wd s 0 : Nat), .int .i64 (Pl.wd s 2 : Nat), .string (s.extract 5 s.size), .bool (decide (s.size - 5 = Pl.byt s 4))]) (by simp [results, Tryz.results168, go_sem]; exact nat_beq _ _) rfl ⟨_, .inr ⟨l4, rfl, ?_⟩, by rw [HW.out]; exact drew_drew _ _ _⟩
      have := hr.out
      simp at this ⊢
      omega
end Go.Proofs.YtcpldcojckhapaaGreat

set_option maxRecDepth 100000
namespace Go.Proofs.YtcpldcojckhapaaGreat
open Go.RowKit
def PartIs (w w' : World) (e : Ending) (ok : Prop) (y : Pl.Shp) : Prop :=
  ∃ (x : Pl.Shp) (v : Value) (r : Bool), e = .returned (.tuple #[shV x v, .bool r]) /\ w'.ownsRow w.heap.size 3 1 v x.vals.length (x.vals.flatMap encI) /\ (r = true ↔ ok) /\ (r = true -> x = y) /\ x.vals.length <= 2000 /\ Below w.heap.size w w'
theorem bel8 {w W : World} {B g : Nat} (h : Below B w W) (hg : B <= g) (a0 a1 a2 a3 a4 a5 a6 a7 : Value) : Below B w (((((((((W.setCell ⟨g, 0, none⟩ a0).setCell ⟨g, 1, none⟩ a1).setCell ⟨g, 2, none⟩ a2).setCell ⟨g, 3, none⟩ a3).setCell ⟨g, 4, none⟩ a4).setCell ⟨g, 5, none⟩ a5).setCell ⟨g, 6, none⟩ a6).setCell ⟨g, 7, none⟩ a7)) :=
  (((((((h.setCell (p := ⟨g, 0, none⟩) hg _).setCell (p := ⟨g, 1, none⟩) hg _).setCell (p := ⟨g, 2, none⟩) hg _).setCell (p := ⟨g, 3, none⟩) hg _).setCell (p := ⟨g, 4, none⟩) hg _).setCell (p := ⟨g, 5, none⟩) hg _).setCell (p := ⟨g, 6, none⟩) hg _).setCell (p := ⟨g, 7, none⟩) hg _
theorem own8 {W : World} {g B : Nat} {v : Value} {n : Nat} {xs : List Value} (h : W.ownsRow (g + 1) 3 1 v n xs) (hB : B <= g) (a0 a1 a2 a3 a4 a5 a6 a7 : Value) : (((((((((W.setCell ⟨g, 0, none⟩ a0).setCell ⟨g, 1, none⟩ a1).setCell ⟨g, 2, none⟩ a2).setCell ⟨g, 3, none⟩ a3).setCell ⟨g, 4, none⟩ a4).setCell ⟨g, 5, none⟩ a5).setCell ⟨g, 6, none⟩ a6).setCell ⟨g, 7, none⟩ a7)).ownsRow B 3 1 v n xs := by
  refine own_base (own_same h fun k hk => ?_) (Nat.le_succ_of_le hB)
  have hkg : k ≠ g := by have := (h.lt k hk).1; omega
  have e : ∀ (Y : World) (j : Nat) (u : Value), (Y.setCell ⟨g, j, none⟩ u).heap[k]? = Y.heap[k]? := fun Y j u => heap_setCell_other Y _ _ u hkg
  rw [e, e, e, e, e, e, e, e]
theorem cells8 {W : World} {g : Nat} {a0 a1 a2 a3 a4 a5 a6 a7 : Value} (h : W.heap[g]? = some (.cells #[a0, a1, a2, a3, a4, a5, a6, a7] 144 (0, 0))) : (∀ j, W.frozen? ⟨g, j, none⟩ = false) /\ W.cell? ⟨g, 0, none⟩ = some a0 /\ W.cell? ⟨g, 1, none⟩ = some a1 /\ W.cell? ⟨g, 2, none⟩ = some a2 /\ W.cell? ⟨g, 3, none⟩ = some a3 /\ W.cell? ⟨g, 4, none⟩ = some a4 /\ W.cell? ⟨g, 5, none⟩ = some a5 /\ W.cell? ⟨g, 6, none⟩ = some a6 /\ W.cell? ⟨g, 7, none⟩ = some a7 :=
  ⟨fun j => frozen_of_row W g j _ 144 h, cell_of_row W g 0 _ 144 (0, 0) h, cell_of_row W g 1 _ 144 (0, 0) h, cell_of_row W g 2 _ 144 (0, 0) h, cell_of_row W g 3 _ 144 (0, 0) h, cell_of_row W g 4 _ 144 (0, 0) h, cell_of_row W g 5 _ 144 (0, 0) h, cell_of_row W g 6 _ 144 (0, 0) h, cell_of_row W g 7 _ 144 (0, 0) h⟩
set_option maxRecDepth 100000 in
set_option maxHeartbeats 1000000 in
theorem reading_any (t m : Nat) (s : ByteArray) (w : World) (hs : s.size <= 4194304) (hm : m <= 4194304) :
    Calls Tryz.prog 138 #[.int .i64 (t : Nat), .int .i64 (m : Nat), .string s] w fun e w' => PartIs w w' e (s.size = 4 /\ 1 <= Pl.wd s 2 /\ Pl.wd s 2 <= m) ⟨0, t, Pl.wd s 0, Pl.wd s 2, 0, 0, 0, []⟩ := by
  by_cases h4 : s.size = 4
  . have t4 : ((s.size : Int) != 4) = false := by simp; omega
    have l4 : 4 <= s.size := by omega
    have H4 := hideF h4
    clear h4
    go_enter Tryz.func138, Tryz.ntmps138
    go_wp2_with fail
    refine (span_any s m _ l4 hs hm).mono ?_
    rintro e w1 ⟨r, rfl, hr0, n1, rfl⟩
    have hr := hideF hr0
    clear hr0
    go_wp2
    refine bodyPost_ret (v := .tuple #[.agg #[.int .i64 0, .int .i64 (t : Nat), .int .i64 (Pl.wd s 0 : Nat), .int .i64 (Pl.wd s 2 : Nat), .int .i64 0, .int .i64 0, .int .i64 0, .slice none 0 0], .bool r]) (by simp [results, Tryz.results138, go_sem]) rfl
      ⟨⟨0, t, Pl.wd s 0, Pl.wd s 2, 0, 0, 0, []⟩, .slice none 0 0, r, rfl, World.ownsRow_nil _ _ _ _, ?_, fun _ => rfl, by simp, ?_⟩
    . rw [hr.out]; simp [H4.out]
    . exact bel8 (below_drewN (bel_alloc (Below.refl _ _) _) _) (Nat.le_refl _) _ _ _ _ _ _ _ _
  . have t4 : ((s.size : Int) != 4) = true := by simp; omega
    go_enter Tryz.func138, Tryz.ntmps138
    go_wp2
    refine bodyPost_ret (v := .tuple #[.agg #[.int .i64 0, .int .i64 0, .int .i64 0, .int .i64 0, .int .i64 0, .int .i64 0, .int .i64 0, .slice none 0 0], .bool false]) (by simp [results, Tryz.results138, go_sem]) rfl
      ⟨Pl.noShp, .slice none 0 0, false, rfl, World.ownsRow_nil _ _ _ _, by simp [h4], by simp, by simp [Pl.noShp], ?_⟩
    exact (Below.refl _ _).alloc (Nat.le_refl _) _
theorem new_ints (W : World) (x : Int) (B : Nat) (hB : B <= W.heap.size) : (W.alloc (.cells #[.int .i64 x] 3)).ownsRow B 3 1 (.slice (some ⟨W.heap.size, 0, none⟩) 1 1) 1 ([x].flatMap encI) :=
  ⟨rfl, .inr ⟨W.heap.size, 1, _, rfl, hB, heap_alloc_new W _, Nat.le_refl _, by unfold maxLen; omega, rfl, rfl⟩⟩
theorem one_facts {w w3 : World} {k : Nat} {x : Int} (hb : Below (((w.alloc (.cells #[.int .i64 0, .int .i64 0, .int .i64 0, .int .i64 0, .int .i64 0, .int .i64 0, .int .i64 0, .slice none 0 0] 144)).drewN k).alloc (.cells #[.int .i64 x] 3)).heap.size (((w.alloc (.cells #[.int .i64 0, .int .i64 0, .int .i64 0, .int .i64 0, .int .i64 0, .int .i64 0, .int .i64 0, .slice none 0 0] 144)).drewN k).alloc (.cells #[.int .i64 x] 3)) w3) :
    w3.heap[w.heap.size]? = some (.cells #[.int .i64 0, .int .i64 0, .int .i64 0, .int .i64 0, .int .i64 0, .int .i64 0, .int .i64 0, .slice none 0 0] 144 (0, 0)) /\ w3.ownsRow (w.heap.size + 1) 3 1 (.slice (some ⟨w.heap.size + 1, 0, none⟩) 1 1) 1 ([x].flatMap encI) /\ Below w.heap.size w w3 := by
  obtain ⟨X, hX⟩ : ∃ X, X = w.alloc (.cells #[.int .i64 0, .int .i64 0, .int .i64 0, .int .i64 0, .int .i64 0, .int .i64 0, .int .i64 0, .slice none 0 0] 144) := ⟨_, rfl⟩
  have hXs : X.heap.size = w.heap.size + 1 := by rw [hX]; simp
  have hXb : Below w.heap.size w X := by rw [hX]; exact bel_alloc (Below.refl _ _) _
  have hXg : X.heap[w.heap.size]? = some (.cells #[.int .i64 0, .int .i64 0, .int .i64 0, .int .i64 0, .int .i64 0, .int .i64 0, .int .i64 0, .slice none 0 0] 144 (0, 0)) := by rw [hX]; exact heap_alloc_new w _
  rw [<- hX] at hb
  clear hX
  obtain ⟨Y, hY⟩ : ∃ Y, Y = (X.drewN k).alloc (.cells #[.int .i64 x] 3) := ⟨_, rfl⟩
  have hYb : Below X.heap.size X Y := by rw [hY]; exact bel_alloc (below_drewN (Below.refl _ _) _) _
  have hYo : Y.ownsRow (w.heap.size + 1) 3 1 (.slice (some ⟨w.heap.size + 1, 0, none⟩) 1 1) 1 ([x].flatMap encI) := by rw [hY, <- hXs]; exact new_ints (X.drewN k) x _ (Nat.le_refl _)
  rw [<- hY] at hb
  clear hY
  exact ⟨(hb.block w.heap.size (by have := hYb.size; omega)).trans ((hYb.block w.heap.size (by omega)).trans hXg), ownsRow_below hYo hb, bel_then (bel_then hXb hYb) hb⟩
set_option maxRecDepth 100000 in
set_option maxHeartbeats 1000000 in
theorem settingCoil_any (s : ByteArray) (w : World) (_hs : s.size <= 4194304) :
    Calls Tryz.prog 139 #[.string s] w fun e w' => PartIs w w' e (s.size = 4 /\ (Pl.wd s 2 = 0 ∨ Pl.wd s 2 = 65280)) ⟨0, 0, 0, 0, 0, Pl.wd s 0, 1, [((Pl.wd s 2 / 65280 : Nat) : Int)]⟩ := by
  by_cases h4 : s.size = 4
  . have t4 : ((s.size : Int) != 4) = false := by simp; omega
    have l4 : 2 <= s.size := by omega
    have l2 : (2 : Int) <= s.size := by omega
    have lz : 2 <= (s.extract 2 s.size).size := by simp; omega
    have H4 := hideF h4
    clear h4
    go_enter Tryz.func139, Tryz.ntmps139
    go_wp2_with fail
    refine (pword_any (s.extract 2 s.size) _ lz).mono ?_
    rintro e w1 ⟨rfl, n1, rfl⟩
    rw [wd_behind]
    obtain ⟨V, hV⟩ : ∃ V, V = Pl.wd s 2 := ⟨_, rfl⟩
    rw [<- hV]
    have HV := hideF hV
    have hVl : V < 65536 := by rw [hV]; exact Pl.wd_lt s 2
    clear hV
    by_cases h0 : V = 0
    . clear hVl
      subst h0
      go_wp2_with fail
      refine (pword_any s _ l4).mono ?_
      rintro e w2 ⟨rfl, n2, rfl⟩
      go_wp2_with fail
      refine (setting_any 0 (Pl.wd s 0) 1 _ 1 _ (by omega)).mono ?_
      rintro e w3 ⟨rfl, hb3⟩
      obtain ⟨hYg, how, hbw⟩ := one_facts hb3
      obtain ⟨hz, c0, c1, c2, c3, c4, c5, c6, c7⟩ := cells8 hYg
      clear hb3 hYg
      go_wp2
      refine bodyPost_ret (v := .tuple #[.agg #[.int .i64 0, .int .i64 0, .int .i64 0, .int .i64 0, .int .i64 0, .int .i64 (Pl.wd s 0 : Nat), .int .i64 1, .slice (some ⟨w.heap.size + 1, 0, none⟩) 1 1], .bool true]) (by simp [results, Tryz.results139, go_sem, c0, c1, c2, c3, c4, c5, c6, c7]) rfl
        ⟨⟨0, 0, 0, 0, 0, Pl.wd s 0, 1, [0]⟩, _, true, rfl, own8 how (Nat.le_refl _) _ _ _ _ _ _ _ _, ?_, ?_, by simp, bel8 hbw (Nat.le_refl _) _ _ _ _ _ _ _ _⟩
      . simp [H4.out, <- HV.out]
      . simp [<- HV.out]
    . have t0 : ((V : Int) != 0) = true := by simp; omega
      clear h0
      by_cases h0 : V = 65280
      . clear hVl
        subst h0
        go_wp2_with fail
        refine (pword_any s _ l4).mono ?_
        rintro e w2 ⟨rfl, n2, rfl⟩
        go_wp2_with fail
        refine (setting_any 0 (Pl.wd s 0) 1 _ 1 _ (by omega)).mono ?_
        rintro e w3 ⟨rfl, hb3⟩
        obtain ⟨hYg, how, hbw⟩ := one_facts hb3
        obtain ⟨hz, c0, c1, c2, c3, c4, c5, c6, c7⟩ := cells8 hYg
        clear hb3 hYg
        go_wp2
        refine bodyPost_ret (v := .tuple #[.agg #[.int .i64 0, .int .i64 0, .int .i64 0, .int .i64 0, .int .i64 0, .int .i64 (Pl.wd s 0 : Nat), .int .i64 1, .slice (some ⟨w.heap.size + 1, 0, none⟩) 1 1], .bool true]) (by simp [results, Tryz.results139, go_sem, c0, c1, c2, c3, c4, c5, c6, c7]) rfl
          ⟨⟨0, 0, 0, 0, 0, Pl.wd s 0, 1, [1]⟩, _, true, rfl, own8 how (Nat.le_refl _) _ _ _ _ _ _ _ _, ?_, ?_, by simp, bel8 hbw (Nat.le_refl _) _ _ _ _ _ _ _ _⟩
        . simp [H4.out, <- HV.out]
        . simp [<- HV.out]
      . have t1 : ((V : Int) != 65280) = true := by simp; omega
        go_wp2
        refine bodyPost_ret (v := .tuple #[.agg #[.int .i64 0, .int .i64 0, .int .i64 0, .int .i64 0, .int .i64 0, .int .i64 0, .int .i64 0, .slice none 0 0], .bool false]) (by simp [results, Tryz.results139, go_sem]) rfl
          ⟨Pl.noShp, .slice none 0 0, false, rfl, World.ownsRow_nil _ _ _ _, ?_, by simp, by simp [Pl.noShp], bel8 (below_drewN (bel_alloc (Below.refl _ _) _) _) (Nat.le_refl _) _ _ _ _ _ _ _ _⟩
        simp at t0 t1
        rw [<- HV.out]
        simp
        omega
  . have t4 : ((s.size : Int) != 4) = true := by simp; omega
    go_enter Tryz.func139, Tryz.ntmps139
    go_wp2
    refine bodyPost_ret (v := .tuple #[.agg #[.int .i64 0, .int .i64 0, .int .i64 0, .int .i64 0, .int .i64 0, .int .i64 0, .int .i64 0, .slice none 0 0], .bool false]) (by simp [results, Tryz.results139, go_sem]) rfl
      ⟨Pl.noShp, .slice none 0 0, false, rfl, World.ownsRow_nil _ _ _ _, by simp [h4], by simp, by simp [Pl.noShp], ?_⟩
    exact (Below.refl _ _).alloc (Nat.le_refl _) _
theorem enter51 (x y z : Value) (w : World) : (callFunc 167 #[x, y, z]).run Tryz.prog w = .ok (.enter 167 #[x, y, z]) w := by kernel_rfl
theorem setting_step (t a n : Nat) (ad : Option Addr) (c : Nat) (w : World) (hn : n <= 4194304) :
    Calls Tryz.prog 167 #[.int .i64 (t : Nat), .int .i64 (a : Nat), .slice ad n c] w fun e w' => ∃ v, e = .returned v /\ (v = .agg #[.int .i64 0, .int .i64 0, .int .i64 0, .int .i64 0, .int .i64 (t : Nat), .int .i64 (a : Nat), .int .i64 (n : Nat), .slice ad n c] /\ Below w.heap.size w w') := by
  refine (setting_any t a n ad c w hn).mono ?_
  rintro e w' ⟨rfl, hb⟩
  exact ⟨_, rfl, rfl, hb⟩
set_option maxRecDepth 100000 in
set_option maxHeartbeats 2000000 in
theorem settingHolder_any (s : ByteArray) (w : World) (_hs : s.size <= 4194304) :
    Calls Tryz.prog 140 #[.string s] w fun e w' => PartIs w w' e (s.size = 4) ⟨0, 0, 0, 0, 2, Pl.wd s 0, 1, [((Pl.wd s 2 : Nat) : Int)]⟩ := by
  by_cases h4 : s.size = 4
  . have t4 : ((s.size : Int) != 4) = false := by simp; omega
    have hl : 2 <= s.size := by omega
    have hl' : (2 : Int) <= s.size := by omega
    have lz : 2 <= (s.extract 2 s.size).size := by simp; omega
    have c2 : ∀ W : World, Calls Tryz.prog 128 #[.string (s.extract 2 s.size)] W fun e w' => ∃ v, e = .returned v /\ (v = .int .i64 (Pl.wd s 2 : Nat) /\ ∃ n, w' = W.drewN n) := fun W => by
      have := pword_step (s.extract 2 s.size) W lz
      rwa [wd_behind] at this
    have H4 := hideF h4
    clear h4
    go_enter Tryz.func140, Tryz.ntmps140
    go_wp2_with fail
    go_region_law (first
      | (refine step_call rfl 128 #[.tmp 8] #[9] rfl #[.string s] (by simp [Act.eval, Act.put]) (enter50 _ _) _ (pword_step s _ hl) ?_; rintro v w1 ⟨rfl, n1, rfl⟩)
      | (refine step_call rfl 128 #[.tmp 11] #[9] rfl #[.string (s.extract 2 s.size)] (by simp [Act.eval]) (enter50 _ _) _ (c2 _) ?_; rintro v w2 ⟨rfl, n2, rfl⟩)
      | (refine step_call rfl 167 #[.const (.int .i64 2), .tmp 9, .tmp 13] #[3, 3, 28] rfl #[.int .i64 2, .int .i64 (Pl.wd s 0 : Nat), .slice (some ⟨w.heap.size + 1, 0, none⟩) 1 1] (by simp [Act.eval]) (enter51 _ _ _ _) _ (setting_step 2 (Pl.wd s 0) 1 (some ⟨w.heap.size + 1, 0, none⟩) 1 _ (by omega)) ?_; rintro v w3 ⟨rfl, hb3⟩; obtain ⟨hYg, how, hbw⟩ := one_facts hb3; obtain ⟨hz, c0, c1, c2, c3, c4, c5, c6, c7⟩ := cells8 hYg; clear hb3 hYg))
    all_goals go_wp2
    all_goals
      refine bodyPost_ret (v := .tuple #[.agg #[.int .i64 0, .int .i64 0, .int .i64 0, .int .i64 0, .int .i64 2, .int .i64 (Pl.wd s 0 : Nat), .int .i64 1, .slice (some ⟨w.heap.size + 1, 0, none⟩) 1 1], .bool true]) (by simp [results, Tryz.results140, go_sem, c0, c1, c2, c3, c4, c5, c6, c7]) rfl
        ⟨⟨0, 0, 0, 0, 2, Pl.wd s 0, 1, [((Pl.wd s 2 : Nat) : Int)]⟩, _, true, rfl, own8 how (Nat.le_refl _) _ _ _ _ _ _ _ _, ?_, ?_, by simp, bel8 hbw (Nat.le_refl _) _ _ _ _ _ _ _ _⟩
    all_goals simp [H4.out]
  . have t4 : ((s.size : Int) != 4) = true := by simp; omega
    go_enter Tryz.func140, Tryz.ntmps140
    go_wp2
    refine bodyPost_ret (v := .tuple #[.agg #[.int .i64 0, .int .i64 0, .int .i64 0, .int .i64 0, .int .i64 0, .int .i64 0, .int .i64 0, .slice none 0 0], .bool false]) (by simp [results, Tryz.results140, go_sem]) rfl
      ⟨Pl.noShp, .slice none 0 0, false, rfl, World.ownsRow_nil _ _ _ _, by simp [h4], by simp, by simp [Pl.noShp], ?_⟩
    exact (Below.refl _ _).alloc (Nat.le_refl _) _
end Go.Proofs.YtcpldcojckhapaaGreat

set_option maxRecDepth 100000
namespace Go.Proofs.YtcpldcojckhapaaGreat
open Go.RowKit
set_option maxHeartbeats 400000 in
theorem bitsSize_any (n : Nat) (w : World) (h : n <= 100000) :
    Calls Tryz.prog 97 #[.int .i64 (n : Nat)] w fun e w' => ∃ b : Nat, e = .returned (.int .i64 (b : Nat)) /\ b = (n + 7) / 8 /\ w' = w := by
  go_enter Tryz.func97, Tryz.ntmps97
  go_wp2
  go_ret
  exact ⟨(n + 7) / 8, rint (by first | omega | (rw [Int.tdiv_eq_ediv_of_nonneg (by omega)]; omega)), rfl, rfl⟩
set_option maxRecDepth 100000 in
set_option maxHeartbeats 2000000 in
theorem settingCoils_any (s : ByteArray) (w : World) (hs : s.size <= 100000) :
    Calls Tryz.prog 141 #[.string s] w fun e w' => PartIs w w' e (4 < s.size /\ (1 <= Pl.wd s 2 /\ Pl.wd s 2 <= 1968) /\ s.size - 5 = Pl.byt s 4 /\ s.size - 5 = (Pl.wd s 2 + 7) / 8) ⟨0, 0, 0, 0, 0, Pl.wd s 0, Pl.wd s 2, Pl.bitsL s 5 (Pl.wd s 2)⟩ := by
  go_enter Tryz.func141, Tryz.ntmps141
  go_wp2_with fail
  refine (sized_any s 1968 _ (by omega) (by omega)).mono ?_
  rintro e w1 ⟨r, hw, n1, rfl⟩
  rcases hw with ⟨hlen, rfl, rfl⟩ | ⟨hlen, rfl, hr0⟩
  ·
    go_wp2
    refine bodyPost_ret (v := .tuple #[.agg #[.int .i64 0, .int .i64 0, .int .i64 0, .int .i64 0, .int .i64 0, .int .i64 0, .int .i64 0, .slice none 0 0], .bool false]) (by simp [results, Tryz.results141, go_sem]) rfl
      ⟨Pl.noShp, .slice none 0 0, false, rfl, World.ownsRow_nil _ _ _ _, by simp; omega, by simp, by simp [Pl.noShp], bel8 (below_drewN (bel_alloc (Below.refl _ _) _) _) (Nat.le_refl _) _ _ _ _ _ _ _ _⟩
  . have hr := hideF hr0
    clear hr0
    have hwl := Pl.wd_lt s 2
    have hsz : (s.extract 5 s.size).size = s.size - 5 := by simp
    obtain ⟨D, hD⟩ : ∃ D, D = s.extract 5 s.size := ⟨_, rfl⟩
    rw [<- hD] at hsz ⊢
    have HD := hideF hD
    clear hD
    have HSZ := hideF hsz
    obtain ⟨K, hK⟩ : ∃ K, K = Pl.wd s 2 := ⟨_, rfl⟩
    rw [<- hK] at hwl ⊢
    have HK := hideF hK
    clear hK
    have hDl : D.size <= 100000 := by omega
    clear hsz
    cases r with
    | false =>
      go_wp2
      refine bodyPost_ret (v := .tuple #[.agg #[.int .i64 0, .int .i64 0, .int .i64 0, .int .i64 0, .int .i64 0, .int .i64 0, .int .i64 0, .slice none 0 0], .bool false]) (by simp [results, Tryz.results141, go_sem]) rfl
        ⟨Pl.noShp, .slice none 0 0, false, rfl, World.ownsRow_nil _ _ _ _, ?_, by simp, by simp [Pl.noShp], bel8 (below_drewN (bel_alloc (Below.refl _ _) _) _) (Nat.le_refl _) _ _ _ _ _ _ _ _⟩
      have := hr.out
      simp at this ⊢
      intro _ h1 h2 h3
      omega
    | true =>
      have hk := hr.out.1 rfl
      have HK0 := hideF hk
      clear hk
      go_wp2_with fail
      refine (bitsSize_any K _ (by omega)).mono ?_
      rintro e w1' ⟨b, rfl, hb0, rfl⟩
      have HBB := hideF hb0
      have hbl : b <= 100000 := by omega
      clear hb0
      have hk := HK0.out
      clear HK0
      by_cases hd : D.size = b
      . have td : ((D.size : Int) != (b : Int)) = false := by simp; omega
        have hd' := HBB.out
        rw [<- HK.out] at hk
        have hdk : D.size = (K + 7) / 8 := by omega
        have HDK := hideF hdk
        clear hd' hdk
        have hk1 := hk.1
        have hk2 := hideF hk.2
        clear hk
        obtain ⟨X, hX⟩ : ∃ X, X = (w.alloc (.cells #[.int .i64 0, .int .i64 0, .int .i64 0, .int .i64 0, .int .i64 0, .int .i64 0, .int .i64 0, .slice none 0 0] 144)).drewN n1 := ⟨_, rfl⟩
        have hXb : Below w.heap.size w X := by rw [hX]; exact below_drewN (bel_alloc (Below.refl _ _) _) _
        have hXs : X.heap.size = w.heap.size + 1 := by rw [hX]; simp
        have hXg : X.heap[w.heap.size]? = some (.cells #[.int .i64 0, .int .i64 0, .int .i64 0, .int .i64 0, .int .i64 0, .int .i64 0, .int .i64 0, .slice none 0 0] 144 (0, 0)) := by rw [hX]; exact heap_alloc_new w _
        rw [<- hX]
        clear hX
        go_wp2_with fail
        refine (pbits_any D K X (by have := HDK.out; omega) (by omega)).mono ?_
        rintro e w2 ⟨v, rfl, hown, hb2⟩
        rw [hXs] at hown
        have hl := hown.1
        obtain ⟨ad, c, rfl, _⟩ := own_view hown
        go_wp2_with fail
        refine (setting_any 0 (Pl.wd s 0) K ad c w2 (by omega)).mono ?_
        rintro e w3 ⟨rfl, hb3⟩
        have hYg := (hb3.block w.heap.size (by have := hb2.size; omega)).trans ((hb2.block w.heap.size (by omega)).trans hXg)
        have hbw : Below w.heap.size w w3 := bel_then (bel_then hXb hb2) hb3
        have how := ownsRow_below hown hb3
        obtain ⟨hz, c0, c1, c2, c3, c4, c5, c6, c7⟩ := cells8 hYg
        clear hb3 hb2 hown hXb hXg hYg
        go_wp2
        refine bodyPost_ret (v := .tuple #[.agg #[.int .i64 0, .int .i64 0, .int .i64 0, .int .i64 0, .int .i64 0, .int .i64 (Pl.wd s 0 : Nat), .int .i64 (K : Nat), .slice ad K c], .bool true]) (by simp [results, Tryz.results141, go_sem, c0, c1, c2, c3, c4, c5, c6, c7]) rfl
          ⟨⟨0, 0, 0, 0, 0, Pl.wd s 0, K, Pl.bitsL D 0 K⟩, _, true, rfl, by rw [Pl.bitsL_len]; exact own8 how (Nat.le_refl _) _ _ _ _ _ _ _ _, ?_, ?_, by rw [Pl.bitsL_len]; omega, bel8 hbw (Nat.le_refl _) _ _ _ _ _ _ _ _⟩
        . have h1 := hk2.out
          have h2 := HSZ.out
          have h3 := HK.out
          have h4 := HDK.out
          simp only [true_iff]
          refine ⟨hlen, ?_, ?_, ?_⟩ <;> omega
        . intro _
          rw [HD.out, Pl.bitsL_suffix, HK.out]
      . have td : ((D.size : Int) != (b : Int)) = true := by simp; omega
        clear hk
        go_wp2
        refine bodyPost_ret (v := .tuple #[.agg #[.int .i64 0, .int .i64 0, .int .i64 0, .int .i64 0, .int .i64 0, .int .i64 0, .int .i64 0, .slice none 0 0], .bool false]) (by simp [results, Tryz.results141, go_sem]) rfl
          ⟨Pl.noShp, .slice none 0 0, false, rfl, World.ownsRow_nil _ _ _ _, ?_, by simp, by simp [Pl.noShp], bel8 (below_drewN (bel_alloc (Below.refl _ _) _) _) (Nat.le_refl _) _ _ _ _ _ _ _ _⟩
        have h2 := HSZ.out
        have h3 := HK.out
        have h8 := HBB.out
        simp
        intro _ h4 h5 h6 h7
        omega
set_option maxRecDepth 100000 in
set_option maxHeartbeats 2000000 in
theorem settingHolders_any (m : Nat) (s : ByteArray) (w : World) (hs : s.size <= 100000) (hm : m <= 2000) :
    Calls Tryz.prog 142 #[.int .i64 (m : Nat), .string s] w fun e w' => PartIs w w' e (4 < s.size /\ (1 <= Pl.wd s 2 /\ Pl.wd s 2 <= m) /\ s.size - 5 = Pl.byt s 4 /\ s.size - 5 = 2 * Pl.wd s 2) ⟨0, 0, 0, 0, 2, Pl.wd s 0, Pl.wd s 2, Pl.wordsL s 5 (Pl.wd s 2)⟩ := by
  go_enter Tryz.func142, Tryz.ntmps142
  go_wp2_with fail
  refine (sized_any s m _ (by omega) (by omega)).mono ?_
  rintro e w1 ⟨r, hw, n1, rfl⟩
  rcases hw with ⟨hlen, rfl, rfl⟩ | ⟨hlen, rfl, hr0⟩
  ·
    go_wp2
    refine bodyPost_ret (v := .tuple #[.agg #[.int .i64 0, .int .i64 0, .int .i64 0, .int .i64 0, .int .i64 0, .int .i64 0, .int .i64 0, .slice none 0 0], .bool false]) (by simp [results, Tryz.results142, go_sem]) rfl
      ⟨Pl.noShp, .slice none 0 0, false, rfl, World.ownsRow_nil _ _ _ _, by simp; omega, by simp, by simp [Pl.noShp], bel8 (below_drewN (bel_alloc (Below.refl _ _) _) _) (Nat.le_refl _) _ _ _ _ _ _ _ _⟩
  . have hr := hideF hr0
    clear hr0
    have hwl := Pl.wd_lt s 2
    have hsz : (s.extract 5 s.size).size = s.size - 5 := by simp
    obtain ⟨D, hD⟩ : ∃ D, D = s.extract 5 s.size := ⟨_, rfl⟩
    rw [<- hD] at hsz ⊢
    have HD := hideF hD
    clear hD
    have HSZ := hideF hsz
    obtain ⟨K, hK⟩ : ∃ K, K = Pl.wd s 2 := ⟨_, rfl⟩
    rw [<- hK] at hwl ⊢
    have HK := hideF hK
    clear hK
    have hDl : D.size <= 100000 := by omega
    clear hsz
    cases r with
    | false =>
      go_wp2
      refine bodyPost_ret (v := .tuple #[.agg #[.int .i64 0, .int .i64 0, .int .i64 0, .int .i64 0, .int .i64 0, .int .i64 0, .int .i64 0, .slice none 0 0], .bool false]) (by simp [results, Tryz.results142, go_sem]) rfl
        ⟨Pl.noShp, .slice none 0 0, false, rfl, World.ownsRow_nil _ _ _ _, ?_, by simp, by simp [Pl.noShp], bel8 (below_drewN (bel_alloc (Below.refl _ _) _) _) (Nat.le_refl _) _ _ _ _ _ _ _ _⟩
      have := hr.out
      simp at this ⊢
      intro _ h1 h2 h3
      omega
    | true =>
      have hk := hr.out.1 rfl
      by_cases hd : D.size = 2 * K
      . have td : ((D.size : Int) != 2 * (K : Int)) = false := by simp; omega
        rw [<- HK.out] at hk
        have hk1 := hk.1
        have hk2 := hideF hk.2
        clear hk
        obtain ⟨X, hX⟩ : ∃ X, X = (w.alloc (.cells #[.int .i64 0, .int .i64 0, .int .i64 0, .int .i64 0, .int .i64 0, .int .i64 0, .int .i64 0, .slice none 0 0] 144)).drewN n1 := ⟨_, rfl⟩
        have hXb : Below w.heap.size w X := by rw [hX]; exact below_drewN (bel_alloc (Below.refl _ _) _) _
        have hXs : X.heap.size = w.heap.size + 1 := by rw [hX]; simp
        have hXg : X.heap[w.heap.size]? = some (.cells #[.int .i64 0, .int .i64 0, .int .i64 0, .int .i64 0, .int .i64 0, .int .i64 0, .int .i64 0, .slice none 0 0] 144 (0, 0)) := by rw [hX]; exact heap_alloc_new w _
        rw [<- hX]
        clear hX
        go_wp2_with fail
        refine (pwords_any D K X (by omega) (by omega)).mono ?_
        rintro e w2 ⟨v, rfl, hown, hb2⟩
        rw [hXs] at hown
        have hl := hown.1
        obtain ⟨ad, c, rfl, _⟩ := own_view hown
        go_wp2_with fail
        refine (setting_any 2 (Pl.wd s 0) K ad c w2 (by omega)).mono ?_
        rintro e w3 ⟨rfl, hb3⟩
        have hYg := (hb3.block w.heap.size (by have := hb2.size; omega)).trans ((hb2.block w.heap.size (by omega)).trans hXg)
        have hbw : Below w.heap.size w w3 := bel_then (bel_then hXb hb2) hb3
        have how := ownsRow_below hown hb3
        obtain ⟨hz, c0, c1, c2, c3, c4, c5, c6, c7⟩ := cells8 hYg
        clear hb3 hb2 hown hXb hXg hYg
        go_wp2
        refine bodyPost_ret (v := .tuple #[.agg #[.int .i64 0, .int .i64 0, .int .i64 0, .int .i64 0, .int .i64 2, .int .i64 (Pl.wd s 0 : Nat), .int .i64 (K : Nat), .slice ad K c], .bool true]) (by simp [results, Tryz.results142, go_sem, c0, c1, c2, c3, c4, c5, c6, c7]) rfl
          ⟨⟨0, 0, 0, 0, 2, Pl.wd s 0, K, Pl.wordsL D 0 K⟩, _, true, rfl, by rw [Pl.wordsL_len]; exact own8 how (Nat.le_refl _) _ _ _ _ _ _ _ _, ?_, ?_, by rw [Pl.wordsL_len]; omega, bel8 hbw (Nat.le_refl _) _ _ _ _ _ _ _ _⟩
        . have h1 := hk2.out
          have h2 := HSZ.out
          have h3 := HK.out
          simp only [true_iff]
          refine ⟨hlen, ?_, ?_, ?_⟩ <;> omega
        . intro _
          rw [HD.out, Pl.wordsL_suffix, HK.out]
      . have td : ((D.size : Int) != 2 * (K : Int)) = true := by simp; omega
        clear hk
        go_wp2
        refine bodyPost_ret (v := .tuple #[.agg #[.int .i64 0, .int .i64 0, .int .i64 0, .int .i64 0, .int .i64 0, .int .i64 0, .int .i64 0, .slice none 0 0], .bool false]) (by simp [results, Tryz.results142, go_sem]) rfl
          ⟨Pl.noShp, .slice none 0 0, false, rfl, World.ownsRow_nil _ _ _ _, ?_, by simp, by simp [Pl.noShp], bel8 (below_drewN (bel_alloc (Below.refl _ _) _) _) (Nat.le_refl _) _ _ _ _ _ _ _ _⟩
        have h2 := HSZ.out
        have h3 := HK.out
        simp
        intro _ h4 h5 h6 h7
        omega
end Go.Proofs.YtcpldcojckhapaaGreat
